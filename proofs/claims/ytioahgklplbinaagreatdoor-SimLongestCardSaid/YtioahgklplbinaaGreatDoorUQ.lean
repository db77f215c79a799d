/- UR, URdec, URchars, in one text. -/
import Derived.Test.YtioahgklplbinaaGreatDoorWE
import Derived.Laws.BytesArg
import Derived.Lib.SlBytesConst
import Derived.Laws.AppendOwnNone
import Derived.Deep.RegionWith
import Derived.BigRegion
import Derived.Laws.StructEq
/- UAppend, URlong, URenc, in one text. -/
namespace Go.Proofs.YtioahgklplbinaaGreatDoor.U
open Go.RowKit Go.Shelf UtfM
end Go.Proofs.YtioahgklplbinaaGreatDoor.U
namespace Go.Proofs.YtioahgklplbinaaGreatDoor.U
open Go.RowKit Go.Shelf UtfM
def longF (a:Int):Nat:=match lead a with
 | some s=>s.more+1
 | none=>0
def secondF (a b:Int):Bool :=
 if a=224 then decide (160≤b∧b≤191) else if a=237 then decide (128≤b∧b≤159) else if a=240 then decide (144≤b∧b≤191) else if a=244 then decide (128≤b∧b≤143) else decide (128≤b∧b≤191)
theorem longF1 {a:Int} (h:a < 128):longF a=1:=by unfold longF;rw [lead1 h]
theorem longF2 {a:Int} (h:194≤a) (h2:a≤223):longF a=2:=by unfold longF;rw [lead2 h (by omega)]
theorem longF3 {a:Int} (h:224≤a) (h2:a≤239):longF a=3:=by obtain ⟨lo,hi,e,_⟩:=lead3 h (by omega);unfold longF;rw [e]
theorem longF4 {a:Int} (h:240≤a) (h2:a≤244):longF a=4:=by obtain ⟨lo,hi,e,_⟩:=lead4 h h2;unfold longF;rw [e]
theorem longF0 {a:Int} (h:(128≤a∧a < 194)∨244 < a):longF a=0:=by
 have:lead a=none:=by
  rcases lead_cases a with h1 | h1 | h1 | h1 | h1
  ·omega
  ·exact h1
  ·omega
  ·omega
  ·omega
 unfold longF;rw [this]
set_option maxHeartbeats 1000000 in
theorem long_1 (a:Int) (h:a < 128) (w:World):Calls Tryz.prog 116 #[.int .u8 a] w fun e w'=>e=.returned (.int .i64 1)∧w=w':=by
 have d0:a < 128:=by omega
 go_enter Tryz.func116,Tryz.ntmps116
 go_wp2
 go_ret
 exact ⟨rfl,rfl⟩
set_option maxHeartbeats 1000000 in
theorem long_0a (a:Int) (h:128≤a) (h2:a < 194) (w:World):Calls Tryz.prog 116 #[.int .u8 a] w fun e w'=>e=.returned (.int .i64 0)∧w=w':=by
 have d0:¬ (a < 128):=by omega
 have d1:decide (194≤a)=false:=decide_eq_false (by omega)
 have d2:decide (224≤a)=false:=decide_eq_false (by omega)
 have d3:decide (240≤a)=false:=decide_eq_false (by omega)
 go_enter Tryz.func116,Tryz.ntmps116
 go_wp2
 go_ret
 exact ⟨rfl,rfl⟩
set_option maxHeartbeats 1000000 in
theorem long_2 (a:Int) (h:194≤a) (h2:a≤223) (w:World):Calls Tryz.prog 116 #[.int .u8 a] w fun e w'=>e=.returned (.int .i64 2)∧w=w':=by
 have d0:¬ (a < 128):=by omega
 have d1:decide (194≤a)=true:=decide_eq_true (by omega)
 have d2:decide (a≤223)=true:=decide_eq_true (by omega)
 go_enter Tryz.func116,Tryz.ntmps116
 go_wp2
 go_ret
 exact ⟨rfl,rfl⟩
set_option maxHeartbeats 1000000 in
theorem long_3 (a:Int) (h:224≤a) (h2:a≤239) (w:World):Calls Tryz.prog 116 #[.int .u8 a] w fun e w'=>e=.returned (.int .i64 3)∧w=w':=by
 have d0:¬ (a < 128):=by omega
 have d1:decide (194≤a)=true:=decide_eq_true (by omega)
 have d2:decide (a≤223)=false:=decide_eq_false (by omega)
 have d3:decide (224≤a)=true:=decide_eq_true (by omega)
 have d4:decide (a≤239)=true:=decide_eq_true (by omega)
 go_enter Tryz.func116,Tryz.ntmps116
 go_wp2
 go_ret
 exact ⟨rfl,rfl⟩
set_option maxHeartbeats 1000000 in
theorem long_4 (a:Int) (h:240≤a) (h2:a≤244) (w:World):Calls Tryz.prog 116 #[.int .u8 a] w fun e w'=>e=.returned (.int .i64 4)∧w=w':=by
 have d0:¬ (a < 128):=by omega
 have d1:decide (194≤a)=true:=decide_eq_true (by omega)
 have d2:decide (a≤223)=false:=decide_eq_false (by omega)
 have d3:decide (224≤a)=true:=decide_eq_true (by omega)
 have d4:decide (a≤239)=false:=decide_eq_false (by omega)
 have d5:decide (240≤a)=true:=decide_eq_true (by omega)
 have d6:decide (a≤244)=true:=decide_eq_true (by omega)
 go_enter Tryz.func116,Tryz.ntmps116
 go_wp2
 go_ret
 exact ⟨rfl,rfl⟩
set_option maxHeartbeats 1000000 in
theorem long_0b (a:Int) (h:244 < a) (w:World):Calls Tryz.prog 116 #[.int .u8 a] w fun e w'=>e=.returned (.int .i64 0)∧w=w':=by
 have d0:¬ (a < 128):=by omega
 have d1:decide (194≤a)=true:=decide_eq_true (by omega)
 have d2:decide (a≤223)=false:=decide_eq_false (by omega)
 have d3:decide (224≤a)=true:=decide_eq_true (by omega)
 have d4:decide (a≤239)=false:=decide_eq_false (by omega)
 have d5:decide (240≤a)=true:=decide_eq_true (by omega)
 have d6:decide (a≤244)=false:=decide_eq_false (by omega)
 go_enter Tryz.func116,Tryz.ntmps116
 go_wp2
 go_ret
 exact ⟨rfl,rfl⟩
theorem long_c (a:Int) (w:World):Calls Tryz.prog 116 #[.int .u8 a] w fun e w'=>e=.returned (.int .i64 (longF a:Int))∧w=w':=by
 by_cases h1:a < 128
 ·rw [longF1 h1];exact long_1 a h1 w
 by_cases h2:a < 194
 ·rw [longF0 (.inl ⟨by omega,h2⟩)];exact long_0a a (by omega) h2 w
 by_cases h3:a≤223
 ·rw [longF2 (by omega) h3];exact long_2 a (by omega) h3 w
 by_cases h4:a≤239
 ·rw [longF3 (by omega) h4];exact long_3 a (by omega) h4 w
 by_cases h5:a≤244
 ·rw [longF4 (by omega) h5];exact long_4 a (by omega) h5 w
 rw [longF0 (.inr (by omega))];exact long_0b a (by omega) w
set_option maxHeartbeats 1000000 in
theorem second_0_0 (a b:Int) (h0:(a=224)) (p:160≤b) (q:b≤191) (w:World):Calls Tryz.prog 117 #[.int .u8 a,.int .u8 b] w fun e w'=>e=.returned (.bool true)∧w=w':=by
 have t0:(a == 224)=true:=by rw [beq_iff_eq];exact h0
 have dp:decide (160≤b)=true:=decide_eq_true p
 have dq:decide (b≤191)=true:=decide_eq_true q
 clear h0
 go_enter Tryz.func117,Tryz.ntmps117
 go_wp2
 go_ret
 exact ⟨rfl,rfl⟩
set_option maxHeartbeats 1000000 in
theorem second_0_1 (a b:Int) (h0:(a=224)) (p:160≤b) (q:¬ (b≤191)) (w:World):Calls Tryz.prog 117 #[.int .u8 a,.int .u8 b] w fun e w'=>e=.returned (.bool false)∧w=w':=by
 have t0:(a == 224)=true:=by rw [beq_iff_eq];exact h0
 have dp:decide (160≤b)=true:=decide_eq_true p
 have dq:decide (b≤191)=false:=decide_eq_false q
 clear h0
 go_enter Tryz.func117,Tryz.ntmps117
 go_wp2
 go_ret
 exact ⟨rfl,rfl⟩
set_option maxHeartbeats 1000000 in
theorem second_0_2 (a b:Int) (h0:(a=224)) (p:¬ (160≤b)) (w:World):Calls Tryz.prog 117 #[.int .u8 a,.int .u8 b] w fun e w'=>e=.returned (.bool false)∧w=w':=by
 have t0:(a == 224)=true:=by rw [beq_iff_eq];exact h0
 have dp:decide (160≤b)=false:=decide_eq_false p
 clear h0
 go_enter Tryz.func117,Tryz.ntmps117
 go_wp2
 go_ret
 exact ⟨rfl,rfl⟩
set_option maxHeartbeats 1000000 in
theorem second_1_0 (a b:Int) (h0:¬ (a=224)) (h1:(a=237)) (p:128≤b) (q:b≤159) (w:World):Calls Tryz.prog 117 #[.int .u8 a,.int .u8 b] w fun e w'=>e=.returned (.bool true)∧w=w':=by
 have t0:(a == 224)=false:=by rw [beq_eq_false_iff_ne];exact h0
 have t1:(a == 237)=true:=by rw [beq_iff_eq];exact h1
 have dp:decide (128≤b)=true:=decide_eq_true p
 have dq:decide (b≤159)=true:=decide_eq_true q
 clear h0 h1
 go_enter Tryz.func117,Tryz.ntmps117
 go_wp2
 go_ret
 exact ⟨rfl,rfl⟩
set_option maxHeartbeats 1000000 in
theorem second_1_1 (a b:Int) (h0:¬ (a=224)) (h1:(a=237)) (p:128≤b) (q:¬ (b≤159)) (w:World):Calls Tryz.prog 117 #[.int .u8 a,.int .u8 b] w fun e w'=>e=.returned (.bool false)∧w=w':=by
 have t0:(a == 224)=false:=by rw [beq_eq_false_iff_ne];exact h0
 have t1:(a == 237)=true:=by rw [beq_iff_eq];exact h1
 have dp:decide (128≤b)=true:=decide_eq_true p
 have dq:decide (b≤159)=false:=decide_eq_false q
 clear h0 h1
 go_enter Tryz.func117,Tryz.ntmps117
 go_wp2
 go_ret
 exact ⟨rfl,rfl⟩
set_option maxHeartbeats 1000000 in
theorem second_1_2 (a b:Int) (h0:¬ (a=224)) (h1:(a=237)) (p:¬ (128≤b)) (w:World):Calls Tryz.prog 117 #[.int .u8 a,.int .u8 b] w fun e w'=>e=.returned (.bool false)∧w=w':=by
 have t0:(a == 224)=false:=by rw [beq_eq_false_iff_ne];exact h0
 have t1:(a == 237)=true:=by rw [beq_iff_eq];exact h1
 have dp:decide (128≤b)=false:=decide_eq_false p
 clear h0 h1
 go_enter Tryz.func117,Tryz.ntmps117
 go_wp2
 go_ret
 exact ⟨rfl,rfl⟩
set_option maxHeartbeats 1000000 in
theorem second_2_0 (a b:Int) (h0:¬ (a=224)) (h1:¬ (a=237)) (h2:(a=240)) (p:144≤b) (q:b≤191) (w:World):Calls Tryz.prog 117 #[.int .u8 a,.int .u8 b] w fun e w'=>e=.returned (.bool true)∧w=w':=by
 have t0:(a == 224)=false:=by rw [beq_eq_false_iff_ne];exact h0
 have t1:(a == 237)=false:=by rw [beq_eq_false_iff_ne];exact h1
 have t2:(a == 240)=true:=by rw [beq_iff_eq];exact h2
 have dp:decide (144≤b)=true:=decide_eq_true p
 have dq:decide (b≤191)=true:=decide_eq_true q
 clear h0 h1 h2
 go_enter Tryz.func117,Tryz.ntmps117
 go_wp2
 go_ret
 exact ⟨rfl,rfl⟩
set_option maxHeartbeats 1000000 in
theorem second_2_1 (a b:Int) (h0:¬ (a=224)) (h1:¬ (a=237)) (h2:(a=240)) (p:144≤b) (q:¬ (b≤191)) (w:World):Calls Tryz.prog 117 #[.int .u8 a,.int .u8 b] w fun e w'=>e=.returned (.bool false)∧w=w':=by
 have t0:(a == 224)=false:=by rw [beq_eq_false_iff_ne];exact h0
 have t1:(a == 237)=false:=by rw [beq_eq_false_iff_ne];exact h1
 have t2:(a == 240)=true:=by rw [beq_iff_eq];exact h2
 have dp:decide (144≤b)=true:=decide_eq_true p
 have dq:decide (b≤191)=false:=decide_eq_false q
 clear h0 h1 h2
 go_enter Tryz.func117,Tryz.ntmps117
 go_wp2
 go_ret
 exact ⟨rfl,rfl⟩
set_option maxHeartbeats 1000000 in
theorem second_2_2 (a b:Int) (h0:¬ (a=224)) (h1:¬ (a=237)) (h2:(a=240)) (p:¬ (144≤b)) (w:World):Calls Tryz.prog 117 #[.int .u8 a,.int .u8 b] w fun e w'=>e=.returned (.bool false)∧w=w':=by
 have t0:(a == 224)=false:=by rw [beq_eq_false_iff_ne];exact h0
 have t1:(a == 237)=false:=by rw [beq_eq_false_iff_ne];exact h1
 have t2:(a == 240)=true:=by rw [beq_iff_eq];exact h2
 have dp:decide (144≤b)=false:=decide_eq_false p
 clear h0 h1 h2
 go_enter Tryz.func117,Tryz.ntmps117
 go_wp2
 go_ret
 exact ⟨rfl,rfl⟩
set_option maxHeartbeats 1000000 in
theorem second_3_0 (a b:Int) (h0:¬ (a=224)) (h1:¬ (a=237)) (h2:¬ (a=240)) (h3:(a=244)) (p:128≤b) (q:b≤143) (w:World):Calls Tryz.prog 117 #[.int .u8 a,.int .u8 b] w fun e w'=>e=.returned (.bool true)∧w=w':=by
 have t0:(a == 224)=false:=by rw [beq_eq_false_iff_ne];exact h0
 have t1:(a == 237)=false:=by rw [beq_eq_false_iff_ne];exact h1
 have t2:(a == 240)=false:=by rw [beq_eq_false_iff_ne];exact h2
 have t3:(a == 244)=true:=by rw [beq_iff_eq];exact h3
 have dp:decide (128≤b)=true:=decide_eq_true p
 have dq:decide (b≤143)=true:=decide_eq_true q
 clear h0 h1 h2 h3
 go_enter Tryz.func117,Tryz.ntmps117
 go_wp2
 go_ret
 exact ⟨rfl,rfl⟩
set_option maxHeartbeats 1000000 in
theorem second_3_1 (a b:Int) (h0:¬ (a=224)) (h1:¬ (a=237)) (h2:¬ (a=240)) (h3:(a=244)) (p:128≤b) (q:¬ (b≤143)) (w:World):Calls Tryz.prog 117 #[.int .u8 a,.int .u8 b] w fun e w'=>e=.returned (.bool false)∧w=w':=by
 have t0:(a == 224)=false:=by rw [beq_eq_false_iff_ne];exact h0
 have t1:(a == 237)=false:=by rw [beq_eq_false_iff_ne];exact h1
 have t2:(a == 240)=false:=by rw [beq_eq_false_iff_ne];exact h2
 have t3:(a == 244)=true:=by rw [beq_iff_eq];exact h3
 have dp:decide (128≤b)=true:=decide_eq_true p
 have dq:decide (b≤143)=false:=decide_eq_false q
 clear h0 h1 h2 h3
 go_enter Tryz.func117,Tryz.ntmps117
 go_wp2
 go_ret
 exact ⟨rfl,rfl⟩
set_option maxHeartbeats 1000000 in
theorem second_3_2 (a b:Int) (h0:¬ (a=224)) (h1:¬ (a=237)) (h2:¬ (a=240)) (h3:(a=244)) (p:¬ (128≤b)) (w:World):Calls Tryz.prog 117 #[.int .u8 a,.int .u8 b] w fun e w'=>e=.returned (.bool false)∧w=w':=by
 have t0:(a == 224)=false:=by rw [beq_eq_false_iff_ne];exact h0
 have t1:(a == 237)=false:=by rw [beq_eq_false_iff_ne];exact h1
 have t2:(a == 240)=false:=by rw [beq_eq_false_iff_ne];exact h2
 have t3:(a == 244)=true:=by rw [beq_iff_eq];exact h3
 have dp:decide (128≤b)=false:=decide_eq_false p
 clear h0 h1 h2 h3
 go_enter Tryz.func117,Tryz.ntmps117
 go_wp2
 go_ret
 exact ⟨rfl,rfl⟩
set_option maxHeartbeats 1000000 in
theorem second_4_0 (a b:Int) (h0:¬ (a=224)) (h1:¬ (a=237)) (h2:¬ (a=240)) (h3:¬ (a=244)) (p:128≤b) (q:b≤191) (w:World):Calls Tryz.prog 117 #[.int .u8 a,.int .u8 b] w fun e w'=>e=.returned (.bool true)∧w=w':=by
 have t0:(a == 224)=false:=by rw [beq_eq_false_iff_ne];exact h0
 have t1:(a == 237)=false:=by rw [beq_eq_false_iff_ne];exact h1
 have t2:(a == 240)=false:=by rw [beq_eq_false_iff_ne];exact h2
 have t3:(a == 244)=false:=by rw [beq_eq_false_iff_ne];exact h3
 have dp:decide (128≤b)=true:=decide_eq_true p
 have dq:decide (b≤191)=true:=decide_eq_true q
 clear h0 h1 h2 h3
 go_enter Tryz.func117,Tryz.ntmps117
 go_wp2
 go_ret
 exact ⟨rfl,rfl⟩
set_option maxHeartbeats 1000000 in
theorem second_4_1 (a b:Int) (h0:¬ (a=224)) (h1:¬ (a=237)) (h2:¬ (a=240)) (h3:¬ (a=244)) (p:128≤b) (q:¬ (b≤191)) (w:World):Calls Tryz.prog 117 #[.int .u8 a,.int .u8 b] w fun e w'=>e=.returned (.bool false)∧w=w':=by
 have t0:(a == 224)=false:=by rw [beq_eq_false_iff_ne];exact h0
 have t1:(a == 237)=false:=by rw [beq_eq_false_iff_ne];exact h1
 have t2:(a == 240)=false:=by rw [beq_eq_false_iff_ne];exact h2
 have t3:(a == 244)=false:=by rw [beq_eq_false_iff_ne];exact h3
 have dp:decide (128≤b)=true:=decide_eq_true p
 have dq:decide (b≤191)=false:=decide_eq_false q
 clear h0 h1 h2 h3
 go_enter Tryz.func117,Tryz.ntmps117
 go_wp2
 go_ret
 exact ⟨rfl,rfl⟩
set_option maxHeartbeats 1000000 in
theorem second_4_2 (a b:Int) (h0:¬ (a=224)) (h1:¬ (a=237)) (h2:¬ (a=240)) (h3:¬ (a=244)) (p:¬ (128≤b)) (w:World):Calls Tryz.prog 117 #[.int .u8 a,.int .u8 b] w fun e w'=>e=.returned (.bool false)∧w=w':=by
 have t0:(a == 224)=false:=by rw [beq_eq_false_iff_ne];exact h0
 have t1:(a == 237)=false:=by rw [beq_eq_false_iff_ne];exact h1
 have t2:(a == 240)=false:=by rw [beq_eq_false_iff_ne];exact h2
 have t3:(a == 244)=false:=by rw [beq_eq_false_iff_ne];exact h3
 have dp:decide (128≤b)=false:=decide_eq_false p
 clear h0 h1 h2 h3
 go_enter Tryz.func117,Tryz.ntmps117
 go_wp2
 go_ret
 exact ⟨rfl,rfl⟩
theorem second_c (a b:Int) (w:World):Calls Tryz.prog 117 #[.int .u8 a,.int .u8 b] w fun e w'=>e=.returned (.bool (secondF a b))∧w=w':=by
 unfold secondF
 by_cases h0:a=224
 ·rw [if_pos h0]
  by_cases p:160≤b
  ·by_cases q : b ≤ 191
   ·rw [decide_eq_true (show 160≤b∧b≤191 from ⟨p,q⟩)];exact second_0_0 a b h0 p q w
   ·rw [decide_eq_false (show ¬ (160≤b∧b≤191) from fun h=>q h.2)];exact second_0_1 a b h0 p q w
  ·rw [decide_eq_false (show ¬ (160≤b∧b≤191) from fun h=>p h.1)];exact second_0_2 a b h0 p w
 rw [if_neg h0]
 by_cases h1:a=237
 ·rw [if_pos h1]
  by_cases p:128≤b
  ·by_cases q : b ≤ 159
   ·rw [decide_eq_true (show 128≤b∧b≤159 from ⟨p,q⟩)];exact second_1_0 a b h0 h1 p q w
   ·rw [decide_eq_false (show ¬ (128≤b∧b≤159) from fun h=>q h.2)];exact second_1_1 a b h0 h1 p q w
  ·rw [decide_eq_false (show ¬ (128≤b∧b≤159) from fun h=>p h.1)];exact second_1_2 a b h0 h1 p w
 rw [if_neg h1]
 by_cases h2:a=240
 ·rw [if_pos h2]
  by_cases p:144≤b
  ·by_cases q : b ≤ 191
   ·rw [decide_eq_true (show 144≤b∧b≤191 from ⟨p,q⟩)];exact second_2_0 a b h0 h1 h2 p q w
   ·rw [decide_eq_false (show ¬ (144≤b∧b≤191) from fun h=>q h.2)];exact second_2_1 a b h0 h1 h2 p q w
  ·rw [decide_eq_false (show ¬ (144≤b∧b≤191) from fun h=>p h.1)];exact second_2_2 a b h0 h1 h2 p w
 rw [if_neg h2]
 by_cases h3:a=244
 ·rw [if_pos h3]
  by_cases p:128≤b
  ·by_cases q : b ≤ 143
   ·rw [decide_eq_true (show 128≤b∧b≤143 from ⟨p,q⟩)];exact second_3_0 a b h0 h1 h2 h3 p q w
   ·rw [decide_eq_false (show ¬ (128≤b∧b≤143) from fun h=>q h.2)];exact second_3_1 a b h0 h1 h2 h3 p q w
  ·rw [decide_eq_false (show ¬ (128≤b∧b≤143) from fun h=>p h.1)];exact second_3_2 a b h0 h1 h2 h3 p w
 rw [if_neg h3]
 by_cases p:128≤b
 ·by_cases q : b ≤ 191
  ·rw [decide_eq_true (show 128≤b∧b≤191 from ⟨p,q⟩)];exact second_4_0 a b h0 h1 h2 h3 p q w
  ·rw [decide_eq_false (show ¬ (128≤b∧b≤191) from fun h=>q h.2)];exact second_4_1 a b h0 h1 h2 h3 p q w
 ·rw [decide_eq_false (show ¬ (128≤b∧b≤191) from fun h=>p h.1)];exact second_4_2 a b h0 h1 h2 h3 p w
end Go.Proofs.YtioahgklplbinaaGreatDoor.U
namespace Go.Proofs.YtioahgklplbinaaGreatDoor.U
open Go.RowKit Go.Shelf UtfM
set_option maxRecDepth 100000 in
set_option maxHeartbeats 1000000 in
theorem renc_low (r:Int) (h:r < 0) (w:World):Calls Tryz.prog 149 #[.int .i64 r] w (EncNew w r):=by
 have HS:=Lib.hid (enc0 (r:=r) (by unfold Sc;omega))
 go_enter Tryz.func149,Tryz.ntmps149
 go_wp2
 go_ret
 exact ⟨none,0,by rw [HS.out];rfl,by rw [HS.out];exact By.nil,by rw [HS.out];simp,by omega,fun _=>rfl,fun _=>rfl,(fun a ha=>by cases ha),Below.refl _ _⟩
set_option maxRecDepth 100000 in
set_option maxHeartbeats 1000000 in
theorem renc_high (r:Int) (h:1114111 < r) (w:World):Calls Tryz.prog 149 #[.int .i64 r] w (EncNew w r):=by
 have HS:=Lib.hid (enc0 (r:=r) (by unfold Sc;omega))
 have d0:¬ (r < 0):=by omega
 go_enter Tryz.func149,Tryz.ntmps149
 go_wp2
 go_ret
 exact ⟨none,0,by rw [HS.out];rfl,by rw [HS.out];exact By.nil,by rw [HS.out];simp,by omega,fun _=>rfl,fun _=>rfl,(fun a ha=>by cases ha),Below.refl _ _⟩
set_option maxRecDepth 100000 in
set_option maxHeartbeats 1000000 in
theorem renc_gap (r:Int) (h:55296≤r) (h2:r≤57343) (w:World):Calls Tryz.prog 149 #[.int .i64 r] w (EncNew w r):=by
 have HS:=Lib.hid (enc0 (r:=r) (by unfold Sc;omega))
 have d0:¬ (r < 0):=by omega
 have d1:¬ (1114111 < r):=by omega
 go_enter Tryz.func149,Tryz.ntmps149
 go_wp2
 go_ret
 exact ⟨none,0,by rw [HS.out];rfl,by rw [HS.out];exact By.nil,by rw [HS.out];simp,by omega,fun _=>rfl,fun _=>rfl,(fun a ha=>by cases ha),Below.refl _ _⟩
set_option maxRecDepth 100000 in
set_option maxHeartbeats 1000000 in
theorem renc_one (r:Int) (h:0≤r) (h2:r < 128) (w:World):Calls Tryz.prog 149 #[.int .i64 r] w (EncNew w r):=by
 have d0:¬ (r < 0):=by omega
 have d1:¬ (1114111 < r):=by omega
 have d2:¬ (55296≤r):=by omega
 go_enter Tryz.func149,Tryz.ntmps149
 go_wp2
 go_ret
 refine enc_shut w r [r] 1 (enc1 (by unfold Sc;omega) h2) rfl (by omega) (by omega) _ ?_
 simp
set_option maxRecDepth 100000 in
set_option maxHeartbeats 1000000 in
theorem renc_two (r:Int) (h:128≤r) (h2:r < 2048) (w:World):Calls Tryz.prog 149 #[.int .i64 r] w (EncNew w r):=by
 have d0:¬ (r < 0):=by omega
 have d1:¬ (1114111 < r):=by omega
 have d2:¬ (55296≤r):=by omega
 have d3:¬ (r < 128):=by omega
 go_enter Tryz.func149,Tryz.ntmps149
 go_wp2
 go_ret
 refine enc_shut w r [192+r / 64,128+r % 64] 2 (enc2 (by unfold Sc;omega) h h2) rfl (by omega) (by omega) _ ?_
 simp
set_option maxRecDepth 100000 in
set_option maxHeartbeats 1000000 in
theorem renc_three (r:Int) (h:2048≤r) (h2:r < 55296) (w:World):Calls Tryz.prog 149 #[.int .i64 r] w (EncNew w r):=by
 have d0:¬ (r < 0):=by omega
 have d1:¬ (1114111 < r):=by omega
 have d2:¬ (55296≤r):=by omega
 have d3:¬ (r < 128):=by omega
 have d4:¬ (r < 2048):=by omega
 have d5:r < 65536:=by omega
 go_enter Tryz.func149,Tryz.ntmps149
 go_wp2
 go_ret
 refine enc_shut w r [224+r / 4096,128+r / 64 % 64,128+r % 64] 3 (enc3 (by unfold Sc;omega) h (by omega)) rfl (by omega) (by omega) _ ?_
 simp
set_option maxRecDepth 100000 in
set_option maxHeartbeats 1000000 in
theorem renc_threeb (r:Int) (h:57344≤r) (h2:r < 65536) (w:World):Calls Tryz.prog 149 #[.int .i64 r] w (EncNew w r):=by
 have d0:¬ (r < 0):=by omega
 have d1:¬ (1114111 < r):=by omega
 have d2:55296≤r:=by omega
 have d6:¬ (r≤57343):=by omega
 have d3:¬ (r < 128):=by omega
 have d4:¬ (r < 2048):=by omega
 go_enter Tryz.func149,Tryz.ntmps149
 go_wp2
 go_ret
 refine enc_shut w r [224+r / 4096,128+r / 64 % 64,128+r % 64] 3 (enc3 (by unfold Sc;omega) (by omega) h2) rfl (by omega) (by omega) _ ?_
 simp
set_option maxRecDepth 100000 in
set_option maxHeartbeats 1000000 in
theorem renc_four (r:Int) (h:65536≤r) (h2:r≤1114111) (w:World):Calls Tryz.prog 149 #[.int .i64 r] w (EncNew w r):=by
 have d0:¬ (r < 0):=by omega
 have d1:¬ (1114111 < r):=by omega
 have d2:55296≤r:=by omega
 have d6:¬ (r≤57343):=by omega
 have d3:¬ (r < 128):=by omega
 have d4:¬ (r < 2048):=by omega
 have d5:¬ (r < 65536):=by omega
 go_enter Tryz.func149,Tryz.ntmps149
 go_wp2
 go_ret
 refine enc_shut w r [240+r / 262144,128+r / 4096 % 64,128+r / 64 % 64,128+r % 64] 4 (enc4 (by unfold Sc;omega) h) rfl (by omega) (by omega) _ ?_
 simp
theorem renc_c (r:Int) (w:World):Calls Tryz.prog 149 #[.int .i64 r] w (EncPost w r):=by
 have key:Calls Tryz.prog 149 #[.int .i64 r] w (EncNew w r):=by
  by_cases h0:r < 0
  ·exact renc_low r h0 w
  by_cases h1:1114111 < r
  ·exact renc_high r h1 w
  by_cases h2:r < 128
  ·exact renc_one r (by omega) h2 w
  by_cases h3:r < 2048
  ·exact renc_two r (by omega) h3 w
  by_cases h4:r < 55296
  ·exact renc_three r (by omega) h4 w
  by_cases h5:r≤57343
  ·exact renc_gap r (by omega) h5 w
  by_cases h6:r < 65536
  ·exact renc_threeb r (by omega) h6 w
  exact renc_four r (by omega) (by omega) w
 exact key.mono fun _ _ ⟨P,c,h1,h2,h3,h4,h5,h6,_,h7⟩=>⟨P,c,h1,h2,h3,h4,h5,h6,h7⟩
end Go.Proofs.YtioahgklplbinaaGreatDoor.U

/- The document's own Decode. -/
namespace Go.Proofs.YtioahgklplbinaaGreatDoor.U
open Go.RowKit Go.Shelf UtfM
theorem second_q (a b:Int) (w:World):Calls Tryz.prog 117 #[.int .u8 a,.int .u8 b] w fun e w'=>e=.returned (.bool (secondF a b))∧w'=w :=
 (second_c a b w).mono fun _ _ ⟨h1,h2⟩=>⟨h1,h2.symm⟩
theorem secondF_take {a:Int} {s:Shape} (h:lead a=some s) (hm:s.more≠0) (b:Int):secondF a b=takeB s 0 b:=by
 unfold takeB
 simp only [if_true]
 unfold lead at h
 unfold secondF
 repeat' split at h
 all_goals first | (cases h;done) | skip
 all_goals obtain rfl:=Option.some.inj h
 all_goals first | (exact absurd rfl hm) | skip
 all_goals (repeat' split) <;> first | rfl | omega
theorem rdec_empty (A:Option Addr) (c:Nat) (w:World):Calls Tryz.prog 99 #[.slice A 0 c] w (DecPost w []):=by
 go_enter Tryz.func99,Tryz.ntmps99
 go_wp2
 go_ret2
 exact ⟨rfl,Below.refl _ _⟩
set_option maxRecDepth 100000 in
set_option maxHeartbeats 2000000 in
theorem rdec_full (b off c:Nat) (l:List Int) (hne:0 < l.length) (w:World) (hs:By w (some ⟨b,off,none⟩) l):Calls Tryz.prog 99 #[.slice (some ⟨b,off,none⟩) l.length c] w (DecPost w l):=by
 obtain ⟨b',off',he,hbb,hcell⟩:=hs.2 (List.length_pos_iff.1 hne)
 cases he
 have h0:=hcell 0 hne
 rw [Nat.add_zero] at h0
 have ha:=hs.1 l[0] (List.getElem_mem hne)
 have hlz:((l.length:Int) == 0)=false:=by rw [beq_eq_false_iff_ne];omega
 have hlp:(0:Int) < (l.length:Int):=by omega
 have HC:=Lib.hid hcell
 have HB:=Lib.hid hs.1
 obtain ⟨t,ht⟩:∃ t,l=l[0]::t:=⟨l.drop 1,by rw [← drop_cons hne];simp⟩
 have HT:=Lib.hid ht
 clear hs hcell ht
 generalize l[0]=a at *
 have ha0:=ha.1
 have ha1:=ha.2
 clear ha
 cases hl:lead a with
 | none =>
  have hlo:longF a=0:=by unfold longF;rw [hl]
  have HN:=Lib.hid hl
  have HLO:=Lib.hid hlo
  clear hl hlo
  go_enter Tryz.func99,Tryz.ntmps99
  go_wp2_with fail
  refine (long_c a _).mono ?_
  rintro e w1 ⟨rfl,rfl⟩
  rw [HLO.out]
  go_wp2
  go_ret2
  exact dec_shut (m:=1) (by rw [HT.out,dec_none HN.out]) rfl (Below.refl _ _)
 | some s =>
  have hlo:longF a=s.more+1:=by unfold longF;rw [hl]
  have hst:=DecAt.start (t:=t) hl ha0
  rw [← HT.out] at hst
  have hin:=lead_in hl ha0
  have HST:=Lib.hid hst
  have HIN:=Lib.hid hin
  have HLO:=Lib.hid hlo
  have HL:=Lib.hid hl
  have h3:=hin.2.2.1
  clear hst hin hl hlo
  by_cases hm0:s.more=0
  ·have hres := HST.out.done hm0.symm
   have hbits:s.bits=a:=by
    have h1:a < 128:=by
     rcases lead_cases a with h | h | h | h | h
     ·exact h
     ·rw [HL.out] at h;cases h
     ·have:=HL.out;rw [lead2 h.1 h.2] at this;cases this;simp at hm0
     ·obtain ⟨lo,hi,e,_⟩:=lead3 h.1 h.2;rw [e] at HL;have:=HL.out;cases this;simp at hm0
     ·obtain ⟨lo,hi,e,_⟩:=lead4 h.1 h.2;rw [e] at HL;have:=HL.out;cases this;simp at hm0
    have:=HL.out;rw [lead1 h1] at this;cases this;rfl
   rw [hbits] at hres
   have HR:=Lib.hid hres
   clear hres hbits
   go_enter Tryz.func99,Tryz.ntmps99
   go_wp2_with fail
   refine (long_c a _).mono ?_
   rintro e w1 ⟨rfl,rfl⟩
   rw [HLO.out,hm0]
   go_wp2
   go_ret2
   exact dec_shut (m:=1) HR.out (by omega) (Below.refl _ _)
  ·obtain ⟨base,hbase,hbits⟩:∃ base:Int,((s.more=1∧base=192)∨(s.more=2∧base=224)∨(s.more=3∧base=240))∧s.bits=a - base:=by
    have hh:=HL.out
    rcases lead_cases a with h | h | h | h | h
    ·rw [lead1 h] at hh;cases hh;simp at hm0
    ·rw [hh] at h;cases h
    ·rw [lead2 h.1 h.2] at hh;cases hh;exact ⟨192,.inl ⟨rfl,rfl⟩,rfl⟩
    ·obtain ⟨lo,hi,e,_⟩:=lead3 h.1 h.2;rw [e] at hh;cases hh;exact ⟨224,.inr (.inl ⟨rfl,rfl⟩),rfl⟩
    ·obtain ⟨lo,hi,e,_⟩:=lead4 h.1 h.2;rw [e] at hh;cases hh;exact ⟨240,.inr (.inr ⟨rfl,rfl⟩),rfl⟩
   have hsec:=secondF_take HL.out hm0
   have HSEC:=Lib.hid hsec
   rw [hbits] at HST
   have HBI:=Lib.hid hbits
   clear hsec hbits
   have hmm:(s.more=1∧base=192)∨(s.more=2∧base=224)∨(s.more=3∧base=240):=hbase
   clear hbase
   go_enter Tryz.func99,Tryz.ntmps99
   go_wp2_with fail
   refine (long_c a _).mono ?_
   rintro e w1 ⟨rfl,rfl⟩
   rw [HLO.out]
   rcases hmm with ⟨hm,rfl⟩ | ⟨hm,rfl⟩ | ⟨hm,rfl⟩
   ·rw [hm]
    have hdec0:=HST.out
    have HMM:=Lib.hid hm
    clear hm hm0
    go_wp2
    go_region
    have hbV:Below w.heap.size w (w.alloc (.cells #[.int .i64 0,.int .i64 0,.int .i64 192,.int .i64 224,.int .i64 240] 3)).drew:=below_drewN ((Below.refl _ _).alloc (Nat.le_refl _) _) 1
    generalize (w.alloc (.cells #[.int .i64 0,.int .i64 0,.int .i64 192,.int .i64 224,.int .i64 240] 3)).drew=V at *
    go_wp2
    go_loopg [5,6] 1 (fun g s5 s6 wx=>∃ (i:Nat) (r:Int),i+g=2∧1≤i∧i≤l.length∧s6=.int .i64 i∧s5=.int .i64 r∧Hid (DecAt l s (i - 1) r)∧Below w.heap.size w wx)
    case atStart=>exact ⟨1,_,by omega,by omega,by omega,rfl,rfl,Lib.hid hdec0,hbV⟩
    case round =>
     clear hbV hdec0
     obtain ⟨i,r,hig,hi1,hil,rfl,rfl,HD,hb⟩:=hrel
     have HBB:=Lib.hid hb
     cases gk with
     | zero =>
      have hkz:¬ ((i:Int) < 2):=by omega
      have hres:=HD.out.done (by rw [HMM.out];omega)
      have HR:=Lib.hid hres
      clear hres hb
      go_wp2
      go_ret2
      exact dec_shut (m:=2) HR.out (by omega) HBB.out
     | succ g =>
      have hkz:(i:Int) < 2:=by omega
      have hk1:i - 1 < s.more:=by rw [HMM.out];omega
      by_cases hlen:i=l.length
      ·have hd : decide ((l.length : Int) ≤ (i : Int)) = true := decide_eq_true (by omega)
       have hres:=HD.out.short hk1 (by omega)
       have HR:=Lib.hid hres
       have hdn:decide (l.length≤i)=true:=decide_eq_true (by omega)
       clear hres hlen hb
       go_wp2
       go_quiet (fail)
       go_wp2
       go_ret2
       exact dec_shut (m:=(i:Int)) HR.out (by omega) (below_drewN HBB.out _)
      ·have hlt : i < l.length := by omega
       have hd:decide ((l.length:Int)≤(i:Int))=false:=decide_eq_false (by omega)
       have hdn:decide (l.length≤i)=false:=decide_eq_false (by omega)
       have hlz2:(i:Int) < (l.length:Int):=by omega
       have c0:=(hb.cell (p:=⟨b,off,none⟩) hbb).trans h0
       have ci:=(hb.cell (p:=⟨b,off+i,none⟩) hbb).trans (HC.out i hlt)
       have hch:=HB.out l[i] (List.getElem_mem hlt)
       have hii:i - 1+1=i:=by omega
       have hbad:takeB s (i - 1) l[i]=false→dec l=(-1,i):=fun h=>by
        have:=HD.out.bad hk1 (by omega) (by simp only [hii];simpa [takeB] using h)
        rw [hii] at this;exact this
       have hnx:takeB s (i - 1) l[i]=true→128≤l[i]∧l[i]≤191→DecAt l s (i+1 - 1) (64*r+l[i] - 128):=fun h h8=>by
        have:=HD.out.next hk1 (by omega) (by simp only [hii];simpa [takeB] using h) (by simp only [hii];exact h8)
        simp only [hii] at this
        rw [show i+1 - 1=i from by omega,show 64*r+l[i] - 128=r*64+(l[i] - 128) from by omega];exact this
       have hr0:=HD.out.2.1
       have hr1:r≤524287:=by
        have:=HD.out.2.2
        rcases (by omega:i - 1=0∨i - 1=1∨i - 1=2) with h | h | h <;> rw [h] at this <;> simp at this <;> omega
       have HBAD:=Lib.hid hbad
       have HNX:=Lib.hid hnx
       have h128:takeB s (i - 1) l[i]=true→128≤l[i]∧l[i]≤191:=fun h=>by
        have hh:=HIN.out.2.2.2 (by have:=HMM.out;omega)
        have h':(if i - 1=0 then s.lo else 128)≤l[i]∧l[i]≤(if i - 1=0 then s.hi else 191):=by simpa [takeB] using h
        by_cases hk0:i - 1=0
        ·simp only [if_pos hk0] at h';omega
        ·simp only [if_neg hk0] at h';omega
       have H128:=Lib.hid h128
       have hc1:i=1→wr.cell? ⟨b,off+1,none⟩=some (.int .u8 l[i]):=fun h=>by
        have:=ci
        rw [show off+i=off+1 from by omega] at this;exact this
       have hl1:(1:Int) < (l.length:Int):=by omega
       clear hbad hnx h128 hii hlen
       generalize l[i]=ch at *
       by_cases hi0:i=1
       ·have c1 := hc1 hi0
        have ei:((i:Int) == 1)=true:=by rw [beq_iff_eq];omega
        have hse:secondF a ch=takeB s (i - 1) ch:=by rw [HSEC.out,show i - 1=0 from by omega]
        clear hc1 hi0 hb
        cases hT:takeB s (i - 1) ch with
        | false =>
         have hse2:secondF a ch=false:=hse.trans hT
         have hsq:∀ U,Calls Tryz.prog 117 #[.int .u8 a,.int .u8 ch] U fun e w'=>e=.returned (.bool false)∧w'=U:=fun U=>by have:=second_q a ch U;rwa [hse2] at this
         have HSQ:=Lib.hid hsq
         have HR:=Lib.hid (HBAD.out hT)
         clear hse hse2 hsq hT
         go_wp2
         go_quiet ((go_at_call 117;exact Calls.quiet_of_same (HSQ.out _)))
         go_wp2
         go_ret2
         exact dec_shut (m:=(i:Int)) HR.out (by omega) (below_drewN HBB.out _)
        | true =>
         have hse2:secondF a ch=true:=hse.trans hT
         have hsq:∀ U,Calls Tryz.prog 117 #[.int .u8 a,.int .u8 ch] U fun e w'=>e=.returned (.bool true)∧w'=U:=fun U=>by have:=second_q a ch U;rwa [hse2] at this
         have HSQ:=Lib.hid hsq
         obtain ⟨g8,g9⟩:=H128.out hT
         have HNN:=Lib.hid (HNX.out hT ⟨g8,g9⟩)
         have e1:decide (ch < 128)=false:=decide_eq_false (by omega)
         have e2:decide (191 < ch)=false:=decide_eq_false (by omega)
         clear hse hse2 hsq hT
         go_wp2
         go_quiet ((go_at_call 117;exact Calls.quiet_of_same (HSQ.out _)))
         go_wp2
         go_roundg g
         case measure=>omega
         case rel=>exact ⟨i+1,_,by omega,by omega,by omega,by go_num,rfl,HNN,below_drewN HBB.out _⟩
       ·have ei : ((i : Int) == 1) = false := by rw [beq_eq_false_iff_ne]; omega
        have hTi:takeB s (i - 1) ch=decide (128≤ch∧ch≤191):=by unfold takeB;rw [if_neg (by omega),if_neg (by omega)]
        clear hc1 hi0 hb
        by_cases g8:128≤ch
        ·have e1 : decide (ch < 128) = false := decide_eq_false (by omega)
         by_cases g9:ch≤191
         ·have HNN := Lib.hid (HNX.out (hTi.trans (decide_eq_true ⟨g8, g9⟩)) ⟨g8, g9⟩)
          have e2:decide (191 < ch)=false:=decide_eq_false (by omega)
          clear hTi
          go_wp2
          go_quiet (fail)
          go_wp2
          go_roundg g
          case measure=>omega
          case rel=>exact ⟨i+1,_,by omega,by omega,by omega,by go_num,rfl,HNN,below_drewN HBB.out _⟩
         ·have HR := Lib.hid (HBAD.out (hTi.trans (decide_eq_false (fun h => g9 h.2))))
          have e2:decide (191 < ch)=true:=decide_eq_true (by omega)
          clear hTi
          go_wp2
          go_quiet (fail)
          go_wp2
          go_ret2
          exact dec_shut (m:=(i:Int)) HR.out (by omega) (below_drewN HBB.out _)
        ·have HR := Lib.hid (HBAD.out (hTi.trans (decide_eq_false (fun h => g8 h.1))))
         have e1:decide (ch < 128)=true:=decide_eq_true (by omega)
         clear hTi
         go_wp2
         go_quiet (fail)
         go_wp2
         go_ret2
         exact dec_shut (m:=(i:Int)) HR.out (by omega) (below_drewN HBB.out _)
   ·rw [hm]
    have hdec0:=HST.out
    have HMM:=Lib.hid hm
    clear hm hm0
    go_wp2
    go_region
    have hbV:Below w.heap.size w (w.alloc (.cells #[.int .i64 0,.int .i64 0,.int .i64 192,.int .i64 224,.int .i64 240] 3)).drew:=below_drewN ((Below.refl _ _).alloc (Nat.le_refl _) _) 1
    generalize (w.alloc (.cells #[.int .i64 0,.int .i64 0,.int .i64 192,.int .i64 224,.int .i64 240] 3)).drew=V at *
    go_wp2
    go_loopg [5,6] 2 (fun g s5 s6 wx=>∃ (i:Nat) (r:Int),i+g=3∧1≤i∧i≤l.length∧s6=.int .i64 i∧s5=.int .i64 r∧Hid (DecAt l s (i - 1) r)∧Below w.heap.size w wx)
    case atStart=>exact ⟨1,_,by omega,by omega,by omega,rfl,rfl,Lib.hid hdec0,hbV⟩
    case round =>
     clear hbV hdec0
     obtain ⟨i,r,hig,hi1,hil,rfl,rfl,HD,hb⟩:=hrel
     have HBB:=Lib.hid hb
     cases gk with
     | zero =>
      have hkz:¬ ((i:Int) < 3):=by omega
      have hres:=HD.out.done (by rw [HMM.out];omega)
      have HR:=Lib.hid hres
      clear hres hb
      go_wp2
      go_ret2
      exact dec_shut (m:=3) HR.out (by omega) HBB.out
     | succ g =>
      have hkz:(i:Int) < 3:=by omega
      have hk1:i - 1 < s.more:=by rw [HMM.out];omega
      by_cases hlen:i=l.length
      ·have hd : decide ((l.length : Int) ≤ (i : Int)) = true := decide_eq_true (by omega)
       have hres:=HD.out.short hk1 (by omega)
       have HR:=Lib.hid hres
       have hdn:decide (l.length≤i)=true:=decide_eq_true (by omega)
       clear hres hlen hb
       go_wp2
       go_quiet (fail)
       go_wp2
       go_ret2
       exact dec_shut (m:=(i:Int)) HR.out (by omega) (below_drewN HBB.out _)
      ·have hlt : i < l.length := by omega
       have hd:decide ((l.length:Int)≤(i:Int))=false:=decide_eq_false (by omega)
       have hdn:decide (l.length≤i)=false:=decide_eq_false (by omega)
       have hlz2:(i:Int) < (l.length:Int):=by omega
       have c0:=(hb.cell (p:=⟨b,off,none⟩) hbb).trans h0
       have ci:=(hb.cell (p:=⟨b,off+i,none⟩) hbb).trans (HC.out i hlt)
       have hch:=HB.out l[i] (List.getElem_mem hlt)
       have hii:i - 1+1=i:=by omega
       have hbad:takeB s (i - 1) l[i]=false→dec l=(-1,i):=fun h=>by
        have:=HD.out.bad hk1 (by omega) (by simp only [hii];simpa [takeB] using h)
        rw [hii] at this;exact this
       have hnx:takeB s (i - 1) l[i]=true→128≤l[i]∧l[i]≤191→DecAt l s (i+1 - 1) (64*r+l[i] - 128):=fun h h8=>by
        have:=HD.out.next hk1 (by omega) (by simp only [hii];simpa [takeB] using h) (by simp only [hii];exact h8)
        simp only [hii] at this
        rw [show i+1 - 1=i from by omega,show 64*r+l[i] - 128=r*64+(l[i] - 128) from by omega];exact this
       have hr0:=HD.out.2.1
       have hr1:r≤524287:=by
        have:=HD.out.2.2
        rcases (by omega:i - 1=0∨i - 1=1∨i - 1=2) with h | h | h <;> rw [h] at this <;> simp at this <;> omega
       have HBAD:=Lib.hid hbad
       have HNX:=Lib.hid hnx
       have h128:takeB s (i - 1) l[i]=true→128≤l[i]∧l[i]≤191:=fun h=>by
        have hh:=HIN.out.2.2.2 (by have:=HMM.out;omega)
        have h':(if i - 1=0 then s.lo else 128)≤l[i]∧l[i]≤(if i - 1=0 then s.hi else 191):=by simpa [takeB] using h
        by_cases hk0:i - 1=0
        ·simp only [if_pos hk0] at h';omega
        ·simp only [if_neg hk0] at h';omega
       have H128:=Lib.hid h128
       have hc1:i=1→wr.cell? ⟨b,off+1,none⟩=some (.int .u8 l[i]):=fun h=>by
        have:=ci
        rw [show off+i=off+1 from by omega] at this;exact this
       have hl1:(1:Int) < (l.length:Int):=by omega
       clear hbad hnx h128 hii hlen
       generalize l[i]=ch at *
       by_cases hi0:i=1
       ·have c1 := hc1 hi0
        have ei:((i:Int) == 1)=true:=by rw [beq_iff_eq];omega
        have hse:secondF a ch=takeB s (i - 1) ch:=by rw [HSEC.out,show i - 1=0 from by omega]
        clear hc1 hi0 hb
        cases hT:takeB s (i - 1) ch with
        | false =>
         have hse2:secondF a ch=false:=hse.trans hT
         have hsq:∀ U,Calls Tryz.prog 117 #[.int .u8 a,.int .u8 ch] U fun e w'=>e=.returned (.bool false)∧w'=U:=fun U=>by have:=second_q a ch U;rwa [hse2] at this
         have HSQ:=Lib.hid hsq
         have HR:=Lib.hid (HBAD.out hT)
         clear hse hse2 hsq hT
         go_wp2
         go_quiet ((go_at_call 117;exact Calls.quiet_of_same (HSQ.out _)))
         go_wp2
         go_ret2
         exact dec_shut (m:=(i:Int)) HR.out (by omega) (below_drewN HBB.out _)
        | true =>
         have hse2:secondF a ch=true:=hse.trans hT
         have hsq:∀ U,Calls Tryz.prog 117 #[.int .u8 a,.int .u8 ch] U fun e w'=>e=.returned (.bool true)∧w'=U:=fun U=>by have:=second_q a ch U;rwa [hse2] at this
         have HSQ:=Lib.hid hsq
         obtain ⟨g8,g9⟩:=H128.out hT
         have HNN:=Lib.hid (HNX.out hT ⟨g8,g9⟩)
         have e1:decide (ch < 128)=false:=decide_eq_false (by omega)
         have e2:decide (191 < ch)=false:=decide_eq_false (by omega)
         clear hse hse2 hsq hT
         go_wp2
         go_quiet ((go_at_call 117;exact Calls.quiet_of_same (HSQ.out _)))
         go_wp2
         go_roundg g
         case measure=>omega
         case rel=>exact ⟨i+1,_,by omega,by omega,by omega,by go_num,rfl,HNN,below_drewN HBB.out _⟩
       ·have ei : ((i : Int) == 1) = false := by rw [beq_eq_false_iff_ne]; omega
        have hTi:takeB s (i - 1) ch=decide (128≤ch∧ch≤191):=by unfold takeB;rw [if_neg (by omega),if_neg (by omega)]
        clear hc1 hi0 hb
        by_cases g8:128≤ch
        ·have e1 : decide (ch < 128) = false := decide_eq_false (by omega)
         by_cases g9:ch≤191
         ·have HNN := Lib.hid (HNX.out (hTi.trans (decide_eq_true ⟨g8, g9⟩)) ⟨g8, g9⟩)
          have e2:decide (191 < ch)=false:=decide_eq_false (by omega)
          clear hTi
          go_wp2
          go_quiet (fail)
          go_wp2
          go_roundg g
          case measure=>omega
          case rel=>exact ⟨i+1,_,by omega,by omega,by omega,by go_num,rfl,HNN,below_drewN HBB.out _⟩
         ·have HR := Lib.hid (HBAD.out (hTi.trans (decide_eq_false (fun h => g9 h.2))))
          have e2:decide (191 < ch)=true:=decide_eq_true (by omega)
          clear hTi
          go_wp2
          go_quiet (fail)
          go_wp2
          go_ret2
          exact dec_shut (m:=(i:Int)) HR.out (by omega) (below_drewN HBB.out _)
        ·have HR := Lib.hid (HBAD.out (hTi.trans (decide_eq_false (fun h => g8 h.1))))
         have e1:decide (ch < 128)=true:=decide_eq_true (by omega)
         clear hTi
         go_wp2
         go_quiet (fail)
         go_wp2
         go_ret2
         exact dec_shut (m:=(i:Int)) HR.out (by omega) (below_drewN HBB.out _)
   ·rw [hm]
    have hdec0:=HST.out
    have HMM:=Lib.hid hm
    clear hm hm0
    go_wp2
    go_region
    have hbV:Below w.heap.size w (w.alloc (.cells #[.int .i64 0,.int .i64 0,.int .i64 192,.int .i64 224,.int .i64 240] 3)).drew:=below_drewN ((Below.refl _ _).alloc (Nat.le_refl _) _) 1
    generalize (w.alloc (.cells #[.int .i64 0,.int .i64 0,.int .i64 192,.int .i64 224,.int .i64 240] 3)).drew=V at *
    go_wp2
    go_loopg [5,6] 3 (fun g s5 s6 wx=>∃ (i:Nat) (r:Int),i+g=4∧1≤i∧i≤l.length∧s6=.int .i64 i∧s5=.int .i64 r∧Hid (DecAt l s (i - 1) r)∧Below w.heap.size w wx)
    case atStart=>exact ⟨1,_,by omega,by omega,by omega,rfl,rfl,Lib.hid hdec0,hbV⟩
    case round =>
     clear hbV hdec0
     obtain ⟨i,r,hig,hi1,hil,rfl,rfl,HD,hb⟩:=hrel
     have HBB:=Lib.hid hb
     cases gk with
     | zero =>
      have hkz:¬ ((i:Int) < 4):=by omega
      have hres:=HD.out.done (by rw [HMM.out];omega)
      have HR:=Lib.hid hres
      clear hres hb
      go_wp2
      go_ret2
      exact dec_shut (m:=4) HR.out (by omega) HBB.out
     | succ g =>
      have hkz:(i:Int) < 4:=by omega
      have hk1:i - 1 < s.more:=by rw [HMM.out];omega
      by_cases hlen:i=l.length
      ·have hd : decide ((l.length : Int) ≤ (i : Int)) = true := decide_eq_true (by omega)
       have hres:=HD.out.short hk1 (by omega)
       have HR:=Lib.hid hres
       have hdn:decide (l.length≤i)=true:=decide_eq_true (by omega)
       clear hres hlen hb
       go_wp2
       go_quiet (fail)
       go_wp2
       go_ret2
       exact dec_shut (m:=(i:Int)) HR.out (by omega) (below_drewN HBB.out _)
      ·have hlt : i < l.length := by omega
       have hd:decide ((l.length:Int)≤(i:Int))=false:=decide_eq_false (by omega)
       have hdn:decide (l.length≤i)=false:=decide_eq_false (by omega)
       have hlz2:(i:Int) < (l.length:Int):=by omega
       have c0:=(hb.cell (p:=⟨b,off,none⟩) hbb).trans h0
       have ci:=(hb.cell (p:=⟨b,off+i,none⟩) hbb).trans (HC.out i hlt)
       have hch:=HB.out l[i] (List.getElem_mem hlt)
       have hii:i - 1+1=i:=by omega
       have hbad:takeB s (i - 1) l[i]=false→dec l=(-1,i):=fun h=>by
        have:=HD.out.bad hk1 (by omega) (by simp only [hii];simpa [takeB] using h)
        rw [hii] at this;exact this
       have hnx:takeB s (i - 1) l[i]=true→128≤l[i]∧l[i]≤191→DecAt l s (i+1 - 1) (64*r+l[i] - 128):=fun h h8=>by
        have:=HD.out.next hk1 (by omega) (by simp only [hii];simpa [takeB] using h) (by simp only [hii];exact h8)
        simp only [hii] at this
        rw [show i+1 - 1=i from by omega,show 64*r+l[i] - 128=r*64+(l[i] - 128) from by omega];exact this
       have hr0:=HD.out.2.1
       have hr1:r≤524287:=by
        have:=HD.out.2.2
        rcases (by omega:i - 1=0∨i - 1=1∨i - 1=2) with h | h | h <;> rw [h] at this <;> simp at this <;> omega
       have HBAD:=Lib.hid hbad
       have HNX:=Lib.hid hnx
       have h128:takeB s (i - 1) l[i]=true→128≤l[i]∧l[i]≤191:=fun h=>by
        have hh:=HIN.out.2.2.2 (by have:=HMM.out;omega)
        have h':(if i - 1=0 then s.lo else 128)≤l[i]∧l[i]≤(if i - 1=0 then s.hi else 191):=by simpa [takeB] using h
        by_cases hk0:i - 1=0
        ·simp only [if_pos hk0] at h';omega
        ·simp only [if_neg hk0] at h';omega
       have H128:=Lib.hid h128
       have hc1:i=1→wr.cell? ⟨b,off+1,none⟩=some (.int .u8 l[i]):=fun h=>by
        have:=ci
        rw [show off+i=off+1 from by omega] at this;exact this
       have hl1:(1:Int) < (l.length:Int):=by omega
       clear hbad hnx h128 hii hlen
       generalize l[i]=ch at *
       by_cases hi0:i=1
       ·have c1 := hc1 hi0
        have ei:((i:Int) == 1)=true:=by rw [beq_iff_eq];omega
        have hse:secondF a ch=takeB s (i - 1) ch:=by rw [HSEC.out,show i - 1=0 from by omega]
        clear hc1 hi0 hb
        cases hT:takeB s (i - 1) ch with
        | false =>
         have hse2:secondF a ch=false:=hse.trans hT
         have hsq:∀ U,Calls Tryz.prog 117 #[.int .u8 a,.int .u8 ch] U fun e w'=>e=.returned (.bool false)∧w'=U:=fun U=>by have:=second_q a ch U;rwa [hse2] at this
         have HSQ:=Lib.hid hsq
         have HR:=Lib.hid (HBAD.out hT)
         clear hse hse2 hsq hT
         go_wp2
         go_quiet ((go_at_call 117;exact Calls.quiet_of_same (HSQ.out _)))
         go_wp2
         go_ret2
         exact dec_shut (m:=(i:Int)) HR.out (by omega) (below_drewN HBB.out _)
        | true =>
         have hse2:secondF a ch=true:=hse.trans hT
         have hsq:∀ U,Calls Tryz.prog 117 #[.int .u8 a,.int .u8 ch] U fun e w'=>e=.returned (.bool true)∧w'=U:=fun U=>by have:=second_q a ch U;rwa [hse2] at this
         have HSQ:=Lib.hid hsq
         obtain ⟨g8,g9⟩:=H128.out hT
         have HNN:=Lib.hid (HNX.out hT ⟨g8,g9⟩)
         have e1:decide (ch < 128)=false:=decide_eq_false (by omega)
         have e2:decide (191 < ch)=false:=decide_eq_false (by omega)
         clear hse hse2 hsq hT
         go_wp2
         go_quiet ((go_at_call 117;exact Calls.quiet_of_same (HSQ.out _)))
         go_wp2
         go_roundg g
         case measure=>omega
         case rel=>exact ⟨i+1,_,by omega,by omega,by omega,by go_num,rfl,HNN,below_drewN HBB.out _⟩
       ·have ei : ((i : Int) == 1) = false := by rw [beq_eq_false_iff_ne]; omega
        have hTi:takeB s (i - 1) ch=decide (128≤ch∧ch≤191):=by unfold takeB;rw [if_neg (by omega),if_neg (by omega)]
        clear hc1 hi0 hb
        by_cases g8:128≤ch
        ·have e1 : decide (ch < 128) = false := decide_eq_false (by omega)
         by_cases g9:ch≤191
         ·have HNN := Lib.hid (HNX.out (hTi.trans (decide_eq_true ⟨g8, g9⟩)) ⟨g8, g9⟩)
          have e2:decide (191 < ch)=false:=decide_eq_false (by omega)
          clear hTi
          go_wp2
          go_quiet (fail)
          go_wp2
          go_roundg g
          case measure=>omega
          case rel=>exact ⟨i+1,_,by omega,by omega,by omega,by go_num,rfl,HNN,below_drewN HBB.out _⟩
         ·have HR := Lib.hid (HBAD.out (hTi.trans (decide_eq_false (fun h => g9 h.2))))
          have e2:decide (191 < ch)=true:=decide_eq_true (by omega)
          clear hTi
          go_wp2
          go_quiet (fail)
          go_wp2
          go_ret2
          exact dec_shut (m:=(i:Int)) HR.out (by omega) (below_drewN HBB.out _)
        ·have HR := Lib.hid (HBAD.out (hTi.trans (decide_eq_false (fun h => g8 h.1))))
         have e1:decide (ch < 128)=true:=decide_eq_true (by omega)
         clear hTi
         go_wp2
         go_quiet (fail)
         go_wp2
         go_ret2
         exact dec_shut (m:=(i:Int)) HR.out (by omega) (below_drewN HBB.out _)
theorem rdec_c {W:World} {A:Option Addr} {c:Nat} {l:List Int} (hs:By W A l):Calls Tryz.prog 99 #[.slice A l.length c] W (DecPost W l):=by
 by_cases h:l=[]
 ·subst h;exact rdec_empty A c W
 ·obtain ⟨b, off, rfl, _, _⟩ := hs.2 h
  exact rdec_full b off c l (List.length_pos_iff.2 h) W hs
theorem rdecode_at {W:World} {b off c k:Nat} {l:List Int} (hs:By W (some ⟨b,off,none⟩) l) (_hk:k≤l.length):Calls Tryz.prog 99 #[.slice (some ⟨b,off+k,none⟩) (l.length - k) c] W (DecPost W (l.drop k)):=by
 have:=rdec_c (c:=c) (hs.drop k)
 rwa [List.length_drop] at this
end Go.Proofs.YtioahgklplbinaaGreatDoor.U

/- The document's own Chars, First, Same. -/
namespace Go.Proofs.YtioahgklplbinaaGreatDoor.U
open Go.RowKit Go.Shelf UtfM
set_option maxRecDepth 100000 in
set_option maxHeartbeats 2000000 in
theorem rchars_c {W:World} {A:Option Addr} {c:Nat} {l:List Int} (hs:By W A l) (hl:l.length≤1000000) (hlc:l.length≤c):Calls Tryz.prog 84 #[.slice A l.length c] W (CharsPost W l):=by
 obtain ⟨i0,hi,hz0,hz1,hz2⟩:=info_parts infoC
 obtain ⟨w,hwW⟩:∃ w,w=W:=⟨_,rfl⟩
 rw [← hwW] at hs ⊢
 clear hwW
 have HS:=Lib.hid hs
 clear hs
 go_enter Tryz.func84,Tryz.ntmps84
 go_wp2
 go_loopg [3,4] l.length (fun g s3 s4 wx=>∃ (k:Nat) (done:List Ch),k+g=l.length∧s4=.int .i64 k∧done.length≤k∧Hid (chars 0 l=done++chars k (l.drop k))∧wx.ownsRow w.heap.size 139 3 s3 done.length (cellsC done)∧Below w.heap.size w wx)
 case atStart=>exact ⟨0,[],by omega,rfl,by simp,Lib.hid (by simp),World.ownsRow_nil _ _ _ _,Below.refl _ _⟩
 case round =>
  obtain ⟨k,done,hkg,rfl,hdk,HE,hown,hb⟩:=hrel
  by_cases hk:k < l.length
  ·have hkz : (k : Int) < (l.length : Int) := by omega
   have hs:=HS.out.step hb
   obtain ⟨b,off,rfl,hbb,_⟩:=hs.2 (by intro h;rw [h] at hk;simp at hk)
   have hkl:k≤l.length:=by omega
   have hkc:¬ (c=k):=by omega
   have hne:l.drop k≠[]:=by intro h;have:=congrArg List.length h;simp at this;omega
   have hok:=dec_ok (hs.1.drop k) hne
   have hst:=chars_step (hs.1.drop k) hne k
   unfold DecOk at hok
   rw [List.length_drop] at hok
   have HST:=Lib.hid hst
   have HSB:=Lib.hid hs
   have hdc:=rdecode_at (c:=c - k) (k:=k) hs hkl
   have HDC:=Lib.hid hdc
   clear hst hs hne hdc
   go_wp2_with fail
   refine HDC.out.mono ?_
   rintro e w1 ⟨rfl,b1⟩
   unfold decV
   obtain ⟨p,hp⟩:∃ p,dec (l.drop k)=p:=⟨_,rfl⟩
   rw [hp] at HST hok ⊢
   obtain ⟨r,n⟩:=p
   dsimp only at *
   have hn1:=hok.1
   have hn2:=hok.2.1
   have HP:=Lib.hid hp
   have hb1:=hb.trans (b1.mono hb.size)
   have hsz:=hb1.size
   have hown1:=own_below hown b1
   clear hp hok hown hb b1 HDC
   go_wp2_with (at_builtin;refine wpList_append_own _ rfl _ _ 136 rfl w.heap.size 139 i0 (.agg #[.int .i64 0,.int .i64 0,.int .i64 0]) 3 24 Tryz.underlying136 hi hz0 hz1 hz2 rfl (by decide) _ _ _ rfl (hown1.alloc _) ⟨w1.heap.size,0,none⟩ 1 1 [.int .i64 r,.int .i64 k,.int .i64 n] rfl rfl (cell_news _ _ _) (by simp [Value.oneCell']) (by unfold maxLen;omega) (by omega) (by rw [World.size_alloc];omega) ?_;intro v' w2 hown' hgrow _)
   go_roundg (gk - n)
   case measure=>omega
   case rel=>exact ⟨k+n,done++[(r,k,n)],by omega,by go_num,by simp;omega,Lib.hid (by rw [HE.out,HST.out,List.drop_drop];simp),by rw [cellsC_append,List.length_append];exact hown',(hb1.alloc hsz _).grown hgrow (by rw [World.size_alloc];omega) (fun j hj=>(hown1.lt j hj).1)⟩
  ·have hkz : ¬ ((k : Int) < (l.length : Int)) := by omega
   have hfin:chars 0 l=done:=by rw [HE.out,show l.drop k=[] from List.drop_eq_nil_of_le (by omega),chars_nil];simp
   have HF:=Lib.hid hfin
   clear hfin
   go_wp2
   go_ret
   rw [← HF.out] at hown
   obtain ⟨P,cp,rfl,hcs⟩:=chars_of hown
   exact ⟨P,cp,rfl,hcs,hb⟩
set_option maxRecDepth 100000 in
set_option maxHeartbeats 2000000 in
theorem rfirst_c {W:World} {A:Option Addr} {c:Nat} {l:List Int} (hs:By W A l) (hl:l.length≤1000000) (hlc:l.length≤c):Calls Tryz.prog 57 #[.slice A l.length c] W fun e W'=>e=.returned (.int .i64 (first l))∧Below W.heap.size W W':=by
 obtain ⟨w,hwW⟩:∃ w,w=W:=⟨_,rfl⟩
 rw [← hwW] at hs ⊢
 clear hwW
 have hcl:=chars_len_le l hs.1 0
 have HS:=Lib.hid hs
 clear hs
 go_enter Tryz.func57,Tryz.ntmps57
 go_wp2_with fail
 refine (rchars_c HS.out hl hlc).mono ?_
 rintro e w1 ⟨P,cp,rfl,hcs,b1⟩
 have HCS:=Lib.hid hcs
 have HFI:Hid (first l=firstOf ((chars 0 l).drop 0)):=Lib.hid rfl
 clear hcs
 generalize chars 0 l=cs at *
 go_wp2
 go_loopg [4] cs.length (fun g s4 wx=>∃ (k:Nat),k+g=cs.length∧s4=.int .i64 k∧Hid (first l=firstOf (cs.drop k))∧w1=wx)
 case atStart=>exact ⟨0,by omega,rfl,HFI,rfl⟩
 case round =>
  obtain ⟨k,hkg,rfl,HF,rfl⟩:=hrel
  cases gk with
  | zero =>
   have hkz:¬ ((k:Int) < (cs.length:Int)):=by omega
   have hfin:first l = -1:=by rw [HF.out,List.drop_eq_nil_of_le (by omega)];rfl
   have HR:=Lib.hid hfin
   clear hfin
   go_wp2
   go_ret
   refine ⟨?_,b1⟩
   rw [HR.out];rfl
  | succ g =>
   have hk:k < cs.length:=by omega
   have hkz:(k:Int) < (cs.length:Int):=by omega
   obtain ⟨b,off,rfl,hbb,hc⟩:=HCS.out (by intro h;rw [h] at hk;simp at hk)
   obtain ⟨c0,c1,_⟩:=hc k hk
   have hdr:cs.drop k=cs[k]::cs.drop (k+1):=(List.getElem_cons_drop hk).symm
   have HDR:=Lib.hid hdr
   clear hc hdr
   generalize cs[k]=y at *
   obtain ⟨r,at0,n0⟩:=y
   dsimp only at *
   by_cases hr:r < 0
   ·have HR : Hid (first l = at0) := Lib.hid (by rw [HF.out, HDR.out, firstOf_bad hr])
    go_wp2
    go_ret
    refine ⟨?_,b1⟩
    rw [HR.out];rfl
   ·have HN : Hid (first l = firstOf (cs.drop (k + 1))) := Lib.hid (by rw [HF.out, HDR.out, firstOf_good (by simp only; omega)])
    go_wp2
    go_roundg g
    case measure=>omega
    case rel=>exact ⟨k+1,by omega,by go_num,HN,rfl⟩
end Go.Proofs.YtioahgklplbinaaGreatDoor.U
