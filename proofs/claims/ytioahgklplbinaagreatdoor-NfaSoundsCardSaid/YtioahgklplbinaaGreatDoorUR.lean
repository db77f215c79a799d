/- UAppend, URlong, URenc, in one text. -/
import Derived.Test.YtioahgklplbinaaGreatDoorWE
import Derived.Laws.BytesArg
import Derived.Lib.SlBytesConst
import Derived.Laws.AppendOwnNone
namespace Go.Proofs.YtioahgklplbinaaGreatDoor.U
open Go.RowKit Go.Shelf UtfM
end Go.Proofs.YtioahgklplbinaaGreatDoor.U
namespace Go.Proofs.YtioahgklplbinaaGreatDoor.U
open Go.RowKit Go.Shelf UtfM
def longF (a:Int):Nat:=match lead a with
 | some s=>s.more+1
 | none=>0
def secondF (a b:Int):Bool :=
 if a=224 then decide (160≤b∧b≤191) else if a=237 then decide (128≤b∧b≤159) else if a=240 then decide (144≤b∧b≤191) else if a=244 then decide (128≤b∧b≤143) else decide (128≤b∧b≤191)
theorem longF1 {a:Int} (h:a < 128):longF a=1:=by unfold longF;rw [lead1 h]
theorem longF2 {a:Int} (h:194≤a) (h2:a≤223):longF a=2:=by unfold longF;rw [lead2 h (by omega)]
theorem longF3 {a:Int} (h:224≤a) (h2:a≤239):longF a=3:=by obtain ⟨lo,hi,e,_⟩:=lead3 h (by omega);unfold longF;rw [e]
theorem longF4 {a:Int} (h:240≤a) (h2:a≤244):longF a=4:=by obtain ⟨lo,hi,e,_⟩:=lead4 h h2;unfold longF;rw [e]
theorem longF0 {a:Int} (h:(128≤a∧a < 194)∨244 < a):longF a=0:=by
 have:lead a=none:=by
  rcases lead_cases a with h1 | h1 | h1 | h1 | h1
  ·omega
  ·exact h1
  ·omega
  ·omega
  ·omega
 unfold longF;rw [this]
set_option maxHeartbeats 1000000 in
theorem long_1 (a:Int) (h:a < 128) (w:World):Calls Tryz.prog 116 #[.int .u8 a] w fun e w'=>e=.returned (.int .i64 1)∧w=w':=by
 have d0:a < 128:=by omega
 go_enter Tryz.func116,Tryz.ntmps116
 go_wp2
 go_ret
 exact ⟨rfl,rfl⟩
set_option maxHeartbeats 1000000 in
theorem long_0a (a:Int) (h:128≤a) (h2:a < 194) (w:World):Calls Tryz.prog 116 #[.int .u8 a] w fun e w'=>e=.returned (.int .i64 0)∧w=w':=by
 have d0:¬ (a < 128):=by omega
 have d1:decide (194≤a)=false:=decide_eq_false (by omega)
 have d2:decide (224≤a)=false:=decide_eq_false (by omega)
 have d3:decide (240≤a)=false:=decide_eq_false (by omega)
 go_enter Tryz.func116,Tryz.ntmps116
 go_wp2
 go_ret
 exact ⟨rfl,rfl⟩
set_option maxHeartbeats 1000000 in
theorem long_2 (a:Int) (h:194≤a) (h2:a≤223) (w:World):Calls Tryz.prog 116 #[.int .u8 a] w fun e w'=>e=.returned (.int .i64 2)∧w=w':=by
 have d0:¬ (a < 128):=by omega
 have d1:decide (194≤a)=true:=decide_eq_true (by omega)
 have d2:decide (a≤223)=true:=decide_eq_true (by omega)
 go_enter Tryz.func116,Tryz.ntmps116
 go_wp2
 go_ret
 exact ⟨rfl,rfl⟩
set_option maxHeartbeats 1000000 in
theorem long_3 (a:Int) (h:224≤a) (h2:a≤239) (w:World):Calls Tryz.prog 116 #[.int .u8 a] w fun e w'=>e=.returned (.int .i64 3)∧w=w':=by
 have d0:¬ (a < 128):=by omega
 have d1:decide (194≤a)=true:=decide_eq_true (by omega)
 have d2:decide (a≤223)=false:=decide_eq_false (by omega)
 have d3:decide (224≤a)=true:=decide_eq_true (by omega)
 have d4:decide (a≤239)=true:=decide_eq_true (by omega)
 go_enter Tryz.func116,Tryz.ntmps116
 go_wp2
 go_ret
 exact ⟨rfl,rfl⟩
set_option maxHeartbeats 1000000 in
theorem long_4 (a:Int) (h:240≤a) (h2:a≤244) (w:World):Calls Tryz.prog 116 #[.int .u8 a] w fun e w'=>e=.returned (.int .i64 4)∧w=w':=by
 have d0:¬ (a < 128):=by omega
 have d1:decide (194≤a)=true:=decide_eq_true (by omega)
 have d2:decide (a≤223)=false:=decide_eq_false (by omega)
 have d3:decide (224≤a)=true:=decide_eq_true (by omega)
 have d4:decide (a≤239)=false:=decide_eq_false (by omega)
 have d5:decide (240≤a)=true:=decide_eq_true (by omega)
 have d6:decide (a≤244)=true:=decide_eq_true (by omega)
 go_enter Tryz.func116,Tryz.ntmps116
 go_wp2
 go_ret
 exact ⟨rfl,rfl⟩
set_option maxHeartbeats 1000000 in
theorem long_0b (a:Int) (h:244 < a) (w:World):Calls Tryz.prog 116 #[.int .u8 a] w fun e w'=>e=.returned (.int .i64 0)∧w=w':=by
 have d0:¬ (a < 128):=by omega
 have d1:decide (194≤a)=true:=decide_eq_true (by omega)
 have d2:decide (a≤223)=false:=decide_eq_false (by omega)
 have d3:decide (224≤a)=true:=decide_eq_true (by omega)
 have d4:decide (a≤239)=false:=decide_eq_false (by omega)
 have d5:decide (240≤a)=true:=decide_eq_true (by omega)
 have d6:decide (a≤244)=false:=decide_eq_false (by omega)
 go_enter Tryz.func116,Tryz.ntmps116
 go_wp2
 go_ret
 exact ⟨rfl,rfl⟩
theorem long_c (a:Int) (w:World):Calls Tryz.prog 116 #[.int .u8 a] w fun e w'=>e=.returned (.int .i64 (longF a:Int))∧w=w':=by
 by_cases h1:a < 128
 ·rw [longF1 h1];exact long_1 a h1 w
 by_cases h2:a < 194
 ·rw [longF0 (.inl ⟨by omega,h2⟩)];exact long_0a a (by omega) h2 w
 by_cases h3:a≤223
 ·rw [longF2 (by omega) h3];exact long_2 a (by omega) h3 w
 by_cases h4:a≤239
 ·rw [longF3 (by omega) h4];exact long_3 a (by omega) h4 w
 by_cases h5:a≤244
 ·rw [longF4 (by omega) h5];exact long_4 a (by omega) h5 w
 rw [longF0 (.inr (by omega))];exact long_0b a (by omega) w
set_option maxHeartbeats 1000000 in
theorem second_0_0 (a b:Int) (h0:(a=224)) (p:160≤b) (q:b≤191) (w:World):Calls Tryz.prog 117 #[.int .u8 a,.int .u8 b] w fun e w'=>e=.returned (.bool true)∧w=w':=by
 have t0:(a == 224)=true:=by rw [beq_iff_eq];exact h0
 have dp:decide (160≤b)=true:=decide_eq_true p
 have dq:decide (b≤191)=true:=decide_eq_true q
 clear h0
 go_enter Tryz.func117,Tryz.ntmps117
 go_wp2
 go_ret
 exact ⟨rfl,rfl⟩
set_option maxHeartbeats 1000000 in
theorem second_0_1 (a b:Int) (h0:(a=224)) (p:160≤b) (q:¬ (b≤191)) (w:World):Calls Tryz.prog 117 #[.int .u8 a,.int .u8 b] w fun e w'=>e=.returned (.bool false)∧w=w':=by
 have t0:(a == 224)=true:=by rw [beq_iff_eq];exact h0
 have dp:decide (160≤b)=true:=decide_eq_true p
 have dq:decide (b≤191)=false:=decide_eq_false q
 clear h0
 go_enter Tryz.func117,Tryz.ntmps117
 go_wp2
 go_ret
 exact ⟨rfl,rfl⟩
set_option maxHeartbeats 1000000 in
theorem second_0_2 (a b:Int) (h0:(a=224)) (p:¬ (160≤b)) (w:World):Calls Tryz.prog 117 #[.int .u8 a,.int .u8 b] w fun e w'=>e=.returned (.bool false)∧w=w':=by
 have t0:(a == 224)=true:=by rw [beq_iff_eq];exact h0
 have dp:decide (160≤b)=false:=decide_eq_false p
 clear h0
 go_enter Tryz.func117,Tryz.ntmps117
 go_wp2
 go_ret
 exact ⟨rfl,rfl⟩
set_option maxHeartbeats 1000000 in
theorem second_1_0 (a b:Int) (h0:¬ (a=224)) (h1:(a=237)) (p:128≤b) (q:b≤159) (w:World):Calls Tryz.prog 117 #[.int .u8 a,.int .u8 b] w fun e w'=>e=.returned (.bool true)∧w=w':=by
 have t0:(a == 224)=false:=by rw [beq_eq_false_iff_ne];exact h0
 have t1:(a == 237)=true:=by rw [beq_iff_eq];exact h1
 have dp:decide (128≤b)=true:=decide_eq_true p
 have dq:decide (b≤159)=true:=decide_eq_true q
 clear h0 h1
 go_enter Tryz.func117,Tryz.ntmps117
 go_wp2
 go_ret
 exact ⟨rfl,rfl⟩
set_option maxHeartbeats 1000000 in
theorem second_1_1 (a b:Int) (h0:¬ (a=224)) (h1:(a=237)) (p:128≤b) (q:¬ (b≤159)) (w:World):Calls Tryz.prog 117 #[.int .u8 a,.int .u8 b] w fun e w'=>e=.returned (.bool false)∧w=w':=by
 have t0:(a == 224)=false:=by rw [beq_eq_false_iff_ne];exact h0
 have t1:(a == 237)=true:=by rw [beq_iff_eq];exact h1
 have dp:decide (128≤b)=true:=decide_eq_true p
 have dq:decide (b≤159)=false:=decide_eq_false q
 clear h0 h1
 go_enter Tryz.func117,Tryz.ntmps117
 go_wp2
 go_ret
 exact ⟨rfl,rfl⟩
set_option maxHeartbeats 1000000 in
theorem second_1_2 (a b:Int) (h0:¬ (a=224)) (h1:(a=237)) (p:¬ (128≤b)) (w:World):Calls Tryz.prog 117 #[.int .u8 a,.int .u8 b] w fun e w'=>e=.returned (.bool false)∧w=w':=by
 have t0:(a == 224)=false:=by rw [beq_eq_false_iff_ne];exact h0
 have t1:(a == 237)=true:=by rw [beq_iff_eq];exact h1
 have dp:decide (128≤b)=false:=decide_eq_false p
 clear h0 h1
 go_enter Tryz.func117,Tryz.ntmps117
 go_wp2
 go_ret
 exact ⟨rfl,rfl⟩
set_option maxHeartbeats 1000000 in
theorem second_2_0 (a b:Int) (h0:¬ (a=224)) (h1:¬ (a=237)) (h2:(a=240)) (p:144≤b) (q:b≤191) (w:World):Calls Tryz.prog 117 #[.int .u8 a,.int .u8 b] w fun e w'=>e=.returned (.bool true)∧w=w':=by
 have t0:(a == 224)=false:=by rw [beq_eq_false_iff_ne];exact h0
 have t1:(a == 237)=false:=by rw [beq_eq_false_iff_ne];exact h1
 have t2:(a == 240)=true:=by rw [beq_iff_eq];exact h2
 have dp:decide (144≤b)=true:=decide_eq_true p
 have dq:decide (b≤191)=true:=decide_eq_true q
 clear h0 h1 h2
 go_enter Tryz.func117,Tryz.ntmps117
 go_wp2
 go_ret
 exact ⟨rfl,rfl⟩
set_option maxHeartbeats 1000000 in
theorem second_2_1 (a b:Int) (h0:¬ (a=224)) (h1:¬ (a=237)) (h2:(a=240)) (p:144≤b) (q:¬ (b≤191)) (w:World):Calls Tryz.prog 117 #[.int .u8 a,.int .u8 b] w fun e w'=>e=.returned (.bool false)∧w=w':=by
 have t0:(a == 224)=false:=by rw [beq_eq_false_iff_ne];exact h0
 have t1:(a == 237)=false:=by rw [beq_eq_false_iff_ne];exact h1
 have t2:(a == 240)=true:=by rw [beq_iff_eq];exact h2
 have dp:decide (144≤b)=true:=decide_eq_true p
 have dq:decide (b≤191)=false:=decide_eq_false q
 clear h0 h1 h2
 go_enter Tryz.func117,Tryz.ntmps117
 go_wp2
 go_ret
 exact ⟨rfl,rfl⟩
set_option maxHeartbeats 1000000 in
theorem second_2_2 (a b:Int) (h0:¬ (a=224)) (h1:¬ (a=237)) (h2:(a=240)) (p:¬ (144≤b)) (w:World):Calls Tryz.prog 117 #[.int .u8 a,.int .u8 b] w fun e w'=>e=.returned (.bool false)∧w=w':=by
 have t0:(a == 224)=false:=by rw [beq_eq_false_iff_ne];exact h0
 have t1:(a == 237)=false:=by rw [beq_eq_false_iff_ne];exact h1
 have t2:(a == 240)=true:=by rw [beq_iff_eq];exact h2
 have dp:decide (144≤b)=false:=decide_eq_false p
 clear h0 h1 h2
 go_enter Tryz.func117,Tryz.ntmps117
 go_wp2
 go_ret
 exact ⟨rfl,rfl⟩
set_option maxHeartbeats 1000000 in
theorem second_3_0 (a b:Int) (h0:¬ (a=224)) (h1:¬ (a=237)) (h2:¬ (a=240)) (h3:(a=244)) (p:128≤b) (q:b≤143) (w:World):Calls Tryz.prog 117 #[.int .u8 a,.int .u8 b] w fun e w'=>e=.returned (.bool true)∧w=w':=by
 have t0:(a == 224)=false:=by rw [beq_eq_false_iff_ne];exact h0
 have t1:(a == 237)=false:=by rw [beq_eq_false_iff_ne];exact h1
 have t2:(a == 240)=false:=by rw [beq_eq_false_iff_ne];exact h2
 have t3:(a == 244)=true:=by rw [beq_iff_eq];exact h3
 have dp:decide (128≤b)=true:=decide_eq_true p
 have dq:decide (b≤143)=true:=decide_eq_true q
 clear h0 h1 h2 h3
 go_enter Tryz.func117,Tryz.ntmps117
 go_wp2
 go_ret
 exact ⟨rfl,rfl⟩
set_option maxHeartbeats 1000000 in
theorem second_3_1 (a b:Int) (h0:¬ (a=224)) (h1:¬ (a=237)) (h2:¬ (a=240)) (h3:(a=244)) (p:128≤b) (q:¬ (b≤143)) (w:World):Calls Tryz.prog 117 #[.int .u8 a,.int .u8 b] w fun e w'=>e=.returned (.bool false)∧w=w':=by
 have t0:(a == 224)=false:=by rw [beq_eq_false_iff_ne];exact h0
 have t1:(a == 237)=false:=by rw [beq_eq_false_iff_ne];exact h1
 have t2:(a == 240)=false:=by rw [beq_eq_false_iff_ne];exact h2
 have t3:(a == 244)=true:=by rw [beq_iff_eq];exact h3
 have dp:decide (128≤b)=true:=decide_eq_true p
 have dq:decide (b≤143)=false:=decide_eq_false q
 clear h0 h1 h2 h3
 go_enter Tryz.func117,Tryz.ntmps117
 go_wp2
 go_ret
 exact ⟨rfl,rfl⟩
set_option maxHeartbeats 1000000 in
theorem second_3_2 (a b:Int) (h0:¬ (a=224)) (h1:¬ (a=237)) (h2:¬ (a=240)) (h3:(a=244)) (p:¬ (128≤b)) (w:World):Calls Tryz.prog 117 #[.int .u8 a,.int .u8 b] w fun e w'=>e=.returned (.bool false)∧w=w':=by
 have t0:(a == 224)=false:=by rw [beq_eq_false_iff_ne];exact h0
 have t1:(a == 237)=false:=by rw [beq_eq_false_iff_ne];exact h1
 have t2:(a == 240)=false:=by rw [beq_eq_false_iff_ne];exact h2
 have t3:(a == 244)=true:=by rw [beq_iff_eq];exact h3
 have dp:decide (128≤b)=false:=decide_eq_false p
 clear h0 h1 h2 h3
 go_enter Tryz.func117,Tryz.ntmps117
 go_wp2
 go_ret
 exact ⟨rfl,rfl⟩
set_option maxHeartbeats 1000000 in
theorem second_4_0 (a b:Int) (h0:¬ (a=224)) (h1:¬ (a=237)) (h2:¬ (a=240)) (h3:¬ (a=244)) (p:128≤b) (q:b≤191) (w:World):Calls Tryz.prog 117 #[.int .u8 a,.int .u8 b] w fun e w'=>e=.returned (.bool true)∧w=w':=by
 have t0:(a == 224)=false:=by rw [beq_eq_false_iff_ne];exact h0
 have t1:(a == 237)=false:=by rw [beq_eq_false_iff_ne];exact h1
 have t2:(a == 240)=false:=by rw [beq_eq_false_iff_ne];exact h2
 have t3:(a == 244)=false:=by rw [beq_eq_false_iff_ne];exact h3
 have dp:decide (128≤b)=true:=decide_eq_true p
 have dq:decide (b≤191)=true:=decide_eq_true q
 clear h0 h1 h2 h3
 go_enter Tryz.func117,Tryz.ntmps117
 go_wp2
 go_ret
 exact ⟨rfl,rfl⟩
set_option maxHeartbeats 1000000 in
theorem second_4_1 (a b:Int) (h0:¬ (a=224)) (h1:¬ (a=237)) (h2:¬ (a=240)) (h3:¬ (a=244)) (p:128≤b) (q:¬ (b≤191)) (w:World):Calls Tryz.prog 117 #[.int .u8 a,.int .u8 b] w fun e w'=>e=.returned (.bool false)∧w=w':=by
 have t0:(a == 224)=false:=by rw [beq_eq_false_iff_ne];exact h0
 have t1:(a == 237)=false:=by rw [beq_eq_false_iff_ne];exact h1
 have t2:(a == 240)=false:=by rw [beq_eq_false_iff_ne];exact h2
 have t3:(a == 244)=false:=by rw [beq_eq_false_iff_ne];exact h3
 have dp:decide (128≤b)=true:=decide_eq_true p
 have dq:decide (b≤191)=false:=decide_eq_false q
 clear h0 h1 h2 h3
 go_enter Tryz.func117,Tryz.ntmps117
 go_wp2
 go_ret
 exact ⟨rfl,rfl⟩
set_option maxHeartbeats 1000000 in
theorem second_4_2 (a b:Int) (h0:¬ (a=224)) (h1:¬ (a=237)) (h2:¬ (a=240)) (h3:¬ (a=244)) (p:¬ (128≤b)) (w:World):Calls Tryz.prog 117 #[.int .u8 a,.int .u8 b] w fun e w'=>e=.returned (.bool false)∧w=w':=by
 have t0:(a == 224)=false:=by rw [beq_eq_false_iff_ne];exact h0
 have t1:(a == 237)=false:=by rw [beq_eq_false_iff_ne];exact h1
 have t2:(a == 240)=false:=by rw [beq_eq_false_iff_ne];exact h2
 have t3:(a == 244)=false:=by rw [beq_eq_false_iff_ne];exact h3
 have dp:decide (128≤b)=false:=decide_eq_false p
 clear h0 h1 h2 h3
 go_enter Tryz.func117,Tryz.ntmps117
 go_wp2
 go_ret
 exact ⟨rfl,rfl⟩
theorem second_c (a b:Int) (w:World):Calls Tryz.prog 117 #[.int .u8 a,.int .u8 b] w fun e w'=>e=.returned (.bool (secondF a b))∧w=w':=by
 unfold secondF
 by_cases h0:a=224
 ·rw [if_pos h0]
  by_cases p:160≤b
  ·by_cases q : b ≤ 191
   ·rw [decide_eq_true (show 160≤b∧b≤191 from ⟨p,q⟩)];exact second_0_0 a b h0 p q w
   ·rw [decide_eq_false (show ¬ (160≤b∧b≤191) from fun h=>q h.2)];exact second_0_1 a b h0 p q w
  ·rw [decide_eq_false (show ¬ (160≤b∧b≤191) from fun h=>p h.1)];exact second_0_2 a b h0 p w
 rw [if_neg h0]
 by_cases h1:a=237
 ·rw [if_pos h1]
  by_cases p:128≤b
  ·by_cases q : b ≤ 159
   ·rw [decide_eq_true (show 128≤b∧b≤159 from ⟨p,q⟩)];exact second_1_0 a b h0 h1 p q w
   ·rw [decide_eq_false (show ¬ (128≤b∧b≤159) from fun h=>q h.2)];exact second_1_1 a b h0 h1 p q w
  ·rw [decide_eq_false (show ¬ (128≤b∧b≤159) from fun h=>p h.1)];exact second_1_2 a b h0 h1 p w
 rw [if_neg h1]
 by_cases h2:a=240
 ·rw [if_pos h2]
  by_cases p:144≤b
  ·by_cases q : b ≤ 191
   ·rw [decide_eq_true (show 144≤b∧b≤191 from ⟨p,q⟩)];exact second_2_0 a b h0 h1 h2 p q w
   ·rw [decide_eq_false (show ¬ (144≤b∧b≤191) from fun h=>q h.2)];exact second_2_1 a b h0 h1 h2 p q w
  ·rw [decide_eq_false (show ¬ (144≤b∧b≤191) from fun h=>p h.1)];exact second_2_2 a b h0 h1 h2 p w
 rw [if_neg h2]
 by_cases h3:a=244
 ·rw [if_pos h3]
  by_cases p:128≤b
  ·by_cases q : b ≤ 143
   ·rw [decide_eq_true (show 128≤b∧b≤143 from ⟨p,q⟩)];exact second_3_0 a b h0 h1 h2 h3 p q w
   ·rw [decide_eq_false (show ¬ (128≤b∧b≤143) from fun h=>q h.2)];exact second_3_1 a b h0 h1 h2 h3 p q w
  ·rw [decide_eq_false (show ¬ (128≤b∧b≤143) from fun h=>p h.1)];exact second_3_2 a b h0 h1 h2 h3 p w
 rw [if_neg h3]
 by_cases p:128≤b
 ·by_cases q : b ≤ 191
  ·rw [decide_eq_true (show 128≤b∧b≤191 from ⟨p,q⟩)];exact second_4_0 a b h0 h1 h2 h3 p q w
  ·rw [decide_eq_false (show ¬ (128≤b∧b≤191) from fun h=>q h.2)];exact second_4_1 a b h0 h1 h2 h3 p q w
 ·rw [decide_eq_false (show ¬ (128≤b∧b≤191) from fun h=>p h.1)];exact second_4_2 a b h0 h1 h2 h3 p w
end Go.Proofs.YtioahgklplbinaaGreatDoor.U
namespace Go.Proofs.YtioahgklplbinaaGreatDoor.U
open Go.RowKit Go.Shelf UtfM
set_option maxRecDepth 100000 in
set_option maxHeartbeats 1000000 in
theorem renc_low (r:Int) (h:r < 0) (w:World):Calls Tryz.prog 149 #[.int .i64 r] w (EncNew w r):=by
 have HS:=Lib.hid (enc0 (r:=r) (by unfold Sc;omega))
 go_enter Tryz.func149,Tryz.ntmps149
 go_wp2
 go_ret
 exact ⟨none,0,by rw [HS.out];rfl,by rw [HS.out];exact By.nil,by rw [HS.out];simp,by omega,fun _=>rfl,fun _=>rfl,(fun a ha=>by cases ha),Below.refl _ _⟩
set_option maxRecDepth 100000 in
set_option maxHeartbeats 1000000 in
theorem renc_high (r:Int) (h:1114111 < r) (w:World):Calls Tryz.prog 149 #[.int .i64 r] w (EncNew w r):=by
 have HS:=Lib.hid (enc0 (r:=r) (by unfold Sc;omega))
 have d0:¬ (r < 0):=by omega
 go_enter Tryz.func149,Tryz.ntmps149
 go_wp2
 go_ret
 exact ⟨none,0,by rw [HS.out];rfl,by rw [HS.out];exact By.nil,by rw [HS.out];simp,by omega,fun _=>rfl,fun _=>rfl,(fun a ha=>by cases ha),Below.refl _ _⟩
set_option maxRecDepth 100000 in
set_option maxHeartbeats 1000000 in
theorem renc_gap (r:Int) (h:55296≤r) (h2:r≤57343) (w:World):Calls Tryz.prog 149 #[.int .i64 r] w (EncNew w r):=by
 have HS:=Lib.hid (enc0 (r:=r) (by unfold Sc;omega))
 have d0:¬ (r < 0):=by omega
 have d1:¬ (1114111 < r):=by omega
 go_enter Tryz.func149,Tryz.ntmps149
 go_wp2
 go_ret
 exact ⟨none,0,by rw [HS.out];rfl,by rw [HS.out];exact By.nil,by rw [HS.out];simp,by omega,fun _=>rfl,fun _=>rfl,(fun a ha=>by cases ha),Below.refl _ _⟩
set_option maxRecDepth 100000 in
set_option maxHeartbeats 1000000 in
theorem renc_one (r:Int) (h:0≤r) (h2:r < 128) (w:World):Calls Tryz.prog 149 #[.int .i64 r] w (EncNew w r):=by
 have d0:¬ (r < 0):=by omega
 have d1:¬ (1114111 < r):=by omega
 have d2:¬ (55296≤r):=by omega
 go_enter Tryz.func149,Tryz.ntmps149
 go_wp2
 go_ret
 refine enc_shut w r [r] 1 (enc1 (by unfold Sc;omega) h2) rfl (by omega) (by omega) _ ?_
 simp
set_option maxRecDepth 100000 in
set_option maxHeartbeats 1000000 in
theorem renc_two (r:Int) (h:128≤r) (h2:r < 2048) (w:World):Calls Tryz.prog 149 #[.int .i64 r] w (EncNew w r):=by
 have d0:¬ (r < 0):=by omega
 have d1:¬ (1114111 < r):=by omega
 have d2:¬ (55296≤r):=by omega
 have d3:¬ (r < 128):=by omega
 go_enter Tryz.func149,Tryz.ntmps149
 go_wp2
 go_ret
 refine enc_shut w r [192+r / 64,128+r % 64] 2 (enc2 (by unfold Sc;omega) h h2) rfl (by omega) (by omega) _ ?_
 simp
set_option maxRecDepth 100000 in
set_option maxHeartbeats 1000000 in
theorem renc_three (r:Int) (h:2048≤r) (h2:r < 55296) (w:World):Calls Tryz.prog 149 #[.int .i64 r] w (EncNew w r):=by
 have d0:¬ (r < 0):=by omega
 have d1:¬ (1114111 < r):=by omega
 have d2:¬ (55296≤r):=by omega
 have d3:¬ (r < 128):=by omega
 have d4:¬ (r < 2048):=by omega
 have d5:r < 65536:=by omega
 go_enter Tryz.func149,Tryz.ntmps149
 go_wp2
 go_ret
 refine enc_shut w r [224+r / 4096,128+r / 64 % 64,128+r % 64] 3 (enc3 (by unfold Sc;omega) h (by omega)) rfl (by omega) (by omega) _ ?_
 simp
set_option maxRecDepth 100000 in
set_option maxHeartbeats 1000000 in
theorem renc_threeb (r:Int) (h:57344≤r) (h2:r < 65536) (w:World):Calls Tryz.prog 149 #[.int .i64 r] w (EncNew w r):=by
 have d0:¬ (r < 0):=by omega
 have d1:¬ (1114111 < r):=by omega
 have d2:55296≤r:=by omega
 have d6:¬ (r≤57343):=by omega
 have d3:¬ (r < 128):=by omega
 have d4:¬ (r < 2048):=by omega
 go_enter Tryz.func149,Tryz.ntmps149
 go_wp2
 go_ret
 refine enc_shut w r [224+r / 4096,128+r / 64 % 64,128+r % 64] 3 (enc3 (by unfold Sc;omega) (by omega) h2) rfl (by omega) (by omega) _ ?_
 simp
set_option maxRecDepth 100000 in
set_option maxHeartbeats 1000000 in
theorem renc_four (r:Int) (h:65536≤r) (h2:r≤1114111) (w:World):Calls Tryz.prog 149 #[.int .i64 r] w (EncNew w r):=by
 have d0:¬ (r < 0):=by omega
 have d1:¬ (1114111 < r):=by omega
 have d2:55296≤r:=by omega
 have d6:¬ (r≤57343):=by omega
 have d3:¬ (r < 128):=by omega
 have d4:¬ (r < 2048):=by omega
 have d5:¬ (r < 65536):=by omega
 go_enter Tryz.func149,Tryz.ntmps149
 go_wp2
 go_ret
 refine enc_shut w r [240+r / 262144,128+r / 4096 % 64,128+r / 64 % 64,128+r % 64] 4 (enc4 (by unfold Sc;omega) h) rfl (by omega) (by omega) _ ?_
 simp
theorem renc_c (r:Int) (w:World):Calls Tryz.prog 149 #[.int .i64 r] w (EncPost w r):=by
 have key:Calls Tryz.prog 149 #[.int .i64 r] w (EncNew w r):=by
  by_cases h0:r < 0
  ·exact renc_low r h0 w
  by_cases h1:1114111 < r
  ·exact renc_high r h1 w
  by_cases h2:r < 128
  ·exact renc_one r (by omega) h2 w
  by_cases h3:r < 2048
  ·exact renc_two r (by omega) h3 w
  by_cases h4:r < 55296
  ·exact renc_three r (by omega) h4 w
  by_cases h5:r≤57343
  ·exact renc_gap r (by omega) h5 w
  by_cases h6:r < 65536
  ·exact renc_threeb r (by omega) h6 w
  exact renc_four r (by omega) (by omega) w
 exact key.mono fun _ _ ⟨P,c,h1,h2,h3,h4,h5,h6,_,h7⟩=>⟨P,c,h1,h2,h3,h4,h5,h6,h7⟩
end Go.Proofs.YtioahgklplbinaaGreatDoor.U
