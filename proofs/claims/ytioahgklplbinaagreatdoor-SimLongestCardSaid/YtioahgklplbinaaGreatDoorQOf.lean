/- The document's own Union and Of: what they hand back lies in new memory. -/
import Derived.Test.YtioahgklplbinaaGreatDoorPROf
import Derived.Test.YtioahgklplbinaaGreatDoorRR
namespace Go.Proofs.YtioahgklplbinaaGreatDoor
open Go.RowKit Go.Shelf Go.Maps SetM PropsM
set_option maxRecDepth 100000 in
set_option maxHeartbeats 2000000 in
theorem runion_new (A : Option Addr) (ca : Nat) (ls : List (List Sp)) (hl : ls.length ≤ 20) (ht : total ls ≤ 20000) (hw : ∀ a ∈ ls, Wide a) (w : World) (hR : RowsAt w.heap.size w A ls) :
  Calls Tryz.prog 163 #[.slice A ls.length ca] w (SetNew w (fun r=>∃ a∈ls,Tells a r) 40004):=by
 have HR:=Lib.hid hR
 have HW:=Lib.hid hw
 have HT:=Lib.hid ht
 clear hR hw ht
 go_enter Tryz.func163,Tryz.ntmps163
 go_wp2
 go_loopg [3,4] ls.length (fun g s3 s4 wx=>∃ (k:Nat) (P:Option Addr) (c:Nat) (o:List Sp),k+g=ls.length∧s4=.int .i64 k∧s3=.slice P o.length c∧Hid (IsSet o (fun r=>∃ a∈ls.take k,Tells a r))∧Sl wx P o∧(P=none→c=0)∧(∀ a,P=some a→w.heap.size≤a.block)∧Below w.heap.size w wx)
 case atStart=>exact ⟨0,none,0,[],by omega,rfl,rfl,Lib.hid ⟨trivial,fun r=>by simp [Mem]⟩,Spans.nil,fun _=>rfl,(fun a h=>by cases h),Below.refl _ _⟩
 case round =>
  obtain ⟨k,P,c,o,hkg,rfl,rfl,HI,hs,hc,hf,hb⟩:=hrel
  cases gk with
  | zero =>
   have hkz:¬ ((k:Int) < (ls.length:Int)):=by omega
   have hI:IsSet o (fun r=>∃ a∈ls,Tells a r):=by have:=HI.out;rwa [List.take_of_length_le (by omega)] at this
   have hlen:=unionSet_len HI.out HT.out
   have HI2:=Lib.hid hI
   have HS:=Lib.hid hs
   clear hI hs
   go_wp2
   go_ret
   exact ⟨P,c,o,rfl,HI2.out,hlen,HS.out,hc,hf,hb⟩
  | succ g =>
   have hk:k < ls.length:=by omega
   have hkz:(k:Int) < (ls.length:Int):=by omega
   obtain ⟨b,off,rfl,hbb,hrow⟩:=HR.out (by intro h;rw [h] at hk;simp at hk)
   obtain ⟨Q,d,h1,h2,h3⟩:=hrow k hk
   have c0:=(hb.cell (p:=⟨b,off+k,none⟩) hbb).trans h1
   have hlo:=unionSet_len HI.out HT.out
   have hlk:ls[k].length≤20000:=by
    have e:=total_take ls k hk
    have h4:(flat (ls.take (k+1))).length≤total ls:=by
     unfold total flat
     have e:ls.flatten=(ls.take (k+1)).flatten++(ls.drop (k+1)).flatten:=by rw [← List.flatten_append,List.take_append_drop]
     rw [e,List.length_append];omega
    rw [e,List.length_append] at h4
    have:=HT.out
    omega
   have hsq:Sl wr Q ls[k]:=(Spans.below hb h2).mono hb.size
   have HMK:=Lib.hid (rmake_any P Q c d o ls[k] 14 (by simp) (by omega) (by omega) (unionSet_wide HI.out) (HW.out _ (List.getElem_mem hk)) wr hs hsq)
   have HNX:=Lib.hid (fun (o':List Sp) h'=>unionSet_next (o':=o') hk HI.out h')
   clear hrow h1 h2 hs hsq
   generalize ls[k]=lk at *
   go_wp2_with fail
   refine HMK.out.mono ?_
   rintro e w' h
   obtain ⟨P2,c2,o2,rfl,i2,_,s2,z2,f2,b2⟩:=h.toNew
   have hf2:∀ a,P2=some a→w.heap.size≤a.block:=fun a ha=>Nat.le_trans hb.size (f2 a ha)
   have HI2:=Lib.hid (HNX.out o2 i2)
   have hb2:=hb.trans (b2.mono hb.size)
   clear i2 b2 hb HMK HNX
   go_wp2
   go_roundg g
   case measure=>omega
   case rel=>exact ⟨k+1,P2,c2,o2,by omega,by go_num,rfl,HI2,s2,z2,hf2,hb2⟩
def ROfN (W:World) (i:Nat) (e:Ending) (W':World):Prop :=
 ∃ P c out,e=.returned (.tuple #[.slice P (List.length out) c,.bool true])∧IsSet out (fun r=>Tells (gathOf i) r)∧out.length≤104∧Sl W' P out∧(P=none→c=0)∧(∀ a,P=some a→W.heap.size≤a.block)∧Below W.heap.size W W'
theorem ROfN.of {W W':World} {i:Nat} {P:Option Addr} {c:Nat} {out:List Sp} (h1:IsSet out (fun r=>Tells (gathOf i) r)) (hi:i < 13) (h3:Sl W' P out) (h4:P=none→c=0) (h5:∀ a,P=some a→W.heap.size≤a.block) (h6:Below W.heap.size W W'):ROfN W i (.returned (.tuple #[.slice P out.length c,.bool true])) W' :=
 ⟨P,c,out,rfl,h1,by have:=nf_len (l:=gathOf i) h1.1 h1.2;have:=gath_len i hi;omega,h3,h4,h5,h6⟩
set_option maxRecDepth 100000 in
set_option maxHeartbeats 1000000 in
theorem rofn_leaf (s : ByteArray) (hs : s.data.toList.length ≤ 1000000) (i : Nat) (h9 : i ≠ 9) (h12 : i ≠ 12) (hi : whichF (looseL s.data.toList) = some i) (w : World) :
  Calls Tryz.prog 150 #[.string s] w (ROfN w i):=by
 obtain ⟨hi13,hnm⟩:=which_some hi
 have hn9:(nameOf i == [108,101,116,116,101,114])=false:=name_ne i 9 hi13 (by omega) h9
 have hn12:(nameOf i == [119,111,114,100])=false:=name_ne i 12 hi13 (by omega) h12
 have HEI:Hid (∀ w:World,Calls Tryz.prog 162 #[.string ⟨(nameOf i).toArray⟩] w fun e w'=>∃ P c n,e=.returned (.slice P n c)∧n=2*(runsOf i).length∧Ints w'.heap.size w' P (flatS (runsOf i))∧Below w.heap.size w w'):=Lib.hid (ends_c i hi13 h9 h12)
 have HWI:=Lib.hid (runs_wide i hi13)
 have HI13:=Lib.hid hi13
 have HLI:Hid ((runsOf i).length≤10):=Lib.hid (runs_len i hi13).1
 have HGL:=Lib.hid (gath_leaf i h9 h12)
 have HNE:Hid (∀ k,k < 13→k≠i→(nameOf k == nameOf i)=false):=Lib.hid (fun k hk h=>name_ne k i hk hi13 h)
 clear hi h9 h12
 have HL:=Lib.hid (rloose_any s hs)
 rw [← hnm] at HL
 clear hnm
 go_enter Tryz.func150,Tryz.ntmps150
 go_wp2_with fail
 refine (HL.out _).mono ?_
 rintro e w1 ⟨rfl,b1⟩
 go_wp2_with fail
 refine (rnames_any _).mono ?_
 rintro e w2 ⟨PN,cN,rfl,sN,b2'⟩
 have b2:=b1.trans (b2'.mono b1.size)
 have HSN:=Lib.hid sN
 have HB2:=Lib.hid b2
 clear b1 b2' b2 sN HL
 obtain ⟨bN,oN,rfl,hbN,hcN⟩:=HSN.out (by decide)
 have HCN:=Lib.hid hcN
 clear hcN HSN
 go_wp2
 go_loopg [6] 13 (fun g s6 wx=>∃ k:Nat,k+g=13∧k≤i∧s6=.int .i64 k∧wx=w2)
 case atStart=>exact ⟨0,by omega,by omega,rfl,rfl⟩
 case round =>
  obtain ⟨k,hkg,hki,rfl,rfl⟩:=hrel
  cases gk with
  | zero=>omega
  | succ g =>
   have hk:k < 13:=by omega
   have hkz:(k:Int) < 13:=by omega
   have cN:=HCN.out k hk
   rw [names_at' k hk] at cN
   by_cases hki2:k=i
   ·subst hki2
    have heq:(nameOf k == nameOf k)=true:=beq_self_eq_true _
    go_wp2_with fail
    refine (HEI.out _).mono ?_
    rintro e w3 ⟨Q,d,n,rfl,hn,iA,bA⟩
    have HN:=Lib.hid hn
    have HIA:=Lib.hid iA
    clear hn iA
    go_wp2_with fail
    refine (rspans_any Q d n _ HN.out (by have:=HLI.out;omega) _ HIA.out).mono ?_
    rintro e w4 ⟨P4,c4,rfl,s4,p4,bB⟩
    have HB4:=Lib.hid ((HB2.out.trans (bA.mono HB2.out.size)).trans (bB.mono (by have:=HB2.out.size;have:=bA.size;omega)))
    have HS4:=Lib.hid s4
    clear bA bB s4 p4 HN HIA
    go_wp2_with fail
    refine (rnorm_n HS4.out (by have:=HLI.out;omega) HWI.out).mono ?_
    rintro e w5 ⟨P5,c5,o5,rfl,is5,l5,s5,p5,f5,b5⟩
    go_wp2
    go_ret2
    exact ROfN.of (by rw [HGL.out];exact is5) HI13.out s5 p5 (fun a h=>Nat.le_trans HB4.out.size (f5 a h)) (HB4.out.trans (b5.mono HB4.out.size))
   ·have hne := HNE.out k hk hki2
    go_wp2
    go_roundg g
    case measure=>omega
    case rel=>exact ⟨k+1,by omega,by omega,by go_num,rfl⟩
set_option maxRecDepth 100000 in
set_option maxHeartbeats 1000000 in
theorem rofn_letter (s : ByteArray) (hs : s.data.toList.length ≤ 1000000) (hi : whichF (looseL s.data.toList) = some 9) (w : World) :
  Calls Tryz.prog 150 #[.string s] w (ROfN w 9):=by
 obtain ⟨hi13,hnm⟩:=which_some hi
 have HE8:Hid (∀ w:World,Calls Tryz.prog 162 #[.string ⟨#[108,97,116,105,110]⟩] w fun e w'=>∃ P c n,e=.returned (.slice P n c)∧n=2*(runsOf 8).length∧Ints w'.heap.size w' P (flatS (runsOf 8))∧Below w.heap.size w w'):=Lib.hid (ends_c 8 (by omega) (by omega) (by omega))
 have HWI8:=Lib.hid (runs_wide 8 (by omega))
 have HLE8:Hid ((runsOf 8).length≤1000):=Lib.hid (by decide)
 have HE5:Hid (∀ w:World,Calls Tryz.prog 162 #[.string ⟨#[103,114,101,101,107]⟩] w fun e w'=>∃ P c n,e=.returned (.slice P n c)∧n=2*(runsOf 5).length∧Ints w'.heap.size w' P (flatS (runsOf 5))∧Below w.heap.size w w'):=Lib.hid (ends_c 5 (by omega) (by omega) (by omega))
 have HWI5:=Lib.hid (runs_wide 5 (by omega))
 have HLE5:Hid ((runsOf 5).length≤1000):=Lib.hid (by decide)
 have HE3:Hid (∀ w:World,Calls Tryz.prog 162 #[.string ⟨#[99,121,114,105,108,108,105,99]⟩] w fun e w'=>∃ P c n,e=.returned (.slice P n c)∧n=2*(runsOf 3).length∧Ints w'.heap.size w' P (flatS (runsOf 3))∧Below w.heap.size w w'):=Lib.hid (ends_c 3 (by omega) (by omega) (by omega))
 have HWI3:=Lib.hid (runs_wide 3 (by omega))
 have HLE3:Hid ((runsOf 3).length≤1000):=Lib.hid (by decide)
 have HE6:Hid (∀ w:World,Calls Tryz.prog 162 #[.string ⟨#[104,97,110]⟩] w fun e w'=>∃ P c n,e=.returned (.slice P n c)∧n=2*(runsOf 6).length∧Ints w'.heap.size w' P (flatS (runsOf 6))∧Below w.heap.size w w'):=Lib.hid (ends_c 6 (by omega) (by omega) (by omega))
 have HWI6:=Lib.hid (runs_wide 6 (by omega))
 have HLE6:Hid ((runsOf 6).length≤1000):=Lib.hid (by decide)
 have HG:Hid (∀ r,Tells (gathOf 9) r↔∃ a∈[runsOf 8,runsOf 5,runsOf 3,runsOf 6],Tells a r):=Lib.hid (fun r=>by
  rw [show gathOf 9=runsOf 8++runsOf 5++runsOf 3++runsOf 6 from rfl,tells_app,tells_app,tells_app];simp [or_assoc])
 have HTT:Hid (total [runsOf 8,runsOf 5,runsOf 3,runsOf 6]≤20000):=Lib.hid (by decide)
 have HNE:Hid (∀ k,k < 13→k≠9→(nameOf k == nameOf 9)=false):=Lib.hid (fun k hk h=>name_ne k 9 hk (by omega) h)
 generalize runsOf 8=l8 at *
 generalize runsOf 5=l5 at *
 generalize runsOf 3=l3 at *
 generalize runsOf 6=l6 at *
 have hnl:nameOf 9=[108,101,116,116,101,114]:=rfl
 clear hi
 have HL:=Lib.hid (rloose_any s hs)
 rw [← hnm] at HL
 clear hnm
 go_enter Tryz.func150,Tryz.ntmps150
 go_wp2_with fail
 refine (HL.out _).mono ?_
 rintro e w1 ⟨rfl,b1⟩
 go_wp2_with fail
 refine (rnames_any _).mono ?_
 rintro e w2 ⟨PN,cN,rfl,sN,b2'⟩
 have b2:=b1.trans (b2'.mono b1.size)
 have HSN:=Lib.hid sN
 have HB2:=Lib.hid b2
 clear b1 b2' b2 sN HL
 obtain ⟨bN,oN,rfl,hbN,hcN⟩:=HSN.out (by decide)
 have HCN:=Lib.hid hcN
 clear hcN HSN
 go_wp2
 go_loopg [6] 13 (fun g s6 wx=>∃ k:Nat,k+g=13∧k≤9∧s6=.int .i64 k∧wx=w2)
 case atStart=>exact ⟨0,by omega,by omega,rfl,rfl⟩
 case round =>
  obtain ⟨k,hkg,hki,rfl,rfl⟩:=hrel
  cases gk with
  | zero=>omega
  | succ g =>
   have hk:k < 13:=by omega
   have hkz:(k:Int) < 13:=by omega
   have cN:=HCN.out k hk
   rw [names_at' k hk] at cN
   by_cases hki2:k=9
   ·subst hki2
    have heq:(nameOf 9 == nameOf 9)=true:=beq_self_eq_true _
    rw [hnl] at cN heq
    go_wp2_with fail
    refine (HE8.out _).mono ?_
    rintro e wa8 ⟨Q8,d8,n8,rfl,hn8,iA8,bA8⟩
    have HN8:=Lib.hid hn8
    have HIA8:=Lib.hid iA8
    clear hn8 iA8
    go_wp2_with fail
    refine (rspans_any Q8 d8 n8 l8 HN8.out HLE8.out _ HIA8.out).mono ?_
    rintro e W8 ⟨P8,c8,rfl,sB8,p8,bB8⟩
    have bs8:=bA8.trans (bB8.mono bA8.size)
    have HS8:=Lib.hid sB8
    have HP8:=Lib.hid p8
    have HB2:=Lib.hid (HB2.out.trans (bs8.mono HB2.out.size))
    clear sB8 p8 bB8 bA8 HN8 HIA8 bs8
    go_wp2_with fail
    refine (HE5.out _).mono ?_
    rintro e wa5 ⟨Q5,d5,n5,rfl,hn5,iA5,bA5⟩
    have HN5:=Lib.hid hn5
    have HIA5:=Lib.hid iA5
    clear hn5 iA5
    go_wp2_with fail
    refine (rspans_any Q5 d5 n5 l5 HN5.out HLE5.out _ HIA5.out).mono ?_
    rintro e W5 ⟨P5,c5,rfl,sB5,p5,bB5⟩
    have bs5:=bA5.trans (bB5.mono bA5.size)
    have HS5:=Lib.hid sB5
    have HP5:=Lib.hid p5
    have HS8:=Lib.hid (HS8.out.step bs5)
    have HB2:=Lib.hid (HB2.out.trans (bs5.mono HB2.out.size))
    clear sB5 p5 bB5 bA5 HN5 HIA5 bs5
    go_wp2_with fail
    refine (HE3.out _).mono ?_
    rintro e wa3 ⟨Q3,d3,n3,rfl,hn3,iA3,bA3⟩
    have HN3:=Lib.hid hn3
    have HIA3:=Lib.hid iA3
    clear hn3 iA3
    go_wp2_with fail
    refine (rspans_any Q3 d3 n3 l3 HN3.out HLE3.out _ HIA3.out).mono ?_
    rintro e W3 ⟨P3,c3,rfl,sB3,p3,bB3⟩
    have bs3:=bA3.trans (bB3.mono bA3.size)
    have HS3:=Lib.hid sB3
    have HP3:=Lib.hid p3
    have HS8:=Lib.hid (HS8.out.step bs3)
    have HS5:=Lib.hid (HS5.out.step bs3)
    have HB2:=Lib.hid (HB2.out.trans (bs3.mono HB2.out.size))
    clear sB3 p3 bB3 bA3 HN3 HIA3 bs3
    go_wp2_with fail
    refine (HE6.out _).mono ?_
    rintro e wa6 ⟨Q6,d6,n6,rfl,hn6,iA6,bA6⟩
    have HN6:=Lib.hid hn6
    have HIA6:=Lib.hid iA6
    clear hn6 iA6
    go_wp2_with fail
    refine (rspans_any Q6 d6 n6 l6 HN6.out HLE6.out _ HIA6.out).mono ?_
    rintro e W6 ⟨P6,c6,rfl,sB6,p6,bB6⟩
    have bs6:=bA6.trans (bB6.mono bA6.size)
    have HS6:=Lib.hid sB6
    have HP6:=Lib.hid p6
    have HS8:=Lib.hid (HS8.out.step bs6)
    have HS5:=Lib.hid (HS5.out.step bs6)
    have HS3:=Lib.hid (HS3.out.step bs6)
    have HB2:=Lib.hid (HB2.out.trans (bs6.mono HB2.out.size))
    clear sB6 p6 bB6 bA6 HN6 HIA6 bs6
    have HR:RowsAt (W6.alloc (.cells #[.slice P8 l8.length c8,.slice P5 l5.length c5,.slice P3 l3.length c3,.slice P6 l6.length c6] 41)).heap.size (W6.alloc (.cells #[.slice P8 l8.length c8,.slice P5 l5.length c5,.slice P3 l3.length c3,.slice P6 l6.length c6] 41)) (some ⟨W6.heap.size,0,none⟩) [l8,l5,l3,l6]:=rows_new W6 [.slice P8 l8.length c8,.slice P5 l5.length c5,.slice P3 l3.length c3,.slice P6 l6.length c6] [l8,l5,l3,l6] 41 (fun j hj=>by
     match j,hj with
     | 0,_=>exact ⟨P8,c8,rfl,HS8.out,HP8.out⟩
     | 1,_=>exact ⟨P5,c5,rfl,HS5.out,HP5.out⟩
     | 2,_=>exact ⟨P3,c3,rfl,HS3.out,HP3.out⟩
     | 3,_=>exact ⟨P6,c6,rfl,HS6.out,HP6.out⟩)
    have HRR:=Lib.hid HR
    clear HR
    go_wp2_with fail
    refine (runion_new _ 4 [l8,l5,l3,l6] (by simp) HTT.out (by intro a ha;simp only [List.mem_cons,List.not_mem_nil,or_false] at ha;rcases ha with h | h | h | h <;> rw [h] <;> first | exact HWI8.out | exact HWI5.out | exact HWI3.out | exact HWI6.out) _ HRR.out).mono ?_
    rintro e w5 ⟨P9,c9,o9,rfl,is9,l9,s9,p9,f9,b9⟩
    go_wp2
    go_ret2
    exact ROfN.of (is9.congr (fun r=>(HG.out r).symm)) (by decide) s9 p9 (fun a h=>by have:=f9 a h;rw [World.size_alloc] at this;have:=HB2.out.size;omega) ((HB2.out.alloc HB2.out.size _).trans (b9.mono (by rw [World.size_alloc];have:=HB2.out.size;omega)))
   ·have hne := HNE.out k hk hki2
    rw [hnl] at hne
    go_wp2
    go_roundg g
    case measure=>omega
    case rel=>exact ⟨k+1,by omega,by omega,by go_num,rfl⟩
set_option maxRecDepth 100000 in
set_option maxHeartbeats 1000000 in
theorem rofn_word (s : ByteArray) (hs : s.data.toList.length ≤ 1000000) (hi : whichF (looseL s.data.toList) = some 12) (w : World) :
  Calls Tryz.prog 150 #[.string s] w (ROfN w 12):=by
 obtain ⟨hi13,hnm⟩:=which_some hi
 have HE8:Hid (∀ w:World,Calls Tryz.prog 162 #[.string ⟨#[108,97,116,105,110]⟩] w fun e w'=>∃ P c n,e=.returned (.slice P n c)∧n=2*(runsOf 8).length∧Ints w'.heap.size w' P (flatS (runsOf 8))∧Below w.heap.size w w'):=Lib.hid (ends_c 8 (by omega) (by omega) (by omega))
 have HWI8:=Lib.hid (runs_wide 8 (by omega))
 have HLE8:Hid ((runsOf 8).length≤1000):=Lib.hid (by decide)
 have HE5:Hid (∀ w:World,Calls Tryz.prog 162 #[.string ⟨#[103,114,101,101,107]⟩] w fun e w'=>∃ P c n,e=.returned (.slice P n c)∧n=2*(runsOf 5).length∧Ints w'.heap.size w' P (flatS (runsOf 5))∧Below w.heap.size w w'):=Lib.hid (ends_c 5 (by omega) (by omega) (by omega))
 have HWI5:=Lib.hid (runs_wide 5 (by omega))
 have HLE5:Hid ((runsOf 5).length≤1000):=Lib.hid (by decide)
 have HE3:Hid (∀ w:World,Calls Tryz.prog 162 #[.string ⟨#[99,121,114,105,108,108,105,99]⟩] w fun e w'=>∃ P c n,e=.returned (.slice P n c)∧n=2*(runsOf 3).length∧Ints w'.heap.size w' P (flatS (runsOf 3))∧Below w.heap.size w w'):=Lib.hid (ends_c 3 (by omega) (by omega) (by omega))
 have HWI3:=Lib.hid (runs_wide 3 (by omega))
 have HLE3:Hid ((runsOf 3).length≤1000):=Lib.hid (by decide)
 have HE6:Hid (∀ w:World,Calls Tryz.prog 162 #[.string ⟨#[104,97,110]⟩] w fun e w'=>∃ P c n,e=.returned (.slice P n c)∧n=2*(runsOf 6).length∧Ints w'.heap.size w' P (flatS (runsOf 6))∧Below w.heap.size w w'):=Lib.hid (ends_c 6 (by omega) (by omega) (by omega))
 have HWI6:=Lib.hid (runs_wide 6 (by omega))
 have HLE6:Hid ((runsOf 6).length≤1000):=Lib.hid (by decide)
 have HE4:Hid (∀ w:World,Calls Tryz.prog 162 #[.string ⟨#[100,105,103,105,116]⟩] w fun e w'=>∃ P c n,e=.returned (.slice P n c)∧n=2*(runsOf 4).length∧Ints w'.heap.size w' P (flatS (runsOf 4))∧Below w.heap.size w w'):=Lib.hid (ends_c 4 (by omega) (by omega) (by omega))
 have HWI4:=Lib.hid (runs_wide 4 (by omega))
 have HLE4:Hid ((runsOf 4).length≤1000):=Lib.hid (by decide)
 have HG:Hid (∀ r,Tells (gathOf 12) r↔∃ a∈[runsOf 8,runsOf 5,runsOf 3,runsOf 6,runsOf 4,[(95,95)]],Tells a r):=Lib.hid (fun r=>by
  rw [show gathOf 12=[(95,95)]++(runsOf 8++runsOf 5++runsOf 3++runsOf 6)++runsOf 4 from rfl,tells_app,tells_app,tells_app,tells_app,tells_app];simp only [List.mem_cons,List.not_mem_nil,or_false,exists_eq_or_imp,exists_eq_left];exact or6)
 have HTT:Hid (total [runsOf 8,runsOf 5,runsOf 3,runsOf 6,runsOf 4,[(95,95)]]≤20000):=Lib.hid (by decide)
 have HNE:Hid (∀ k,k < 13→k≠12→(nameOf k == nameOf 12)=false):=Lib.hid (fun k hk h=>name_ne k 12 hk (by omega) h)
 generalize runsOf 8=l8 at *
 generalize runsOf 5=l5 at *
 generalize runsOf 3=l3 at *
 generalize runsOf 6=l6 at *
 generalize runsOf 4=l4 at *
 have hnl:nameOf 12=[119,111,114,100]:=rfl
 clear hi
 have HL:=Lib.hid (rloose_any s hs)
 rw [← hnm] at HL
 clear hnm
 go_enter Tryz.func150,Tryz.ntmps150
 go_wp2_with fail
 refine (HL.out _).mono ?_
 rintro e w1 ⟨rfl,b1⟩
 go_wp2_with fail
 refine (rnames_any _).mono ?_
 rintro e w2 ⟨PN,cN,rfl,sN,b2'⟩
 have b2:=b1.trans (b2'.mono b1.size)
 have HSN:=Lib.hid sN
 have HB2:=Lib.hid b2
 clear b1 b2' b2 sN HL
 obtain ⟨bN,oN,rfl,hbN,hcN⟩:=HSN.out (by decide)
 have HCN:=Lib.hid hcN
 clear hcN HSN
 go_wp2
 go_loopg [6] 13 (fun g s6 wx=>∃ k:Nat,k+g=13∧k≤12∧s6=.int .i64 k∧wx=w2)
 case atStart=>exact ⟨0,by omega,by omega,rfl,rfl⟩
 case round =>
  obtain ⟨k,hkg,hki,rfl,rfl⟩:=hrel
  cases gk with
  | zero=>omega
  | succ g =>
   have hk:k < 13:=by omega
   have hkz:(k:Int) < 13:=by omega
   have cN:=HCN.out k hk
   rw [names_at' k hk] at cN
   by_cases hki2:k=12
   ·subst hki2
    have heq:(nameOf 12 == nameOf 12)=true:=beq_self_eq_true _
    rw [hnl] at cN heq
    go_wp2_with fail
    refine (HE8.out _).mono ?_
    rintro e wa8 ⟨Q8,d8,n8,rfl,hn8,iA8,bA8⟩
    have HN8:=Lib.hid hn8
    have HIA8:=Lib.hid iA8
    clear hn8 iA8
    go_wp2_with fail
    refine (rspans_any Q8 d8 n8 l8 HN8.out HLE8.out _ HIA8.out).mono ?_
    rintro e W8 ⟨P8,c8,rfl,sB8,p8,bB8⟩
    have bs8:=bA8.trans (bB8.mono bA8.size)
    have HS8:=Lib.hid sB8
    have HP8:=Lib.hid p8
    have HB2:=Lib.hid (HB2.out.trans (bs8.mono HB2.out.size))
    clear sB8 p8 bB8 bA8 HN8 HIA8 bs8
    go_wp2_with fail
    refine (HE5.out _).mono ?_
    rintro e wa5 ⟨Q5,d5,n5,rfl,hn5,iA5,bA5⟩
    have HN5:=Lib.hid hn5
    have HIA5:=Lib.hid iA5
    clear hn5 iA5
    go_wp2_with fail
    refine (rspans_any Q5 d5 n5 l5 HN5.out HLE5.out _ HIA5.out).mono ?_
    rintro e W5 ⟨P5,c5,rfl,sB5,p5,bB5⟩
    have bs5:=bA5.trans (bB5.mono bA5.size)
    have HS5:=Lib.hid sB5
    have HP5:=Lib.hid p5
    have HS8:=Lib.hid (HS8.out.step bs5)
    have HB2:=Lib.hid (HB2.out.trans (bs5.mono HB2.out.size))
    clear sB5 p5 bB5 bA5 HN5 HIA5 bs5
    go_wp2_with fail
    refine (HE3.out _).mono ?_
    rintro e wa3 ⟨Q3,d3,n3,rfl,hn3,iA3,bA3⟩
    have HN3:=Lib.hid hn3
    have HIA3:=Lib.hid iA3
    clear hn3 iA3
    go_wp2_with fail
    refine (rspans_any Q3 d3 n3 l3 HN3.out HLE3.out _ HIA3.out).mono ?_
    rintro e W3 ⟨P3,c3,rfl,sB3,p3,bB3⟩
    have bs3:=bA3.trans (bB3.mono bA3.size)
    have HS3:=Lib.hid sB3
    have HP3:=Lib.hid p3
    have HS8:=Lib.hid (HS8.out.step bs3)
    have HS5:=Lib.hid (HS5.out.step bs3)
    have HB2:=Lib.hid (HB2.out.trans (bs3.mono HB2.out.size))
    clear sB3 p3 bB3 bA3 HN3 HIA3 bs3
    go_wp2_with fail
    refine (HE6.out _).mono ?_
    rintro e wa6 ⟨Q6,d6,n6,rfl,hn6,iA6,bA6⟩
    have HN6:=Lib.hid hn6
    have HIA6:=Lib.hid iA6
    clear hn6 iA6
    go_wp2_with fail
    refine (rspans_any Q6 d6 n6 l6 HN6.out HLE6.out _ HIA6.out).mono ?_
    rintro e W6 ⟨P6,c6,rfl,sB6,p6,bB6⟩
    have bs6:=bA6.trans (bB6.mono bA6.size)
    have HS6:=Lib.hid sB6
    have HP6:=Lib.hid p6
    have HS8:=Lib.hid (HS8.out.step bs6)
    have HS5:=Lib.hid (HS5.out.step bs6)
    have HS3:=Lib.hid (HS3.out.step bs6)
    have HB2:=Lib.hid (HB2.out.trans (bs6.mono HB2.out.size))
    clear sB6 p6 bB6 bA6 HN6 HIA6 bs6
    have hb6:Below W6.heap.size W6 (W6.alloc (.cells #[.slice P8 l8.length c8,.slice P5 l5.length c5,.slice P3 l3.length c3,.slice P6 l6.length c6] 41)):=(Below.refl _ W6).alloc (Nat.le_refl _) _
    have HOW:Hid ((W6.alloc (.cells #[.slice P8 l8.length c8,.slice P5 l5.length c5,.slice P3 l3.length c3,.slice P6 l6.length c6] 41)).ownsRow W6.heap.size 41 1 (.slice (some ⟨W6.heap.size,0,none⟩) 4 4) 4 [.slice P8 l8.length c8,.slice P5 l5.length c5,.slice P3 l3.length c3,.slice P6 l6.length c6]) :=
     Lib.hid ⟨rfl,.inr ⟨W6.heap.size,4,#[.slice P8 l8.length c8,.slice P5 l5.length c5,.slice P3 l3.length c3,.slice P6 l6.length c6],rfl,Nat.le_refl _,heap_alloc_new W6 _,Nat.le_refl _,by unfold maxLen;omega,rfl,rfl⟩⟩
    have HHB:Hid ((W6.alloc (.cells #[.slice P8 l8.length c8,.slice P5 l5.length c5,.slice P3 l3.length c3,.slice P6 l6.length c6] 41)).heap[W6.heap.size]? = some (.cells #[.slice P8 l8.length c8,.slice P5 l5.length c5,.slice P3 l3.length c3,.slice P6 l6.length c6] 41 (0,0))):=Lib.hid (heap_alloc_new W6 _)
    have HZ6:Hid ((W6.alloc (.cells #[.slice P8 l8.length c8,.slice P5 l5.length c5,.slice P3 l3.length c3,.slice P6 l6.length c6] 41)).heap.size=W6.heap.size+1):=Lib.hid (World.size_alloc _ _)
    have HGB:Hid (w.heap.size≤W6.heap.size):=Lib.hid HB2.out.size
    have HS8:=Lib.hid (HS8.out.step hb6)
    have HS5:=Lib.hid (HS5.out.step hb6)
    have HS3:=Lib.hid (HS3.out.step hb6)
    have HS6:=Lib.hid (HS6.out.step hb6)
    have HB2:=Lib.hid (HB2.out.trans (hb6.mono HB2.out.size))
    clear hb6
    obtain ⟨V,hV⟩:∃ V,V=W6.alloc (.cells #[.slice P8 l8.length c8,.slice P5 l5.length c5,.slice P3 l3.length c3,.slice P6 l6.length c6] 41):=⟨_,rfl⟩
    go_wp2_with fail
    rw [← hV] at HOW HHB HZ6 HS8 HS5 HS3 HS6 HB2 ⊢
    generalize W6.heap.size=G at *
    clear hV
    refine (HE4.out _).mono ?_
    rintro e wa4 ⟨Q4,d4,n4,rfl,hn4,iA4,bA4⟩
    have HN4:=Lib.hid hn4
    have HIA4:=Lib.hid iA4
    clear hn4 iA4
    go_wp2_with fail
    refine (rspans_any Q4 d4 n4 l4 HN4.out HLE4.out _ HIA4.out).mono ?_
    rintro e W4 ⟨P4,c4,rfl,sB4,p4,bB4⟩
    have bs4:=bA4.trans (bB4.mono bA4.size)
    have HS4:=Lib.hid sB4
    have HP4:=Lib.hid p4
    have HS8:=Lib.hid (HS8.out.step bs4)
    have HS5:=Lib.hid (HS5.out.step bs4)
    have HS3:=Lib.hid (HS3.out.step bs4)
    have HS6:=Lib.hid (HS6.out.step bs4)
    have HB2:=Lib.hid (HB2.out.trans (bs4.mono HB2.out.size))
    have HOW:=Lib.hid (own_belowF HOW.out bs4)
    have HHB:=Lib.hid ((bs4.block G (by have:=HZ6.out;omega)).trans HHB.out)
    have HZ6:Hid (G+1≤W4.heap.size):=Lib.hid (by have:=HZ6.out;have:=bs4.size;omega)
    clear sB4 p4 bB4 bA4 HIA4 HN4 bs4
    go_wp2_with fail
    refine (rspans_any _ 2 2 [(95,95)] rfl (by decide) _ (ints_new W4 [95,95] 3)).mono ?_
    rintro e WX ⟨PX,cX,rfl,sBX,pX,bBX⟩
    have bsX:=((Below.refl _ W4).alloc (Nat.le_refl _) (.cells #[.int .i64 95,.int .i64 95] 3)).trans (bBX.mono (by rw [World.size_alloc];omega))
    have HSX:=Lib.hid sBX
    have HPX:=Lib.hid pX
    have HS8:=Lib.hid (HS8.out.step bsX)
    have HS5:=Lib.hid (HS5.out.step bsX)
    have HS3:=Lib.hid (HS3.out.step bsX)
    have HS6:=Lib.hid (HS6.out.step bsX)
    have HS4:=Lib.hid (HS4.out.step bsX)
    have HB2:=Lib.hid (HB2.out.trans (bsX.mono HB2.out.size))
    have HOW:=Lib.hid (own_belowF HOW.out bsX)
    have HHB:=Lib.hid ((bsX.block G (by have:=HZ6.out;omega)).trans HHB.out)
    have HZ6:Hid (G+1≤WX.heap.size):=Lib.hid (by have:=HZ6.out;have:=bsX.size;omega)
    clear sBX pX bBX bsX
    obtain ⟨i0,hi0,hz0,hz1,hz2⟩:=info_parts infoSl
    have hXA:Below WX.heap.size WX (WX.alloc (.cells #[.slice P4 l4.length c4,.slice PX 1 cX] 41)):=(Below.refl _ WX).alloc (Nat.le_refl _) _
    have HXA:=Lib.hid hXA
    clear hXA
    go_wp2_with (at_builtin;refine wpList_append_own _ rfl _ _ 212 rfl G 41 i0 (.slice none 0 0) 1 24 Tryz.underlying212 hi0 hz0 hz1 hz2 rfl (by decide) _ _ _ rfl (HOW.out.alloc _) ⟨WX.heap.size,0,none⟩ 2 2 [.slice P4 l4.length c4,.slice PX 1 cX] rfl rfl (cell_news WX _ _) (by simp [Value.oneCell']) (by unfold maxLen;omega) (by omega) (by rw [World.size_alloc];have:=HZ6.out;omega) ?_;intro v' w6 hown' hgrow _)
    have hst:∀ P l,Sl WX P l→Sl w6 P l:=fun P l h=>sl_grown (g:=G) hgrow _ _ _ ((HXA.out.block G (by have:=HZ6.out;omega)).trans HHB.out) (by intro v hv n;simp at hv;rcases hv with rfl | rfl | rfl | rfl <;> simp) (h.step HXA.out)
    obtain ⟨A,cA,rfl,HR⟩:=rows_of (ls:=[l8,l5,l3,l6,l4,[(95,95)]]) hown' (fun j hj=>by
     match j,hj with
     | 0,_=>exact ⟨P8,c8,rfl,hst _ _ HS8.out,HP8.out⟩
     | 1,_=>exact ⟨P5,c5,rfl,hst _ _ HS5.out,HP5.out⟩
     | 2,_=>exact ⟨P3,c3,rfl,hst _ _ HS3.out,HP3.out⟩
     | 3,_=>exact ⟨P6,c6,rfl,hst _ _ HS6.out,HP6.out⟩
     | 4,_=>exact ⟨P4,c4,rfl,hst _ _ HS4.out,HP4.out⟩
     | 5,_=>exact ⟨PX,cX,rfl,hst _ _ HSX.out,HPX.out⟩)
    have HB6:Hid (Below w.heap.size w w6):=Lib.hid ((HB2.out.alloc HB2.out.size _).grown hgrow (by rw [World.size_alloc];have:=HB2.out.size;omega) (fun j hj=>by injection hj with h;have h1:G=j:=h;have:=HGB.out;omega))
    have HRR:=Lib.hid HR
    clear HR hown' hgrow hst
    go_wp2_with fail
    refine (runion_new A cA [l8,l5,l3,l6,l4,[(95,95)]] (by simp) HTT.out (by intro a ha;simp only [List.mem_cons,List.not_mem_nil,or_false] at ha;rcases ha with h | h | h | h | h | h <;> rw [h] <;> first | exact HWI8.out | exact HWI5.out | exact HWI3.out | exact HWI6.out | exact HWI4.out | (unfold Wide;decide)) _ HRR.out).mono ?_
    rintro e w7 ⟨P9,c9,o9,rfl,is9,l9,s9,p9,f9,b9⟩
    go_wp2
    go_ret2
    exact ROfN.of (is9.congr (fun r=>(HG.out r).symm)) (by decide) s9 p9 (fun a h=>Nat.le_trans HB6.out.size (f9 a h)) (HB6.out.trans (b9.mono HB6.out.size))
   ·have hne := HNE.out k hk hki2
    rw [hnl] at hne
    go_wp2
    go_roundg g
    case measure=>omega
    case rel=>exact ⟨k+1,by omega,by omega,by go_num,rfl⟩
theorem rofn_any (s : ByteArray) (hs : s.data.toList.length ≤ 1000000) (i : Nat) (hi : whichF (looseL s.data.toList) = some i) (w : World) :
  Calls Tryz.prog 150 #[.string s] w (ROfN w i):=by
 by_cases h9:i=9
 ·subst h9;exact rofn_letter s hs hi w
 ·by_cases h12 : i = 12
  ·subst h12;exact rofn_word s hs hi w
  ·exact rofn_leaf s hs i h9 h12 hi w
end Go.Proofs.YtioahgklplbinaaGreatDoor
