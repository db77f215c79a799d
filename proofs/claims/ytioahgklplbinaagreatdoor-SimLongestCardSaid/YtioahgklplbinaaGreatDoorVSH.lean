/- VShape, VMemo, VSound, VProg, in one text. -/
/- May a node be, be its kids what they may? -/
import Derived.Test.YtioahgklplbinaaGreatDoorVRead
import Derived.Handy
import Derived.BigQuiet
import Derived.Deep.QuietTactic
import Derived.LaidEql
import Derived.Laws.StructEq
import Derived.MapKept
import Derived.WideKeyRuns
import Derived.Deep.RegionHeld3
import Derived.RegionTactic
namespace Go.Proofs.YtioahgklplbinaaGreatDoor
open Go.RowKit Go.Shelf Go.Maps SetM PropsM RxM WrM
def BP (P:Prop) (e:Ending):Prop:=∃ q,e=.returned (.bool q)∧(q=true↔P)
theorem bp_var {P:Prop} {q:Bool} (h:q=true↔P):BP P (.returned (.bool q)):=⟨q,rfl,h⟩
def CountP (mn mx:Int):Prop:=(0≤mn∧mn≤20)∧(mx = -1∨(mn≤mx∧mx≤20))
set_option maxHeartbeats 2000000 in
set_option maxRecDepth 100000 in
theorem count_c (w:World) (mn mx:Int):Calls Tryz.prog 95 #[.int .i64 mn,.int .i64 mx] w fun e w'=>BP (CountP mn mx) e∧w'=w:=by
 by_cases h1:mn < 0
 ·have HQ : Hid (BP (CountP mn mx) (.returned (.bool false))) := Lib.hid (bp_var (by unfold CountP; exact ⟨fun h => (by cases h), fun h => by omega⟩))
  go_enter Tryz.func95,Tryz.ntmps95
  go_wp2
  go_ret
  exact ⟨HQ.out,rfl⟩
 by_cases h2:mn > 20
 ·have HQ : Hid (BP (CountP mn mx) (.returned (.bool false))) := Lib.hid (bp_var (by unfold CountP; exact ⟨fun h => (by cases h), fun h => by omega⟩))
  go_enter Tryz.func95,Tryz.ntmps95
  go_wp2
  go_ret
  exact ⟨HQ.out,rfl⟩
 by_cases h3:mx = -1
 ·subst h3
  have HQ:Hid (BP (CountP mn (-1)) (.returned (.bool true))):=Lib.hid (bp_var (by unfold CountP;exact ⟨fun _=>by omega,fun _=>rfl⟩))
  go_enter Tryz.func95,Tryz.ntmps95
  go_wp2
  go_ret
  exact ⟨HQ.out,rfl⟩
 have h3':(mx == -1)=false:=by rw [beq_eq_false_iff_ne];exact h3
 by_cases h4:mn≤mx
 ·by_cases h5 : mx ≤ 20
  ·have HQ : Hid (BP (CountP mn mx) (.returned (.bool true))) := Lib.hid (bp_var (by unfold CountP; exact ⟨fun _ => by omega, fun _ => rfl⟩))
   clear h3
   go_enter Tryz.func95,Tryz.ntmps95
   go_wp2
   go_ret
   exact ⟨HQ.out,rfl⟩
  ·have HQ : Hid (BP (CountP mn mx) (.returned (.bool false))) := Lib.hid (bp_var (by unfold CountP; exact ⟨fun h => (by cases h), fun h => by omega⟩))
   clear h3
   go_enter Tryz.func95,Tryz.ntmps95
   go_wp2
   go_ret
   exact ⟨HQ.out,rfl⟩
 ·have HQ : Hid (BP (CountP mn mx) (.returned (.bool false))) := Lib.hid (bp_var (by unfold CountP; exact ⟨fun h => (by cases h), fun h => by omega⟩))
  clear h3
  go_enter Tryz.func95,Tryz.ntmps95
  go_wp2
  go_ret
  exact ⟨HQ.out,rfl⟩
structure Ar (W : World) : Prop where
 areas:Areas W
 pos:0 < W.heap.size
theorem Ar.step {W W':World} (h:Ar W) (hb:Below W.heap.size W W'):Ar W':=⟨h.areas.below hb h.pos,Nat.lt_of_lt_of_le h.pos hb.size⟩
theorem normal_c {W:World} {P:Option Addr} {sc n:Nat} {sl:List Sp} (hn:n=sl.length) (h8:n≤100000) (hA:Ar W) (hs:Sl W P sl):Calls Tryz.prog 94 #[.slice P n sc] W fun e W'=>∃ Q m c out,e=.returned (.slice Q m c)∧m=out.length∧m≤400000∧(out=sl↔Norml sl)∧Sl W' Q out∧Below W.heap.size W W':=by
 subst hn
 refine (norm_any P sc sl (by omega) W hA.pos hA.areas hs).mono ?_
 rintro e W' ⟨v,out,rfl,h2,h3,h4,h5,h6⟩
 obtain ⟨Q,c,rfl,h7⟩:=spans_of h5
 refine ⟨Q,out.length,c,out,rfl,rfl,by omega,⟨fun e=>?_,fun hN=>?_⟩,h7,h6⟩
 ·subst e
  exact ⟨h2,fun r hr=>((h3 r).1 hr).1⟩
 ·exact nf_unique _ _ h2 hN.1 (fun r=>(h3 r).trans ⟨fun h=>h.2,fun h=>⟨hN.2 r h,h⟩⟩)
set_option maxHeartbeats 16000000 in
set_option maxRecDepth 100000 in
theorem shaped_c {w : World} {sp kp : Option Addr} {sc kc n kn kd : Nat} {sl : List Sp} {mn mx : Int} (hn : n = sl.length) (h8 : n ≤ 100000) (h9 : kn ≤ 1000) (hA : Ar w) (hs : Sl w sp sl) :
  Calls Tryz.prog 76 #[.agg #[.int .u8 kd,.slice sp n sc,.slice kp kn kc,.int .i64 mn,.int .i64 mx]] w fun e w'=>BP (Shape kd sl kn mn mx) e∧Below w.heap.size w w':=by
 obtain ⟨z,hz⟩:∃ z:Int,z=(kd:Int):=⟨_,rfl⟩
 rw [← hz]
 obtain ⟨V,hV⟩:∃ V,V=w.alloc (.cells #[.int .u8 z,.slice sp n sc,.slice kp kn kc,.int .i64 mn,.int .i64 mx] 48):=⟨_,rfl⟩
 have hnew:V.heap[w.heap.size]? = some (.cells #[.int .u8 z,.slice sp n sc,.slice kp kn kc,.int .i64 mn,.int .i64 mx] 48 (0,0)):=by rw [hV];exact heap_alloc_new w _
 have hb:Below w.heap.size w V:=by rw [hV];exact (Below.refl _ _).alloc (Nat.le_refl _) _
 have k0:V.cell? ⟨w.heap.size,0,none⟩=some (.int .u8 z):=by rw [cell_of_row V _ 0 _ _ _ hnew];rfl
 have k1:V.cell? ⟨w.heap.size,1,none⟩=some (.slice sp n sc):=by rw [cell_of_row V _ 1 _ _ _ hnew];rfl
 have k2:V.cell? ⟨w.heap.size,2,none⟩=some (.slice kp kn kc):=by rw [cell_of_row V _ 2 _ _ _ hnew];rfl
 have k3:V.cell? ⟨w.heap.size,3,none⟩=some (.int .i64 mn):=by rw [cell_of_row V _ 3 _ _ _ hnew];rfl
 have k4:V.cell? ⟨w.heap.size,4,none⟩=some (.int .i64 mx):=by rw [cell_of_row V _ 4 _ _ _ hnew];rfl
 have hlt:w.heap.size < V.heap.size:=(Array.getElem?_eq_some_iff.1 hnew).1
 obtain ⟨p1,hp1⟩:∃ p,((n:Int) == 0)=p:=⟨_,rfl⟩
 obtain ⟨p2,hp2⟩:∃ p,((kn:Int) == 0)=p:=⟨_,rfl⟩
 obtain ⟨p3,hp3⟩:∃ p,(mn == 0)=p:=⟨_,rfl⟩
 obtain ⟨p4,hp4⟩:∃ p,(mx == 0)=p:=⟨_,rfl⟩
 have HKZ:=Lib.hid hz
 have HB:=Lib.hid hb
 have HE1:Hid (p1=true↔sl=[]):=Lib.hid (by rw [← hp1,beq_iff_eq];exact ⟨fun h=>List.length_eq_zero_iff.1 (by omega),fun h=>by subst h;simp at hn;omega⟩)
 have HE2:Hid (p2=true↔kn=0):=Lib.hid (by rw [← hp2,beq_iff_eq];omega)
 have HE3:Hid (p3=true↔mn=0):=Lib.hid (by rw [← hp3,beq_iff_eq])
 have HE4:Hid (p4=true↔mx=0):=Lib.hid (by rw [← hp4,beq_iff_eq])
 have HN:=Lib.hid hn
 have HA:=Lib.hid (hA.step hb)
 have HSL:=Lib.hid (hs.step hb)
 have HNO:=Lib.hid (fun (U:World) (hU:Below V.heap.size V U)=>normal_c (sc:=sc) hn h8 ((hA.step hb).step hU) ((hs.step hb).step hU))
 have HEQ:=Lib.hid (fun (U:World) (hU:Below V.heap.size V U) (Q:Option Addr) (m c:Nat) (out:List Sp) (hm:m=out.length) (hml:m≤400000) (hQ:Sl U Q out)=>(by subst hn hm;exact equal_any sp Q sc c sl out (by omega) (by omega) U ((hs.step hb).step hU) hQ:Calls Tryz.prog 93 #[.slice sp n sc,.slice Q m c] U fun e U'=>e=.returned (.bool (decide (sl=out)))∧Below U.heap.size U U'))
 clear hn hA hs hb hnew hz
 cases p3 with
 | true =>
  have HT:Hid (p4=true↔mn=0∧mx=0):=Lib.hid (by have e3:=HE3.out;have e4:=HE4.out;simp only [true_iff] at e3;rw [e4];exact ⟨fun h=>⟨e3,h⟩,fun h=>h.2⟩)
  go_enter Tryz.func76,Tryz.ntmps76
  go_wp2_with fail
  rw [← hV]
  clear hV
  go_quiet (fail)
  generalize hX:V.drewN _=X
  have HX:Hid (Below V.heap.size V X):=Lib.hid (by rw [← hX];exact drewN_below _)
  have HZ:=Lib.hid (HB.out.trans (HX.out.mono HB.out.size))
  have k0:=(HX.out.cell (p:=⟨w.heap.size,0,none⟩) hlt).trans k0
  have k2:=(HX.out.cell (p:=⟨w.heap.size,2,none⟩) hlt).trans k2
  have k3:=(HX.out.cell (p:=⟨w.heap.size,3,none⟩) hlt).trans k3
  have k4:=(HX.out.cell (p:=⟨w.heap.size,4,none⟩) hlt).trans k4
  clear hX
  by_cases h0:kd=0
  ·obtain rfl := h0
   obtain rfl:z=0:=HKZ.out
   cases p1 with
   | false =>
    have HQ:Hid (BP (Shape 0 sl kn mn mx) (.returned (.bool false))):=Lib.hid (bp_var (by
     have e1:=HE1.out
     simp only [Bool.false_eq_true,false_iff] at e1
     unfold Shape
     refine ⟨fun h=>(by cases h),fun h=>?_⟩
     rcases h with h | h | h | h
     ·exact absurd h.2.1 e1
     all_goals omega))
    go_wp2
    go_ret
    exact ⟨HQ.out,HZ.out⟩
   | true =>
    cases p2 with
    | false =>
     have HQ:Hid (BP (Shape 0 sl kn mn mx) (.returned (.bool false))):=Lib.hid (bp_var (by
      have e2:=HE2.out
      simp only [Bool.false_eq_true,false_iff] at e2
      unfold Shape
      refine ⟨fun h=>(by cases h),fun h=>?_⟩
      rcases h with h | h | h | h
      ·exact absurd h.2.2.1 e2
      all_goals omega))
     go_wp2
     go_ret
     exact ⟨HQ.out,HZ.out⟩
    | true =>
     have HQ:Hid (BP (Shape 0 sl kn mn mx) (.returned (.bool p4))):=Lib.hid (bp_var (by
      have e1:=HE1.out
      have e2:=HE2.out
      have e3:=HT.out
      simp only [true_iff] at e1 e2
      rw [e3]
      unfold Shape
      refine ⟨fun h=>.inl ⟨rfl,e1,e2,h.1,h.2⟩,fun h=>?_⟩
      rcases h with h | h | h | h
      ·exact ⟨h.2.2.2.1,h.2.2.2.2⟩
      all_goals omega))
     go_wp2
     go_ret
     exact ⟨HQ.out,HZ.out⟩
  by_cases h1:kd=1
  ·obtain rfl := h1
   obtain rfl:z=1:=HKZ.out
   clear h0
   cases p2 with
   | false =>
    have HQ:Hid (BP (Shape 1 sl kn mn mx) (.returned (.bool false))):=Lib.hid (bp_var (by
     have e2:=HE2.out
     simp only [Bool.false_eq_true,false_iff] at e2
     unfold Shape
     refine ⟨fun h=>(by cases h),fun h=>?_⟩
     rcases h with h | h | h | h
     ·omega
     ·exact absurd h.2.1 e2
     all_goals omega))
    go_wp2_with fail
    go_quiet (fail)
    go_wp2
    go_ret
    exact ⟨HQ.out,HZ.out.trans ((drewN_below _).mono HZ.out.size)⟩
   | true =>
    cases p4 with
    | false =>
     have HQ:Hid (BP (Shape 1 sl kn mn mx) (.returned (.bool false))):=Lib.hid (bp_var (by
      have e3:=HT.out
      simp only [Bool.false_eq_true,false_iff] at e3
      unfold Shape
      refine ⟨fun h=>(by cases h),fun h=>?_⟩
      rcases h with h | h | h | h
      ·omega
      ·exact absurd ⟨h.2.2.1,h.2.2.2.1⟩ e3
      all_goals omega))
     go_wp2_with fail
     go_quiet (fail)
     go_wp2
     go_ret
     exact ⟨HQ.out,HZ.out.trans ((drewN_below _).mono HZ.out.size)⟩
    | true =>
     go_wp2_with fail
     have x1:X.cell? ⟨w.heap.size,1,none⟩=some (.slice sp n sc):=(HX.out.cell (p:=⟨w.heap.size,1,none⟩) hlt).trans k1
     have HX1:=Lib.hid x1
     have HXL:Hid (w.heap.size < X.heap.size):=Lib.hid (Nat.lt_of_lt_of_le hlt HX.out.size)
     have hr:Below X.heap.size X X.drew:=(Below.refl _ _).drew
     go_region_held3 (fun U => U.cell? ⟨w.heap.size, 1, none⟩ = some (.slice sp n sc))
      (exact (hr.cell (p:=⟨w.heap.size,1,none⟩) HXL.out).trans HX1.out)
      (first
       | (go_at_call 94;(refine (HNO.out _ (HX.out.trans (hr.mono HX.out.size))).mono ?_);rintro e w3 ⟨Q,m,c,out,rfl,hm,hml,ho,hQ,b3⟩;have HM:=Lib.hid hm;have HML:=Lib.hid hml;have HO:=Lib.hid ho;have HQS:=Lib.hid hQ;have hr:=hr.trans (b3.mono hr.size);clear hm hml ho hQ b3)
       | (go_at_call 93;(refine (HEQ.out _ (HX.out.trans (hr.mono HX.out.size)) Q m c out HM.out HML.out HQS.out).mono ?_);rintro e w4 ⟨rfl,b4⟩;have hr:=hr.trans (b4.mono hr.size);clear b4))
     have HQ:Hid (BP (Shape 1 sl kn mn mx) (.returned (.bool (decide (sl=out))))):=Lib.hid (bp_var (by
      have e2:=HE2.out
      have e3:=HT.out
      simp only [true_iff] at e2 e3
      rw [decide_eq_true_iff,eq_comm,HO.out]
      unfold Shape
      refine ⟨fun h=>.inr (.inl ⟨rfl,e2,e3.1,e3.2,h⟩),fun h=>?_⟩
      rcases h with h | h | h | h
      ·omega
      ·exact h.2.2.2.2
      all_goals omega))
     have HZ:=Lib.hid (HB.out.trans ((HX.out.trans (hr.mono HX.out.size)).mono HB.out.size))
     clear hr x1
     go_wp2
     go_ret
     exact ⟨HQ.out,HZ.out⟩
  by_cases h2:kd=2
  ·obtain rfl := h2
   obtain rfl:z=2:=HKZ.out
   clear h0 h1
   by_cases hk:2≤kn
   ·have hk' : decide ((kn : Int) ≥ 2) = true := decide_eq_true (by omega)
    have HK:=Lib.hid hk
    clear hk
    cases p1 with
    | false =>
     have HQ:Hid (BP (Shape 2 sl kn mn mx) (.returned (.bool false))):=Lib.hid (bp_var (by
      have e1:=HE1.out
      simp only [Bool.false_eq_true,false_iff] at e1
      unfold Shape
      refine ⟨fun h=>(by cases h),fun h=>?_⟩
      rcases h with h | h | h | h
      ·omega
      ·omega
      ·exact absurd h.2.2.1 e1
      ·omega))
     go_wp2
     go_ret
     exact ⟨HQ.out,HZ.out⟩
    | true =>
     have HQ:Hid (BP (Shape 2 sl kn mn mx) (.returned (.bool p4))):=Lib.hid (bp_var (by
      have e1:=HE1.out
      have e3:=HT.out
      simp only [true_iff] at e1
      rw [e3]
      unfold Shape
      refine ⟨fun h=>.inr (.inr (.inl ⟨.inl rfl,HK.out,e1,h.1,h.2⟩)),fun h=>?_⟩
      rcases h with h | h | h | h
      ·omega
      ·omega
      ·exact ⟨h.2.2.2.1,h.2.2.2.2⟩
      ·omega))
     go_wp2
     go_ret
     exact ⟨HQ.out,HZ.out⟩
   ·have hk' : decide ((kn : Int) ≥ 2) = false := decide_eq_false (by omega)
    have HK:=Lib.hid hk
    clear hk
    have HQ:Hid (BP (Shape 2 sl kn mn mx) (.returned (.bool false))):=Lib.hid (bp_var (by
     unfold Shape
     refine ⟨fun h=>(by cases h),fun h=>?_⟩
     rcases h with h | h | h | h
     ·omega
     ·omega
     ·exact absurd h.2.1 HK.out
     ·omega))
    go_wp2
    go_ret
    exact ⟨HQ.out,HZ.out⟩
  by_cases h3:kd=3
  ·obtain rfl := h3
   obtain rfl:z=3:=HKZ.out
   clear h0 h1 h2
   by_cases hk:2≤kn
   ·have hk' : decide ((kn : Int) ≥ 2) = true := decide_eq_true (by omega)
    have HK:=Lib.hid hk
    clear hk
    cases p1 with
    | false =>
     have HQ:Hid (BP (Shape 3 sl kn mn mx) (.returned (.bool false))):=Lib.hid (bp_var (by
      have e1:=HE1.out
      simp only [Bool.false_eq_true,false_iff] at e1
      unfold Shape
      refine ⟨fun h=>(by cases h),fun h=>?_⟩
      rcases h with h | h | h | h
      ·omega
      ·omega
      ·exact absurd h.2.2.1 e1
      ·omega))
     go_wp2
     go_ret
     exact ⟨HQ.out,HZ.out⟩
    | true =>
     have HQ:Hid (BP (Shape 3 sl kn mn mx) (.returned (.bool p4))):=Lib.hid (bp_var (by
      have e1:=HE1.out
      have e3:=HT.out
      simp only [true_iff] at e1
      rw [e3]
      unfold Shape
      refine ⟨fun h=>.inr (.inr (.inl ⟨.inr rfl,HK.out,e1,h.1,h.2⟩)),fun h=>?_⟩
      rcases h with h | h | h | h
      ·omega
      ·omega
      ·exact ⟨h.2.2.2.1,h.2.2.2.2⟩
      ·omega))
     go_wp2
     go_ret
     exact ⟨HQ.out,HZ.out⟩
   ·have hk' : decide ((kn : Int) ≥ 2) = false := decide_eq_false (by omega)
    have HK:=Lib.hid hk
    clear hk
    have HQ:Hid (BP (Shape 3 sl kn mn mx) (.returned (.bool false))):=Lib.hid (bp_var (by
     unfold Shape
     refine ⟨fun h=>(by cases h),fun h=>?_⟩
     rcases h with h | h | h | h
     ·omega
     ·omega
     ·exact absurd h.2.1 HK.out
     ·omega))
    go_wp2
    go_ret
    exact ⟨HQ.out,HZ.out⟩
  by_cases h4:kd=4
  ·obtain rfl := h4
   obtain rfl:z=4:=HKZ.out
   clear h0 h1 h2 h3
   by_cases hk:kn=1
   ·have hk' : ((kn : Int) == 1) = true := by rw [beq_iff_eq]; omega
    have HK:=Lib.hid hk
    clear hk
    cases p1 with
    | false =>
     have HQ:Hid (BP (Shape 4 sl kn mn mx) (.returned (.bool false))):=Lib.hid (bp_var (by
      have e1:=HE1.out
      simp only [Bool.false_eq_true,false_iff] at e1
      unfold Shape
      refine ⟨fun h=>(by cases h),fun h=>?_⟩
      rcases h with h | h | h | h
      ·omega
      ·omega
      ·omega
      ·exact absurd h.2.2.1 e1))
     go_wp2
     go_ret
     exact ⟨HQ.out,HZ.out⟩
    | true =>
     go_wp2_with fail
     refine (count_c _ mn mx).mono ?_
     rintro e w3 ⟨⟨q,rfl,hq⟩,rfl⟩
     have HQ:Hid (BP (Shape 4 sl kn mn mx) (.returned (.bool q))):=Lib.hid (bp_var (by
      have e1:=HE1.out
      simp only [true_iff] at e1
      rw [hq]
      unfold Shape CountP
      refine ⟨fun h=>.inr (.inr (.inr ⟨rfl,HK.out,e1,h.1,h.2⟩)),fun h=>?_⟩
      rcases h with h | h | h | h
      ·omega
      ·omega
      ·omega
      ·exact ⟨h.2.2.2.1,h.2.2.2.2⟩))
     clear hq
     go_wp2
     go_ret
     exact ⟨HQ.out,HZ.out⟩
   ·have hk' : ((kn : Int) == 1) = false := by rw [beq_eq_false_iff_ne]; omega
    have HK:=Lib.hid hk
    clear hk
    have HQ:Hid (BP (Shape 4 sl kn mn mx) (.returned (.bool false))):=Lib.hid (bp_var (by
     unfold Shape
     refine ⟨fun h=>(by cases h),fun h=>?_⟩
     rcases h with h | h | h | h
     ·omega
     ·omega
     ·omega
     ·exact absurd h.2.1 HK.out))
    go_wp2
    go_ret
    exact ⟨HQ.out,HZ.out⟩
  have hz:=HKZ.out
  have z0:(z == 0)=false:=by rw [beq_eq_false_iff_ne];omega
  have z1:(z == 1)=false:=by rw [beq_eq_false_iff_ne];omega
  have z2:(z == 2)=false:=by rw [beq_eq_false_iff_ne];omega
  have z3:(z == 3)=false:=by rw [beq_eq_false_iff_ne];omega
  have z4:(z == 4)=false:=by rw [beq_eq_false_iff_ne];omega
  have HKD:Hid (kd≠0∧kd≠1∧kd≠2∧kd≠3∧kd≠4):=Lib.hid ⟨h0,h1,h2,h3,h4⟩
  clear h0 h1 h2 h3 h4 hz
  have HQ:Hid (BP (Shape kd sl kn mn mx) (.returned (.bool false))):=Lib.hid (bp_var (by
   have:=HKD.out
   unfold Shape
   refine ⟨fun h=>(by cases h),fun h=>?_⟩
   rcases h with h | h | h | h <;> omega))
  go_wp2
  go_ret
  exact ⟨HQ.out,HZ.out⟩
 | false =>
  have HT:Hid (false=true↔mn=0∧mx=0):=Lib.hid (by have e3:=HE3.out;have e4:=HE4.out;simp only [Bool.false_eq_true,false_iff] at e3;exact ⟨fun h=>(by cases h),fun h=>absurd h.1 e3⟩)
  go_enter Tryz.func76,Tryz.ntmps76
  go_wp2_with fail
  rw [← hV]
  clear hV
  go_quiet (fail)
  generalize hX:V.drewN _=X
  have HX:Hid (Below V.heap.size V X):=Lib.hid (by rw [← hX];exact drewN_below _)
  have HZ:=Lib.hid (HB.out.trans (HX.out.mono HB.out.size))
  have k0:=(HX.out.cell (p:=⟨w.heap.size,0,none⟩) hlt).trans k0
  have k2:=(HX.out.cell (p:=⟨w.heap.size,2,none⟩) hlt).trans k2
  have k3:=(HX.out.cell (p:=⟨w.heap.size,3,none⟩) hlt).trans k3
  have k4:=(HX.out.cell (p:=⟨w.heap.size,4,none⟩) hlt).trans k4
  clear hX
  by_cases h0:kd=0
  ·obtain rfl := h0
   obtain rfl:z=0:=HKZ.out
   cases p1 with
   | false =>
    have HQ:Hid (BP (Shape 0 sl kn mn mx) (.returned (.bool false))):=Lib.hid (bp_var (by
     have e1:=HE1.out
     simp only [Bool.false_eq_true,false_iff] at e1
     unfold Shape
     refine ⟨fun h=>(by cases h),fun h=>?_⟩
     rcases h with h | h | h | h
     ·exact absurd h.2.1 e1
     all_goals omega))
    go_wp2
    go_ret
    exact ⟨HQ.out,HZ.out⟩
   | true =>
    cases p2 with
    | false =>
     have HQ:Hid (BP (Shape 0 sl kn mn mx) (.returned (.bool false))):=Lib.hid (bp_var (by
      have e2:=HE2.out
      simp only [Bool.false_eq_true,false_iff] at e2
      unfold Shape
      refine ⟨fun h=>(by cases h),fun h=>?_⟩
      rcases h with h | h | h | h
      ·exact absurd h.2.2.1 e2
      all_goals omega))
     go_wp2
     go_ret
     exact ⟨HQ.out,HZ.out⟩
    | true =>
     have HQ:Hid (BP (Shape 0 sl kn mn mx) (.returned (.bool false))):=Lib.hid (bp_var (by
      have e1:=HE1.out
      have e2:=HE2.out
      have e3:=HT.out
      simp only [true_iff] at e1 e2
      rw [e3]
      unfold Shape
      refine ⟨fun h=>.inl ⟨rfl,e1,e2,h.1,h.2⟩,fun h=>?_⟩
      rcases h with h | h | h | h
      ·exact ⟨h.2.2.2.1,h.2.2.2.2⟩
      all_goals omega))
     go_wp2
     go_ret
     exact ⟨HQ.out,HZ.out⟩
  by_cases h1:kd=1
  ·obtain rfl := h1
   obtain rfl:z=1:=HKZ.out
   clear h0
   cases p2 with
   | false =>
    have HQ:Hid (BP (Shape 1 sl kn mn mx) (.returned (.bool false))):=Lib.hid (bp_var (by
     have e2:=HE2.out
     simp only [Bool.false_eq_true,false_iff] at e2
     unfold Shape
     refine ⟨fun h=>(by cases h),fun h=>?_⟩
     rcases h with h | h | h | h
     ·omega
     ·exact absurd h.2.1 e2
     all_goals omega))
    go_wp2_with fail
    go_quiet (fail)
    go_wp2
    go_ret
    exact ⟨HQ.out,HZ.out.trans ((drewN_below _).mono HZ.out.size)⟩
   | true =>
    have HQ:Hid (BP (Shape 1 sl kn mn mx) (.returned (.bool false))):=Lib.hid (bp_var (by
     have e3:=HT.out
     simp only [Bool.false_eq_true,false_iff] at e3
     unfold Shape
     refine ⟨fun h=>(by cases h),fun h=>?_⟩
     rcases h with h | h | h | h
     ·omega
     ·exact absurd ⟨h.2.2.1,h.2.2.2.1⟩ e3
     all_goals omega))
    go_wp2_with fail
    go_quiet (fail)
    go_wp2
    go_ret
    exact ⟨HQ.out,HZ.out.trans ((drewN_below _).mono HZ.out.size)⟩
  by_cases h2:kd=2
  ·obtain rfl := h2
   obtain rfl:z=2:=HKZ.out
   clear h0 h1
   by_cases hk:2≤kn
   ·have hk' : decide ((kn : Int) ≥ 2) = true := decide_eq_true (by omega)
    have HK:=Lib.hid hk
    clear hk
    cases p1 with
    | false =>
     have HQ:Hid (BP (Shape 2 sl kn mn mx) (.returned (.bool false))):=Lib.hid (bp_var (by
      have e1:=HE1.out
      simp only [Bool.false_eq_true,false_iff] at e1
      unfold Shape
      refine ⟨fun h=>(by cases h),fun h=>?_⟩
      rcases h with h | h | h | h
      ·omega
      ·omega
      ·exact absurd h.2.2.1 e1
      ·omega))
     go_wp2
     go_ret
     exact ⟨HQ.out,HZ.out⟩
    | true =>
     have HQ:Hid (BP (Shape 2 sl kn mn mx) (.returned (.bool false))):=Lib.hid (bp_var (by
      have e1:=HE1.out
      have e3:=HT.out
      simp only [true_iff] at e1
      rw [e3]
      unfold Shape
      refine ⟨fun h=>.inr (.inr (.inl ⟨.inl rfl,HK.out,e1,h.1,h.2⟩)),fun h=>?_⟩
      rcases h with h | h | h | h
      ·omega
      ·omega
      ·exact ⟨h.2.2.2.1,h.2.2.2.2⟩
      ·omega))
     go_wp2
     go_ret
     exact ⟨HQ.out,HZ.out⟩
   ·have hk' : decide ((kn : Int) ≥ 2) = false := decide_eq_false (by omega)
    have HK:=Lib.hid hk
    clear hk
    have HQ:Hid (BP (Shape 2 sl kn mn mx) (.returned (.bool false))):=Lib.hid (bp_var (by
     unfold Shape
     refine ⟨fun h=>(by cases h),fun h=>?_⟩
     rcases h with h | h | h | h
     ·omega
     ·omega
     ·exact absurd h.2.1 HK.out
     ·omega))
    go_wp2
    go_ret
    exact ⟨HQ.out,HZ.out⟩
  by_cases h3:kd=3
  ·obtain rfl := h3
   obtain rfl:z=3:=HKZ.out
   clear h0 h1 h2
   by_cases hk:2≤kn
   ·have hk' : decide ((kn : Int) ≥ 2) = true := decide_eq_true (by omega)
    have HK:=Lib.hid hk
    clear hk
    cases p1 with
    | false =>
     have HQ:Hid (BP (Shape 3 sl kn mn mx) (.returned (.bool false))):=Lib.hid (bp_var (by
      have e1:=HE1.out
      simp only [Bool.false_eq_true,false_iff] at e1
      unfold Shape
      refine ⟨fun h=>(by cases h),fun h=>?_⟩
      rcases h with h | h | h | h
      ·omega
      ·omega
      ·exact absurd h.2.2.1 e1
      ·omega))
     go_wp2
     go_ret
     exact ⟨HQ.out,HZ.out⟩
    | true =>
     have HQ:Hid (BP (Shape 3 sl kn mn mx) (.returned (.bool false))):=Lib.hid (bp_var (by
      have e1:=HE1.out
      have e3:=HT.out
      simp only [true_iff] at e1
      rw [e3]
      unfold Shape
      refine ⟨fun h=>.inr (.inr (.inl ⟨.inr rfl,HK.out,e1,h.1,h.2⟩)),fun h=>?_⟩
      rcases h with h | h | h | h
      ·omega
      ·omega
      ·exact ⟨h.2.2.2.1,h.2.2.2.2⟩
      ·omega))
     go_wp2
     go_ret
     exact ⟨HQ.out,HZ.out⟩
   ·have hk' : decide ((kn : Int) ≥ 2) = false := decide_eq_false (by omega)
    have HK:=Lib.hid hk
    clear hk
    have HQ:Hid (BP (Shape 3 sl kn mn mx) (.returned (.bool false))):=Lib.hid (bp_var (by
     unfold Shape
     refine ⟨fun h=>(by cases h),fun h=>?_⟩
     rcases h with h | h | h | h
     ·omega
     ·omega
     ·exact absurd h.2.1 HK.out
     ·omega))
    go_wp2
    go_ret
    exact ⟨HQ.out,HZ.out⟩
  by_cases h4:kd=4
  ·obtain rfl := h4
   obtain rfl:z=4:=HKZ.out
   clear h0 h1 h2 h3
   by_cases hk:kn=1
   ·have hk' : ((kn : Int) == 1) = true := by rw [beq_iff_eq]; omega
    have HK:=Lib.hid hk
    clear hk
    cases p1 with
    | false =>
     have HQ:Hid (BP (Shape 4 sl kn mn mx) (.returned (.bool false))):=Lib.hid (bp_var (by
      have e1:=HE1.out
      simp only [Bool.false_eq_true,false_iff] at e1
      unfold Shape
      refine ⟨fun h=>(by cases h),fun h=>?_⟩
      rcases h with h | h | h | h
      ·omega
      ·omega
      ·omega
      ·exact absurd h.2.2.1 e1))
     go_wp2
     go_ret
     exact ⟨HQ.out,HZ.out⟩
    | true =>
     go_wp2_with fail
     refine (count_c _ mn mx).mono ?_
     rintro e w3 ⟨⟨q,rfl,hq⟩,rfl⟩
     have HQ:Hid (BP (Shape 4 sl kn mn mx) (.returned (.bool q))):=Lib.hid (bp_var (by
      have e1:=HE1.out
      simp only [true_iff] at e1
      rw [hq]
      unfold Shape CountP
      refine ⟨fun h=>.inr (.inr (.inr ⟨rfl,HK.out,e1,h.1,h.2⟩)),fun h=>?_⟩
      rcases h with h | h | h | h
      ·omega
      ·omega
      ·omega
      ·exact ⟨h.2.2.2.1,h.2.2.2.2⟩))
     clear hq
     go_wp2
     go_ret
     exact ⟨HQ.out,HZ.out⟩
   ·have hk' : ((kn : Int) == 1) = false := by rw [beq_eq_false_iff_ne]; omega
    have HK:=Lib.hid hk
    clear hk
    have HQ:Hid (BP (Shape 4 sl kn mn mx) (.returned (.bool false))):=Lib.hid (bp_var (by
     unfold Shape
     refine ⟨fun h=>(by cases h),fun h=>?_⟩
     rcases h with h | h | h | h
     ·omega
     ·omega
     ·omega
     ·exact absurd h.2.1 HK.out))
    go_wp2
    go_ret
    exact ⟨HQ.out,HZ.out⟩
  have hz:=HKZ.out
  have z0:(z == 0)=false:=by rw [beq_eq_false_iff_ne];omega
  have z1:(z == 1)=false:=by rw [beq_eq_false_iff_ne];omega
  have z2:(z == 2)=false:=by rw [beq_eq_false_iff_ne];omega
  have z3:(z == 3)=false:=by rw [beq_eq_false_iff_ne];omega
  have z4:(z == 4)=false:=by rw [beq_eq_false_iff_ne];omega
  have HKD:Hid (kd≠0∧kd≠1∧kd≠2∧kd≠3∧kd≠4):=Lib.hid ⟨h0,h1,h2,h3,h4⟩
  clear h0 h1 h2 h3 h4 hz
  have HQ:Hid (BP (Shape kd sl kn mn mx) (.returned (.bool false))):=Lib.hid (bp_var (by
   have:=HKD.out
   unfold Shape
   refine ⟨fun h=>(by cases h),fun h=>?_⟩
   rcases h with h | h | h | h <;> omega))
  go_wp2
  go_ret
  exact ⟨HQ.out,HZ.out⟩
end Go.Proofs.YtioahgklplbinaaGreatDoor
/- The map of rows of nodes that were looked at: an address and a number each; how many levels. -/
namespace Go.Proofs.YtioahgklplbinaaGreatDoor
open Go.RowKit Go.Shelf Go.Maps SetM PropsM RxM WrM
def kV (g n:Nat):Value:= .agg #[.pointer (some ⟨g,0,none⟩),.int .i64 n]
theorem wrowU:Tryz.prog.underlying 129 = some (.struct (Tryz.prog.fieldsOf 129)):=by kernel_rfl
theorem wrowH:Tryz.prog.stoodInHeld 129 = false:=by kernel_rfl
theorem wptrU:Tryz.prog.underlying 127 = some (.pointer 48):=by kernel_rfl
theorem wintU:Tryz.prog.underlying 3 = some (.int .i64):=by kernel_rfl
theorem wmapU:Tryz.prog.underlying 89 = some (.map 129 3):=by kernel_rfl
theorem wsizeK:(Tryz.prog.info? 48).map (·.size)=some 5:=by kernel_rfl
abbrev wrowFs : Array Field := #[{ name := "first", type := 127, offset := 0, embedded := false, tag := "", pkgPath := "glyphcutter/write", byteOffset := 0 }, { name := "n", type := 3, offset := 1, embedded := false, tag := "", pkgPath := "glyphcutter/write", byteOffset := 8 }]
theorem wrowF:Tryz.prog.fieldsOf 129 = wrowFs:=by kernel_rfl
theorem wnodeI:∃ j,Tryz.prog.info? 48 = some j∧j.size=5:=by
 have:=wsizeK
 cases h:Tryz.prog.info? 48 with
 | none=>rw [h] at this;cases this
 | some j=>rw [h] at this;exact ⟨j,rfl,by simpa using this⟩
theorem wpartP (w:World) (g n:Nat):(part 127 #[.pointer (some ⟨g,0,none⟩),.int .i64 n] 0).run Tryz.prog w=.ok (.pointer (some ⟨g,0,none⟩)) w:=by
 simp [part]
theorem wpartI (w:World) (g n:Nat):(part 3 #[.pointer (some ⟨g,0,none⟩),.int .i64 n] 1).run Tryz.prog w=.ok (.int .i64 n) w:=by
 simp [part]
theorem wchkP (w:World) (e:Bool) (n g:Nat):(Instr.checkKey e (n+1) 127 (.pointer (some ⟨g,0,none⟩))).run Tryz.prog w=.ok () w:=by
 simp [Instr.checkKey,run_underlying wptrU]
theorem wchkI (w:World) (e:Bool) (n m:Nat):(Instr.checkKey e (n+1) 3 (.int .i64 m)).run Tryz.prog w=.ok () w:=by
 simp [Instr.checkKey,run_underlying wintU]
theorem wchk (w:World) (e:Bool) (d g n:Nat):(Instr.checkKey e (d+2) 129 (kV g n)).run Tryz.prog w=.ok () w:=by
 unfold kV
 rw [Instr.checkKey]
 simp only [Sem.run_bind,run_underlying wrowU,Result.andThen_ok]
 rw [wrowF,← Array.forIn_toList]
 simp [wpartP,wpartI,wchkP,wchkI]
theorem weqP {w : World} {a b : Nat} {ca cb : Array Value} {ta tb : TypeId} (d : Nat) (ha : w.heap[a]? = some (.cells ca ta (0, 0))) (hb : w.heap[b]? = some (.cells cb tb (0, 0))) :
  (Op.equalIn (d+1) 127 (.pointer (some ⟨a,0,none⟩)) (.pointer (some ⟨b,0,none⟩))).run Tryz.prog w=.ok (decide (a=b)) w:=by
 obtain ⟨j,hj,hs⟩:=wnodeI
 by_cases hab:a=b
 ·subst hab
  simp [Op.equalIn,run_underlying wptrU,sizeOf,typeInfo,hj,run_sameAddr_same]
 ·have h := run_sameAddr_other (P := Tryz.prog) w (a := ⟨a, 0, none⟩) (b := ⟨b, 0, none⟩) (by intro e; cases e; exact hab rfl) ha hb
  simp [Op.equalIn,run_underlying wptrU,sizeOf,typeInfo,hj,hs,h,hab]
theorem weqI (w:World) (d n m:Nat):(Op.equalIn (d+1) 3 (.int .i64 n) (.int .i64 m)).run Tryz.prog w=.ok (decide (n=m)) w:=by
 have e:((n:Int) == (m:Int))=decide (n=m):=by
  by_cases h:n=m
  ·subst h;simp
  ·rw [decide_eq_false h,beq_eq_false_iff_ne];omega
 simp [Op.equalIn,run_underlying wintU,e]
theorem weqK {w : World} {a b n m : Nat} {ca cb : Array Value} {ta tb : TypeId} (d : Nat) (ha : w.heap[a]? = some (.cells ca ta (0, 0))) (hb : w.heap[b]? = some (.cells cb tb (0, 0))) :
  (Op.equalIn (d+2) 129 (kV a n) (kV b m)).run Tryz.prog w=.ok (decide (a=b∧n=m)) w:=by
 unfold kV
 have hP:=weqP d ha hb
 have hI:=weqI w d n m
 rw [run_equalIn_agg w (d+1) _ _ _ wrowU wrowH,wrowF]
 by_cases hab:a=b
 ·rw [decide_eq_true hab] at hP
  by_cases hnm:n=m
  ·rw [decide_eq_true hnm] at hI
   rw [decide_eq_true ⟨hab,hnm⟩]
   simp [Op.eqFields,wpartP,wpartI,hP,hI]
  ·rw [decide_eq_false hnm] at hI
   rw [decide_eq_false (fun h=>hnm h.2)]
   simp [Op.eqFields,wpartP,wpartI,hP,hI]
 ·rw [decide_eq_false hab] at hP
  rw [decide_eq_false (fun h=>hab h.1)]
  simp [Op.eqFields,wpartP,hP]
/-! The map. -/
abbrev Mq:=Nat×Nat×Nat×Nat
def ent (q:Mq):MapEntry:={ key:=kV q.1 q.2.1,val:= .int .i64 q.2.2.1,born:=q.2.2.2 }
def findM (g n : Nat) : List Mq → Nat → Option (Nat × Nat)
 | [],_=>none
 | q::l,i=>if g=q.1∧n=q.2.1 then some (i,q.2.2.1) else findM g n l (i+1)
def Alive (w:World) (g:Nat):Prop:=∃ cs,w.heap[g]? = some (.cells cs 48 (0,0))
theorem find_c {w : World} {g n : Nat} (hg : Alive w g) : ∀ (l : List Mq) (i : Nat), (∀ q ∈ l, Alive w q.1) → (Instr.findAsking 129 (kV g n) (l.map ent) i).run Tryz.prog w = .ok ((findM g n l i).map fun r => (r.1, .int .i64 r.2)) w
 | [],i,_=>by simp [Instr.findAsking,findM]
 | q::l,i,h=>by
  obtain ⟨ca,ha⟩:=hg
  obtain ⟨cb,hb⟩:=h q (by simp)
  have he:=weqK (n:=n) (m:=q.2.1) 9998 ha hb
  have ih:=find_c (n:=n) ⟨ca,ha⟩ l (i+1) (fun x hx=>h x (by simp [hx]))
  by_cases hq:g=q.1∧n=q.2.1
  ·rw [decide_eq_true hq] at he
   simp only [List.map_cons,Instr.findAsking,Op.equal,Op.maxDepth,Sem.run_bind,ent,he,Result.andThen_ok,findM,if_pos hq]
   rfl
  ·rw [decide_eq_false hq] at he
   simp only [List.map_cons,Instr.findAsking,Op.equal,Op.maxDepth,Sem.run_bind,ent,he,Result.andThen_ok,findM,if_neg hq]
   exact ih
theorem find_some {g n : Nat} : ∀ (l : List Mq) (i j m : Nat), findM g n l i = some (j, m) → i ≤ j ∧ ∃ q, l[j - i]? = some q ∧ q.1 = g ∧ q.2.1 = n ∧ q.2.2.1 = m
 | [],_,_,_,h=>by cases h
 | q::l,i,j,m,h=>by
  unfold findM at h
  split at h
  ·rename_i hq
   cases h
   exact ⟨Nat.le_refl _,q,by simp,hq.1.symm,hq.2.symm,rfl⟩
  ·obtain ⟨h1, q', h2, h3⟩ := find_some l (i + 1) j m h
   refine ⟨by omega,q',?_,h3⟩
   rw [show j - i=(j - (i+1))+1 by omega]
   exact h2
def MapAt (w:World) (M:Nat) (l:List Mq):Prop:=∃ es c,w.heap[M]? = some (.map es c)∧es.toList=l.map ent
theorem wlook_c {w : World} {M g n : Nat} {l : List Mq} (hm : MapAt w M l) (hg : Alive w g) (hl : ∀ q ∈ l, Alive w q.1) :
  (Instr.lookup 89 (.map (some M)) (kV g n) true).run Tryz.prog w=.ok (match findM g n l 0 with
   | some r=>.tuple #[.int .i64 r.2,.bool true]
   | none=>.tuple #[.int .i64 0,.bool false]) w:=by
 obtain ⟨es,c,hb,he⟩:=hm
 have hz:(zeroValue 3).run Tryz.prog w=.ok (.int .i64 0) w:=by
  simp [zeroValue,go_sem]
  rfl
 have hc:=wchk w es.isEmpty 9998 g n
 have hf:=find_c (n:=n) hg l 0 hl
 have hrun:(Instr.findKey 129 (kV g n) es.toList).run Tryz.prog w=.ok ((findM g n l 0).map fun r=>(r.1,.int .i64 r.2)) w:=by
  rw [run_findKey_eq w (by rw [wrowU]),he,hf]
 simp only [Instr.lookup,Sem.run_bind,run_underlying wmapU,Result.andThen_ok,MapKept.run_getObj_map hb]
 cases hq:findM g n l 0 with
 | none=>rw [hq] at hrun;simp [hc,hrun,hz]
 | some r=>rw [hq] at hrun;simp [hc,hrun]
theorem wupd_c {w : World} {M g n v : Nat} {l : List Mq} (hm : MapAt w M l) (hg : Alive w g) (hl : ∀ q ∈ l, Alive w q.1) :
  ∃ w',(Instr.mapUpdate 89 (.map (some M)) (kV g n) (.int .i64 v)).run Tryz.prog w=.ok () w'∧(∃ l',MapAt w' M l'∧∀ q∈l',q∈l∨(q.1=g∧q.2.1=n∧q.2.2.1=v))∧w'.os=w.os∧w'.tape=w.tape∧w'.output=w.output∧w'.heap.size=w.heap.size∧∀ k,k≠M→w'.heap[k]? = w.heap[k]?:=by
 obtain ⟨es,c,hb,he⟩:=hm
 have hlt:=(Array.getElem?_eq_some_iff.1 hb).1
 have hc:=wchk w false 9998 g n
 have hf:=find_c (n:=n) hg l 0 hl
 have hrun:(Instr.findKey 129 (kV g n) es.toList).run Tryz.prog w=.ok ((findM g n l 0).map fun r=>(r.1,.int .i64 r.2)) w:=by
  rw [run_findKey_eq w (by rw [wrowU]),he,hf]
 cases hq:findM g n l 0 with
 | none =>
  rw [hq] at hrun
  refine ⟨{ w with heap:=w.heap.setIfInBounds M (.map (es.push { key:=kV g n,val:= .int .i64 v,born:=c }) (c+1)) },?_,⟨l++[(g,n,v,c)],⟨es.push { key:=kV g n,val:= .int .i64 v,born:=c },c+1,by simp [hlt],by simp [he,ent]⟩,fun q hq=>?_⟩,rfl,rfl,rfl,by simp,fun k hk=>by simp [Ne.symm hk]⟩
  ·simp only [Instr.mapUpdate, Sem.run_bind, run_underlying wmapU, Result.andThen_ok, MapKept.run_getObj_map hb]
   simp [hc,hrun,MapKept.run_setObj_map _ hb]
  ·rcases List.mem_append.1 hq with h | h
   ·exact .inl h
   ·simp at h;subst h;exact .inr ⟨rfl,rfl,rfl⟩
 | some r =>
  obtain ⟨j,m⟩:=r
  rw [hq] at hrun
  obtain ⟨_,q0,h1,h2,h3,h4⟩:=find_some l 0 j m hq
  have hej:es[j]? = some (ent q0):=by
   rw [← Array.getElem?_toList,he,List.getElem?_map]
   simp at h1;rw [h1];rfl
  have hkey:(ent q0).key=kV g n:=by show kV q0.1 q0.2.1=_;rw [h2,h3]
  refine ⟨{ w with heap:=w.heap.setIfInBounds M (.map (es.modify j fun e=>{ e with key:=kV g n,val:= .int .i64 v }) c) },?_,⟨l.modify j (fun q=>(g,n,v,q.2.2.2)),⟨es.modify j fun e=>{ e with key:=kV g n,val:= .int .i64 v },c,by simp [hlt],?_⟩,fun q hq=>?_⟩,rfl,rfl,rfl,by simp,fun k hk=>by simp [Ne.symm hk]⟩
  ·have hst:(Instr.keyThatStays (kV g n) (kV g n)).run Tryz.prog w=.ok (kV g n) w:=by
    simp [Instr.keyThatStays,Instr.sameBits,kV]
   simp only [Instr.mapUpdate,Sem.run_bind,run_underlying wmapU,Result.andThen_ok,MapKept.run_getObj_map hb]
   simp [hc,hrun,hej,hkey,hst,MapKept.run_setObj_map _ hb]
  ·refine List.ext_getElem? (fun i => ?_)
   rw [Array.getElem?_toList,Array.getElem?_modify,List.getElem?_map,List.getElem?_modify]
   have hi:es[i]? = (l[i]?).map ent:=by rw [← Array.getElem?_toList,he,List.getElem?_map]
   rw [hi]
   by_cases hij:j=i
   ·subst hij
    simp only [if_true]
    cases l[j]? with
    | none=>rfl
    | some q=>rfl
   ·simp only [if_neg hij]
    cases l[i]? with
    | none=>rfl
    | some q=>rfl
  ·obtain ⟨i, hi, rfl⟩ := List.mem_iff_getElem.1 hq
   rw [List.getElem_modify]
   split
   ·exact .inr ⟨rfl,rfl,rfl⟩
   ·exact .inl (List.getElem_mem _)
end Go.Proofs.YtioahgklplbinaaGreatDoor
/- May a node be one of a pattern: the program's look at it. -/
namespace Go.Proofs.YtioahgklplbinaaGreatDoor
open Go.RowKit Go.Shelf Go.Maps SetM PropsM RxM WrM
def RowR (W0:World) (g:Nat) (kids:List Ns):Prop:=∀ i (hi:i < kids.length),∃ u,RV W0 u kids[i]∧∀ j,j < 5→W0.cell? ⟨g,i*5+j,none⟩=(kidParts u)[j]?
theorem row_same {W0:World} {g:Nat} {a b:List Ns} (ha:RowR W0 g a) (hb:RowR W0 g b) (hl:a.length=b.length):a=b:=by
 refine List.ext_getElem hl (fun i hi hi'=>?_)
 obtain ⟨u,h1,h2⟩:=ha i hi
 obtain ⟨u',h1',h2'⟩:=hb i hi'
 obtain ⟨n,hn⟩:=h1
 obtain ⟨m,hm⟩:=h1'
 have hu:u=u':=by
  rw [hn.agg,hm.agg]
  congr 2
  refine List.ext_getElem? (fun j=>?_)
  by_cases hj:j < 5
  ·rw [← h2 j hj,← h2' j hj]
  ·rw [List.getElem?_eq_none (by rw [hn.parts];omega),List.getElem?_eq_none (by rw [hm.parts];omega)]
 subst hu
 exact RIs.same n m u _ _ hn hm
def Good (W0:World) (q:Mq):Prop:=Alive W0 q.1∧∃ kids:List Ns,kids≠[]∧kids.length=q.2.1∧RowR W0 q.1 kids∧ShpL kids∧q.2.2.1=depL kids∧q.2.2.1≤20
def Mo (W0 W:World) (M:Nat):Prop:=∃ l,MapAt W M l∧∀ q∈l,Good W0 q
theorem Alive.step {W0 W:World} {g:Nat} (h:Alive W0 g) (hb:Below W0.heap.size W0 W):Alive W g:=by
 obtain ⟨cs,hc⟩:=h
 exact ⟨cs,(hb.block g (Array.getElem?_eq_some_iff.1 hc).1).trans hc⟩
theorem Mo.kept {W0 W W':World} {M:Nat} (h:Mo W0 W M) (hb:W'.heap[M]? = W.heap[M]?):Mo W0 W' M:=by
 obtain ⟨l,⟨es,c,h1,h2⟩,h3⟩:=h
 exact ⟨l,⟨es,c,hb.trans h1,h2⟩,h3⟩
theorem Mo.lt {W0 W:World} {M:Nat} (h:Mo W0 W M):M < W.heap.size:=by
 obtain ⟨l,⟨es,c,h1,h2⟩,h3⟩:=h
 exact (Array.getElem?_eq_some_iff.1 h1).1
theorem Mo.step {W0 W W':World} {M:Nat} (h:Mo W0 W M) (hb:Below W.heap.size W W'):Mo W0 W' M:=h.kept (hb.block M h.lt)
def NC (W0:World) (t:Ns) (above:Int) (M:Nat) (W:World) (e:Ending) (W':World):Prop :=
 ∃ (lv:Nat) (q:Bool),e=.returned (.tuple #[.int .i64 lv,.bool q])∧(q=true↔(Shp t∧above+dep t≤20))∧(q=true→lv=dep t)∧Mo W0 W' M∧Gr M W W'
def NodeC (t:Ns):Prop:=∀ (W0 W:World) (M:Nat) (v:Value) (above:Int),0≤above→above≤21→RV W0 v t→Ar W0→Below W0.heap.size W0 W→W0.heap.size≤M→Mo W0 W M →
 Calls Tryz.prog 48 #[.agg #[.map (some M)],v,.int .i64 above] W (NC W0 t above M W)
theorem Ar.up {W0 W:World} (h:Ar W0) (hb:Below W0.heap.size W0 W):Ar W:=h.step hb
set_option maxHeartbeats 8000000 in
set_option maxRecDepth 100000 in
theorem node_k (t:Ns) (ih:∀ u∈t.kids,NodeC u):NodeC t:=by
 intro W0 W M v above ha0 ha21 hv hA hW hM hMo
 obtain ⟨kd,sl,kids,mn,mx⟩:=t
 obtain ⟨sp,sc,kp,kc,rfl,⟨hsl,hkl⟩,hsp,_,hk⟩:=hv.read
 obtain ⟨n,hn⟩:∃ n,n=sl.length:=⟨_,rfl⟩
 obtain ⟨kn,hkn⟩:∃ kn,kn=kids.length:=⟨_,rfl⟩
 rw [← hn,← hkn]
 rw [← hn] at hsl
 rw [← hkn] at hkl
 obtain ⟨V1,hV1⟩:∃ V,V=W.alloc (.cells #[.map (some M)] 91):=⟨_,rfl⟩
 have z1:V1.heap.size=W.heap.size+1:=by rw [hV1,World.size_alloc]
 obtain ⟨V,hV⟩:∃ V,V=V1.alloc (.cells #[.int .u8 kd,.slice sp n sc,.slice kp kn kc,.int .i64 mn,.int .i64 mx] 48):=⟨_,rfl⟩
 have z2:V.heap.size=W.heap.size+2:=by rw [hV,World.size_alloc,z1]
 have n2:V.heap[W.heap.size+1]? = some (.cells #[.int .u8 kd,.slice sp n sc,.slice kp kn kc,.int .i64 mn,.int .i64 mx] 48 (0,0)):=by rw [hV,← z1];exact heap_alloc_new V1 _
 have n1:V.heap[W.heap.size]? = some (.cells #[.map (some M)] 91 (0,0)):=by rw [hV,Lib.alloc_old V1 _ _ (by omega),hV1];exact heap_alloc_new W _
 have hb:Below W.heap.size W V:=by rw [hV,hV1];exact ((Below.refl _ _).alloc (Nat.le_refl _) _).alloc (by rw [World.size_alloc];omega) _
 have hMW:=hMo.lt
 have HW:=Lib.hid (hW.trans (hb.mono hW.size))
 have HMo:=Lib.hid (hMo.step hb)
 have HB:=Lib.hid hb
 have HA:=Lib.hid hA
 have HN:=Lib.hid hn
 have HKN:=Lib.hid hkn
 have HK:=Lib.hid hk
 have HI:Hid (∀ u∈kids,NodeC u):=Lib.hid ih
 have HSH:=Lib.hid (shaped_c (w:=V) (sc:=sc) (kp:=kp) (kc:=kc) (kd:=kd) (mn:=mn) (mx:=mx) hn hsl hkl (hA.up HW.out) (hsp.step HW.out))
 have HX:=Lib.hid (fun (U:World) (hU:Gr M V U)=>(⟨(hU.block _ (by omega) (by intro e;cases e;omega)).trans n1,(hU.block _ (by omega) (by intro e;cases e;omega)).trans n2⟩:U.heap[W.heap.size]? = some (.cells #[.map (some M)] 91 (0,0))∧U.heap[W.heap.size+1]? = some (.cells #[.int .u8 kd,.slice sp n sc,.slice kp kn kc,.int .i64 mn,.int .i64 mx] 48 (0,0))))
 have HZ2:=Lib.hid z2
 have HMW:=Lib.hid hMW
 have HM:=Lib.hid hM
 have k0:V.cell? ⟨W.heap.size+1,0,none⟩=some (.int .u8 kd):=by rw [cell_of_row V _ 0 _ _ _ n2];rfl
 have k1:V.cell? ⟨W.heap.size+1,1,none⟩=some (.slice sp n sc):=by rw [cell_of_row V _ 1 _ _ _ n2];rfl
 have k2:V.cell? ⟨W.heap.size+1,2,none⟩=some (.slice kp kn kc):=by rw [cell_of_row V _ 2 _ _ _ n2];rfl
 have k3:V.cell? ⟨W.heap.size+1,3,none⟩=some (.int .i64 mn):=by rw [cell_of_row V _ 3 _ _ _ n2];rfl
 have k4:V.cell? ⟨W.heap.size+1,4,none⟩=some (.int .i64 mx):=by rw [cell_of_row V _ 4 _ _ _ n2];rfl
 clear hv hA hW hM hMo hMW hk hn hkn ih hsp z1 z2 n1 n2 hb
 by_cases h20:above > 20
 ·have HQ : Hid (NC W0 (.mk kd sl kids mn mx) above M W (.returned (.tuple #[.int .i64 0, .bool false])) V) := Lib.hid ⟨0, false, rfl, ⟨fun h => (by cases h), fun h => by omega⟩, fun h => (by cases h), HMo.out, Gr.of HB.out⟩
  go_enter Tryz.func48,Tryz.ntmps48
  go_wp2
  rw [← hV1,← hV]
  go_ret2
  exact HQ.out
 have h20':¬ 20 < above:=h20
 go_enter Tryz.func48,Tryz.ntmps48
 go_wp2_with fail
 rw [← hV1,← hV]
 clear hV hV1
 refine HSH.out.mono ?_
 rintro e w1 ⟨⟨q0,rfl,hq0⟩,b1⟩
 have HX1:=HX.out w1 (Gr.of b1)
 obtain ⟨n1,n2⟩:=HX1
 have HG1:Hid (Gr M V w1):=Lib.hid (Gr.of b1)
 have HMo1:=Lib.hid (HMo.out.step b1)
 have HB1:=Lib.hid (HB.out.trans (b1.mono HB.out.size))
 have k0:w1.cell? ⟨W.heap.size+1,0,none⟩=some (.int .u8 kd):=by rw [cell_of_row w1 _ 0 _ _ _ n2];rfl
 have k2:w1.cell? ⟨W.heap.size+1,2,none⟩=some (.slice kp kn kc):=by rw [cell_of_row w1 _ 2 _ _ _ n2];rfl
 have HQ0:=Lib.hid hq0
 clear b1 n1 n2 hq0 k1 k3 k4 HSH
 cases q0 with
 | false =>
  have HQ:Hid (NC W0 (.mk kd sl kids mn mx) above M W (.returned (.tuple #[.int .i64 0,.bool false])) w1):=Lib.hid ⟨0,false,rfl,⟨fun h=>(by cases h),fun h=>by
   have:=HQ0.out.2 (by rw [HKN.out];exact ((shp_mk _ _ _ _ _).1 h.1).1)
   cases this⟩,fun h=>(by cases h),HMo1.out,Gr.of HB1.out⟩
  go_wp2
  go_ret2
  exact HQ.out
 | true =>
  have HSH:Hid (Shape kd sl kn mn mx):=Lib.hid (HQ0.out.1 rfl)
  clear HQ0
  by_cases hk0:kn=0
  ·subst hk0
   have hkn0:kids=[]:=List.length_eq_zero_iff.1 HKN.out.symm
   have HQ:Hid (NC W0 (.mk kd sl kids mn mx) above M W (.returned (.tuple #[.int .i64 0,.bool true])) w1):=Lib.hid (by
    subst hkn0
    exact ⟨0,true,rfl,⟨fun _=>⟨(shp_mk _ _ _ _ _).2 ⟨HSH.out,by rw [ShpL];trivial⟩,by rw [dep_mk,depL_nil];omega⟩,fun _=>rfl⟩,fun _=>by rw [dep_mk,depL_nil],HMo1.out,Gr.of HB1.out⟩)
   clear hkn0
   go_wp2
   go_ret2
   exact HQ.out
  ·have hkne : ((kn : Int) == 0) = false := by rw [beq_eq_false_iff_ne]; omega
   have hpos:(0:Int) < (kn:Int):=by omega
   obtain ⟨g,rfl,⟨cs,hcs⟩,hrow⟩:=HK.out (fun e=>by have:=HKN.out;rw [e] at this;exact hk0 this)
   have HROW:Hid (RowR W0 g kids):=Lib.hid hrow
   have HAL:Hid (Alive W0 g):=Lib.hid ⟨cs,hcs⟩
   have HGL:Hid (g < W0.heap.size):=Lib.hid (Array.getElem?_eq_some_iff.1 hcs).1
   clear hcs hrow HK hk0
   have hr:Below w1.heap.size w1 w1.drew:=(Below.refl _ _).drew
   have HS0:Hid (w1.drew.cell? ⟨W.heap.size+1,2,none⟩=some (.slice (some ⟨g,0,none⟩) kn kc)):=Lib.hid k2
   have HS1:Hid (∀ o,(w1.alloc o).drew.cell? ⟨W.heap.size+1,2,none⟩=some (.slice (some ⟨g,0,none⟩) kn kc)):=Lib.hid (fun o=>(((Below.refl w1.heap.size w1).alloc (Nat.le_refl _) o).cell (p:=⟨W.heap.size+1,2,none⟩) (cell_lt (a:=⟨W.heap.size+1,2,none⟩) k2)).trans k2)
   have hpos':0 < kn:=by omega
   go_wp2_with fail
   go_region_held3 (fun U=>U.cell? ⟨W.heap.size+1,2,none⟩=some (.slice (some ⟨g,0,none⟩) kn kc)) (first | exact HS0.out | exact HS1.out _) (fail)
   obtain ⟨X,hX⟩:∃ X,X=(w1.alloc (.cells #[.pointer (some ⟨g,0,none⟩),.int .i64 kn] 129)).drew:=⟨_,rfl⟩
   rw [← hX]
   have hbX:Below w1.heap.size w1 X:=by rw [hX];exact ((Below.refl w1.heap.size w1).alloc (Nat.le_refl _) _).drew
   have nK:X.heap[w1.heap.size]? = some (.cells #[.pointer (some ⟨g,0,none⟩),.int .i64 kn] 129 (0,0)):=by rw [hX];exact heap_alloc_new w1 _
   have HGX:Hid (Gr M V X):=Lib.hid (HG1.out.trans (Gr.of hbX))
   have HMoX:=Lib.hid (HMo1.out.step hbX)
   have HBX:Hid (Below W.heap.size W X):=Lib.hid (HB1.out.trans (hbX.mono HB1.out.size))
   have hKl:w1.heap.size < X.heap.size:=(Array.getElem?_eq_some_iff.1 nK).1
   have hMl:M < w1.heap.size:=HMo1.out.lt
   have HK5:=Lib.hid (fun (U:World) (hU:Gr M X U)=>(⟨(hU.block _ hKl (by intro e;cases e;omega)).trans nK,(HX.out U (HGX.out.trans hU)).1,(HX.out U (HGX.out.trans hU)).2⟩:U.heap[w1.heap.size]? = some (.cells #[.pointer (some ⟨g,0,none⟩),.int .i64 kn] 129 (0,0))∧U.heap[W.heap.size]? = some (.cells #[.map (some M)] 91 (0,0))∧U.heap[W.heap.size+1]? = some (.cells #[.int .u8 kd,.slice sp n sc,.slice (some ⟨g,0,none⟩) kn kc,.int .i64 mn,.int .i64 mx] 48 (0,0))))
   have HU0:=Lib.hid (fun (U:World) (hU:Gr M X U)=>((HGX.out.trans hU).below HW.out HM.out:Below W0.heap.size W0 U))
   obtain ⟨b0,b1,b2⟩:=HK5.out X (Gr.refl _ _)
   have x0:X.cell? ⟨w1.heap.size,0,none⟩=some (.pointer (some ⟨g,0,none⟩)):=by rw [cell_of_row X _ 0 _ _ _ b0];rfl
   have x1:X.cell? ⟨w1.heap.size,1,none⟩=some (.int .i64 kn):=by rw [cell_of_row X _ 1 _ _ _ b0];rfl
   have x2:X.cell? ⟨W.heap.size,0,none⟩=some (.map (some M)):=by rw [cell_of_row X _ 0 _ _ _ b1];rfl
   have x3:X.cell? ⟨W.heap.size+1,2,none⟩=some (.slice (some ⟨g,0,none⟩) kn kc):=by rw [cell_of_row X _ 2 _ _ _ b2];rfl
   obtain ⟨l,hmap,hgood⟩:=HMoX.out
   have hlook:=wlook_c (n:=kn) hmap (HAL.out.step (HU0.out X (Gr.refl _ _))) (fun q hq=>(hgood q hq).1.step (HU0.out X (Gr.refl _ _)))
   have HGD:=Lib.hid hgood
   clear hX hbX nK hKl hMl b0 b1 b2 hmap hgood hr HS0 HS1 k0 k2 HMo HMo1 HG1 HB1 HX
   unfold kV at hlook
   cases hq:findM g kn l 0 with
   | some r =>
    obtain ⟨j,m⟩:=r
    rw [hq] at hlook
    dsimp only at hlook
    obtain ⟨_,q,h1,h2,h3,h4⟩:=find_some l 0 j m hq
    have hqm:q∈l:=List.mem_of_getElem? h1
    obtain ⟨_,kids',hne,hlen,hrow,hshp,hdep,h20m⟩:=HGD.out q hqm
    have hkk:kids'=kids:=row_same (by rw [← h2];exact hrow) HROW.out (by rw [hlen,h3];exact HKN.out)
    subst hkk
    rw [h4] at hdep h20m
    have HQ:Hid (NC W0 (.mk kd sl kids' mn mx) above M W (.returned (.tuple #[.int .i64 m,.bool (decide (above+m≤20))])) X):=Lib.hid (by
     refine ⟨m,_,rfl,?_,fun _=>by rw [dep_mk];exact hdep,HMoX.out,Gr.of HBX.out⟩
     rw [decide_eq_true_iff,dep_mk,shp_mk,← hdep,← HKN.out]
     exact ⟨fun h=>⟨⟨HSH.out,hshp⟩,h⟩,fun h=>h.2⟩)
    clear hq h1 h2 h3 h4 hqm hne hlen hrow hshp hdep HGD
    go_wp2
    go_ret2
    exact HQ.out
   | none =>
    rw [hq] at hlook
    dsimp only at hlook
    clear hq
    go_wp2_with fail
    go_loopg [9,12,13,14,49] kn (fun r s9 s12 s13 s14 s49 wx=>∃ (k lv:Nat),k+r=kn∧s49=.int .i64 k∧s9=.int .i64 lv∧lv≤20∧Hid (lv=depL (kids.take k)∧ShpL (kids.take k)∧(lv=0∨above+lv≤20))∧Hid (Mo W0 wx M)∧Hid (Gr M X wx))
    case atStart=>exact ⟨0,0,by omega,rfl,rfl,by omega,Lib.hid ⟨by rw [List.take_zero,depL_nil],by rw [List.take_zero,ShpL];trivial,.inl rfl⟩,HMoX,Lib.hid (Gr.refl _ _)⟩
    case round =>
     obtain ⟨k,lv,hkr,rfl,rfl,hlv,HLV,HMr,HGr⟩:=hrel
     obtain ⟨b0,b1,b2⟩:=HK5.out wr HGr.out
     have r0:wr.cell? ⟨w1.heap.size,0,none⟩=some (.pointer (some ⟨g,0,none⟩)):=by rw [cell_of_row wr _ 0 _ _ _ b0];rfl
     have r1:wr.cell? ⟨w1.heap.size,1,none⟩=some (.int .i64 kn):=by rw [cell_of_row wr _ 1 _ _ _ b0];rfl
     have r2:wr.cell? ⟨W.heap.size,0,none⟩=some (.map (some M)):=by rw [cell_of_row wr _ 0 _ _ _ b1];rfl
     have HlW:=Lib.hid (Array.getElem?_eq_some_iff.1 b1).1
     clear b0 b1 b2
     cases gk with
     | zero =>
      have hl:¬ ((k:Int) < (kn:Int)):=by omega
      have hk:kids.take k=kids:=List.take_of_length_le (by have:=HKN.out;omega)
      obtain ⟨l',hmap,hgood⟩:=HMr.out
      obtain ⟨w',hupd,⟨l2,hm2,hl2⟩,e1,e2,e3,e4,e5⟩:=wupd_c (n:=kn) (v:=lv) hmap (HAL.out.step (HU0.out wr HGr.out)) (fun q hq=>(hgood q hq).1.step (HU0.out wr HGr.out))
      unfold kV at hupd
      have HQ:Hid (NC W0 (.mk kd sl kids mn mx) above M W (.returned (.tuple #[.int .i64 lv,.bool true])) w'):=Lib.hid (by
       have h3:=HLV.out
       rw [hk] at h3
       refine ⟨lv,true,rfl,⟨fun _=>⟨(shp_mk _ _ _ _ _).2 ⟨by rw [← HKN.out];exact HSH.out,h3.2.1⟩,by rw [dep_mk,← h3.1];rcases h3.2.2 with h | h <;> omega⟩,fun _=>rfl⟩,fun _=>by rw [dep_mk];exact h3.1,⟨l2,hm2,fun q hq=>?_⟩,?_⟩
       ·rcases hl2 q hq with h | ⟨h, h', h''⟩
        ·exact hgood q h
        ·refine ⟨by rw [h];exact HAL.out,kids,fun e=>by have:=HKN.out;rw [e] at this;simp at this;omega,by rw [h'];exact HKN.out.symm,by rw [h];exact HROW.out,h3.2.1,by rw [h''];exact h3.1,by rw [h''];exact hlv⟩
       ·exact (Gr.of HBX.out).trans (HGr.out.trans ⟨e1,e2,e3,Nat.le_of_eq e4.symm,fun i hi hne=>e5 i (fun e=>hne (by cases e;rfl))⟩))
      clear hk hmap hgood hm2 hl2 e1 e2 e3 e4 e5 hlook HGD
      go_wp2
      go_ret2
      exact HQ.out
     | succ gk =>
      have hl:(k:Int) < (kn:Int):=by omega
      have h0:(0:Int)≤(k:Int):=by omega
      have hkl:k < kids.length:=by have:=HKN.out;omega
      obtain ⟨u,hu,hc⟩:=HROW.out k hkl
      have hBw:=HU0.out wr HGr.out
      obtain ⟨t,ht⟩:∃ t,t=kids[k]:=⟨_,rfl⟩
      rw [← ht] at hu
      obtain ⟨tkd,tsl,tk,tmn,tmx⟩:=t
      obtain ⟨tsp,tsc,tkp,tkc,rfl,hu8,_⟩:=hu.read
      have d0:=(hBw.cell (p:=⟨g,k*5+0,none⟩) HGL.out).trans (hc 0 (by omega))
      have d1:=(hBw.cell (p:=⟨g,k*5+1,none⟩) HGL.out).trans (hc 1 (by omega))
      have d2:=(hBw.cell (p:=⟨g,k*5+2,none⟩) HGL.out).trans (hc 2 (by omega))
      have d3:=(hBw.cell (p:=⟨g,k*5+3,none⟩) HGL.out).trans (hc 3 (by omega))
      have d4:=(hBw.cell (p:=⟨g,k*5+4,none⟩) HGL.out).trans (hc 4 (by omega))
      simp only [kidParts,Nat.add_zero] at d0 d1 d2 d3 d4
      simp at d0 d1 d2 d3 d4
      obtain ⟨tn,htn⟩:∃ tn,tn=tsl.length:=⟨_,rfl⟩
      obtain ⟨tkn,htkn⟩:∃ tkn,tkn=tk.length:=⟨_,rfl⟩
      rw [← htn] at d1 hu
      rw [← htkn] at d2 hu
      have hm:Ns.mk tkd tsl tk tmn tmx∈kids:=by rw [ht];exact List.getElem_mem hkl
      obtain ⟨Y,hY⟩:∃ Y,Y=wr.alloc (.cells #[.int .u8 tkd,.slice tsp tn tsc,.slice tkp tkn tkc,.int .i64 tmn,.int .i64 tmx] 48):=⟨_,rfl⟩
      have hbY:Below wr.heap.size wr Y:=by rw [hY];exact (Below.refl _ _).alloc (Nat.le_refl _) _
      have hw1:above+1≤21:=by omega
      have HC:=Lib.hid (HI.out _ hm W0 Y M _ (above+1) (by omega) hw1 hu HA.out (HU0.out Y (HGr.out.trans (Gr.of hbY))) HM.out (HMr.out.step hbY))
      have HTK:Hid (kids.take (k+1)=kids.take k++[Ns.mk tkd tsl tk tmn tmx]):=Lib.hid (by rw [ht];exact List.take_succ_eq_append_getElem hkl)
      have HMEM:=Lib.hid hm
      have HGY:=Lib.hid (HGr.out.trans (Gr.of hbY))
      have y2:Y.cell? ⟨W.heap.size,0,none⟩=some (.map (some M)):=(hbY.cell (p:=⟨W.heap.size,0,none⟩) HlW.out).trans r2
      rw [hY] at y2
      clear hu hc hBw ht hm htn htkn hbY hu8 hlook HGD
      go_wp2_with fail
      rw [← hY]
      clear hY
      refine HC.out.mono ?_
      rintro e w5 ⟨lv5,q5,rfl,hq5,hl5,hM5,hG5⟩
      have HG5:=Lib.hid (HGY.out.trans hG5)
      have HM5:=Lib.hid hM5
      cases q5 with
      | false =>
       have HQ:Hid (NC W0 (.mk kd sl kids mn mx) above M W (.returned (.tuple #[.int .i64 0,.bool false])) w5):=Lib.hid (by
        refine ⟨0,false,rfl,⟨fun h=>(by cases h),fun h=>?_⟩,fun h=>(by cases h),HM5.out,(Gr.of HBX.out).trans HG5.out⟩
        rw [shp_mk,dep_mk] at h
        have h1:=(shpL_iff _).1 h.1.2 _ HMEM.out
        have h2:=depL_mem _ _ HMEM.out
        have:=hq5.2 ⟨h1,by omega⟩
        cases this)
       clear hq5 hl5 hM5 hG5
       go_wp2
       go_ret2
       exact HQ.out
      | true =>
       have hs5:=hq5.1 rfl
       have hd5:=hl5 rfl
       have HLV2:Hid (max lv (lv5+1)=depL (kids.take (k+1))∧ShpL (kids.take (k+1))∧(max lv (lv5+1)=0∨above+(max lv (lv5+1):Nat)≤20)):=Lib.hid (by
        have h3:=HLV.out
        rw [HTK.out,depL_append,depL_cons,depL_nil,← h3.1,← hd5,shpL_iff]
        refine ⟨by omega,fun x hx=>?_,.inr (by omega)⟩
        rcases List.mem_append.1 hx with h | h
        ·exact (shpL_iff _).1 h3.2.1 x h
        ·simp at h;subst h;exact hs5.1)
       have hlv5:lv5≤20:=by omega
       have hmx:max (lv:Int) ((lv5:Int)+1)=((max lv (lv5+1):Nat):Int):=by omega
       have HMX:=Lib.hid hmx
       have hb20:max lv (lv5+1)≤20:=by omega
       clear hq5 hl5 hM5 hG5 hs5 hd5
       obtain ⟨mxv,hmxv⟩:∃ m:Nat,m=max lv (lv5+1):=⟨_,rfl⟩
       rw [← hmxv] at hmx HLV2 hb20
       clear hmxv HMX
       go_wp2
       go_roundg gk
       case measure=>omega
       case rel=>exact ⟨k+1,mxv,by omega,rfl,by rw [← hmx],hb20,HLV2,HM5,HG5⟩
theorem node_kall : ∀ (t : Ns), NodeC t
 | .mk k sl kids mn mx=>node_k _ (fun u _hu=>node_kall u)
termination_by t=>SizeOf.sizeOf t
decreasing_by
 have:=List.sizeOf_lt_of_mem (show u∈kids from _hu)
 simp only [Ns.mk.sizeOf_spec]
 omega
end Go.Proofs.YtioahgklplbinaaGreatDoor
/- The program's Sound and Write, at any node. -/
namespace Go.Proofs.YtioahgklplbinaaGreatDoor
open Go.RowKit Go.Shelf Go.Maps SetM PropsM RxM WrM
set_option maxHeartbeats 4000000 in
set_option maxRecDepth 100000 in
theorem sound_c {W:World} {v:Value} {t:Ns} (hv:RV W v t) (hA:Ar W):Calls Tryz.prog 22 #[v] W fun e W'=>e=.returned (.bool (sndB t 0))∧Below W.heap.size W W':=by
 obtain ⟨k,sp,sn,sc,kp,kn,kc,mn,mx,rfl⟩:=hv.form5
 obtain ⟨V1,hV1⟩:∃ V,V=W.alloc (.cells #[.int .u8 k,.slice sp sn sc,.slice kp kn kc,.int .i64 mn,.int .i64 mx] 48):=⟨_,rfl⟩
 have z1:V1.heap.size=W.heap.size+1:=by rw [hV1,World.size_alloc]
 have n1:V1.heap[W.heap.size]? = some (.cells #[.int .u8 k,.slice sp sn sc,.slice kp kn kc,.int .i64 mn,.int .i64 mx] 48 (0,0)):=by rw [hV1];exact heap_alloc_new W _
 obtain ⟨V2,hV2⟩:∃ V,V=V1.alloc (.map #[] 0):=⟨_,rfl⟩
 have z2:V2.heap.size=W.heap.size+2:=by rw [hV2,World.size_alloc,z1]
 obtain ⟨V,hV⟩:∃ V,V=V2.alloc (.cells #[.map (some (W.heap.size+1))] 91):=⟨_,rfl⟩
 have hb:Below W.heap.size W V:=by rw [hV,hV2,hV1];exact (((Below.refl _ _).alloc (Nat.le_refl _) _).alloc (by rw [World.size_alloc];omega) _).alloc (by rw [World.size_alloc,World.size_alloc];omega) _
 have hM:V.heap[W.heap.size+1]? = some (.map #[] 0):=by
  rw [hV,Lib.alloc_old V2 _ _ (by omega),hV2,← z1]
  exact heap_alloc_new V1 _
 have hN:V.heap[W.heap.size]? = some (.cells #[.int .u8 k,.slice sp sn sc,.slice kp kn kc,.int .i64 mn,.int .i64 mx] 48 (0,0)):=by
  rw [hV,Lib.alloc_old V2 _ _ (by omega),hV2,Lib.alloc_old V1 _ _ (by omega)]
  exact n1
 have hmk:∀ w,(Instr.makeMap 89 none).run Tryz.prog w=.ok (.map (some w.heap.size)) (w.alloc (.map #[] 0)):=fun _=>by kernel_rfl
 have HC:=Lib.hid (node_kall t W V (W.heap.size+1) _ 0 (by omega) (by omega) hv hA hb (by omega) ⟨[],⟨#[],0,hM,rfl⟩,fun q hq=>by cases hq⟩)
 have HB:=Lib.hid hb
 have k0:V.cell? ⟨W.heap.size,0,none⟩=some (.int .u8 k):=by rw [cell_of_row V _ 0 _ _ _ hN];rfl
 have k1:V.cell? ⟨W.heap.size,1,none⟩=some (.slice sp sn sc):=by rw [cell_of_row V _ 1 _ _ _ hN];rfl
 have k2:V.cell? ⟨W.heap.size,2,none⟩=some (.slice kp kn kc):=by rw [cell_of_row V _ 2 _ _ _ hN];rfl
 have k3:V.cell? ⟨W.heap.size,3,none⟩=some (.int .i64 mn):=by rw [cell_of_row V _ 3 _ _ _ hN];rfl
 have k4:V.cell? ⟨W.heap.size,4,none⟩=some (.int .i64 mx):=by rw [cell_of_row V _ 4 _ _ _ hN];rfl
 rw [hV,hV2,hV1] at k0 k1 k2 k3 k4
 clear hv hA hb hM hN n1 z1 z2
 go_enter Tryz.func22,Tryz.ntmps22
 go_wp2_with fail
 rw [← hV1,← hV2,← hV]
 clear hV1 hV2 hV
 refine HC.out.mono ?_
 rintro e w1 ⟨lv,q,rfl,hq,_,_,hG⟩
 have HQ:Hid (.returned (.bool q)=Ending.returned (.bool (sndB t 0))∧Below W.heap.size W w1):=Lib.hid (by
  refine ⟨?_,hG.below HB.out (by omega)⟩
  have:q=sndB t 0:=by
   rw [Bool.eq_iff_iff,hq,sndB_true]
   unfold SndAt
   constructor
   ·rintro ⟨h1,h2⟩;exact ⟨h1,by omega⟩
   ·rintro ⟨h1,h2⟩;exact ⟨h1,by omega⟩
  rw [this])
 clear hq hG k0 k1 k2 k3 k4 hmk
 go_wp2
 go_ret
 exact HQ.out
end Go.Proofs.YtioahgklplbinaaGreatDoor
