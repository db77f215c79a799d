/- The document's own Same; the law's two. -/
import Derived.Test.YtnhkbafjjngomaaDoorRefOps
import Derived.Test.YtnhkbafjjngomaaDoorShort
namespace Go.Proofs.YtnhkbafjjngomaaDoor
open Go.RowKit Go.Shelf SetM

set_option maxRecDepth 100000 in
set_option maxHeartbeats 2000000 in
theorem rsame_c {W : World} {P Q : Option Addr} {c d : Nat} {l m : List Sp} (hs : Sl W P l) (ht : Sl W Q m) (hl : l.length ≤ 10000) (hm : m.length ≤ 10000) (hw : Wide l) (hv : Wide m) :
    Calls Tryd.prog 40 #[.slice P l.length c, .slice Q m.length d] W fun e W' => ∃ x y, IsSet x (fun r => Tells l r) ∧ IsSet y (fun r => Tells m r) ∧ e = .returned (.bool (decide (x = y))) ∧ Below W.heap.size W W' := by
  have HW := Lib.hid hw
  have HV := Lib.hid hv
  clear hw hv
  go_enter Tryd.func40, Tryd.ntmps40
  go_wp2_with fail
  refine (rnorm_c hs (by omega) HW.out).mono ?_
  rintro e W1 ⟨P1, c1, o1, rfl, I1, L1, S1, _, b1⟩
  replace ht := ht.step b1
  go_wp2_with fail
  refine (rnorm_c ht (by omega) HV.out).mono ?_
  rintro e W2 ⟨P2, c2, o2, rfl, I2, L2, S2, _, b2⟩
  replace S1 := S1.step b2
  have HB := Lib.hid (b1.trans (b2.mono b1.size))
  have H1 := Lib.hid I1
  have H2 := Lib.hid I2
  clear b1 b2 I1 I2 hs ht
  go_wp2_with fail
  refine (alike_c S1 S2 (by omega) (by omega)).mono ?_
  rintro e W3 ⟨rfl, b3⟩
  have HB3 := Lib.hid (HB.out.trans (b3.mono HB.out.size))
  clear b3
  generalize hq : decide (o1 = o2) = q at *
  have HQ := Lib.hid hq
  clear hq
  go_wp2
  go_ret
  exact ⟨o1, o2, H1.out, H2.out, by rw [HQ.out]; rfl, HB3.out⟩

set_option maxRecDepth 100000 in
set_option maxHeartbeats 4000000 in
theorem two_c {w W : World} {P Q : Option Addr} {c d : Nat} {l m : List Sp} (hC : Ctx w W) (SL : Sl W P l) (SM : Sl W Q m) (hl : l.length ≤ 1000) (hm : m.length ≤ 1000) (hw : Wide l) (hv : Wide m) :
    Calls Tryd.prog 25 #[.slice P l.length c, .slice Q m.length d] W fun e W' => e = .returned (.bool true) ∧ Below W.heap.size W W' := by
  have HWL := Lib.hid hw
  have HWM := Lib.hid hv
  clear hw hv
  have hC0 : Ctx W W := ⟨Below.refl _ _, hC.areas, hC.pos⟩
  clear hC
  go_enter Tryd.func25, Tryd.ntmps25
  go_wp2_with fail
  refine (inter_c hC0 SL SM (by omega) (by omega)).mono ?_
  rintro e W1 ⟨PA0, cA0, oA0, rfl, IA0, LA0, SA0, ZA0, b1⟩
  have hC1 := hC0.step b1
  replace SL := SL.step b1
  replace SM := SM.step b1
  clear b1
  go_wp2_with fail
  refine (rinter_c SL SM (by omega) (by omega) HWL.out HWM.out).mono ?_
  rintro e W2 ⟨PB0, cB0, oB0, rfl, IB0, LB0, SB0, ZB0, b2⟩
  have hC2 := hC1.step b2
  replace SL := SL.step b2
  replace SM := SM.step b2
  replace SA0 := SA0.step b2
  clear b2
  have heA0 := Lib.hid (IA0.eq IB0 (fun r => Iff.rfl))
  clear IA0 IB0
  go_wp2_with fail
  refine (alike_c SA0 SB0 (by omega) (by omega)).mono ?_
  rintro e W3 ⟨rfl, b3⟩
  have hC3 := hC2.step b3
  replace SL := SL.step b3
  replace SM := SM.step b3
  replace SA0 := SA0.step b3
  replace SB0 := SB0.step b3
  clear b3
  rw [decide_eq_true heA0.out]
  clear SA0 SB0 heA0 ZA0 ZB0
  go_wp2_with fail
  refine (minus_c hC3 SL SM (by omega) (by omega)).mono ?_
  rintro e W4 ⟨PA3, cA3, oA3, rfl, IA3, LA3, SA3, ZA3, b4⟩
  have hC4 := hC3.step b4
  replace SL := SL.step b4
  replace SM := SM.step b4
  clear b4
  go_wp2_with fail
  refine (rminus_c SL SM (by omega) (by omega) HWL.out HWM.out).mono ?_
  rintro e W5 ⟨PB3, cB3, oB3, rfl, IB3, LB3, SB3, ZB3, b5⟩
  have hC5 := hC4.step b5
  replace SL := SL.step b5
  replace SM := SM.step b5
  replace SA3 := SA3.step b5
  clear b5
  have heA3 := Lib.hid (IA3.eq IB3 (fun r => Iff.rfl))
  clear IA3 IB3
  go_wp2_with fail
  refine (alike_c SA3 SB3 (by omega) (by omega)).mono ?_
  rintro e W6 ⟨rfl, b6⟩
  have hC6 := hC5.step b6
  replace SL := SL.step b6
  replace SM := SM.step b6
  replace SA3 := SA3.step b6
  replace SB3 := SB3.step b6
  clear b6
  rw [decide_eq_true heA3.out]
  clear SA3 SB3 heA3 ZA3 ZB3
  go_wp2_with fail
  refine (same_c hC6 SL SM (by omega) (by omega)).mono ?_
  rintro e W7 ⟨q, rfl, Hq0, b7⟩
  have hC7 := hC6.step b7
  replace SL := SL.step b7
  replace SM := SM.step b7
  clear b7
  have HQ := Lib.hid Hq0
  clear Hq0
  go_wp2_with fail
  refine (rsame_c SL SM (by omega) (by omega) HWL.out HWM.out).mono ?_
  rintro e W8 ⟨xr, yr, Ix, Iy, rfl, b8⟩
  have hC8 := hC7.step b8
  replace SL := SL.step b8
  replace SM := SM.step b8
  clear b8
  have hqq : decide (xr = yr) = q := Bool.eq_iff_iff.2 ((nf_same Ix.1 Iy.1 Ix.2 Iy.2).trans HQ.out.symm)
  rw [hqq]
  clear Ix Iy HQ hqq
  go_wp2
  go_ret
  exact ⟨rfl, hC8.below⟩
end Go.Proofs.YtnhkbafjjngomaaDoor
