/- SetNorms: the walk. -/
import Derived.Test.YtnhkbafjjngomaaDoorRefOps
import Derived.Test.YtnhkbafjjngomaaDoorShort
namespace Go.Proofs.YtnhkbafjjngomaaDoor
open Go.RowKit Go.Shelf SetM

set_option maxRecDepth 100000 in
set_option maxHeartbeats 8000000 in
theorem setNorms_any (B A : Option Addr) (cb ca : Nat) (l : List Sp) (cs : List Int) (r : Int) (w : World) (SL : Sl w B l) (ZL : B = none → cb = 0) (hlb : l.length ≤ 9223372036854775807) (hwl : Wide l) (hU : U16s w.heap.size w A cs) (hC : Ctx w w) :
    Calls Tryd.prog 4 #[.slice B l.length cb, .slice A cs.length ca, .int .i64 r] w fun e w' => e = .returned (.bool true) ∧ Below w.heap.size w w' := by
  have hR := rows_one (c := cb) SL ZL
  have hb0 : Below w.heap.size w (w.alloc (.cells #[.slice B l.length cb] 24)) := (Below.refl _ _).alloc (Nat.le_refl _) _
  have hh := heavy_any (some ⟨w.heap.size, 0, none⟩) 1 [l] (by simp) (by rw [total_one]; exact hlb) _ hR
  have hC0 := hC.step hb0
  replace SL := SL.step hb0
  have HH := Lib.hid hh
  have HWL := Lib.hid hwl
  have HWM := Lib.hid (wide_make (cs := cs) (fun c h => (hU.1 c h).1))
  clear hh hR hb0 hwl
  by_cases h80 : 80 < l.length
  · have hd : decide (80 < total [l]) = true := by rw [total_one]; exact decide_eq_true h80
    have HD := Lib.hid hd
    clear hd
    go_enter Tryd.func4, Tryd.ntmps4
    go_wp2_with fail
    refine HH.out.mono ?_
    rintro e W1 ⟨rfl, rfl⟩
    rw [HD.out]
    go_wp2_with fail
    refine (known_c hC0).mono ?_
    rintro e W2 ⟨rfl, b2⟩
    have hC2 := hC0.step b2
    go_wp2
    go_ret
    exact ⟨rfl, hC2.below⟩
  · have hd : decide (80 < total [l]) = false := by rw [total_one]; exact decide_eq_false h80
    have HD := Lib.hid hd
    clear hd
    have hl80 : l.length ≤ 80 := by omega
    clear h80
    go_enter Tryd.func4, Tryd.ntmps4
    go_wp2_with fail
    refine HH.out.mono ?_
    rintro e W1 ⟨rfl, rfl⟩
    rw [HD.out]
    generalize w.alloc (.cells #[.slice B l.length cb] 24) = W1 at *
    go_wp2_with fail
    refine (known_c hC0).mono ?_
    rintro e W2 ⟨rfl, b2⟩
    have hC2 := hC0.step b2
    replace SL := SL.step b2
    clear b2
    go_wp2_with fail
    refine (make_c hU hC2).mono ?_
    rintro e W3 ⟨Pm, cm, rfl, SM, Zm, b3⟩
    have hC3 := hC2.step b3
    replace SL := SL.step b3
    clear b3
    have lm := makeF_len cs
    generalize makeF cs = m at *
    go_wp2_with fail
    refine (norm_c hC3 SL (by omega)).mono ?_
    rintro e W4 ⟨PA3, cA3, oA3, rfl, IA3, LA3, SA3, ZA3, b4⟩
    have hC4 := hC3.step b4
    replace SL := SL.step b4
    replace SM := SM.step b4
    clear b4
    go_wp2_with fail
    refine (rnorm_c SL (by omega) HWL.out).mono ?_
    rintro e W5 ⟨PB3, cB3, oB3, rfl, IB3, LB3, SB3, ZB3, b5⟩
    have hC5 := hC4.step b5
    replace SL := SL.step b5
    replace SM := SM.step b5
    replace SA3 := SA3.step b5
    clear b5
    have heA3 := Lib.hid (IA3.eq IB3 (fun r => Iff.rfl))
    clear IA3 IB3
    go_wp2_with fail
    refine (alike_c SA3 SB3 (by omega) (by omega)).mono ?_
    rintro e W6 ⟨rfl, b6⟩
    have hC6 := hC5.step b6
    replace SL := SL.step b6
    replace SM := SM.step b6
    replace SA3 := SA3.step b6
    replace SB3 := SB3.step b6
    clear b6
    rw [decide_eq_true heA3.out]
    clear SA3 SB3 heA3 ZA3 ZB3
    go_wp2_with fail
    refine (not_c hC6 SL (by omega)).mono ?_
    rintro e W7 ⟨PA6, cA6, oA6, rfl, IA6, LA6, SA6, ZA6, b7⟩
    have hC7 := hC6.step b7
    replace SL := SL.step b7
    replace SM := SM.step b7
    clear b7
    go_wp2_with fail
    refine (rnot_c SL (by omega) HWL.out).mono ?_
    rintro e W8 ⟨PB6, cB6, oB6, rfl, IB6, LB6, SB6, ZB6, b8⟩
    have hC8 := hC7.step b8
    replace SL := SL.step b8
    replace SM := SM.step b8
    replace SA6 := SA6.step b8
    clear b8
    have heA6 := Lib.hid (IA6.eq IB6 (fun r => Iff.rfl))
    clear IA6 IB6
    go_wp2_with fail
    refine (alike_c SA6 SB6 (by omega) (by omega)).mono ?_
    rintro e W9 ⟨rfl, b9⟩
    have hC9 := hC8.step b9
    replace SL := SL.step b9
    replace SM := SM.step b9
    replace SA6 := SA6.step b9
    replace SB6 := SB6.step b9
    clear b9
    rw [decide_eq_true heA6.out]
    clear SA6 SB6 heA6 ZA6 ZB6
    go_wp2_with fail
    refine (size_c hC9 SL (by omega)).mono ?_
    rintro e W10 ⟨qA9, NA9, MA9, rfl, b10⟩
    have hC10 := hC9.step b10
    replace SL := SL.step b10
    replace SM := SM.step b10
    clear b10
    have HA9 := Lib.hid (And.intro NA9 MA9)
    clear NA9 MA9
    go_wp2_with fail
    refine (rsize_c SL (by omega) HWL.out).mono ?_
    rintro e W11 ⟨qB9, NB9, MB9, rfl, b11⟩
    have hC11 := hC10.step b11
    replace SL := SL.step b11
    replace SM := SM.step b11
    clear b11
    obtain rfl : qB9 = qA9 := nf_unique _ _ NB9 HA9.out.1 (fun r => (MB9 r).trans (HA9.out.2 r).symm)
    clear NB9 MB9 HA9
    generalize sizeL qB9 = nB9 at *
    go_wp2_with fail
    refine (has_c r hC11 SL (by omega)).mono ?_
    rintro e W12 ⟨rfl, b12⟩
    have hC12 := hC11.step b12
    replace SL := SL.step b12
    replace SM := SM.step b12
    clear b12
    go_wp2_with fail
    refine (rhas_any _ _ l r _ SL (by omega)).mono ?_
    rintro e w'A11 ⟨rfl, rfl⟩
    generalize decide (Tells l r) = tA11 at *
    go_wp2_with fail
    refine (norm_c hC12 SM (by omega)).mono ?_
    rintro e W13 ⟨PA12, cA12, oA12, rfl, IA12, LA12, SA12, ZA12, b13⟩
    have hC13 := hC12.step b13
    replace SL := SL.step b13
    replace SM := SM.step b13
    clear b13
    go_wp2_with fail
    refine (rnorm_c SM (by omega) HWM.out).mono ?_
    rintro e W14 ⟨PB12, cB12, oB12, rfl, IB12, LB12, SB12, ZB12, b14⟩
    have hC14 := hC13.step b14
    replace SL := SL.step b14
    replace SM := SM.step b14
    replace SA12 := SA12.step b14
    clear b14
    have heA12 := Lib.hid (IA12.eq IB12 (fun r => Iff.rfl))
    clear IA12 IB12
    go_wp2_with fail
    refine (alike_c SA12 SB12 (by omega) (by omega)).mono ?_
    rintro e W15 ⟨rfl, b15⟩
    have hC15 := hC14.step b15
    replace SL := SL.step b15
    replace SM := SM.step b15
    replace SA12 := SA12.step b15
    replace SB12 := SB12.step b15
    clear b15
    rw [decide_eq_true heA12.out]
    clear SA12 SB12 heA12 ZA12 ZB12
    go_wp2_with fail
    refine (not_c hC15 SM (by omega)).mono ?_
    rintro e W16 ⟨PA15, cA15, oA15, rfl, IA15, LA15, SA15, ZA15, b16⟩
    have hC16 := hC15.step b16
    replace SL := SL.step b16
    replace SM := SM.step b16
    clear b16
    go_wp2_with fail
    refine (rnot_c SM (by omega) HWM.out).mono ?_
    rintro e W17 ⟨PB15, cB15, oB15, rfl, IB15, LB15, SB15, ZB15, b17⟩
    have hC17 := hC16.step b17
    replace SL := SL.step b17
    replace SM := SM.step b17
    replace SA15 := SA15.step b17
    clear b17
    have heA15 := Lib.hid (IA15.eq IB15 (fun r => Iff.rfl))
    clear IA15 IB15
    go_wp2_with fail
    refine (alike_c SA15 SB15 (by omega) (by omega)).mono ?_
    rintro e W18 ⟨rfl, b18⟩
    have hC18 := hC17.step b18
    replace SL := SL.step b18
    replace SM := SM.step b18
    replace SA15 := SA15.step b18
    replace SB15 := SB15.step b18
    clear b18
    rw [decide_eq_true heA15.out]
    clear SA15 SB15 heA15 ZA15 ZB15
    go_wp2_with fail
    refine (size_c hC18 SM (by omega)).mono ?_
    rintro e W19 ⟨qA18, NA18, MA18, rfl, b19⟩
    have hC19 := hC18.step b19
    replace SL := SL.step b19
    replace SM := SM.step b19
    clear b19
    have HA18 := Lib.hid (And.intro NA18 MA18)
    clear NA18 MA18
    go_wp2_with fail
    refine (rsize_c SM (by omega) HWM.out).mono ?_
    rintro e W20 ⟨qB18, NB18, MB18, rfl, b20⟩
    have hC20 := hC19.step b20
    replace SL := SL.step b20
    replace SM := SM.step b20
    clear b20
    obtain rfl : qB18 = qA18 := nf_unique _ _ NB18 HA18.out.1 (fun r => (MB18 r).trans (HA18.out.2 r).symm)
    clear NB18 MB18 HA18
    generalize sizeL qB18 = nB18 at *
    go_wp2_with fail
    refine (has_c r hC20 SM (by omega)).mono ?_
    rintro e W21 ⟨rfl, b21⟩
    have hC21 := hC20.step b21
    replace SL := SL.step b21
    replace SM := SM.step b21
    clear b21
    go_wp2_with fail
    refine (rhas_any _ _ m r _ SM (by omega)).mono ?_
    rintro e w'A20 ⟨rfl, rfl⟩
    generalize decide (Tells m r) = tA20 at *
    go_wp2
    go_ret
    exact ⟨rfl, hC21.below⟩
end Go.Proofs.YtnhkbafjjngomaaDoor
