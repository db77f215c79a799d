/- SeqsBoth and SeqsOne: the walks. -/
import Derived.Test.YtgaalkcociifmaaDoorSKnown
import Derived.Test.YtgaalkcociifmaaDoorRefOps
import Derived.Test.YtgaalkcociifmaaDoorURenc
import Derived.Test.YtgaalkcociifmaaDoorCount
namespace Go.Proofs.YtgaalkcociifmaaDoor
open Go.RowKit Go.Shelf SeqM
open U.UtfM (enc)

theorem sc_iff (r : Int) : U.UtfM.Sc r ↔ SetM.Sc r := by unfold U.UtfM.Sc SetM.Sc; omega
theorem enc_inj {x r : Int} (hx : U.UtfM.Sc x) (hr : U.UtfM.Sc r) (h : enc x = enc r) : x = r := by
  have h1 := U.UtfM.dec_enc hx []
  have h2 := U.UtfM.dec_enc hr []
  rw [h, h2] at h1
  exact (congrArg Prod.fst h1).symm
/-- A scalar's bytes are taken just if it is told. -/
theorem takes_sc (l : List SetM.Sp) {x : Int} (hx : U.UtfM.Sc x) : anyFits (rowsOf (nrm l)) (enc x) = decide (SetM.Tells l x) := by
  rw [Bool.eq_iff_iff, takes_iff, decide_eq_true_iff]
  constructor
  · rintro ⟨r, h1, h2⟩
    have := enc_inj hx ((sc_iff r).2 h1.1) h2
    rw [this]; exact h1
  · intro h; exact ⟨x, h, rfl⟩
theorem many_in (l : List SetM.Sp) : 0 ≤ many (nrm l) ∧ many (nrm l) ≤ 1114112 := by
  have h := SetM.size_range (nrm_nf l) (fun r h => ((nrm_mem l r).1 h).1)
  exact h
/-- A set and what it has not. -/
theorem many_not {l out : List SetM.Sp} (h : IsSet out (fun r => SetM.Sc r ∧ ¬ SetM.Tells l r)) : many (nrm l) + many (nrm out) = 1112064 := by
  have e : nrm out = out := nrm_set h (fun r hr => hr.1)
  rw [e]
  refine SetM.sizes_not (nrm_nf l) h.1 (fun r h => ((nrm_mem l r).1 h).1) (fun r => ?_)
  rw [h.2, nrm_mem]

set_option maxRecDepth 100000 in
set_option maxHeartbeats 4000000 in
theorem seqsBoth_any (A : Option Addr) (ca : Nat) (cs : List Int) (r : Int) (hr : 0 ≤ r) (w : World) (hU : U16s w.heap.size w A cs) (hC : Ctl w w) :
    Calls Tryd.prog 3 #[.slice A cs.length ca, .int .u32 r] w fun e w' => e = .returned (.bool true) ∧ Below w.heap.size w w' := by
  by_cases h40 : 40 < cs.length
  · have hz : (40 : Int) < (cs.length : Int) := by omega
    go_enter Tryd.func3, Tryd.ntmps3
    go_wp2_with fail
    refine (known3_c hC).mono ?_
    rintro e W2 ⟨rfl, b2⟩
    go_wp2
    go_ret
    exact ⟨rfl, (hC.step b2).below⟩
  have hz : ¬ ((40 : Int) < (cs.length : Int)) := by omega
  have HWC := Lib.hid (wide_make (cs := cs) (fun c h => (hU.1 c h).1))
  have hx0 : 0 ≤ r % 1114112 := by omega
  have hx1 : r % 1114112 ≤ 1114111 := by omega
  have lA := makeF_len cs
  go_enter Tryd.func3, Tryd.ntmps3
  go_wp2_with fail
  refine (known3_c hC).mono ?_
  rintro e W2 ⟨rfl, b2⟩
  have hC2 := hC.step b2
  clear b2
  go_wp2_with fail
  refine (make_c hU hC2.ctx).mono ?_
  rintro e W3 ⟨PA, cA, rfl, SA, ZA, b3⟩
  have hC3 := hC2.step b3
  clear b3
  go_wp2_with fail
  refine (of_c hC3 SA (by omega)).mono ?_
  rintro e W4 ⟨P4, c4, rfl, R4, b4⟩
  have hC4 := hC3.step b4
  replace SA := SA.step b4
  clear b4
  go_wp2_with fail
  refine (rnot_c SA (by omega) HWC.out).mono ?_
  rintro e W5 ⟨P5, c5, out, rfl, i5, l5, s5, z5, b5⟩
  have hC5 := hC4.step b5
  replace R4 := R4.step b5
  have HSUM := Lib.hid (many_not i5)
  have hset : nrm out = out := nrm_set i5 (fun r hr => hr.1)
  have HTS : Hid (∀ x, SetM.Sc x → decide (SetM.Tells out x) = !decide (SetM.Tells (makeF cs) x)) := Lib.hid (fun x hx => by
    have h1 := i5.tells (fun r hr => hr.1) x
    rw [Bool.eq_iff_iff, decide_eq_true_iff, h1]
    simp [hx])
  have hlo : out.length ≤ 1000 := by omega
  clear b5 SA i5 l5 z5 hset
  go_wp2_with fail
  refine (of_c hC5 s5 hlo).mono ?_
  rintro e W6 ⟨P6, c6, rfl, R6, b6⟩
  have hC6 := hC5.step b6
  replace R4 := R4.step b6
  clear b6 s5
  go_wp2_with fail
  generalize r % 1114112 = x at *
  refine (U.renc_c x _).mono ?_
  rintro e W7 ⟨P7, c7, rfl, h7, _, _, _, _, b7⟩
  have hC7 := hC6.step b7
  replace R4 := R4.step b7
  replace R6 := R6.step b7
  clear b7
  have HR4 := Lib.hid R4
  have HR6 := Lib.hid R6
  have HB := Lib.hid h7
  obtain ⟨a0, a1⟩ := many_in (makeF cs)
  obtain ⟨d0, d1⟩ := many_in out
  clear R4 R6 h7
  by_cases hS : U.UtfM.Sc x
  · have hpos := U.UtfM.enc_pos hS
    have z1 : (((enc x).length : Int) == 0) = false := by rw [beq_eq_false_iff_ne]; omega
    have HT1 := Lib.hid (takes_sc (makeF cs) hS)
    have HT2 := Lib.hid (takes_sc out hS)
    have HN := Lib.hid (HTS.out x ((sc_iff x).1 hS))
    clear hpos hS
    go_wp2_with fail
    refine (match_c (makeF cs) (by omega) (enc x) HR4.out HB.out).mono ?_
    rintro e W8 ⟨rfl, b8⟩
    have hC8 := hC7.step b8
    have HR48 := Lib.hid (HR4.out.step b8)
    have HR68 := Lib.hid (HR6.out.step b8)
    have HB8 := Lib.hid (HB.out.step b8)
    rw [HT1.out]
    clear b8 HR4 HR6 HB
    go_wp2_with fail
    refine (match_c out hlo (enc x) HR68.out HB8.out).mono ?_
    rintro e W9 ⟨rfl, b9⟩
    have hC9 := hC8.step b9
    have HR49 := Lib.hid (HR48.out.step b9)
    have HR69 := Lib.hid (HR68.out.step b9)
    rw [HT2.out, HN.out]
    clear b9 HR48 HR68 HB8
    generalize decide (SetM.Tells (makeF cs) x) = q at *
    cases q
    all_goals
      go_wp2_with fail
      refine (count_c (makeF cs) (by omega) HR49.out).mono ?_
      rintro e W10 ⟨rfl, b10⟩
      have hC10 := hC9.step b10
      have HR610 := Lib.hid (HR69.out.step b10)
      clear b10
      go_wp2_with fail
      refine (count_c out hlo HR610.out).mono ?_
      rintro e W11 ⟨rfl, b11⟩
      have hC11 := hC10.step b11
      have ts : (many (nrm (makeF cs)) + many (nrm out) == 1112064) = true := by rw [beq_iff_eq]; exact HSUM.out
      clear b11 HSUM
      generalize many (nrm (makeF cs)) = m1 at *
      generalize many (nrm out) = m2 at *
      go_wp2
      go_ret
      exact ⟨rfl, hC11.below⟩
  · have e0 := U.UtfM.enc0 hS
    have z1 : (((enc x).length : Int) == 0) = true := by rw [beq_iff_eq, e0]; rfl
    clear hS e0
    go_wp2_with fail
    refine (count_c (makeF cs) (by omega) HR4.out).mono ?_
    rintro e W10 ⟨rfl, b10⟩
    have hC10 := hC7.step b10
    have HR610 := Lib.hid (HR6.out.step b10)
    clear b10
    go_wp2_with fail
    refine (count_c out hlo HR610.out).mono ?_
    rintro e W11 ⟨rfl, b11⟩
    have hC11 := hC10.step b11
    have ts : (many (nrm (makeF cs)) + many (nrm out) == 1112064) = true := by rw [beq_iff_eq]; exact HSUM.out
    clear b11 HSUM
    generalize many (nrm (makeF cs)) = m1 at *
    generalize many (nrm out) = m2 at *
    go_wp2
    go_ret
    exact ⟨rfl, hC11.below⟩
end Go.Proofs.YtgaalkcociifmaaDoor
