/- SetMembers: the walk. -/
import Derived.Test.YtnhkbafjjngomaaDoorSteps
import Derived.Deep.DeepCutAuto
namespace Go.Proofs.YtnhkbafjjngomaaDoor
open Go.RowKit Go.Shelf SetM

set_option maxRecDepth 100000 in
set_option maxHeartbeats 8000000 in
theorem setMembers_any (A B : Option Addr) (ca cb : Nat) (cs ds : List Int) (r far : Int) (hr0 : 0 ≤ r) (hr1 : r ≤ 65535) (w : World) (hU : U16s w.heap.size w A cs) (hV : U16s w.heap.size w B ds) (hC : Ctx w w) :
    Calls Tryd.prog 7 #[.slice A cs.length ca, .slice B ds.length cb, .int .u16 r, .int .i64 far] w fun e w' => e = .returned (.bool true) ∧ Below w.heap.size w w' := by
  obtain ⟨p, hp⟩ : ∃ p, p = placeF r := ⟨_, rfl⟩
  have hpl : ∀ w, Calls Tryd.prog 12 #[.int .u16 r] w fun e w' => e = .returned (.int .i64 p) ∧ w = w' := fun w => by rw [hp]; exact place_any r hr0 hr1 w
  have HPL := Lib.hid hpl
  clear hpl hp
  go_enter Tryd.func7, Tryd.ntmps7
  go_wp2_with fail
  refine (make_c hU hC).mono ?_
  rintro e W1 ⟨PA, cA, rfl, SA, ZA, b1⟩
  have hC1 := hC.step b1
  clear b1
  go_wp2_with fail
  refine (make_c hV hC1).mono ?_
  rintro e W2 ⟨PB, cB, rfl, SB, ZB, b2⟩
  have hC2 := hC1.step b2
  replace SA := SA.step b2
  clear b2
  have lA := makeF_len cs
  have lB := makeF_len ds
  generalize hla : makeF cs = la at *
  generalize hlb : makeF ds = lb at *
  clear hla hlb
  go_wp2_with fail
  refine (HPL.out _).mono ?_
  rintro e w' ⟨rfl, rfl⟩
  obtain ⟨x, hx⟩ : ∃ x, x = if far.tmod 4 = 0 then far else p := ⟨_, rfl⟩
  have HX := Lib.hid hx
  clear hx
  obtain ⟨iv, hiv⟩ : ∃ iv, iv = decide (Sc x) := ⟨_, rfl⟩
  have HI := Lib.hid hiv
  clear hiv
  go_upto_if 23 with (fail)
  go_cut [11] (fun s11 wc => s11 = .int .i64 x ∧ W2 = wc)
  case first =>
    by_cases hf : far.tmod 4 = 0
    · have hx : x = far := by rw [HX.out, if_pos hf]
      have HX2 := Lib.hid hx
      have t0 : (far.tmod 4 == 0) = true := by rw [beq_iff_eq]; exact hf
      clear hf hx
      go_wp2
      go_meet
      exact ⟨by rw [HX2.out], rfl⟩
    · have hx : x = p := by rw [HX.out, if_neg hf]
      have HX2 := Lib.hid hx
      have t0 : (far.tmod 4 == 0) = false := by rw [beq_eq_false_iff_ne]; exact hf
      clear hf hx
      go_wp2
      go_meet
      exact ⟨by rw [HX2.out], rfl⟩
  case rest =>
    obtain ⟨rfl, rfl⟩ := hcut
    clear HX HPL
    go_wp2_with fail
    refine (has_c x hC2 SA (by omega)).mono ?_
    rintro e W3 ⟨rfl, b3⟩
    have hC3 := hC2.step b3
    replace SA := SA.step b3
    replace SB := SB.step b3
    clear b3
    obtain ⟨pv, hpv⟩ : ∃ pv, pv = decide (Tells la x) := ⟨_, rfl⟩
    rw [← hpv]
    have HP := Lib.hid hpv
    clear hpv
    go_wp2_with fail
    refine (has_c x hC3 SB (by omega)).mono ?_
    rintro e W4 ⟨rfl, b4⟩
    have hC4 := hC3.step b4
    replace SA := SA.step b4
    replace SB := SB.step b4
    clear b4
    obtain ⟨qv, hqv⟩ : ∃ qv, qv = decide (Tells lb x) := ⟨_, rfl⟩
    rw [← hqv]
    have HQ := Lib.hid hqv
    clear hqv
    go_upto_region 8 with (fail)
    go_cut [14] (fun s14 wc => s14 = .bool iv ∧ W4 = wc)
    case first =>
      have hcase : x < 0 ∨ (0 ≤ x ∧ x ≤ 55295) ∨ (55296 ≤ x ∧ x ≤ 57343) ∨ (57344 ≤ x ∧ x ≤ 1114111) ∨ 1114111 < x := by omega
      rcases hcase with hx | ⟨hx, hy⟩ | ⟨hx, hy⟩ | ⟨hx, hy⟩ | hx
      · have hv : Hid (iv = false) := Lib.hid (by rw [HI.out]; exact decide_eq_false (by unfold Sc; omega))
        have da : decide (0 ≤ x) = false := decide_eq_false (by omega)
        go_wp2
        go_meet
        exact ⟨by rw [hv.out], rfl⟩
      · have hv : Hid (iv = true) := Lib.hid (by rw [HI.out]; exact decide_eq_true (by unfold Sc; omega))
        have da : decide (0 ≤ x) = true := decide_eq_true (by omega)
        have db : decide (x ≤ 1114111) = true := decide_eq_true (by omega)
        have dc : decide (x < 55296) = true := decide_eq_true (by omega)
        go_wp2
        go_meet
        exact ⟨by rw [hv.out], rfl⟩
      · have hv : Hid (iv = false) := Lib.hid (by rw [HI.out]; exact decide_eq_false (by unfold Sc; omega))
        have da : decide (0 ≤ x) = true := decide_eq_true (by omega)
        have db : decide (x ≤ 1114111) = true := decide_eq_true (by omega)
        have dc : decide (x < 55296) = false := decide_eq_false (by omega)
        have dd : decide (57343 < x) = false := decide_eq_false (by omega)
        go_wp2
        go_meet
        exact ⟨by rw [hv.out], rfl⟩
      · have hv : Hid (iv = true) := Lib.hid (by rw [HI.out]; exact decide_eq_true (by unfold Sc; omega))
        have da : decide (0 ≤ x) = true := decide_eq_true (by omega)
        have db : decide (x ≤ 1114111) = true := decide_eq_true (by omega)
        have dc : decide (x < 55296) = false := decide_eq_false (by omega)
        have dd : decide (57343 < x) = true := decide_eq_true (by omega)
        go_wp2
        go_meet
        exact ⟨by rw [hv.out], rfl⟩
      · have hv : Hid (iv = false) := Lib.hid (by rw [HI.out]; exact decide_eq_false (by unfold Sc; omega))
        have da : decide (0 ≤ x) = true := decide_eq_true (by omega)
        have db : decide (x ≤ 1114111) = false := decide_eq_false (by omega)
        go_wp2
        go_meet
        exact ⟨by rw [hv.out], rfl⟩
    case rest =>
      obtain ⟨rfl, rfl⟩ := hcut
      have hpi : pv = true → iv = true := fun h => by rw [HI.out]; rw [HP.out] at h; exact decide_eq_true (of_decide_eq_true h).1
      have hqi : qv = true → iv = true := fun h => by rw [HI.out]; rw [HQ.out] at h; exact decide_eq_true (of_decide_eq_true h).1
      cases pv
      · cases qv
        · cases iv
          · clear hpi hqi
            go_wp2_with fail
            refine (known_c hC4).mono ?_
            rintro e W21 ⟨rfl, b21⟩
            have hC21 := hC4.step b21
            replace SA := SA.step b21
            replace SB := SB.step b21
            clear b21
            go_wp2_with fail
            refine (union_c hC21 SA SB ZA ZB (by omega) (by omega)).mono ?_
            rintro e W22 ⟨PU, cU, oU, rfl, IU, LU, SU, ZU, b22⟩
            have hC22 := hC21.step b22
            replace SA := SA.step b22
            replace SB := SB.step b22
            clear b22
            have tU := IU.tells (fun r h => h.elim (fun h => h.1) (fun h => h.1)) x
            have vU : Hid (decide (Tells oU x) = false) := Lib.hid (by
              rw [decide_eq_false_iff_not, tU]
              have h1 := HP.out
              have h2 := HQ.out
              have h3 := HI.out
              simp at h1 h2 h3
              simp_all)
            clear tU IU
            go_wp2_with fail
            refine (has_c x hC22 SU (by omega)).mono ?_
            rintro e W23 ⟨rfl, b23⟩
            rw [vU.out]
            have hC23 := hC22.step b23
            replace SA := SA.step b23
            replace SB := SB.step b23
            replace SU := SU.step b23
            clear b23
            clear SU
            go_wp2_with fail
            refine (inter_c hC23 SA SB (by omega) (by omega)).mono ?_
            rintro e W24 ⟨PJ, cJ, oJ, rfl, IJ, LJ, SJ, ZJ, b24⟩
            have hC24 := hC23.step b24
            replace SA := SA.step b24
            replace SB := SB.step b24
            clear b24
            have tJ := IJ.tells (fun r h => h.1.1) x
            have vJ : Hid (decide (Tells oJ x) = false) := Lib.hid (by
              rw [decide_eq_false_iff_not, tJ]
              have h1 := HP.out
              have h2 := HQ.out
              have h3 := HI.out
              simp at h1 h2 h3
              simp_all)
            clear tJ IJ
            go_wp2_with fail
            refine (has_c x hC24 SJ (by omega)).mono ?_
            rintro e W25 ⟨rfl, b25⟩
            rw [vJ.out]
            have hC25 := hC24.step b25
            replace SA := SA.step b25
            replace SB := SB.step b25
            replace SJ := SJ.step b25
            clear b25
            clear SJ
            go_wp2_with fail
            refine (minus_c hC25 SA SB (by omega) (by omega)).mono ?_
            rintro e W26 ⟨PD, cD, oD, rfl, ID, LD, SD, ZD, b26⟩
            have hC26 := hC25.step b26
            replace SA := SA.step b26
            replace SB := SB.step b26
            clear b26
            have tD := ID.tells (fun r h => h.1.1) x
            have vD : Hid (decide (Tells oD x) = false) := Lib.hid (by
              rw [decide_eq_false_iff_not, tD]
              have h1 := HP.out
              have h2 := HQ.out
              have h3 := HI.out
              simp at h1 h2 h3
              simp_all)
            clear tD ID
            go_wp2_with fail
            refine (has_c x hC26 SD (by omega)).mono ?_
            rintro e W27 ⟨rfl, b27⟩
            rw [vD.out]
            have hC27 := hC26.step b27
            replace SA := SA.step b27
            replace SB := SB.step b27
            replace SD := SD.step b27
            clear b27
            clear SD
            go_wp2_with fail
            refine (not_c hC27 SA (by omega)).mono ?_
            rintro e W28 ⟨PN, cN, oN, rfl, IN, LN, SN, ZN, b28⟩
            have hC28 := hC27.step b28
            replace SA := SA.step b28
            replace SB := SB.step b28
            clear b28
            have tN := IN.tells (fun r h => h.1) x
            have vN : Hid (decide (Tells oN x) = false) := Lib.hid (by
              rw [decide_eq_false_iff_not, tN]
              have h1 := HP.out
              have h2 := HQ.out
              have h3 := HI.out
              simp at h1 h2 h3
              simp_all)
            clear tN IN
            go_wp2_with fail
            refine (has_c x hC28 SN (by omega)).mono ?_
            rintro e W29 ⟨rfl, b29⟩
            rw [vN.out]
            have hC29 := hC28.step b29
            replace SA := SA.step b29
            replace SB := SB.step b29
            replace SN := SN.step b29
            clear b29
            clear SN
            go_wp2_with fail
            refine (norm_c hC29 SA (by omega)).mono ?_
            rintro e W30 ⟨PM, cM, oM, rfl, IM, LM, SM, ZM, b30⟩
            have hC30 := hC29.step b30
            replace SA := SA.step b30
            replace SB := SB.step b30
            clear b30
            have tM := IM.tells (fun r h => h.1) x
            have vM : Hid (decide (Tells oM x) = false) := Lib.hid (by
              rw [decide_eq_false_iff_not, tM]
              have h1 := HP.out
              have h2 := HQ.out
              have h3 := HI.out
              simp at h1 h2 h3
              simp_all)
            clear tM IM
            go_wp2_with fail
            refine (has_c x hC30 SM (by omega)).mono ?_
            rintro e W31 ⟨rfl, b31⟩
            rw [vM.out]
            have hC31 := hC30.step b31
            replace SA := SA.step b31
            replace SB := SB.step b31
            replace SM := SM.step b31
            clear b31
            clear SM
            go_wp2
            go_ret
            exact ⟨rfl, hC31.below⟩
          · clear hpi hqi
            go_wp2_with fail
            refine (known_c hC4).mono ?_
            rintro e W21 ⟨rfl, b21⟩
            have hC21 := hC4.step b21
            replace SA := SA.step b21
            replace SB := SB.step b21
            clear b21
            go_wp2_with fail
            refine (union_c hC21 SA SB ZA ZB (by omega) (by omega)).mono ?_
            rintro e W22 ⟨PU, cU, oU, rfl, IU, LU, SU, ZU, b22⟩
            have hC22 := hC21.step b22
            replace SA := SA.step b22
            replace SB := SB.step b22
            clear b22
            have tU := IU.tells (fun r h => h.elim (fun h => h.1) (fun h => h.1)) x
            have vU : Hid (decide (Tells oU x) = false) := Lib.hid (by
              rw [decide_eq_false_iff_not, tU]
              have h1 := HP.out
              have h2 := HQ.out
              have h3 := HI.out
              simp at h1 h2 h3
              simp_all)
            clear tU IU
            go_wp2_with fail
            refine (has_c x hC22 SU (by omega)).mono ?_
            rintro e W23 ⟨rfl, b23⟩
            rw [vU.out]
            have hC23 := hC22.step b23
            replace SA := SA.step b23
            replace SB := SB.step b23
            replace SU := SU.step b23
            clear b23
            clear SU
            go_wp2_with fail
            refine (inter_c hC23 SA SB (by omega) (by omega)).mono ?_
            rintro e W24 ⟨PJ, cJ, oJ, rfl, IJ, LJ, SJ, ZJ, b24⟩
            have hC24 := hC23.step b24
            replace SA := SA.step b24
            replace SB := SB.step b24
            clear b24
            have tJ := IJ.tells (fun r h => h.1.1) x
            have vJ : Hid (decide (Tells oJ x) = false) := Lib.hid (by
              rw [decide_eq_false_iff_not, tJ]
              have h1 := HP.out
              have h2 := HQ.out
              have h3 := HI.out
              simp at h1 h2 h3
              simp_all)
            clear tJ IJ
            go_wp2_with fail
            refine (has_c x hC24 SJ (by omega)).mono ?_
            rintro e W25 ⟨rfl, b25⟩
            rw [vJ.out]
            have hC25 := hC24.step b25
            replace SA := SA.step b25
            replace SB := SB.step b25
            replace SJ := SJ.step b25
            clear b25
            clear SJ
            go_wp2_with fail
            refine (minus_c hC25 SA SB (by omega) (by omega)).mono ?_
            rintro e W26 ⟨PD, cD, oD, rfl, ID, LD, SD, ZD, b26⟩
            have hC26 := hC25.step b26
            replace SA := SA.step b26
            replace SB := SB.step b26
            clear b26
            have tD := ID.tells (fun r h => h.1.1) x
            have vD : Hid (decide (Tells oD x) = false) := Lib.hid (by
              rw [decide_eq_false_iff_not, tD]
              have h1 := HP.out
              have h2 := HQ.out
              have h3 := HI.out
              simp at h1 h2 h3
              simp_all)
            clear tD ID
            go_wp2_with fail
            refine (has_c x hC26 SD (by omega)).mono ?_
            rintro e W27 ⟨rfl, b27⟩
            rw [vD.out]
            have hC27 := hC26.step b27
            replace SA := SA.step b27
            replace SB := SB.step b27
            replace SD := SD.step b27
            clear b27
            clear SD
            go_wp2_with fail
            refine (not_c hC27 SA (by omega)).mono ?_
            rintro e W28 ⟨PN, cN, oN, rfl, IN, LN, SN, ZN, b28⟩
            have hC28 := hC27.step b28
            replace SA := SA.step b28
            replace SB := SB.step b28
            clear b28
            have tN := IN.tells (fun r h => h.1) x
            have vN : Hid (decide (Tells oN x) = true) := Lib.hid (by
              rw [decide_eq_true_iff, tN]
              have h1 := HP.out
              have h2 := HQ.out
              have h3 := HI.out
              simp at h1 h2 h3
              simp_all)
            clear tN IN
            go_wp2_with fail
            refine (has_c x hC28 SN (by omega)).mono ?_
            rintro e W29 ⟨rfl, b29⟩
            rw [vN.out]
            have hC29 := hC28.step b29
            replace SA := SA.step b29
            replace SB := SB.step b29
            replace SN := SN.step b29
            clear b29
            clear SN
            go_wp2_with fail
            refine (norm_c hC29 SA (by omega)).mono ?_
            rintro e W30 ⟨PM, cM, oM, rfl, IM, LM, SM, ZM, b30⟩
            have hC30 := hC29.step b30
            replace SA := SA.step b30
            replace SB := SB.step b30
            clear b30
            have tM := IM.tells (fun r h => h.1) x
            have vM : Hid (decide (Tells oM x) = false) := Lib.hid (by
              rw [decide_eq_false_iff_not, tM]
              have h1 := HP.out
              have h2 := HQ.out
              have h3 := HI.out
              simp at h1 h2 h3
              simp_all)
            clear tM IM
            go_wp2_with fail
            refine (has_c x hC30 SM (by omega)).mono ?_
            rintro e W31 ⟨rfl, b31⟩
            rw [vM.out]
            have hC31 := hC30.step b31
            replace SA := SA.step b31
            replace SB := SB.step b31
            replace SM := SM.step b31
            clear b31
            clear SM
            go_wp2
            go_ret
            exact ⟨rfl, hC31.below⟩
        · cases iv
          · exact absurd (hqi rfl) (by simp)
          · clear hpi hqi
            go_wp2_with fail
            refine (known_c hC4).mono ?_
            rintro e W21 ⟨rfl, b21⟩
            have hC21 := hC4.step b21
            replace SA := SA.step b21
            replace SB := SB.step b21
            clear b21
            go_wp2_with fail
            refine (union_c hC21 SA SB ZA ZB (by omega) (by omega)).mono ?_
            rintro e W22 ⟨PU, cU, oU, rfl, IU, LU, SU, ZU, b22⟩
            have hC22 := hC21.step b22
            replace SA := SA.step b22
            replace SB := SB.step b22
            clear b22
            have tU := IU.tells (fun r h => h.elim (fun h => h.1) (fun h => h.1)) x
            have vU : Hid (decide (Tells oU x) = true) := Lib.hid (by
              rw [decide_eq_true_iff, tU]
              have h1 := HP.out
              have h2 := HQ.out
              have h3 := HI.out
              simp at h1 h2 h3
              simp_all)
            clear tU IU
            go_wp2_with fail
            refine (has_c x hC22 SU (by omega)).mono ?_
            rintro e W23 ⟨rfl, b23⟩
            rw [vU.out]
            have hC23 := hC22.step b23
            replace SA := SA.step b23
            replace SB := SB.step b23
            replace SU := SU.step b23
            clear b23
            clear SU
            go_wp2_with fail
            refine (inter_c hC23 SA SB (by omega) (by omega)).mono ?_
            rintro e W24 ⟨PJ, cJ, oJ, rfl, IJ, LJ, SJ, ZJ, b24⟩
            have hC24 := hC23.step b24
            replace SA := SA.step b24
            replace SB := SB.step b24
            clear b24
            have tJ := IJ.tells (fun r h => h.1.1) x
            have vJ : Hid (decide (Tells oJ x) = false) := Lib.hid (by
              rw [decide_eq_false_iff_not, tJ]
              have h1 := HP.out
              have h2 := HQ.out
              have h3 := HI.out
              simp at h1 h2 h3
              simp_all)
            clear tJ IJ
            go_wp2_with fail
            refine (has_c x hC24 SJ (by omega)).mono ?_
            rintro e W25 ⟨rfl, b25⟩
            rw [vJ.out]
            have hC25 := hC24.step b25
            replace SA := SA.step b25
            replace SB := SB.step b25
            replace SJ := SJ.step b25
            clear b25
            clear SJ
            go_wp2_with fail
            refine (minus_c hC25 SA SB (by omega) (by omega)).mono ?_
            rintro e W26 ⟨PD, cD, oD, rfl, ID, LD, SD, ZD, b26⟩
            have hC26 := hC25.step b26
            replace SA := SA.step b26
            replace SB := SB.step b26
            clear b26
            have tD := ID.tells (fun r h => h.1.1) x
            have vD : Hid (decide (Tells oD x) = false) := Lib.hid (by
              rw [decide_eq_false_iff_not, tD]
              have h1 := HP.out
              have h2 := HQ.out
              have h3 := HI.out
              simp at h1 h2 h3
              simp_all)
            clear tD ID
            go_wp2_with fail
            refine (has_c x hC26 SD (by omega)).mono ?_
            rintro e W27 ⟨rfl, b27⟩
            rw [vD.out]
            have hC27 := hC26.step b27
            replace SA := SA.step b27
            replace SB := SB.step b27
            replace SD := SD.step b27
            clear b27
            clear SD
            go_wp2_with fail
            refine (not_c hC27 SA (by omega)).mono ?_
            rintro e W28 ⟨PN, cN, oN, rfl, IN, LN, SN, ZN, b28⟩
            have hC28 := hC27.step b28
            replace SA := SA.step b28
            replace SB := SB.step b28
            clear b28
            have tN := IN.tells (fun r h => h.1) x
            have vN : Hid (decide (Tells oN x) = true) := Lib.hid (by
              rw [decide_eq_true_iff, tN]
              have h1 := HP.out
              have h2 := HQ.out
              have h3 := HI.out
              simp at h1 h2 h3
              simp_all)
            clear tN IN
            go_wp2_with fail
            refine (has_c x hC28 SN (by omega)).mono ?_
            rintro e W29 ⟨rfl, b29⟩
            rw [vN.out]
            have hC29 := hC28.step b29
            replace SA := SA.step b29
            replace SB := SB.step b29
            replace SN := SN.step b29
            clear b29
            clear SN
            go_wp2_with fail
            refine (norm_c hC29 SA (by omega)).mono ?_
            rintro e W30 ⟨PM, cM, oM, rfl, IM, LM, SM, ZM, b30⟩
            have hC30 := hC29.step b30
            replace SA := SA.step b30
            replace SB := SB.step b30
            clear b30
            have tM := IM.tells (fun r h => h.1) x
            have vM : Hid (decide (Tells oM x) = false) := Lib.hid (by
              rw [decide_eq_false_iff_not, tM]
              have h1 := HP.out
              have h2 := HQ.out
              have h3 := HI.out
              simp at h1 h2 h3
              simp_all)
            clear tM IM
            go_wp2_with fail
            refine (has_c x hC30 SM (by omega)).mono ?_
            rintro e W31 ⟨rfl, b31⟩
            rw [vM.out]
            have hC31 := hC30.step b31
            replace SA := SA.step b31
            replace SB := SB.step b31
            replace SM := SM.step b31
            clear b31
            clear SM
            go_wp2
            go_ret
            exact ⟨rfl, hC31.below⟩
      · cases qv
        · cases iv
          · exact absurd (hpi rfl) (by simp)
          · clear hpi hqi
            go_wp2_with fail
            refine (known_c hC4).mono ?_
            rintro e W21 ⟨rfl, b21⟩
            have hC21 := hC4.step b21
            replace SA := SA.step b21
            replace SB := SB.step b21
            clear b21
            go_wp2_with fail
            refine (union_c hC21 SA SB ZA ZB (by omega) (by omega)).mono ?_
            rintro e W22 ⟨PU, cU, oU, rfl, IU, LU, SU, ZU, b22⟩
            have hC22 := hC21.step b22
            replace SA := SA.step b22
            replace SB := SB.step b22
            clear b22
            have tU := IU.tells (fun r h => h.elim (fun h => h.1) (fun h => h.1)) x
            have vU : Hid (decide (Tells oU x) = true) := Lib.hid (by
              rw [decide_eq_true_iff, tU]
              have h1 := HP.out
              have h2 := HQ.out
              have h3 := HI.out
              simp at h1 h2 h3
              simp_all)
            clear tU IU
            go_wp2_with fail
            refine (has_c x hC22 SU (by omega)).mono ?_
            rintro e W23 ⟨rfl, b23⟩
            rw [vU.out]
            have hC23 := hC22.step b23
            replace SA := SA.step b23
            replace SB := SB.step b23
            replace SU := SU.step b23
            clear b23
            clear SU
            go_wp2_with fail
            refine (inter_c hC23 SA SB (by omega) (by omega)).mono ?_
            rintro e W24 ⟨PJ, cJ, oJ, rfl, IJ, LJ, SJ, ZJ, b24⟩
            have hC24 := hC23.step b24
            replace SA := SA.step b24
            replace SB := SB.step b24
            clear b24
            have tJ := IJ.tells (fun r h => h.1.1) x
            have vJ : Hid (decide (Tells oJ x) = false) := Lib.hid (by
              rw [decide_eq_false_iff_not, tJ]
              have h1 := HP.out
              have h2 := HQ.out
              have h3 := HI.out
              simp at h1 h2 h3
              simp_all)
            clear tJ IJ
            go_wp2_with fail
            refine (has_c x hC24 SJ (by omega)).mono ?_
            rintro e W25 ⟨rfl, b25⟩
            rw [vJ.out]
            have hC25 := hC24.step b25
            replace SA := SA.step b25
            replace SB := SB.step b25
            replace SJ := SJ.step b25
            clear b25
            clear SJ
            go_wp2_with fail
            refine (minus_c hC25 SA SB (by omega) (by omega)).mono ?_
            rintro e W26 ⟨PD, cD, oD, rfl, ID, LD, SD, ZD, b26⟩
            have hC26 := hC25.step b26
            replace SA := SA.step b26
            replace SB := SB.step b26
            clear b26
            have tD := ID.tells (fun r h => h.1.1) x
            have vD : Hid (decide (Tells oD x) = true) := Lib.hid (by
              rw [decide_eq_true_iff, tD]
              have h1 := HP.out
              have h2 := HQ.out
              have h3 := HI.out
              simp at h1 h2 h3
              simp_all)
            clear tD ID
            go_wp2_with fail
            refine (has_c x hC26 SD (by omega)).mono ?_
            rintro e W27 ⟨rfl, b27⟩
            rw [vD.out]
            have hC27 := hC26.step b27
            replace SA := SA.step b27
            replace SB := SB.step b27
            replace SD := SD.step b27
            clear b27
            clear SD
            go_wp2_with fail
            refine (not_c hC27 SA (by omega)).mono ?_
            rintro e W28 ⟨PN, cN, oN, rfl, IN, LN, SN, ZN, b28⟩
            have hC28 := hC27.step b28
            replace SA := SA.step b28
            replace SB := SB.step b28
            clear b28
            have tN := IN.tells (fun r h => h.1) x
            have vN : Hid (decide (Tells oN x) = false) := Lib.hid (by
              rw [decide_eq_false_iff_not, tN]
              have h1 := HP.out
              have h2 := HQ.out
              have h3 := HI.out
              simp at h1 h2 h3
              simp_all)
            clear tN IN
            go_wp2_with fail
            refine (has_c x hC28 SN (by omega)).mono ?_
            rintro e W29 ⟨rfl, b29⟩
            rw [vN.out]
            have hC29 := hC28.step b29
            replace SA := SA.step b29
            replace SB := SB.step b29
            replace SN := SN.step b29
            clear b29
            clear SN
            go_wp2_with fail
            refine (norm_c hC29 SA (by omega)).mono ?_
            rintro e W30 ⟨PM, cM, oM, rfl, IM, LM, SM, ZM, b30⟩
            have hC30 := hC29.step b30
            replace SA := SA.step b30
            replace SB := SB.step b30
            clear b30
            have tM := IM.tells (fun r h => h.1) x
            have vM : Hid (decide (Tells oM x) = true) := Lib.hid (by
              rw [decide_eq_true_iff, tM]
              have h1 := HP.out
              have h2 := HQ.out
              have h3 := HI.out
              simp at h1 h2 h3
              simp_all)
            clear tM IM
            go_wp2_with fail
            refine (has_c x hC30 SM (by omega)).mono ?_
            rintro e W31 ⟨rfl, b31⟩
            rw [vM.out]
            have hC31 := hC30.step b31
            replace SA := SA.step b31
            replace SB := SB.step b31
            replace SM := SM.step b31
            clear b31
            clear SM
            go_wp2
            go_ret
            exact ⟨rfl, hC31.below⟩
        · cases iv
          · exact absurd (hpi rfl) (by simp)
          · clear hpi hqi
            go_wp2_with fail
            refine (known_c hC4).mono ?_
            rintro e W21 ⟨rfl, b21⟩
            have hC21 := hC4.step b21
            replace SA := SA.step b21
            replace SB := SB.step b21
            clear b21
            go_wp2_with fail
            refine (union_c hC21 SA SB ZA ZB (by omega) (by omega)).mono ?_
            rintro e W22 ⟨PU, cU, oU, rfl, IU, LU, SU, ZU, b22⟩
            have hC22 := hC21.step b22
            replace SA := SA.step b22
            replace SB := SB.step b22
            clear b22
            have tU := IU.tells (fun r h => h.elim (fun h => h.1) (fun h => h.1)) x
            have vU : Hid (decide (Tells oU x) = true) := Lib.hid (by
              rw [decide_eq_true_iff, tU]
              have h1 := HP.out
              have h2 := HQ.out
              have h3 := HI.out
              simp at h1 h2 h3
              simp_all)
            clear tU IU
            go_wp2_with fail
            refine (has_c x hC22 SU (by omega)).mono ?_
            rintro e W23 ⟨rfl, b23⟩
            rw [vU.out]
            have hC23 := hC22.step b23
            replace SA := SA.step b23
            replace SB := SB.step b23
            replace SU := SU.step b23
            clear b23
            clear SU
            go_wp2_with fail
            refine (inter_c hC23 SA SB (by omega) (by omega)).mono ?_
            rintro e W24 ⟨PJ, cJ, oJ, rfl, IJ, LJ, SJ, ZJ, b24⟩
            have hC24 := hC23.step b24
            replace SA := SA.step b24
            replace SB := SB.step b24
            clear b24
            have tJ := IJ.tells (fun r h => h.1.1) x
            have vJ : Hid (decide (Tells oJ x) = true) := Lib.hid (by
              rw [decide_eq_true_iff, tJ]
              have h1 := HP.out
              have h2 := HQ.out
              have h3 := HI.out
              simp at h1 h2 h3
              simp_all)
            clear tJ IJ
            go_wp2_with fail
            refine (has_c x hC24 SJ (by omega)).mono ?_
            rintro e W25 ⟨rfl, b25⟩
            rw [vJ.out]
            have hC25 := hC24.step b25
            replace SA := SA.step b25
            replace SB := SB.step b25
            replace SJ := SJ.step b25
            clear b25
            clear SJ
            go_wp2_with fail
            refine (minus_c hC25 SA SB (by omega) (by omega)).mono ?_
            rintro e W26 ⟨PD, cD, oD, rfl, ID, LD, SD, ZD, b26⟩
            have hC26 := hC25.step b26
            replace SA := SA.step b26
            replace SB := SB.step b26
            clear b26
            have tD := ID.tells (fun r h => h.1.1) x
            have vD : Hid (decide (Tells oD x) = false) := Lib.hid (by
              rw [decide_eq_false_iff_not, tD]
              have h1 := HP.out
              have h2 := HQ.out
              have h3 := HI.out
              simp at h1 h2 h3
              simp_all)
            clear tD ID
            go_wp2_with fail
            refine (has_c x hC26 SD (by omega)).mono ?_
            rintro e W27 ⟨rfl, b27⟩
            rw [vD.out]
            have hC27 := hC26.step b27
            replace SA := SA.step b27
            replace SB := SB.step b27
            replace SD := SD.step b27
            clear b27
            clear SD
            go_wp2_with fail
            refine (not_c hC27 SA (by omega)).mono ?_
            rintro e W28 ⟨PN, cN, oN, rfl, IN, LN, SN, ZN, b28⟩
            have hC28 := hC27.step b28
            replace SA := SA.step b28
            replace SB := SB.step b28
            clear b28
            have tN := IN.tells (fun r h => h.1) x
            have vN : Hid (decide (Tells oN x) = false) := Lib.hid (by
              rw [decide_eq_false_iff_not, tN]
              have h1 := HP.out
              have h2 := HQ.out
              have h3 := HI.out
              simp at h1 h2 h3
              simp_all)
            clear tN IN
            go_wp2_with fail
            refine (has_c x hC28 SN (by omega)).mono ?_
            rintro e W29 ⟨rfl, b29⟩
            rw [vN.out]
            have hC29 := hC28.step b29
            replace SA := SA.step b29
            replace SB := SB.step b29
            replace SN := SN.step b29
            clear b29
            clear SN
            go_wp2_with fail
            refine (norm_c hC29 SA (by omega)).mono ?_
            rintro e W30 ⟨PM, cM, oM, rfl, IM, LM, SM, ZM, b30⟩
            have hC30 := hC29.step b30
            replace SA := SA.step b30
            replace SB := SB.step b30
            clear b30
            have tM := IM.tells (fun r h => h.1) x
            have vM : Hid (decide (Tells oM x) = true) := Lib.hid (by
              rw [decide_eq_true_iff, tM]
              have h1 := HP.out
              have h2 := HQ.out
              have h3 := HI.out
              simp at h1 h2 h3
              simp_all)
            clear tM IM
            go_wp2_with fail
            refine (has_c x hC30 SM (by omega)).mono ?_
            rintro e W31 ⟨rfl, b31⟩
            rw [vM.out]
            have hC31 := hC30.step b31
            replace SA := SA.step b31
            replace SB := SB.step b31
            replace SM := SM.step b31
            clear b31
            clear SM
            go_wp2
            go_ret
            exact ⟨rfl, hC31.below⟩
end Go.Proofs.YtnhkbafjjngomaaDoor
