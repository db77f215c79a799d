/- SeqsOne: the walk. -/
import Derived.Test.YtgaalkcociifmaaDoorSBothWalk
namespace Go.Proofs.YtgaalkcociifmaaDoor
open Go.RowKit Go.Shelf SeqM
open U.UtfM (enc)

theorem len_many : ∀ (L : List Sp), (∀ s ∈ L, s.1 ≤ s.2) → (L.length : Int) ≤ many L
  | [], _ => by simp [many]
  | s :: t, h => by
    have := len_many t (fun u hu => h u (by simp [hu]))
    have := h s (by simp)
    rw [many_cons, List.length_cons]; push_cast; omega
/-- One scalar is one row. -/
theorem rows_one_sc {x : Int} (hx : SetM.Sc x) : rowsOf [(x, x)] = [rowOf (x, x)] := by
  have hs : ∀ s ∈ [((x, x) : Sp)], Scal s := fun s hs => by
    rw [List.mem_singleton.1 hs]; unfold SetM.Sc at hx; unfold Scal; simp only; omega
  have hlf := leavesOf_leaf hs
  have h1 := leavesOf_many hs
  have h2 := len_many _ (fun s h => (leaf_in (hlf s h)).2.1)
  have h3 : many [((x, x) : Sp)] = 1 := by simp [many]
  rw [rowsOf_leaves hs]
  obtain ⟨s, hsm, h4, h5⟩ := (leavesOf_mem hs x).2 ⟨(x, x), by simp, Int.le_refl _, Int.le_refl _⟩
  rw [h1, h3] at h2
  match hL : leavesOf [((x, x) : Sp)] with
  | [] => rw [hL] at hsm; simp at hsm
  | [t] =>
    rw [hL] at hsm h1
    rw [List.mem_singleton.1 hsm] at h4 h5
    rw [h3] at h1
    simp [many] at h1
    obtain ⟨a, b⟩ := t
    simp only at h1 h4 h5
    obtain rfl : a = x := by omega
    obtain rfl : b = a := by omega
    rfl
  | _ :: _ :: _ => rw [hL] at h2; simp at h2; omega
theorem rowOf_len (x : Int) : (rowOf (x, x)).length = (enc x).length := by unfold rowOf; rw [List.length_zip]; simp
theorem one_c (x : Int) (w : World) : Calls Tryd.prog 19 #[.int .i64 x] w fun e w' => e = .returned (.slice (some ⟨w.heap.size, 0, none⟩) 1 1) ∧ w.alloc (.cells #[.int .i64 x, .int .i64 x] 43) = w' := by
  go_enter Tryd.func19, Tryd.ntmps19
  go_wp2
  go_ret
  exact ⟨rfl, rfl⟩
theorem one_set {x : Int} {N N2 M out : List SetM.Sp} (h1 : IsSet N (fun r => SetM.Sc r ∧ ¬ SetM.Tells [] r)) (h2 : IsSet N2 (fun r => SetM.Sc r ∧ ¬ SetM.Tells [] r)) (h3 : IsSet M (fun r => SetM.Tells N2 r ∧ ¬ SetM.Tells [(x, x)] r)) (h4 : IsSet out (fun r => SetM.Tells N r ∧ ¬ SetM.Tells M r)) :
    IsSet out (fun r => SetM.Sc r ∧ r = x) := by
  refine h4.congr (fun r => ?_)
  rw [h1.tells (fun r hr => hr.1), h3.tells (fun r hr => hr.1.1), h2.tells (fun r hr => hr.1)]
  have e := SetM.tells_empty r
  have e2 : SetM.Tells [(x, x)] r ↔ SetM.Sc r ∧ r = x := by
    unfold SetM.Tells SetM.Mem
    simp only [List.mem_singleton, exists_eq_left]
    constructor
    · rintro ⟨a, b, c⟩; exact ⟨a, by omega⟩
    · rintro ⟨a, rfl⟩; exact ⟨a, Int.le_refl _, Int.le_refl _⟩
  rw [e2]
  by_cases hs : SetM.Sc r
  · simp [hs, e]
  · simp [hs]
theorem one_yes {x : Int} {out : List SetM.Sp} (h : IsSet out (fun r => SetM.Sc r ∧ r = x)) (hx : SetM.Sc x) : nrm out = [(x, x)] := by
  rw [nrm_set h (fun r hr => hr.1)]
  refine nf_is (K := fun r => SetM.Sc r ∧ r = x) h.1 h.2 (by simp [SetM.Nf]) (fun r => ?_)
  simp only [SetM.Mem, List.mem_singleton, exists_eq_left]
  constructor
  · rintro ⟨a, b⟩; obtain rfl : r = x := by omega
    exact ⟨hx, rfl⟩
  · rintro ⟨_, rfl⟩; exact ⟨Int.le_refl _, Int.le_refl _⟩
theorem one_no {x : Int} {out : List SetM.Sp} (h : IsSet out (fun r => SetM.Sc r ∧ r = x)) (hx : ¬ SetM.Sc x) : nrm out = [] := by
  rw [nrm_set h (fun r hr => hr.1)]
  refine nf_is (l := []) (K := fun r => SetM.Sc r ∧ r = x) h.1 h.2 trivial (fun r => ?_)
  constructor
  · intro h; exact absurd h (SetM.mem_nil r)
  · rintro ⟨a, rfl⟩; exact absurd a hx
theorem wide_one {x : Int} (h : 0 ≤ x) : Wide [(x, x)] := fun s hs => by rw [List.mem_singleton.1 hs]; simp only; omega
theorem wide_nil : Wide [] := fun s hs => by simp at hs

set_option maxRecDepth 100000 in
set_option maxHeartbeats 4000000 in
theorem seqsOne_any (r : Int) (hr : 0 ≤ r) (w : World) (hC : Ctl w w) :
    Calls Tryd.prog 4 #[.int .u32 r] w fun e w' => e = .returned (.bool true) ∧ Below w.heap.size w w' := by
  have hx0 : 0 ≤ r % 1114112 := by omega
  have hx1 : r % 1114112 ≤ 1114111 := by omega
  go_enter Tryd.func4, Tryd.ntmps4
  go_wp2_with fail
  generalize r % 1114112 = x at *
  refine (U.renc_c x _).mono ?_
  rintro e W1 ⟨P1, c1, rfl, h1, _, _, _, _, b1⟩
  have hC1 := hC.step b1
  clear b1
  go_wp2_with fail
  refine (rnot_c (P := none) (c := 0) (l := []) Spans.nil (by simp) wide_nil).mono ?_
  rintro e W2 ⟨P2, c2, o2, rfl, i2, l2, s2, z2, b2⟩
  have hC2 := hC1.step b2
  have HB2 := Lib.hid (h1.step b2)
  clear b2 h1
  go_wp2_with fail
  refine (rnot_c (P := none) (c := 0) (l := []) Spans.nil (by simp) wide_nil).mono ?_
  rintro e W3 ⟨P3, c3, o3, rfl, i3, l3, s3, z3, b3⟩
  have hC3 := hC2.step b3
  have HB3 := Lib.hid (HB2.out.step b3)
  replace s2 := s2.step b3
  clear b3 HB2
  go_wp2_with fail
  refine (one_c x _).mono ?_
  rintro e W4 ⟨rfl, rfl⟩
  have bo : Below W3.heap.size W3 (W3.alloc (.cells #[.int .i64 x, .int .i64 x] 43)) := (Below.refl _ _).alloc (Nat.le_refl _) _
  have s4 := sl_lit W3 (x, x)
  have hC4 := hC3.step bo
  have HB4 := Lib.hid (HB3.out.step bo)
  replace s2 := s2.step bo
  replace s3 := s3.step bo
  clear bo HB3
  go_wp2_with fail
  generalize W3.alloc (.cells #[.int .i64 x, .int .i64 x] 43) = W4 at *
  simp only [List.length_nil, Nat.mul_zero, Nat.add_zero] at l2 l3
  refine (rminus_c (c := c3) (d := 1) (m := [(x, x)]) s3 s4 (by omega) (by simp) (wide_set i3 (fun r hr => hr.1)) (wide_one hx0)).mono ?_
  rintro e W5 ⟨P5, c5, o5, rfl, i5, l5, s5, z5, b5⟩
  have hC5 := hC4.step b5
  have HB5 := Lib.hid (HB4.out.step b5)
  replace s2 := s2.step b5
  simp only [List.length_cons, List.length_nil] at l5
  clear b5 s3 s4 HB4
  go_wp2_with fail
  refine (rminus_c s2 s5 (by omega) (by omega) (wide_set i2 (fun r hr => hr.1)) (wide_set i5 (fun r hr => hr.1.1))).mono ?_
  rintro e W6 ⟨P6, c6, o6, rfl, i6, l6, s6, z6, b6⟩
  have hC6 := hC5.step b6
  have HB6 := Lib.hid (HB5.out.step b6)
  have HS := Lib.hid (one_set i2 i3 i5 i6)
  clear b6 s2 s5 HB5 i2 i3 i5 i6
  go_wp2_with fail
  have hlo : o6.length ≤ 1000 := by omega
  refine (of_c hC6 s6 hlo).mono ?_
  rintro e W7 ⟨P7, c7, rfl, R7, b7⟩
  have hC7 := hC6.step b7
  have HB7 := Lib.hid (HB6.out.step b7)
  have HR7 := Lib.hid R7
  clear b7 s6 HB6 R7 l2 l3 l5 l6 z2 z3 z5 z6
  by_cases hS : U.UtfM.Sc x
  · have hpos := U.UtfM.enc_pos hS
    have z1 : (((enc x).length : Int) == 0) = false := by rw [beq_eq_false_iff_ne]; omega
    have hN := one_yes HS.out ((sc_iff x).1 hS)
    have HN := Lib.hid hN
    have hrow : rowsOf (nrm o6) = [rowOf (x, x)] := by rw [hN, rows_one_sc ((sc_iff x).1 hS)]
    have hlen : (rowsOf (nrm o6)).length = 1 := by rw [hrow]; rfl
    have ht : anyFits (rowsOf (nrm o6)) (enc x) = true := by
      rw [takes_sc o6 hS, decide_eq_true_iff]
      refine ⟨(sc_iff x).1 hS, ?_⟩
      have h := (HS.out.2 x).2 ⟨(sc_iff x).1 hS, rfl⟩
      exact h
    have HT := Lib.hid ht
    have HLEN := Lib.hid hlen
    have HROW := Lib.hid hrow
    have hmany : many (nrm o6) = 1 := by rw [hN]; simp [many]
    have HMANY := Lib.hid hmany
    rw [hlen]
    clear hpos hS hN hrow hlen ht hmany
    go_wp2_with fail
    refine (known3_c hC7).mono ?_
    rintro e W8 ⟨rfl, b8⟩
    have hC8 := hC7.step b8
    have HB8 := Lib.hid (HB7.out.step b8)
    have HR8 := Lib.hid (HR7.out.step b8)
    obtain ⟨g, off, rfl, _, hc⟩ := HR8.out (by rw [HROW.out]; simp)
    obtain ⟨Q, d, hcell, _⟩ := hc 0 (by rw [HLEN.out]; omega)
    have e0 : (rowsOf (nrm o6))[0]'(by rw [HLEN.out]; omega) = rowOf (x, x) := by simp only [HROW.out]; rfl
    rw [e0, rowOf_len, Nat.add_zero] at hcell
    have tq : (((enc x).length : Int) == ((enc x).length : Int)) = true := by rw [beq_self_eq_true]
    have HM := match_c (P := some ⟨g, off, none⟩) (Q := P1) (c := c7) (d := c1) o6 hlo (enc x) HR8.out HB8.out
    have HCN := fun (X : World) (h : Rws X (some ⟨g, off, none⟩) (rowsOf (nrm o6))) => count_c (P := some ⟨g, off, none⟩) (c := c7) o6 hlo h
    rw [HLEN.out] at HM HCN
    have HM2 := Lib.hid HM
    have HCN2 := Lib.hid HCN
    clear b8 HR7 hc HM HCN e0 HB7
    go_wp2_with fail
    refine HM2.out.mono ?_
    rintro e W9 ⟨rfl, b9⟩
    rw [HT.out]
    have hC9 := hC8.step b9
    have HR9 := Lib.hid (HR8.out.step b9)
    clear b9 HM2 hcell
    go_wp2_with fail
    refine (HCN2.out _ HR9.out).mono ?_
    rintro e W10 ⟨rfl, b10⟩
    rw [HMANY.out]
    have hC10 := hC9.step b10
    go_wp2
    go_ret
    exact ⟨rfl, hC10.below⟩
  · have e0 := U.UtfM.enc0 hS
    have z1 : (((enc x).length : Int) == 0) = true := by rw [beq_iff_eq, e0]; rfl
    have hN := one_no HS.out (fun h => hS ((sc_iff x).2 h))
    have hlen : (rowsOf (nrm o6)).length = 0 := by rw [hN]; rfl
    rw [hlen]
    clear hS e0 hN hlen
    go_wp2_with fail
    refine (known3_c hC7).mono ?_
    rintro e W8 ⟨rfl, b8⟩
    have hC8 := hC7.step b8
    go_wp2
    go_ret
    exact ⟨rfl, hC8.below⟩
end Go.Proofs.YtgaalkcociifmaaDoor
