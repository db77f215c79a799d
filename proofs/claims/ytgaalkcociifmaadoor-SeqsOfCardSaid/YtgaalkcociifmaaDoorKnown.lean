/- The chapter's examples hold (known), whatever the world. -/
import Derived.Test.YtgaalkcociifmaaDoorHas
import Derived.Test.YtgaalkcociifmaaDoorSize
import Derived.Test.YtgaalkcociifmaaDoorEqual
import Derived.Test.YtgaalkcociifmaaDoorUnion
namespace Go.Proofs.YtgaalkcociifmaaDoor
open Go.RowKit Go.Shelf SetM

theorem tells_iff (l : List Sp) (r : Int) : Tells l r ↔ Sc r ∧ Mem l r := Iff.rfl
/-- The normal list of a condition is the one that is written down. -/
theorem nf_is {out l : List Sp} {K : Int → Prop} (hn : Nf out) (hm : ∀ r, Mem out r ↔ K r) (hl : Nf l) (h : ∀ r, Mem l r ↔ K r) : out = l :=
  nf_unique out l hn hl (fun r => by rw [hm, h])

abbrev kA : List Sp := [(0, 9)]
abbrev kB : List Sp := [(0, 55295), (57344, 1114111)]
theorem k1 (r : Int) : Mem kA r ↔ Tells [(5, 9), (0, 4), (7, 2)] r := by simp [Tells, Mem, Sc]; omega
theorem k2 (r : Int) : Mem kB r ↔ Sc r ∧ ¬ Tells [] r := by simp [Tells, Mem, Sc]
theorem k3 (r : Int) : Mem kA r ↔ Tells kA r := by simp [Tells, Mem, Sc]; omega
theorem k4 (r : Int) : Mem kB r ↔ ∃ a ∈ [kA, kB], Tells a r := by
  rw [show (∃ a ∈ [kA, kB], Tells a r) ↔ (Tells kA r ∨ Tells kB r) from by simp]
  have h1 : Tells kA r ↔ (0 ≤ r ∧ r ≤ 9) := by simp [Tells, Mem, Sc]; omega
  have h2 : Tells kB r ↔ Mem kB r := by simp [Tells, Mem, Sc]
  rw [h1, h2]
  simp [Mem]; omega
theorem k5 (r : Int) : Mem kA r ↔ Tells kA r ∧ Tells kB r := by simp [Tells, Mem, Sc]; omega
theorem k6 (r : Int) : Mem [] r ↔ Tells kA r ∧ ¬ Tells kB r := by simp [Tells, Mem, Sc]; omega
theorem nA : Nf kA := by simp [Nf]
theorem nB : Nf kB := by simp [Nf]
theorem kh1 : decide (Tells kA 9) = true := by decide
theorem kh2 : decide (Tells kA 10) = false := by decide

/-- A slice of one block made at the head of a call. -/
theorem spans_new (w : World) (l : List Sp) : Spans (w.heap.size + 1) (w.alloc (.cells (cellsS l).toArray 43)) (some ⟨w.heap.size, 0, none⟩) l := fun _ => ⟨_, 0, rfl, by omega, fun j hj => by
  have hd : ∀ i, i < 2 → (w.alloc (.cells (cellsS l).toArray 43)).cell? ⟨w.heap.size, 0 + j * 2 + i, none⟩ = (encS l[j])[i]? := fun i hi => by
    rw [cell_of_row _ w.heap.size _ _ _ _ (heap_alloc_new w _), List.getElem?_toArray, cellsS_get l _ (by omega), show (0 + j * 2 + i) / 2 = j from by omega, show (0 + j * 2 + i) % 2 = i from by omega, List.getElem?_eq_getElem hj]; rfl
  exact ⟨hd 0 (by omega), hd 1 (by omega)⟩⟩

set_option maxRecDepth 100000 in
set_option maxHeartbeats 4000000 in
theorem known_any (w : World) (h0 : 1 < w.heap.size) (hA : Areas w) :
    Calls Tryd.prog 30 #[] w fun e w' => e = .returned (.bool true) ∧ Below w.heap.size w w' := by
  have HA := Lib.hid hA
  clear hA
  have g1 := gdSpan
  have g2 : ∀ w, (Op.equalIn 10000 43 (.agg #[.int .i64 0, .int .i64 9]) (.agg #[.int .i64 0, .int .i64 9])).run Tryd.prog w = .ok true w := fun w => by rw [eqSpan]; rfl
  go_enter Tryd.func30, Tryd.ntmps30
  go_wp2_with fail
  have hb0 : Below w.heap.size w (w.alloc (.cells (cellsS [(5, 9), (0, 4), (7, 2)]).toArray 43)) := (Below.refl _ w).alloc (Nat.le_refl _) _
  have hz0 : (w.alloc (.cells (cellsS [(5, 9), (0, 4), (7, 2)]).toArray 43)).heap.size = w.heap.size + 1 := World.size_alloc _ _
  have hs0 := spans_new w [(5, 9), (0, 4), (7, 2)]
  rw [← hz0] at hs0
  refine (norm_any (some ⟨w.heap.size, 0, none⟩) 3 [(5, 9), (0, 4), (7, 2)] (by simp) _ (by omega) (HA.out.below hb0 h0) hs0).mono ?_
  intro e W1 hp
  obtain ⟨v1, o1, rfl, n1, m1, _, r1, b1⟩ := hp.lower hb0
  obtain rfl := nf_is n1 m1 nA k1
  obtain ⟨P1, c1, rfl, s1⟩ := spans_of r1
  have z1 := b1.size
  clear n1 m1 hb0 hz0 hs0 hp r1
  go_wp2_with fail
  refine (not_any none 0 [] (by simp) W1 (by omega) (HA.out.below b1 h0) Spans.nil).mono ?_
  intro e W2 hp
  obtain ⟨v2, o2, rfl, n2, m2, _, r2, b2'⟩ := hp
  obtain rfl := nf_is n2 m2 nB k2
  obtain ⟨P2, c2, rfl, s2⟩ := spans_of r2
  have z2 := b2'.size
  have b2 := b1.trans (b2'.mono z1)
  have s1 := (s1.below b2').mono z2
  clear n2 m2 r2 b2' b1
  have S1 := Lib.hid s1
  have S2 := Lib.hid s2
  obtain ⟨g1', o1', rfl, _, c1'⟩ := s1 (by simp)
  obtain ⟨g2', o2', rfl, _, c2'⟩ := s2 (by simp)
  obtain ⟨a0, a1⟩ := c1' 0 (by simp)
  obtain ⟨d0, d1⟩ := c2' 0 (by simp)
  obtain ⟨d2, d3⟩ := c2' 1 (by simp)
  simp only [List.getElem_cons_zero, List.getElem_cons_succ, Nat.zero_mul, Nat.one_mul, Nat.add_zero] at a0 a1 d0 d1 d2 d3
  clear c1' c2'
  go_wp2_with fail
  clear a0 a1 d0 d1 d2 d3 s1 s2
  refine (has_any (some ⟨g1', o1', none⟩) c1 kA 9 (by simp) W2 (by have := b2.size; omega) (HA.out.below b2 h0) S1.out).mono ?_
  rintro e W3 ⟨rfl, b3'⟩
  rw [kh1]
  have z3 := b3'.size
  have b3 := b2.trans (b3'.mono b2.size)
  have S13 := Lib.hid (((S1.out).below b3').mono z3)
  have S23 := Lib.hid (((S2.out).below b3').mono z3)
  clear b3' S1 S2
  go_wp2_with fail
  refine (has_any (some ⟨g1', o1', none⟩) c1 kA 10 (by simp) W3 (by have := b3.size; omega) (HA.out.below b3 h0) S13.out).mono ?_
  rintro e W4 ⟨rfl, b4'⟩
  rw [kh2]
  have z4 := b4'.size
  have b4 := b3.trans (b4'.mono b3.size)
  have S14 := Lib.hid (((S13.out).below b4').mono z4)
  have S24 := Lib.hid (((S23.out).below b4').mono z4)
  clear b4' S13 S23
  go_wp2_with fail
  refine (size_any (some ⟨g1', o1', none⟩) c1 kA (by simp) W4 (by have := b4.size; omega) (HA.out.below b4 h0) S14.out).mono ?_
  rintro e W5 ⟨o5, n5, m5, rfl, b5'⟩
  obtain rfl := nf_is n5 m5 nA k3
  rw [show sizeL kA = 10 from by decide]
  clear n5 m5
  have z5 := b5'.size
  have b5 := b4.trans (b5'.mono b4.size)
  have S15 := Lib.hid (((S14.out).below b5').mono z5)
  have S25 := Lib.hid (((S24.out).below b5').mono z5)
  clear b5' S14 S24
  go_wp2_with fail
  refine (same_any (some ⟨g1', o1', none⟩) (some ⟨g1', o1', none⟩) c1 c1 kA kA (by simp) (by simp) W5 (by have := b5.size; omega) (HA.out.below b5 h0) S15.out S15.out).mono ?_
  rintro e W6 ⟨bb, rfl, hbb, b6'⟩
  obtain rfl : bb = true := hbb.2 (fun r => Iff.rfl)
  clear hbb
  have z6 := b6'.size
  have b6 := b5.trans (b6'.mono b5.size)
  have S16 := Lib.hid (((S15.out).below b6').mono z6)
  have S26 := Lib.hid (((S25.out).below b6').mono z6)
  clear b6' S15 S25
  go_wp2_with fail
  have bn' : Below W6.heap.size W6 (W6.alloc (.cells #[.slice (some ⟨g1', o1', none⟩) 1 c1, .slice (some ⟨g2', o2', none⟩) 2 c2] 25)) := (Below.refl _ _).alloc (Nat.le_refl _) _
  have zn : (W6.alloc (.cells #[.slice (some ⟨g1', o1', none⟩) 1 c1, .slice (some ⟨g2', o2', none⟩) 2 c2] 25)).heap.size = W6.heap.size + 1 := World.size_alloc _ _
  have bn := b6.trans (bn'.mono b6.size)
  have S1n := Lib.hid ((S16.out.below bn').mono bn'.size)
  have S2n := Lib.hid ((S26.out.below bn').mono bn'.size)
  have hR : RowsAt (W6.alloc (.cells #[.slice (some ⟨g1', o1', none⟩) 1 c1, .slice (some ⟨g2', o2', none⟩) 2 c2] 25)).heap.size (W6.alloc (.cells #[.slice (some ⟨g1', o1', none⟩) 1 c1, .slice (some ⟨g2', o2', none⟩) 2 c2] 25)) (some ⟨W6.heap.size, 0, none⟩) [kA, kB] := fun _ => ⟨_, 0, rfl, by omega, fun j hj => by
    match j, hj with
    | 0, _ => exact ⟨_, c1, by rw [cell_of_row _ W6.heap.size _ _ _ _ (heap_alloc_new W6 _)]; rfl, S1n.out, fun h => by cases h⟩
    | 1, _ => exact ⟨_, c2, by rw [cell_of_row _ W6.heap.size _ _ _ _ (heap_alloc_new W6 _)]; rfl, S2n.out, fun h => by cases h⟩⟩
  refine (union_any (some ⟨W6.heap.size, 0, none⟩) 2 [kA, kB] (by simp) (by decide) _ (by have := bn.size; omega) (HA.out.below bn h0) hR).mono ?_
  rintro e W7 ⟨v7, o7, rfl, n7, m7, _, r7, b7'⟩
  obtain rfl := nf_is n7 m7 nB k4
  obtain ⟨P7, c7, rfl, _⟩ := spans_of r7
  have z7 := b7'.size
  have b7 := bn.trans (b7'.mono bn.size)
  have S17 := Lib.hid ((S1n.out.below b7').mono z7)
  have S27 := Lib.hid ((S2n.out.below b7').mono z7)
  clear b7' S1n S2n n7 m7 r7 hR bn' bn zn S16 S26
  go_wp2_with fail
  refine (inter_any (some ⟨g1', o1', none⟩) (some ⟨g2', o2', none⟩) c1 c2 kA kB (by simp) (by simp) W7 (by have := b7.size; omega) (HA.out.below b7 h0) S17.out S27.out).mono ?_
  rintro e W8 ⟨v8, o8, rfl, n8, m8, _, r8, b8'⟩
  obtain rfl := nf_is n8 m8 nA k5
  obtain ⟨P8, c8, rfl, _⟩ := spans_of r8
  clear n8 m8 r8
  have z8 := b8'.size
  have b8 := b7.trans (b8'.mono b7.size)
  have S18 := Lib.hid (((S17.out).below b8').mono z8)
  have S28 := Lib.hid (((S27.out).below b8').mono z8)
  clear b8' S17 S27
  go_wp2_with fail
  refine (minus_any (some ⟨g1', o1', none⟩) (some ⟨g2', o2', none⟩) c1 c2 kA kB (by simp) (by simp) W8 (by have := b8.size; omega) (HA.out.below b8 h0) S18.out S28.out).mono ?_
  rintro e W9 ⟨v9, o9, rfl, n9, m9, _, r9, b9'⟩
  obtain rfl := nf_is (l := []) n9 m9 trivial k6
  obtain ⟨P9, c9, rfl, _⟩ := spans_of r9
  clear n9 m9 r9
  have z9 := b9'.size
  have b9 := b8.trans (b9'.mono b8.size)
  have S19 := Lib.hid (((S18.out).below b9').mono z9)
  have S29 := Lib.hid (((S28.out).below b9').mono z9)
  clear b9' S18 S28
  go_wp2
  go_ret
  exact ⟨rfl, b9⟩
end Go.Proofs.YtgaalkcociifmaaDoor
