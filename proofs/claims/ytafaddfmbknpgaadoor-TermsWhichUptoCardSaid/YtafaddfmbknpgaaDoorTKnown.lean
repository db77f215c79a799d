/- The chapter's example. -/
import Derived.Test.YtafaddfmbknpgaaDoorTParts
namespace TermsM
open SetM
def kIn : List (List Sp) := [[(0, 9)], [(5, 20)]]
def kOut : List (List Sp) := [[(0, 4)], [(5, 9)], [(10, 20)]]
theorem mem_one (a b r : Int) : Mem [(a, b)] r ↔ a ≤ r ∧ r ≤ b := by simp [Mem]
theorem tells_one (a b r : Int) : Tells [(a, b)] r ↔ Sc r ∧ a ≤ r ∧ r ≤ b := by unfold Tells; rw [mem_one]
theorem al_k (r r' : Int) : Al kIn r r' ↔ ((Sc r ∧ 0 ≤ r ∧ r ≤ 9 ↔ Sc r' ∧ 0 ≤ r' ∧ r' ≤ 9) ∧ (Sc r ∧ 5 ≤ r ∧ r ≤ 20 ↔ Sc r' ∧ 5 ≤ r' ∧ r' ≤ 20)) := by simp [Al, kIn, tells_one]
theorem an_k (r : Int) : An kIn r ↔ (Sc r ∧ 0 ≤ r ∧ r ≤ 9) ∨ (Sc r ∧ 5 ≤ r ∧ r ≤ 20) := by simp [An, kIn, tells_one]
theorem ex_k (r : Int) : (∃ x ∈ kOut, Mem x r) ↔ (0 ≤ r ∧ r ≤ 4) ∨ (5 ≤ r ∧ r ≤ 9) ∨ (10 ≤ r ∧ r ≤ 20) := by simp [kOut, mem_one]
theorem parts_k : PartsOf kIn kOut := by
  refine ⟨⟨fun x hx => ?_, fun x hx r r' hr hr' => ?_, fun x hx r r' hr hr' ha => ?_, fun r => ?_, ?_⟩, ?_⟩
  · simp [kOut] at hx
    rcases hx with rfl | rfl | rfl <;> exact ⟨by simp [Nf], by simp⟩
  · rw [al_k]
    unfold Sc
    simp [kOut] at hx
    rcases hx with rfl | rfl | rfl <;> rw [mem_one] at hr hr' <;> omega
  · rw [al_k] at ha
    rw [an_k] at hr'
    unfold Sc at ha hr'
    simp [kOut] at hx
    rcases hx with rfl | rfl | rfl <;> rw [mem_one] at hr ⊢ <;> omega
  · rw [an_k, ex_k]
    unfold Sc
    omega
  · unfold kOut
    refine List.pairwise_cons.2 ⟨fun x hx r h1 h2 => ?_, List.pairwise_cons.2 ⟨fun x hx r h1 h2 => ?_, List.pairwise_singleton _ _⟩⟩
    · rw [mem_one] at h1
      simp at hx
      rcases hx with rfl | rfl <;> rw [mem_one] at h2 <;> omega
    · rw [mem_one] at h1
      simp at hx
      subst hx
      rw [mem_one] at h2
      omega
  · decide
theorem which_k1 : whichZ kOut 20 = 2 := by decide
theorem which_k2 : whichZ kOut 21 = -1 := by decide
theorem places_k : placesF (fun x => decide (∃ u ∈ x, meetB [(6, 7)] u = true)) kOut 0 = [1] := by decide
theorem one_k {o : List Sp} (h : Nf o) (hm : ∀ r, Mem o r ↔ Tells [(6, 7)] r) : o = [(6, 7)] := by
  refine nf_unique o _ h (by simp [Nf]) (fun r => ?_)
  rw [hm]
  unfold Tells Sc
  rw [mem_one]
  omega
end TermsM
namespace Go.Proofs.YtafaddfmbknpgaaDoor
open Go.RowKit Go.Shelf Go.Maps SetM TermsM
set_option maxRecDepth 100000 in
set_option maxHeartbeats 8000000 in
theorem known10 {W : World} (h0 : 0 < W.heap.size) (hA : Areas W) : Calls Tryd.prog 9 #[] W fun e W' => e = .returned (.bool true) ∧ Below W.heap.size W W' := by
  obtain ⟨U1, hU1⟩ : ∃ U, U = W.alloc (.cells #[.int .i64 0, .int .i64 9] 42) := ⟨_, rfl⟩
  obtain ⟨U2, hU2⟩ : ∃ U, U = U1.alloc (.cells #[.int .i64 5, .int .i64 20] 42) := ⟨_, rfl⟩
  obtain ⟨U3, hU3⟩ : ∃ U, U = U2.alloc (.cells #[.slice (some ⟨W.heap.size, 0, none⟩) 1 1, .slice (some ⟨W.heap.size + 1, 0, none⟩) 1 1] 28) := ⟨_, rfl⟩
  have z1 : U1.heap.size = W.heap.size + 1 := by rw [hU1]; exact World.size_alloc _ _
  have z2 : U2.heap.size = W.heap.size + 1 + 1 := by rw [hU2, World.size_alloc, z1]
  have z3 : U3.heap.size = W.heap.size + 1 + 1 + 1 := by rw [hU3, World.size_alloc, z2]
  have b1 : Below W.heap.size W U1 := by rw [hU1]; exact (Below.refl _ _).alloc (Nat.le_refl _) _
  have b2 : Below U1.heap.size U1 U2 := by rw [hU2]; exact (Below.refl _ _).alloc (Nat.le_refl _) _
  have b3 : Below U2.heap.size U2 U3 := by rw [hU3]; exact (Below.refl _ _).alloc (Nat.le_refl _) _
  have b13 : Below U1.heap.size U1 U3 := b2.trans (b3.mono (by omega))
  have b03 : Below W.heap.size W U3 := b1.trans (b13.mono (by omega))
  have x1 : U3.heap[W.heap.size]? = some (.cells #[.int .i64 0, .int .i64 9] 42 (0, 0)) := by rw [b13.block _ (by omega), hU1]; exact heap_alloc_new W _
  have x2 : U3.heap[W.heap.size + 1]? = some (.cells #[.int .i64 5, .int .i64 20] 42 (0, 0)) := by rw [b3.block _ (by omega), hU2, ← z1]; exact heap_alloc_new U1 _
  have x3 : U3.heap[W.heap.size + 1 + 1]? = some (.cells #[.slice (some ⟨W.heap.size, 0, none⟩) 1 1, .slice (some ⟨W.heap.size + 1, 0, none⟩) 1 1] 28 (0, 0)) := by rw [hU3, ← z2]; exact heap_alloc_new U2 _
  obtain ⟨⟨p0, p1⟩, _⟩ := cells2 x1
  obtain ⟨⟨q0, q1⟩, _⟩ := cells2 x2
  obtain ⟨⟨r0, r1⟩, _⟩ := cells2 x3
  have hR : Rs U3 (some ⟨W.heap.size + 1 + 1, 0, none⟩) kIn := fun _ => ⟨_, 0, rfl, by omega, fun j hj => by
    match j, hj with
    | 0, _ => exact ⟨_, 1, r0, fun _ => ⟨_, 0, rfl, by omega, fun i hi => by
        have hi' : i < 1 := hi
        obtain rfl : i = 0 := by omega
        exact ⟨p0, p1⟩⟩, fun e => by cases e⟩
    | 1, _ => exact ⟨_, 1, r1, fun _ => ⟨_, 0, rfl, by omega, fun i hi => by
        have hi' : i < 1 := hi
        obtain rfl : i = 0 := by omega
        exact ⟨q0, q1⟩⟩, fun e => by cases e⟩⟩
  have HO := Lib.hid (of_c (ca := 2) (n := 2) (by omega) (hA.below b03 h0) rfl hR (by omega) (by decide))
  have HB := Lib.hid b03
  have HA := Lib.hid hA
  have H0 := Lib.hid h0
  clear x1 x2 x3 p0 p1 q0 q1 r0 r1 b1 b2 b3 b13 b03 hR h0 hA
  go_enter Tryd.func9, Tryd.ntmps9
  go_wp2_with fail
  rw [← hU1, ← hU2, ← hU3]
  refine HO.out.mono ?_
  rintro e w2 ⟨P, c, p, rfl, hRs, hP, hf1, hf2, hPc, hpc, hb2⟩
  obtain rfl := hP.unique parts_k
  have hB2 := HB.out.trans (hb2.mono HB.out.size)
  have hA2 := HA.out.below hB2 H0.out
  have h02 := H0.out
  have hsz2 := hB2.size
  have HW1 : Hid (Calls Tryd.prog 15 #[.slice P 3 c, .int .i64 20] w2 fun e W' => e = .returned (.int .i64 2) ∧ Below w2.heap.size w2 W') := Lib.hid ((which_c (c := c) (n := 3) (ls := kOut) (r := 20) (by omega) hA2 rfl (by omega) hRs (by decide)).mono (fun e W' h => ⟨by rw [h.1, which_k1], h.2⟩))
  have HW2 : Hid (∀ V : World, Below w2.heap.size w2 V → Calls Tryd.prog 15 #[.slice P 3 c, .int .i64 21] V fun e W' => e = .returned (.int .i64 (-1)) ∧ Below V.heap.size V W') := Lib.hid (fun V hV => (which_c (n := 3) (ls := kOut) (r := 21) (c := c) (by have := hV.size; omega) (hA2.below hV (by omega)) rfl (by omega) (hRs.step hV) (by decide)).mono (fun e W' h => ⟨by rw [h.1, which_k2], h.2⟩))
  have HPA : Hid (∀ V : World, Below w2.heap.size w2 V → Calls Tryd.prog 18 #[.slice P 3 c, .slice (some ⟨V.heap.size, 0, none⟩) 1 1] (V.alloc (.cells #[.int .i64 6, .int .i64 7] 42)) fun e W' => ∃ P cp, e = .returned (.slice P 1 cp) ∧ Below w2.heap.size w2 W') := Lib.hid (fun V hV => by
    have hbA : Below V.heap.size V (V.alloc (.cells #[.int .i64 6, .int .i64 7] 42)) := (Below.refl _ _).alloc (Nat.le_refl _) _
    have hVA := hV.trans (hbA.mono hV.size)
    have hsA := hVA.size
    have xA := heap_alloc_new V (.cells #[.int .i64 6, .int .i64 7] 42)
    obtain ⟨⟨s0, s1⟩, _⟩ := cells2 xA
    refine (parts_c (n := 3) (c := c) (k := 1) (d := 1) (ls := kOut) (s := [(6, 7)]) (by omega) (hA2.below hVA (by omega)) rfl (by omega) (hRs.step hVA) (by decide) rfl (by omega) (fun _ => ⟨_, 0, rfl, by rw [World.size_alloc]; omega, fun i hi => by
        have hi' : i < 1 := hi
        obtain rfl : i = 0 := by omega
        exact ⟨s0, s1⟩⟩)).mono ?_
    rintro e W' ⟨P', cp, o, l, rfl, _, h1, h2, h3, h4⟩
    obtain rfl := one_k h1 h2
    rw [places_k] at h3
    subst h3
    exact ⟨P', cp, rfl, hVA.trans (h4.mono hsA)⟩)
  obtain ⟨bb, off, rfl, hbb, hrow⟩ := hRs (by decide)
  obtain ⟨P1, c1, r1, r2, r3⟩ := hrow 1 (by decide)
  obtain ⟨b5, o5, rfl, hb5, hc5⟩ := r2 (by decide)
  obtain ⟨s0, s1⟩ := hc5 0 (by decide)
  have s0 : w2.cell? ⟨b5, o5, none⟩ = some (.int .i64 5) := s0
  have s1 : w2.cell? ⟨b5, o5 + 1, none⟩ = some (.int .i64 9) := s1
  have r1 : w2.cell? ⟨bb, off + 1, none⟩ = some (.slice (some ⟨b5, o5, none⟩) 1 c1) := r1
  have HB2 := Lib.hid hB2
  have e3 : kOut.length = 3 := rfl
  rw [e3]
  clear hRs hP hf1 hf2 hPc hpc hb2 hA2 hrow r2 r3 hc5 hB2 e3
  go_wp2_with fail
  refine HW1.out.mono ?_
  rintro e w3 ⟨rfl, b3⟩
  have HB3 := Lib.hid b3
  clear b3 s0 s1 r1
  go_wp2_with fail
  refine (HW2.out _ HB3.out).mono ?_
  rintro e w4 ⟨rfl, b4⟩
  have HB4 := Lib.hid (HB3.out.trans (b4.mono HB3.out.size))
  clear b4
  go_wp2_with fail
  refine (HPA.out _ HB4.out).mono ?_
  rintro e w5 ⟨P5, c5, rfl, b5⟩
  have HB5 := Lib.hid (HB2.out.trans (b5.mono HB2.out.size))
  clear b5
  go_wp2_with fail
  go_ret
  exact ⟨rfl, HB5.out⟩
end Go.Proofs.YtafaddfmbknpgaaDoor
