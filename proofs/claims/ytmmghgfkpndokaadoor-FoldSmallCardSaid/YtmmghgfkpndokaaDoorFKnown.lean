/- The chapter's examples of fold hold (known), wherever the tables are. -/
import Derived.Test.YtmmghgfkpndokaaDoorFOrbit
namespace Go.Proofs.YtmmghgfkpndokaaDoor
open Go.RowKit Go.Shelf SetM

theorem k_orbit {o : List Int} (h : IsOrbit 107 o) : o = [75, 107, 8490] := by
  refine rise_unique o _ h.1 (by decide) (fun x => ?_)
  rw [h.2]
  have h1 := foldF_spec x
  have h2 : foldF 107 = 107 := by decide
  have h3 : Sc 107 := by decide
  rw [h2]
  simp only [List.mem_cons, List.not_mem_nil, or_false]
  unfold Sc
  constructor
  · rintro ⟨a, b, c⟩; omega
  · intro h
    refine ⟨by omega, by omega, ?_⟩
    rcases h with rfl | rfl | rfl <;> decide
theorem k_close {out : List Sp} (h : IsSet out (ClosedK (Tells [(107, 107)]))) : out = [(75, 75), (107, 107), (8490, 8490)] := by
  have ho := k_orbit (orbit_of h.1 h.2)
  refine nf_unique out _ h.1 (by simp [Nf]) (fun x => ?_)
  rw [← mem_numsL, ho]
  simp [Mem]; omega
theorem k_fold : foldF 75 = 107 := by decide

set_option maxRecDepth 100000 in
set_option maxHeartbeats 1000000 in
theorem known_c {w W : World} (hC : Cf w W) : Calls Tryd.prog 10 #[] W fun e W' => e = .returned (.bool true) ∧ Below W.heap.size W W' := by
  obtain ⟨u, hu⟩ : ∃ u, u = W := ⟨_, rfl⟩
  rw [← hu] at hC ⊢
  clear hu W
  have HC := Lib.hid hC
  have HO := Lib.hid (orbit_c 107 hC)
  clear hC
  go_enter Tryd.func10, Tryd.ntmps10
  go_wp2_with fail
  refine HO.out.mono ?_
  rintro e w1 ⟨P1, c1, o1, rfl, ho, _, hi1, b1⟩
  obtain rfl := k_orbit ho
  have HI1 := Lib.hid hi1
  have HC1 := Lib.hid (HC.out.step b1)
  clear hi1 ho HO
  have hb0 : Below w1.heap.size w1 (w1.alloc (.cells (cellsS [(107, 107)]).toArray 30)) := (Below.refl _ _).alloc (Nat.le_refl _) _
  have hz0' : (w1.alloc (.cells (cellsS [(107, 107)]).toArray 30)).heap.size = w1.heap.size + 1 := World.size_alloc _ _
  have hs0 := spans_new w1 [(107, 107)]
  rw [← hz0'] at hs0
  have hcl := close_c (c := 1) (HC1.out.step hb0) hs0 (by simp)
  rw [cellsS_one] at hcl hb0
  have HCL := Lib.hid hcl
  have HB0 := Lib.hid hb0
  clear hcl hs0 hz0' hb0
  go_wp2_with (go_at_call 13; refine HCL.out.mono ?_; rintro e w2 ⟨P2, c2, o2, rfl, hI, hN, hS, hZ, hb1⟩; have e2 := k_close hI; subst e2; have hb2 := HB0.out.trans (hb1.mono HB0.out.size))
  have HC2 := Lib.hid (HC1.out.step hb2)
  have hi2 := HI1.out.step hb2
  have b2 := b1.trans (hb2.mono b1.size)
  have HF := Lib.hid (fold_c 75 HC2.out)
  obtain ⟨b, off, rfl, hbb, hc⟩ := hi2 (by simp)
  have c0 := hc 0 (by simp)
  have c1 := hc 1 (by simp)
  have c2' := hc 2 (by simp)
  simp only [List.getElem_cons_zero, List.getElem_cons_succ, Nat.add_zero] at c0 c1 c2'
  rw [k_fold] at HF
  have HK := Lib.hid (And.intro c0 c2')
  clear hI hN hS hZ hb1 hi2 hc HCL HB0 HI1 c0 c1 c2'
  go_wp2_with fail
  refine HF.out.mono ?_
  rintro e w3 ⟨rfl, b3⟩
  have d0 := (b3.cell (p := ⟨b, off, none⟩) hbb).trans HK.out.1
  have d2 := (b3.cell (p := ⟨b, off + 2, none⟩) hbb).trans HK.out.2
  have hbf := b2.trans (b3.mono b2.size)
  clear b3 HK HF
  go_wp2
  go_ret
  exact ⟨rfl, hbf⟩
end Go.Proofs.YtmmghgfkpndokaaDoor
