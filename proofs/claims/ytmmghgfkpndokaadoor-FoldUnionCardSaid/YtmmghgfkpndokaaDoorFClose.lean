/- fold.Close: the set of all that is alike. -/
import Derived.Test.YtmmghgfkpndokaaDoorFAhead
import Derived.Test.YtmmghgfkpndokaaDoorFBack
import Derived.Test.YtmmghgfkpndokaaDoorUnionMath
namespace Go.Proofs.YtmmghgfkpndokaaDoor
open Go.RowKit Go.Shelf SetM

/-- Where a law's walk stands: as Ctx, and the table of runs is there. -/
structure Cf (w W : World) : Prop where
  ctx : Ctx w W
  runs : Runs W
  pos : 0 < W.heap.size
theorem Cf.start {w : World} (h0 : 1 < w.heap.size) (hA : Areas w) (h1 : 0 < w.heap.size) (hR : Runs w) : Cf w w := ⟨Ctx.start h0 hA, hR, h1⟩
theorem Cf.step {w W W' : World} (h : Cf w W) (hb : Below W.heap.size W W') : Cf w W' :=
  ⟨h.ctx.step hb, h.runs.below hb h.pos, by have := hb.size; have := h.pos; omega⟩
variable {w W : World}
theorem fold_c (r : Int) (hC : Cf w W) : Calls Tryd.prog 9 #[.int .i64 r] W fun e W' => e = .returned (.int .i64 (foldF r)) ∧ Below W.heap.size W W' := fold_any r W hC.runs

theorem spans_of0 {W : World} {base : Nat} {v : Value} {l : List Sp} (h : W.ownsRow base 30 2 v l.length (cellsS l)) : ∃ P c, v = .slice P l.length c ∧ Sl W P l ∧ (P = none → c = 0) := by
  obtain ⟨P, c, rfl, hs⟩ := spans_of h
  refine ⟨P, c, rfl, hs, fun hP => ?_⟩
  rcases h.2 with ⟨e1, _⟩ | ⟨g, cap, cur, e1, _⟩
  · injection e1
  · subst hP; injection e1 with e1; cases e1
theorem closed_tells {l out : List Sp} (h : IsSet out (fun r => Tells l r)) (r : Int) : Tells (closeL out) r ↔ ClosedK (Tells l) r := by
  unfold ClosedK
  constructor
  · rintro ⟨h1, h2⟩
    obtain ⟨x, h3, h4⟩ := (mem_close out r).1 h2
    exact ⟨h1, x, (h.2 x).1 h3, h4⟩
  · rintro ⟨h1, x, h3, h4⟩
    exact ⟨h1, (mem_close out r).2 ⟨x, (h.2 x).2 h3, h4⟩⟩

set_option maxRecDepth 100000 in
set_option maxHeartbeats 1000000 in
theorem close_c {w W : World} {P : Option Addr} {c : Nat} {l : List Sp} (hC : Cf w W) (hs : Sl W P l) (hl : l.length ≤ 100000) :
    Calls Tryd.prog 13 #[.slice P l.length c] W (SetStep W (ClosedK (Tells l)) (1572 + 784 * l.length)) := by
  obtain ⟨u, hu⟩ : ∃ u, u = W := ⟨_, rfl⟩
  rw [← hu] at hC hs ⊢
  clear hu W
  have HC := Lib.hid hC
  have HN := Lib.hid (norm_c (c := c) hC.ctx hs (by omega))
  clear hC hs
  go_enter Tryd.func13, Tryd.ntmps13
  go_wp2_with fail
  refine HN.out.mono ?_
  rintro e w1 ⟨P1, c1, o1, rfl, i1, n1, s1, z1, b1⟩
  have hl1 : o1.length ≤ 4 + 2 * l.length := nf_len i1.1 i1.2
  have HI := Lib.hid i1
  have HC1 := Lib.hid (HC.out.step b1)
  have HG := Lib.hid (gather_ahead P1 c1 o1 (by omega) z1 w1 HC1.out.runs s1)
  clear i1 s1 z1 n1 HN
  go_wp2_with fail
  refine HG.out.mono ?_
  rintro e w2 ⟨v2, rfl, ho2, hb2⟩
  have hl2 := gather_len aheadS (fun u s => moveS_len _ _ _ _) o1
  obtain ⟨P2, c2, rfl, s2, z2⟩ := spans_of0 ho2
  have HC2 := Lib.hid (HC1.out.step hb2)
  have b2 := b1.trans (hb2.mono b1.size)
  have HG2 := Lib.hid (gather_back P2 c2 (gatherL aheadS o1) (by omega) z2 w2 HC2.out.runs s2)
  have hl3 := gather_len backS (fun u s => moveS_len _ _ _ _) (gatherL aheadS o1)
  have HCL : Hid (closeL o1 = gatherL backS (gatherL aheadS o1)) := Lib.hid rfl
  clear ho2 s2 z2 hb2 b1 HG HC1
  go_wp2_with fail
  refine HG2.out.mono ?_
  rintro e w3 ⟨v3, rfl, ho3, hb3⟩
  obtain ⟨P3, c3, rfl, s3, z3⟩ := spans_of0 ho3
  have HC3 := Lib.hid (HC2.out.step hb3)
  have b3 := b2.trans (hb3.mono b2.size)
  have HN3 := Lib.hid ((norm_any P3 c3 (gatherL backS (gatherL aheadS o1)) (by omega) w3 HC3.out.ctx.pos HC3.out.ctx.areas s3))
  clear ho3 s3 z3 hb3 b2 HG2 HC2
  go_wp2_with fail
  refine HN3.out.mono ?_
  rintro e w4 hp
  obtain ⟨P4, c4, o4, rfl, i4, n4, s4, z4, b4⟩ := hp.toStep
  have hl4 : o4.length ≤ 4 + 2 * (gatherL backS (gatherL aheadS o1)).length := nf_len i4.1 i4.2
  rw [← HCL.out] at i4
  have HI4 := Lib.hid (i4.congr (closed_tells HI.out))
  have H4 := Lib.hid (And.intro s4 z4)
  clear i4 s4 z4 HN3
  go_wp2
  go_ret
  exact ⟨P4, c4, o4, rfl, HI4.out, by omega, H4.out.1, H4.out.2, b3.trans (b4.mono b3.size)⟩
end Go.Proofs.YtmmghgfkpndokaaDoor
