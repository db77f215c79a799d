/- fold's movers: the closure that moves a piece of a span, and how a run makes it. -/
import Derived.Test.YtmmghgfkpndokaaDoorFRuns
import Derived.Handy
namespace Go.Proofs.YtmmghgfkpndokaaDoor
open Go.RowKit Go.Shelf SetM

theorem below_grownF {W W' : World} (h : Below W.heap.size W W') : W.grownBy W' none := ⟨h.os, h.tape, h.output, h.size, fun k hk _ => h.block k hk⟩
theorem own_belowF {W W' : World} {base : Nat} {t : TypeId} {size n : Nat} {v : Value} {xs : List Value} (h : W.ownsRow base t size v n xs) (hb : Below W.heap.size W W') : W'.ownsRow base t size v n xs := by
  refine h.kept (below_grownF hb) ?_
  cases v.ownBlock <;> simp
theorem own_rowAtF {W : World} {base : Nat} {e : TypeId} {size k : Nat} {v : Value} {xs : List Value} (h : W.ownsRow base e size v k xs) : ∀ r, v.ownBlock = some r → ∃ cs, W.heap[r]? = some (.cells cs e (0, 0)) := fun r hr => by
  rcases h.2 with ⟨rfl, _⟩ | ⟨g, cap, cur, rfl, _, hg, _⟩
  · cases hr
  · obtain rfl : g = r := by simpa [Value.ownBlock] using hr
    exact ⟨cur, hg⟩
/-- The three variables of the closure that moves what lies from lo to hi by st. -/
structure MovB (W : World) (b1 b2 b3 : Nat) (lo hi st : Int) : Prop where
  lo : W.heap[b1]? = some (.cells #[.int .i64 lo] 3 (0, 0))
  hi : W.heap[b2]? = some (.cells #[.int .i64 hi] 3 (0, 0))
  st : W.heap[b3]? = some (.cells #[.int .i64 st] 3 (0, 0))
theorem heap_kept {W W' : World} {row : Option Nat} {b : Nat} {cs : Array Value} {t : TypeId} (h : W.heap[b]? = some (.cells cs t (0, 0))) (hg : W.grownBy W' row) (hr : ∀ r, row = some r → ∃ cs t', W.heap[r]? = some (.cells cs t' (0, 0)) ∧ t' ≠ t) : W'.heap[b]? = some (.cells cs t (0, 0)) := by
  refine (hg.block b (Array.getElem?_eq_some_iff.1 h).1 (fun e => ?_)).trans h
  obtain ⟨cs', t', h1, h2⟩ := hr b e.symm
  rw [h] at h1
  injection h1 with h1
  injection h1 with _ h3
  exact h2 h3.symm
theorem MovB.kept {W W' : World} {row : Option Nat} {b1 b2 b3 : Nat} {lo hi st : Int} (h : MovB W b1 b2 b3 lo hi st) (hg : W.grownBy W' row) (hr : ∀ r, row = some r → ∃ cs t', W.heap[r]? = some (.cells cs t' (0, 0)) ∧ t' ≠ 3) : MovB W' b1 b2 b3 lo hi st :=
  ⟨heap_kept h.lo hg hr, heap_kept h.hi hg hr, heap_kept h.st hg hr⟩
theorem MovB.below {W W' : World} {b1 b2 b3 : Nat} {lo hi st : Int} (h : MovB W b1 b2 b3 lo hi st) (hb : Below W.heap.size W W') : MovB W' b1 b2 b3 lo hi st := h.kept (below_grownF hb) (fun _ e => by cases e)
theorem MovB.alloc {W : World} {b1 b2 b3 : Nat} {lo hi st : Int} (h : MovB W b1 b2 b3 lo hi st) (o : Obj) : MovB (W.alloc o) b1 b2 b3 lo hi st := h.below ((Below.refl _ W).alloc (Nat.le_refl _) o)
/-- That closure. -/
def MovV (W : World) (lo hi st : Int) (v : Value) : Prop := ∃ b1 b2 b3 : Nat, v = .func (.func 37) #[] #[.pointer (some ⟨b1, 0, none⟩), .pointer (some ⟨b2, 0, none⟩), .pointer (some ⟨b3, 0, none⟩)] ∧ MovB W b1 b2 b3 lo hi st

set_option maxRecDepth 100000 in
set_option maxHeartbeats 1000000 in
theorem shift_any (lo hi st : Int) (w : World) :
    Calls Tryd.prog 33 #[.int .i64 lo, .int .i64 hi, .int .i64 st] w fun e w' => ∃ v, e = .returned v ∧ MovV w' lo hi st v ∧ Below w.heap.size w w' := by
  go_enter Tryd.func33, Tryd.ntmps33
  go_wp2
  go_ret
  have b1 := (Below.refl w.heap.size w).alloc (Nat.le_refl _) (.cells #[.int .i64 lo] 3)
  have b2 := b1.alloc b1.size (.cells #[.int .i64 hi] 3)
  have b3 := b2.alloc b2.size (.cells #[.int .i64 st] 3)
  have z1 : (w.alloc (.cells #[.int .i64 lo] 3)).heap.size = w.heap.size + 1 := World.size_alloc _ _
  have z2 : ((w.alloc (.cells #[.int .i64 lo] 3)).alloc (.cells #[.int .i64 hi] 3)).heap.size = w.heap.size + 1 + 1 := by rw [World.size_alloc, z1]
  have z3 : (((w.alloc (.cells #[.int .i64 lo] 3)).alloc (.cells #[.int .i64 hi] 3)).alloc (.cells #[.int .i64 st] 3)).heap.size = w.heap.size + 1 + 1 + 1 := by rw [World.size_alloc, z2]
  refine ⟨_, rfl, ⟨w.heap.size, w.heap.size + 1, w.heap.size + 1 + 1, rfl, ⟨?_, ?_, ?_⟩⟩, b3⟩
  · rw [heap_alloc_old _ _ _ (by omega), heap_alloc_old _ _ _ (by omega), heap_alloc_new]
  · rw [heap_alloc_old _ _ _ (by omega)]
    have := heap_alloc_new (w.alloc (.cells #[.int .i64 lo] 3)) (.cells #[.int .i64 hi] 3)
    rwa [z1] at this
  · have := heap_alloc_new ((w.alloc (.cells #[.int .i64 lo] 3)).alloc (.cells #[.int .i64 hi] 3)) (.cells #[.int .i64 st] 3)
    rwa [z2] at this

/-- What the closure hands back for a span. -/
def movedV (lo hi st : Int) (s : Sp) : Value := if max s.1 lo ≤ min s.2 hi then .tuple #[.agg #[.int .i64 (max s.1 lo + st), .int .i64 (min s.2 hi + st)], .bool true] else .tuple #[.agg #[.int .i64 0, .int .i64 0], .bool false]
set_option maxRecDepth 100000 in
set_option maxHeartbeats 2000000 in
theorem move_any (lo hi st : Int) (s : Sp) (b1 b2 b3 : Nat) (w : World) (hm : MovB w b1 b2 b3 lo hi st)
    (h1 : 0 ≤ lo) (h2 : hi ≤ 20000) (h3 : -20000 ≤ st) (h4 : st ≤ 20000) :
    Calls Tryd.prog 37 #[.agg #[.int .i64 s.1, .int .i64 s.2], .pointer (some ⟨b1, 0, none⟩), .pointer (some ⟨b2, 0, none⟩), .pointer (some ⟨b3, 0, none⟩)] w fun e w' => e = .returned (movedV lo hi st s) ∧ Below w.heap.size w w' := by
  obtain ⟨x, y⟩ := s
  dsimp only
  have z1 := (Array.getElem?_eq_some_iff.1 hm.lo).1
  have z2 := (Array.getElem?_eq_some_iff.1 hm.hi).1
  have z3 := (Array.getElem?_eq_some_iff.1 hm.st).1
  have c1 : w.cell? ⟨b1, 0, none⟩ = some (.int .i64 lo) := by rw [cell_of_row w b1 0 _ _ _ hm.lo]; rfl
  have c2 : w.cell? ⟨b2, 0, none⟩ = some (.int .i64 hi) := by rw [cell_of_row w b2 0 _ _ _ hm.hi]; rfl
  have c3 : w.cell? ⟨b3, 0, none⟩ = some (.int .i64 st) := by rw [cell_of_row w b3 0 _ _ _ hm.st]; rfl
  clear hm
  have hb1 := (Below.refl w.heap.size w).alloc (Nat.le_refl _) (.cells #[.int .i64 x, .int .i64 y] 30)
  have hb2 := hb1.alloc hb1.size (.cells #[.int .i64 0, .int .i64 0] 30)
  have d1 := (hb2.cell (p := ⟨b1, 0, none⟩) z1).trans c1
  have d2 := (hb2.cell (p := ⟨b2, 0, none⟩) z2).trans c2
  have d3 : ∀ o, (((w.alloc (.cells #[.int .i64 x, .int .i64 y] 30)).alloc (.cells #[.int .i64 0, .int .i64 0] 30)).alloc o).cell? ⟨b3, 0, none⟩ = some (.int .i64 st) := fun o => ((hb2.alloc hb2.size o).cell (p := ⟨b3, 0, none⟩) z3).trans c3
  clear c1 c2 c3
  unfold movedV
  dsimp only
  by_cases h : max x lo ≤ min y hi
  · rw [if_pos h]
    have hn : ¬ (min y hi < max x lo) := by omega
    go_enter Tryd.func37, Tryd.ntmps37
    go_wp2
    all_goals
      go_returns
      refine ⟨?_, ?_⟩
      · first | rfl | (simp; omega) | (simp_all; omega) | simp_all
      · repeat (first | exact Below.refl _ _ | exact hb1 | (refine Below.alloc ?_ (by simp only [World.size_alloc]; omega) _))
  · rw [if_neg h]
    have hn : min y hi < max x lo := by omega
    go_enter Tryd.func37, Tryd.ntmps37
    go_wp2
    all_goals
      go_returns
      refine ⟨?_, ?_⟩
      · first | rfl | (simp; omega) | (simp_all; omega) | simp_all
      · repeat (first | exact Below.refl _ _ | exact hb1 | (refine Below.alloc ?_ (by simp only [World.size_alloc]; omega) _))
end Go.Proofs.YtmmghgfkpndokaaDoor
