/- Appends of spans to a slice of the call's own. -/
import Derived.Test.YtjhbjgpkpcfdmaaDoorSteps
import Derived.Laws.AppendOwnNone
namespace Go.Proofs.YtjhbjgpkpcfdmaaDoor
open Go.RowKit Go.Shelf SetM

theorem below_grownF {W W' : World} (h : Below W.heap.size W W') : W.grownBy W' none := ⟨h.os, h.tape, h.output, h.size, fun k hk _ => h.block k hk⟩
theorem own_belowF {W W' : World} {base : Nat} {t : TypeId} {size n : Nat} {v : Value} {xs : List Value} (h : W.ownsRow base t size v n xs) (hb : Below W.heap.size W W') : W'.ownsRow base t size v n xs := by
  refine h.kept (below_grownF hb) ?_
  cases v.ownBlock <;> simp
theorem own_rowAtF {W : World} {base : Nat} {e : TypeId} {size k : Nat} {v : Value} {xs : List Value} (h : W.ownsRow base e size v k xs) : ∀ r, v.ownBlock = some r → ∃ cs, W.heap[r]? = some (.cells cs e (0, 0)) := fun r hr => by
  rcases h.2 with ⟨rfl, _⟩ | ⟨g, cap, cur, rfl, _, hg, _⟩
  · cases hr
  · obtain rfl : g = r := by simpa [Value.ownBlock] using hr
    exact ⟨cur, hg⟩
theorem news_after (w : World) (o : Obj) (cs : List Value) (t : TypeId) : ∀ j u, cs[j]? = some u → ((w.alloc o).alloc (.cells cs.toArray t)).cell? ((⟨w.heap.size + 1, 0, none⟩ : Addr).add j) = some u := by
  have h := cell_news (w.alloc o) cs t
  rw [World.size_alloc] at h
  exact h
theorem one_cellsF (l : List Sp) : ∀ u ∈ cellsS l, u.oneCell' = true := by
  intro u hu
  obtain ⟨s, _, hs⟩ := List.mem_flatMap.1 hu
  simp only [encS, List.mem_cons, List.not_mem_nil, or_false] at hs
  rcases hs with rfl | rfl <;> rfl
theorem spans_newsF {W : World} {a : Addr} {l : List Sp} (hs : Sl W (some a) l) : ∀ j u, (cellsS l)[j]? = some u → W.cell? (a.add j) = some u := by
  intro j u hj
  have hlt : j < l.length * 2 := by
    rcases Nat.lt_or_ge j (l.length * 2) with h | h
    · exact h
    · rw [List.getElem?_eq_none (by rw [cellsS_len]; exact h)] at hj; cases hj
  obtain ⟨b, off, e, _, hc⟩ := hs (by intro h; rw [h] at hlt; simp at hlt)
  cases e
  have e1 : (⟨b, off, none⟩ : Addr).add j = ⟨b, off + j, none⟩ := by unfold Addr.add; split <;> simp_all
  have hj2 : j / 2 < l.length := by omega
  obtain ⟨c0, c1⟩ := hc (j / 2) hj2
  rw [cellsS_get l j hlt, List.getElem?_eq_getElem hj2] at hj
  rw [e1]
  rcases (show j % 2 = 0 ∨ j % 2 = 1 by omega) with h | h
  · rw [h] at hj
    rw [show off + j = off + j / 2 * 2 from by omega, c0]
    exact hj
  · rw [h] at hj
    rw [show off + j = off + j / 2 * 2 + 1 from by omega, c1]
    exact hj
theorem grown_reflF (w : World) (row : Option Nat) : w.grownBy w row := ⟨rfl, rfl, rfl, Nat.le_refl _, fun _ _ _ => rfl⟩
/-- Spans appended to a slice of the call's own. -/
theorem wpList_append_spans {w : World} {ops : Array Oper} {rest : List Oper} {o : Oper} {a : Act} {Q : Exit → Act → World → Prop} (hgd : o.guard = none) (s x : Operand)
    (ho : o.op = .call { callee := .builtin .append, args := #[s, x], argTypes := #[27, 27] }) (base : Nat)
    (v : Value) (n : Nat) (xs : List Value) (hs : a.eval s = v) (hown : w.ownsRow base 39 2 v n xs)
    (P : Option Addr) (c : Nat) (l : List Sp) (hx : a.eval x = .slice P l.length c) (hb : Sl w P l) (hP : P = none → c = 0)
    (h63 : n + l.length ≤ 2000000000) (hbase : base ≤ w.heap.size)
    (h : ∀ v' w', w'.ownsRow base 39 2 v' (n + l.length) (xs ++ cellsS l) → w.grownBy w' v.ownBlock → wpList Tryd.prog ops Q rest (a.put o.dst v') w') : wpList Tryd.prog ops Q (o :: rest) a w := by
  obtain ⟨i0, hi, hz0, hz1, hz2⟩ := info_parts infoS
  cases P with
  | none =>
    have hl : l = [] := by
      by_cases hl : l = []
      · exact hl
      · obtain ⟨_, _, e, _⟩ := hb hl; cases e
    subst hl
    rw [hP rfl] at hx
    refine wpList_append_own_none hgd s x 27 ho base 39 i0 2 Tryd.underlying27 hi v n xs hs hown hx ?_
    exact h v w (by simpa [cellsS] using hown) (grown_reflF _ _)
  | some ad =>
    refine wpList_append_own _ hgd s x 27 ho base 39 i0 (.agg #[.int .i64 0, .int .i64 0]) 2 16 Tryd.underlying27 hi hz0 hz1 hz2 rfl (by decide) v n xs hs hown ad l.length c (cellsS l) hx (cellsS_len l) (spans_newsF hb) (one_cellsF l) (by unfold maxLen; omega) (by omega) hbase ?_
    intro v' w' h1 h2 _
    exact h v' w' h1 h2
theorem spans_of0 {W : World} {base : Nat} {v : Value} {l : List Sp} (h : W.ownsRow base 39 2 v l.length (cellsS l)) : ∃ P c, v = .slice P l.length c ∧ Sl W P l ∧ (P = none → c = 0) := by
  obtain ⟨P, c, rfl, hs⟩ := spans_of h
  refine ⟨P, c, rfl, hs, fun hP => ?_⟩
  rcases h.2 with ⟨e1, _⟩ | ⟨g, cap, cur, e1, _⟩
  · injection e1
  · subst hP; injection e1 with e1; cases e1
end Go.Proofs.YtjhbjgpkpcfdmaaDoor
