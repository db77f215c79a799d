/- fold.gather: a list, and what each run moves of it. -/
import Derived.Test.YtmmghgfkpndokaaDoorFWays
import Derived.Test.YtmmghgfkpndokaaDoorSteps
import Derived.Laws.AppendOwnNone
namespace Go.Proofs.YtmmghgfkpndokaaDoor
open Go.RowKit Go.Shelf SetM

theorem news_after (w : World) (o : Obj) (cs : List Value) (t : TypeId) : ∀ j u, cs[j]? = some u → ((w.alloc o).alloc (.cells cs.toArray t)).cell? ((⟨w.heap.size + 1, 0, none⟩ : Addr).add j) = some u := by
  have h := cell_news (w.alloc o) cs t
  rw [World.size_alloc] at h
  exact h
/-- What the first k runs move of a list; of j spans by one run more. -/
def outL (way : Rn → Sp → List Sp) (l : List Sp) (k : Nat) : List Sp := (runsL.take k).flatMap fun u => l.flatMap (way u)
theorem gatherL_out (way : Rn → Sp → List Sp) (l : List Sp) : gatherL way l = outL way l 13 ++ l := rfl
theorem outL_succ (way : Rn → Sp → List Sp) (l : List Sp) (k : Nat) (hk : k < 13) : outL way l (k + 1) = outL way l k ++ l.flatMap (way (runAt k)) := by
  unfold outL runAt
  rw [List.getElem?_eq_getElem (by exact hk), List.take_succ_eq_append_getElem (by exact hk), List.flatMap_append]
  simp
theorem flatMap_len (way : Sp → List Sp) (hw : ∀ s, (way s).length ≤ 1) (l : List Sp) : (l.flatMap way).length ≤ l.length := by
  induction l with
  | nil => simp
  | cons s t ih => rw [List.flatMap_cons, List.length_append, List.length_cons]; have := hw s; omega
theorem outL_len (way : Rn → Sp → List Sp) (hw : ∀ u s, (way u s).length ≤ 1) (l : List Sp) (k : Nat) (hk : k ≤ 13) : (outL way l k).length ≤ 13 * l.length := by
  have h2 : ∀ m : List Rn, (m.flatMap fun u => l.flatMap (way u)).length ≤ m.length * l.length := by
    intro m
    induction m with
    | nil => simp
    | cons u t ih => rw [List.flatMap_cons, List.length_append, List.length_cons, Nat.add_mul]; have := flatMap_len (way u) (hw u) l; omega
  have h3 := h2 (runsL.take k)
  have h4 : (runsL.take k).length = k := by rw [List.length_take]; show min k 13 = k; omega
  rw [h4] at h3
  exact Nat.le_trans h3 (Nat.mul_le_mul_right _ hk)
theorem step_bd {u : Rn} (h : 65 ≤ u.1 ∧ u.1 ≤ u.2.1 ∧ u.2.1 ≤ 8491 ∧ 97 ≤ u.2.2 ∧ u.2.2 ≤ 1104) : 65 ≤ u.1 ∧ u.2.1 ≤ 8491 ∧ 0 ≤ u.1 + stepR u ∧ u.2.1 + stepR u ≤ 20000 ∧ -10000 ≤ stepR u ∧ stepR u ≤ 10000 := by
  obtain ⟨a, b, c⟩ := u
  unfold stepR
  dsimp only at *
  omega
theorem take_next (way : Sp → List Sp) (l : List Sp) (j : Nat) (hj : j < l.length) : (l.take (j + 1)).flatMap way = (l.take j).flatMap way ++ way l[j] := by
  rw [List.take_succ_eq_append_getElem hj, List.flatMap_append]; simp

theorem one_cellsF (l : List Sp) : ∀ u ∈ cellsS l, u.oneCell' = true := by
  intro u hu
  obtain ⟨s, _, hs⟩ := List.mem_flatMap.1 hu
  simp only [encS, List.mem_cons, List.not_mem_nil, or_false] at hs
  rcases hs with rfl | rfl <;> rfl
theorem spans_newsF {W : World} {a : Addr} {l : List Sp} (hs : Sl W (some a) l) : ∀ j u, (cellsS l)[j]? = some u → W.cell? (a.add j) = some u := by
  intro j u hj
  have hlt : j < l.length * 2 := by
    rcases Nat.lt_or_ge j (l.length * 2) with h | h
    · exact h
    · rw [List.getElem?_eq_none (by rw [cellsS_len]; exact h)] at hj; cases hj
  obtain ⟨b, off, e, _, hc⟩ := hs (by intro h; rw [h] at hlt; simp at hlt)
  cases e
  have e1 : (⟨b, off, none⟩ : Addr).add j = ⟨b, off + j, none⟩ := by unfold Addr.add; split <;> simp_all
  have hj2 : j / 2 < l.length := by omega
  obtain ⟨c0, c1⟩ := hc (j / 2) hj2
  rw [cellsS_get l j hlt, List.getElem?_eq_getElem hj2] at hj
  rw [e1]
  rcases (show j % 2 = 0 ∨ j % 2 = 1 by omega) with h | h
  · rw [h] at hj
    rw [show off + j = off + j / 2 * 2 from by omega, c0]
    exact hj
  · rw [h] at hj
    rw [show off + j = off + j / 2 * 2 + 1 from by omega, c1]
    exact hj
theorem grown_reflF (w : World) (row : Option Nat) : w.grownBy w row := ⟨rfl, rfl, rfl, Nat.le_refl _, fun _ _ _ => rfl⟩
/-- Spans appended to a slice of the call's own. -/
theorem wpList_append_spans {w : World} {ops : Array Oper} {rest : List Oper} {o : Oper} {a : Act} {Q : Exit → Act → World → Prop} (hgd : o.guard = none) (s x : Operand)
    (ho : o.op = .call { callee := .builtin .append, args := #[s, x], argTypes := #[26, 26] }) (base : Nat)
    (v : Value) (n : Nat) (xs : List Value) (hs : a.eval s = v) (hown : w.ownsRow base 30 2 v n xs)
    (P : Option Addr) (c : Nat) (l : List Sp) (hx : a.eval x = .slice P l.length c) (hb : Sl w P l) (hP : P = none → c = 0)
    (h63 : n + l.length ≤ 2000000000) (hbase : base ≤ w.heap.size)
    (h : ∀ v' w', w'.ownsRow base 30 2 v' (n + l.length) (xs ++ cellsS l) → w.grownBy w' v.ownBlock → wpList Tryd.prog ops Q rest (a.put o.dst v') w') : wpList Tryd.prog ops Q (o :: rest) a w := by
  obtain ⟨i0, hi, hz0, hz1, hz2⟩ := info_parts infoS
  cases P with
  | none =>
    have hl : l = [] := by
      by_cases hl : l = []
      · exact hl
      · obtain ⟨_, _, e, _⟩ := hb hl; cases e
    subst hl
    rw [hP rfl] at hx
    refine wpList_append_own_none hgd s x 26 ho base 30 i0 2 Tryd.underlying26 hi v n xs hs hown hx ?_
    exact h v w (by simpa [cellsS] using hown) (grown_reflF _ _)
  | some ad =>
    refine wpList_append_own _ hgd s x 26 ho base 30 i0 (.agg #[.int .i64 0, .int .i64 0]) 2 16 Tryd.underlying26 hi hz0 hz1 hz2 rfl (by decide) v n xs hs hown ad l.length c (cellsS l) hx (cellsS_len l) (spans_newsF hb) (one_cellsF l) (by unfold maxLen; omega) (by omega) hbase ?_
    intro v' w' h1 h2 _
    exact h v' w' h1 h2
end Go.Proofs.YtmmghgfkpndokaaDoor
