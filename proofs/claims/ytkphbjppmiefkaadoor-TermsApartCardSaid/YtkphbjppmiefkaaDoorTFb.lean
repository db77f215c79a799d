/- Rows of spans that a call makes itself, in a row of its own: a part more, a span more. -/
import Derived.Deep.AppendLies
import Derived.Deep.RegionLaw
import Derived.Laws.OwnMore
import Derived.Test.YtkphbjppmiefkaaDoorNFam
import Derived.Test.YtkphbjppmiefkaaDoorTRows
import Derived.Test.YtkphbjppmiefkaaDoorSteps
namespace Go.Proofs.YtkphbjppmiefkaaDoor
open Go.RowKit Go.Shelf Go.Maps SetM
def Rw.more (r : Rw) (g cap : Nat) (cs : List Value) : Rw := ⟨r.e, r.s, .slice (some ⟨g, 0, none⟩) (r.n + 1) cap, r.n + 1, r.xs ++ cs⟩
theorem wpList_fam {w : World} {ops : Array Oper} {rest : List Oper} {o : Oper} {a : Act} {Q : Exit → Act → World → Prop} (hgd : o.guard = none) (s x : Operand) (t : TypeId)
    (ho : o.op = .call { callee := .builtin .append, args := #[s, x], argTypes := #[t, t] }) {z : Value} {bytes : Nat} (r : Rw) (ht : Tryd.prog.underlying t = some (.slice r.e)) (hinfo : (Tryd.prog.info? r.e).map (fun i => (i.zero, i.size, i.bytes)) = some (some z, r.s, bytes)) (hzs : z.cells.size = r.s) (hsz : 0 < r.s) (hby : bytes ≤ 64)
    (hr : r.ok w) (hs : a.eval s = r.v) (g0 : Nat) (hx : a.eval x = .slice (some ⟨g0, 0, none⟩) 1 1) (cs : List Value) (hb : w.heap[g0]? = some (.cells cs.toArray r.e (0, 0))) (hcl : cs.length = r.s) (h1 : ∀ u ∈ cs, u.oneCell' = true) (h63 : r.n ≤ 1000000)
    (h : ∀ g cap w', (r.more g cap cs).ok w' → w.grownBy w' r.v.ownBlock → (r.v.ownBlock = some g ∨ g = w.heap.size) → wpList Tryd.prog ops Q rest (a.put o.dst (.slice (some ⟨g, 0, none⟩) (r.n + 1) cap)) w') : wpList Tryd.prog ops Q (o :: rest) a w := by
  obtain ⟨i0, hi, hz0, hz1, hz2⟩ := info_parts hinfo
  refine wpList_append_lies _ hgd s x t ho 0 r.e i0 z r.s bytes ht hi hz0 hz1 hz2 hzs hsz r.v r.n r.xs hs hr ⟨g0, 0, none⟩ 1 1 cs hx (by omega) (fun j y hy => World.news_of_block hb j y (by simpa using hy)) h1 (by omega) (by unfold maxLen; omega) ?_ (Nat.zero_le _) _ rfl ?_
  · exact Nat.le_trans (Nat.mul_le_mul (show r.n + 1 ≤ 1000001 by omega) hby) (by decide)
  · intro g cap w' k1 k2 k3 _
    exact h g cap w' k1 k2 k3
theorem step_fam {w : World} {ops : Array Oper} {o : Oper} {a : Act} {K : Act → World → Prop} {Q : Exit → Act → World → Prop} {E : Prop} (hgd : o.guard = none) (s x : Operand) (t : TypeId)
    (ho : o.op = .call { callee := .builtin .append, args := #[s, x], argTypes := #[t, t] }) {z : Value} {bytes : Nat} (r : Rw) (ht : Tryd.prog.underlying t = some (.slice r.e)) (hinfo : (Tryd.prog.info? r.e).map (fun i => (i.zero, i.size, i.bytes)) = some (some z, r.s, bytes)) (hzs : z.cells.size = r.s) (hsz : 0 < r.s) (hby : bytes ≤ 64)
    (hr : r.ok w) (hs : a.eval s = r.v) (g0 : Nat) (hx : a.eval x = .slice (some ⟨g0, 0, none⟩) 1 1) (cs : List Value) (hb : w.heap[g0]? = some (.cells cs.toArray r.e (0, 0))) (hcl : cs.length = r.s) (h1 : ∀ u ∈ cs, u.oneCell' = true) (h63 : r.n ≤ 1000000)
    (h : ∀ g cap w', (r.more g cap cs).ok w' → w.grownBy w' r.v.ownBlock → (r.v.ownBlock = some g ∨ g = w.heap.size) → K (a.put o.dst (.slice (some ⟨g, 0, none⟩) (r.n + 1) cap)) w') :
    if Region.wanted o (yielded ops a.tmps) = true then Oper.wp Tryd.prog o a w K Q else E := by
  obtain ⟨i0, hi, hz0, hz1, hz2⟩ := info_parts hinfo
  refine step_append_lies _ hgd s x t ho 0 r.e i0 z r.s bytes ht hi hz0 hz1 hz2 hzs hsz r.v r.n r.xs hs hr ⟨g0, 0, none⟩ 1 1 cs hx (by omega) (fun j y hy => World.news_of_block hb j y (by simpa using hy)) h1 (by omega) (by unfold maxLen; omega) ?_ (Nat.zero_le _) _ rfl ?_
  · exact Nat.le_trans (Nat.mul_le_mul (show r.n + 1 ≤ 1000001 by omega) hby) (by decide)
  · intro g cap w' k1 k2 k3 _
    exact h g cap w' k1 k2 k3
theorem Rw.ok.form {W : World} {e : TypeId} {s n : Nat} {v : Value} {xs : List Value} (h : (⟨e, s, v, n, xs⟩ : Rw).ok W) (hn : 0 < n) : ∃ g cap, v = .slice (some ⟨g, 0, none⟩) n cap ∧ g < W.heap.size :=
  let ⟨g, cap, h1, _, h2⟩ := World.ownsRow.form h hn
  ⟨g, cap, h1, h2⟩
theorem Rw.ok.at {W : World} {e : TypeId} {n g cap : Nat} {xs : List Value} (h : (⟨e, 1, .slice (some ⟨g, 0, none⟩) n cap, n, xs⟩ : Rw).ok W) {i : Nat} (hi : i < n) : W.cell? ⟨g, i, none⟩ = xs[i]? ∧ W.frozen? ⟨g, i, none⟩ = false :=
  ⟨World.ownsRow.cellAt h i (by show i < n * 1; omega), World.ownsRow.frozenAt h i⟩
theorem Rw.ok.slice {W : World} {r : Rw} (h : r.ok W) : ∃ p c, r.v = .slice p r.n c := by
  rcases h.2 with ⟨h1, h2⟩ | ⟨g, cap, _, h1, _⟩
  · exact ⟨none, 0, by rw [h1, h2]⟩
  · exact ⟨_, _, h1⟩
theorem Rw.ok.cells {W : World} {r : Rw} (h : r.ok W) (hs : 0 < r.s) {j : Nat} (hj : j < r.n * r.s) : ∃ g c, r.v = .slice (some ⟨g, 0, none⟩) r.n c ∧ g < W.heap.size ∧ W.cell? ⟨g, j, none⟩ = r.xs[j]? := by
  have hok := h
  unfold Rw.ok at hok
  rcases h.2 with ⟨_, b⟩ | ⟨g, cap, cur, a, _⟩
  · have b' : r.n = 0 := b
    rw [b'] at hj
    simp at hj
  · have a' : r.v = .slice (some ⟨g, 0, none⟩) r.n cap := a
    refine ⟨g, cap, a', h.lt (by rw [a']; rfl), ?_⟩
    rw [a'] at hok
    exact World.ownsRow.cellAt hok j hj
/-- Parts, each in a row of its own, in a row. -/
structure PF (base : Nat) (W : World) (R : Nat → Rw) (p : List (List Sp)) : Prop where
  fam : Fam W (1 + p.length) R
  own : ∀ k, Has (1 + p.length) R k → base ≤ k
  r0 : (R 0).e = 28 ∧ (R 0).s = 1 ∧ (R 0).n = p.length ∧ (R 0).xs = (List.range p.length).map (fun i => (R (1 + i)).v)
  ri : ∀ i (h : i < p.length), (R (1 + i)).e = 42 ∧ (R (1 + i)).s = 2 ∧ (R (1 + i)).n = p[i].length ∧ (R (1 + i)).xs = cellsS p[i]
theorem PF.start (base : Nat) (W : World) : PF base W (fun _ => ⟨28, 1, .slice none 0 0, 0, []⟩) [] :=
  ⟨⟨fun _ _ => Rw.nil_ok _ _ _, fun i j hi hj hij => absurd (show i = j by simp at hi hj; omega) hij⟩, fun k ⟨i, _, h⟩ => (by cases h), ⟨rfl, rfl, rfl, rfl⟩, fun i h => absurd h (Nat.not_lt_zero _)⟩
theorem PF.kept {base : Nat} {W W' : World} {R : Nat → Rw} {p : List (List Sp)} (h : PF base W R p) (hb : ∀ k, Has (1 + p.length) R k → W'.heap[k]? = W.heap[k]?) : PF base W' R p := ⟨h.fam.kept hb, h.own, h.r0, h.ri⟩
theorem PF.below {base : Nat} {W W' : World} {R : Nat → Rw} {p : List (List Sp)} (h : PF base W R p) (hb : Below W.heap.size W W') : PF base W' R p := h.kept (fun k hk => hb.block k (h.fam.lt hk))
/-- A part of nothing more. -/
theorem PF.new {base : Nat} {W W1 : World} {R : Nat → Rw} {p : List (List Sp)} (h : PF base W R p) (hbw : base ≤ W.heap.size) {g cap : Nat} (hr : ((R 0).more g cap [.slice none 0 0]).ok W1) (hg : W.grownBy W1 (R 0).v.ownBlock) (hat : (R 0).v.ownBlock = some g ∨ g = W.heap.size) :
    ∃ R', PF base W1 R' (p ++ [[]]) ∧ (R' 0).v = .slice (some ⟨g, 0, none⟩) (p.length + 1) cap := by
  have h1 := h.fam.grow (i := 0) (by omega) (r := (R 0).more g cap [.slice none 0 0]) (g := g) hg hr rfl hat
  have h2 := h1.1.more (r := ⟨42, 2, .slice none 0 0, 0, []⟩) (Rw.nil_ok _ _ _) rfl
  obtain ⟨R', hR'⟩ : ∃ R', R' = upd (upd R 0 ((R 0).more g cap [.slice none 0 0])) (1 + p.length) ⟨42, 2, .slice none 0 0, 0, []⟩ := ⟨_, rfl⟩
  rw [← hR'] at h2
  have e0 : R' 0 = (R 0).more g cap [.slice none 0 0] := by rw [hR', upd_other _ _ (by omega), upd_same]
  have eo : ∀ i, i < p.length → R' (1 + i) = R (1 + i) := fun i hi => by rw [hR', upd_other _ _ (by omega), upd_other _ _ (by omega)]
  have en : R' (1 + p.length) = ⟨42, 2, .slice none 0 0, 0, []⟩ := by rw [hR', upd_same]
  have hl : (p ++ [[]]).length = p.length + 1 := by simp
  refine ⟨R', ⟨by rw [hl, ← Nat.add_assoc]; exact h2.1, fun k hk => ?_, ?_, fun i hi => ?_⟩, by rw [e0]; show Value.slice _ ((R 0).n + 1) cap = _; rw [h.r0.2.2.1]⟩
  · rw [hl, ← Nat.add_assoc] at hk
    rcases h1.2 k (h2.2 k hk) with hk | hk
    · exact h.own k hk
    · omega
  · rw [e0, hl]
    refine ⟨h.r0.1, h.r0.2.1, by show (R 0).n + 1 = _; rw [h.r0.2.2.1], ?_⟩
    show (R 0).xs ++ [_] = _
    rw [h.r0.2.2.2, List.range_succ, List.map_append]
    congr 1
    · exact List.map_congr_left (fun i hi => by rw [eo i (List.mem_range.1 hi)])
    · simp [en]
  · rcases Nat.lt_or_ge i p.length with h3 | h3
    · rw [eo i h3]
      have := h.ri i h3
      rw [List.getElem_append_left h3]
      exact this
    · have h4 : i = p.length := by rw [hl] at hi; omega
      subst h4
      rw [en]
      simp [cellsS]
/-- A span more, in one of them. -/
theorem PF.app {base : Nat} {W W1 : World} {R : Nat → Rw} {p : List (List Sp)} (h : PF base W R p) (hbw : base ≤ W.heap.size) {i : Nat} (hi : i < p.length) {g cap : Nat} {u : Sp} (hr : ((R (1 + i)).more g cap [.int .i64 u.1, .int .i64 u.2]).ok W1) (hg : W.grownBy W1 (R (1 + i)).v.ownBlock) (hat : (R (1 + i)).v.ownBlock = some g ∨ g = W.heap.size)
    {g0 c0 : Nat} (h0 : (R 0).v = .slice (some ⟨g0, 0, none⟩) p.length c0) :
    ∃ R', PF base (W1.setCell ⟨g0, i, none⟩ (.slice (some ⟨g, 0, none⟩) (p[i].length + 1) cap)) R' (p.set i (p[i] ++ [u])) ∧ (R' 0).v = (R 0).v ∧ g0 ≠ g ∧ (∀ k, k < W.heap.size → ¬ Has (1 + p.length) R k → (W1.setCell ⟨g0, i, none⟩ (.slice (some ⟨g, 0, none⟩) (p[i].length + 1) cap)).heap[k]? = W.heap[k]?) := by
  obtain ⟨r, hrd⟩ : ∃ r, r = (R (1 + i)).more g cap [.int .i64 u.1, .int .i64 u.2] := ⟨_, rfl⟩
  rw [← hrd] at hr
  have hrv : r.v = .slice (some ⟨g, 0, none⟩) (p[i].length + 1) cap := by rw [hrd]; show Value.slice _ ((R (1 + i)).n + 1) cap = _; rw [(h.ri i hi).2.2.1]
  have h1 := h.fam.grow (i := 1 + i) (by omega) (r := r) (g := g) hg hr (by rw [hrv]; rfl) hat
  have e0 : (upd R (1 + i) r) 0 = R 0 := upd_other _ _ (by omega)
  have h2 := h1.1.store (i := 0) (by omega) (g := g0) (len := p.length) (cap := c0) (by rw [e0]; exact h0) (by rw [e0]; exact h.r0.2.2.1) i (.slice (some ⟨g, 0, none⟩) (p[i].length + 1) cap)
  have hgne : g0 ≠ g := fun e => by
    have h3 := h1.1.apart 0 (1 + i) (by omega) (by omega) (by omega) g0 (by rw [e0, h0]; rfl)
    exact h3 (by rw [upd_same, hrv, e]; rfl)
  obtain ⟨R', hR'⟩ : ∃ R', R' = upd (upd R (1 + i) r) 0 { (upd R (1 + i) r) 0 with xs := ((upd R (1 + i) r) 0).xs.set i (.slice (some ⟨g, 0, none⟩) (p[i].length + 1) cap) } := ⟨_, rfl⟩
  rw [← hR'] at h2
  have q0 : R' 0 = { R 0 with xs := (R 0).xs.set i (.slice (some ⟨g, 0, none⟩) (p[i].length + 1) cap) } := by rw [hR', upd_same, e0]
  have qi : R' (1 + i) = r := by rw [hR', upd_other _ _ (by omega), upd_same]
  have qo : ∀ j, j ≠ i → R' (1 + j) = R (1 + j) := fun j hj => by rw [hR', upd_other _ _ (by omega), upd_other _ _ (by omega)]
  have hl : (p.set i (p[i] ++ [u])).length = p.length := List.length_set
  have hg0 : Has (1 + p.length) R g0 := ⟨0, by omega, by rw [h0]; rfl⟩
  refine ⟨R', ⟨by rw [hl]; exact h2.1, fun k hk => ?_, ?_, fun j hj => ?_⟩, by rw [q0], hgne, fun k hk hn => ?_⟩
  · rw [hl] at hk
    rcases h1.2 k (h2.2 k hk) with hk | hk
    · exact h.own k hk
    · omega
  · rw [q0, hl]
    refine ⟨h.r0.1, h.r0.2.1, h.r0.2.2.1, ?_⟩
    show (R 0).xs.set i _ = _
    rw [h.r0.2.2.2]
    refine List.ext_getElem (by simp) (fun j h3 h4 => ?_)
    simp at h3 h4
    rw [List.getElem_set]
    by_cases e : i = j
    · subst e; simp [qi, hrv]
    · rw [if_neg e]; simp [qo j (fun h => e h.symm)]
  · rw [hl] at hj
    rw [List.getElem_set]
    by_cases e : i = j
    · subst e
      rw [if_pos rfl, qi, hrd]
      have := h.ri i hi
      refine ⟨this.1, this.2.1, by show (R (1 + i)).n + 1 = _; rw [this.2.2.1]; simp, ?_⟩
      show (R (1 + i)).xs ++ _ = _
      rw [this.2.2.2, cellsS_append]
      rfl
    · rw [if_neg e, qo j (fun h => e h.symm)]
      exact h.ri j hj
  · have h3 : k ≠ g0 := fun e => hn (by rw [e]; exact hg0)
    have h4 : (W1.setCell ⟨g0, i, none⟩ (.slice (some ⟨g, 0, none⟩) (p[i].length + 1) cap)).heap[k]? = W1.heap[k]? := by
      have := (World.ownsRow.stored (show World.ownsRow W1 0 (R 0).e (R 0).s (.slice (some ⟨g0, 0, none⟩) (R 0).n c0) (R 0).n (R 0).xs by
        have h5 := h1.1.own 0 (by omega)
        rw [e0] at h5
        unfold Rw.ok at h5
        rw [h0, ← h.r0.2.2.1] at h5
        exact h5) i (.slice (some ⟨g, 0, none⟩) (p[i].length + 1) cap)).2
      exact this.block k (by have := hg.size; omega) (fun e => h3 (Option.some.inj e))
    rw [h4]
    exact hg.block k hk (fun e => hn ⟨1 + i, by omega, e.symm⟩)
/-- As it is read. -/
theorem PF.rows {base : Nat} {W : World} {R : Nat → Rw} {p : List (List Sp)} (h : PF base W R p) : ∃ P c, (R 0).v = .slice P p.length c ∧ Rs W P p ∧ (P = none → c = 0) ∧ p.length ≤ c := by
  have h0 := h.fam.own 0 (by omega)
  obtain ⟨e1, e2, e3, e4⟩ := h.r0
  have hrow : ∀ j (hj : j < p.length), ∃ P c, (R (1 + j)).v = .slice P p[j].length c ∧ Spans W.heap.size W P p[j] ∧ (P = none → c = 0) := fun j hj => by
    obtain ⟨f1, f2, f3, f4⟩ := h.ri j hj
    have hj' := h.fam.own (1 + j) (by omega)
    have hj2 := hj'
    unfold Rw.ok at hj'
    rw [f1, f2, f3, f4] at hj'
    obtain ⟨P, c, k1, k2⟩ := spans_of hj'
    refine ⟨P, c, k1, k2, fun hP => ?_⟩
    rcases hj'.2 with ⟨k3, _⟩ | ⟨g, cap, cur, k3, _⟩
    · rw [k1] at k3; injection k3
    · rw [k1, hP] at k3; injection k3 with k3; cases k3
  rcases h0.2 with ⟨k1, k2⟩ | ⟨g, cap, cur, k1, _, k3, k4, _⟩
  · have k2' : p.length = 0 := by rw [← e3]; exact k2
    refine ⟨none, 0, by rw [k1, k2'], fun hne => absurd (List.eq_nil_of_length_eq_zero k2') hne, fun _ => rfl, by omega⟩
  · refine ⟨_, cap, by rw [k1, e3], fun _ => ⟨g, 0, rfl, (Array.getElem?_eq_some_iff.1 k3).1, fun j hj => ?_⟩, (fun e => by cases e), by rw [← e3]; exact k4⟩
    obtain ⟨P, c, l1, l2, l3⟩ := hrow j hj
    have hc := (Rw.ok.cells h0 (by rw [e2]; omega) (j := j) (by rw [e2, e3]; omega))
    obtain ⟨g', c', m1, m2, m3⟩ := hc
    rw [k1] at m1
    simp only [Value.slice.injEq, Option.some.injEq, Addr.mk.injEq, and_true, true_and] at m1
    refine ⟨P, c, ?_, l2, l3⟩
    rw [Nat.zero_add, m1.1, m3, e4]
    simp [hj, l1]
end Go.Proofs.YtkphbjppmiefkaaDoor
