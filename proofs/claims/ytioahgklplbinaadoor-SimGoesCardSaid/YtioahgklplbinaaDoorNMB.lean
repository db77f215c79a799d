/- NMem, NFree, NApp, NState, NFreeC, in one text. -/
/- Machines in memory: three rows, and rows of rows. -/
import Derived.Test.YtioahgklplbinaaDoorNMA
import Derived.Test.YtioahgklplbinaaDoorRN
import Derived.Test.YtioahgklplbinaaDoorVM
import Derived.Deep.AppendLies
import Derived.Deep.RegionLaw
import Derived.Deep.DeepCutAuto
namespace Go.Proofs.YtioahgklplbinaaDoor
open Go.RowKit Go.Shelf Go.Maps SetM WrM NfaM

/-- Edges' cells; their sets lie in blocks of B. -/
def EdC (W : World) (B : Nat → Prop) : List Value → List (Int × List Sp) → Prop
  | [], [] => True
  | a :: b :: cs, e :: es => (∃ sp sc, a = .int .i64 e.1 ∧ b = .slice sp (List.length e.2) sc ∧ e.2.length ≤ 100000 ∧ Sl W sp e.2 ∧ (sp = none → sc = 0) ∧ (e.2 ≠ [] → ∀ x, sp = some x → B x.block)) ∧ EdC W B cs es
  | _, _ => False
theorem EdC.kept {W W' : World} {B : Nat → Prop} (hs : W.heap.size ≤ W'.heap.size) (hb : ∀ k, B k → W'.heap[k]? = W.heap[k]?) : ∀ {cs : List Value} {es : List (Int × List Sp)}, EdC W B cs es → EdC W' B cs es
  | [], [], _ => trivial
  | a :: b :: cs, e :: es, h => by
    obtain ⟨⟨sp, sc, h1, h2, h3, h4, h5, h6⟩, h7⟩ := h
    refine ⟨⟨sp, sc, h1, h2, h3, fun hne => ?_, h5, h6⟩, EdC.kept hs hb h7⟩
    obtain ⟨x, o, e1, e2, e3⟩ := h4 hne
    have hq := hb x (h6 hne _ e1)
    exact ⟨x, o, e1, Nat.lt_of_lt_of_le e2 hs, fun j hj => ⟨(World.cell?_of_block (a := ⟨x, o + j * 2, none⟩) hq).trans (e3 j hj).1, (World.cell?_of_block (a := ⟨x, o + j * 2 + 1, none⟩) hq).trans (e3 j hj).2⟩⟩
  | [], _ :: _, h => h.elim
  | [_], [], h => h.elim
  | [_], _ :: _, h => h.elim
  | _ :: _ :: _, [], h => h.elim
theorem EdC.push {W : World} {B : Nat → Prop} {a b : Value} {e : Int × List Sp} (hn : EdC W B [a, b] [e]) : ∀ {cs : List Value} {es : List (Int × List Sp)}, EdC W B cs es → EdC W B (cs ++ [a, b]) (es ++ [e])
  | [], [], _ => hn
  | _ :: _ :: _, _ :: _, h => ⟨h.1, EdC.push hn h.2⟩
  | [], _ :: _, h => h.elim
  | [_], [], h => h.elim
  | [_], _ :: _, h => h.elim
  | _ :: _ :: _, [], h => h.elim
/-- The rows are a machine's. -/
structure MVx (W : World) (B : Nat → Prop) (R : Nat → Rw) (m : Mc) : Prop where
  l1 : m.ed.length = m.tg.length
  l2 : m.fr.length = m.tg.length
  fam : Fam W (3 + 2 * m.tg.length) R
  nb : ∀ k, Has (3 + 2 * m.tg.length) R k → ¬ B k
  bl : ∀ k, B k → k < W.heap.size
  r0 : (R 0).e = 44 ∧ (R 0).s = 1 ∧ (R 0).n = m.tg.length ∧ (R 0).xs = (List.range m.tg.length).map (fun i => (R (3 + 2 * i)).v)
  r1 : (R 1).e = 24 ∧ (R 1).s = 1 ∧ (R 1).n = m.tg.length ∧ (R 1).xs = (List.range m.tg.length).map (fun i => (R (4 + 2 * i)).v)
  r2 : (R 2).e = 3 ∧ (R 2).s = 1 ∧ (R 2).n = m.tg.length ∧ (R 2).xs = m.tg.map (.int .i64)
  re : ∀ i, i < m.tg.length → (R (3 + 2 * i)).e = 47 ∧ (R (3 + 2 * i)).s = 2 ∧ (R (3 + 2 * i)).n = (m.ed.getD i []).length ∧ EdC W B (R (3 + 2 * i)).xs (m.ed.getD i [])
  rf : ∀ i, i < m.tg.length → (R (4 + 2 * i)).e = 3 ∧ (R (4 + 2 * i)).s = 1 ∧ (R (4 + 2 * i)).n = (m.fr.getD i []).length ∧ (R (4 + 2 * i)).xs = (m.fr.getD i []).map (.int .i64)
/-- The value is a machine, in rows of its own, in blocks of O; its sets lie in blocks of B. -/
def MV (W : World) (O B : Nat → Prop) (v : Value) (m : Mc) : Prop := ∃ R, MVx W B R m ∧ v = .agg #[(R 0).v, (R 1).v, (R 2).v] ∧ ∀ k, Has (3 + 2 * m.tg.length) R k → O k
theorem MVx.kept {W W' : World} {B : Nat → Prop} {R : Nat → Rw} {m : Mc} (h : MVx W B R m) (hs : W.heap.size ≤ W'.heap.size) (hb : ∀ k, Has (3 + 2 * m.tg.length) R k ∨ B k → W'.heap[k]? = W.heap[k]?) : MVx W' B R m :=
  { h with
    fam := h.fam.kept (fun k hk => hb k (.inl hk))
    bl := fun k hk => Nat.lt_of_lt_of_le (h.bl k hk) hs
    re := fun i hi => ⟨(h.re i hi).1, (h.re i hi).2.1, (h.re i hi).2.2.1, (h.re i hi).2.2.2.kept hs (fun k hk => hb k (.inr hk))⟩ }
/-- What a call leaves as it was: all but blocks of O. -/
structure Frm (O : Nat → Prop) (W W' : World) : Prop where
  os : W'.os = W.os
  tape : W'.tape = W.tape
  output : W'.output = W.output
  size : W.heap.size ≤ W'.heap.size
  block : ∀ k, k < W.heap.size → ¬ O k → W'.heap[k]? = W.heap[k]?
/-- Old blocks of O, and all that are new. -/
def Onew (O : Nat → Prop) (W : World) (k : Nat) : Prop := O k ∨ W.heap.size ≤ k
theorem Frm.trans {O : Nat → Prop} {a b c : World} (h : Frm O a b) (k : Frm (Onew O a) b c) : Frm O a c :=
  ⟨k.os.trans h.os, k.tape.trans h.tape, k.output.trans h.output, Nat.le_trans h.size k.size, fun x hx hO => (k.block x (Nat.lt_of_lt_of_le hx h.size) (fun e => e.elim hO (fun e => by omega))).trans (h.block x hx hO)⟩
/-- Behind a new state. -/
theorem MVx.state {W W' : World} {B : Nat → Prop} {R R' : Nat → Rw} {m : Mc} (h : MVx W B R m) (hs : W.heap.size ≤ W'.heap.size) (hB : ∀ k, B k → W'.heap[k]? = W.heap[k]?) (hf : Fam W' (3 + 2 * m.tg.length) R') (hn : ∀ k, Has (3 + 2 * m.tg.length) R' k → ¬ B k)
    (h0 : (R' 0).e = (R 0).e ∧ (R' 0).s = 1 ∧ (R' 0).n = m.tg.length + 1 ∧ (R' 0).xs = (R 0).xs ++ [.slice none 0 0]) (h1 : (R' 1).e = (R 1).e ∧ (R' 1).s = 1 ∧ (R' 1).n = m.tg.length + 1 ∧ (R' 1).xs = (R 1).xs ++ [.slice none 0 0])
    (h2 : (R' 2).e = (R 2).e ∧ (R' 2).s = 1 ∧ (R' 2).n = m.tg.length + 1 ∧ (R' 2).xs = (R 2).xs ++ [.int .i64 (-1)]) (ho : ∀ i, 3 ≤ i → i < 3 + 2 * m.tg.length → R' i = R i) :
    ∃ R2, MVx W' B R2 (stF m) ∧ (∀ i, i < 3 + 2 * m.tg.length → R2 i = R' i) ∧ ∀ k, Has (3 + 2 * (stF m).tg.length) R2 k → Has (3 + 2 * m.tg.length) R' k := by
  obtain ⟨n, hnl⟩ : ∃ n, n = m.tg.length := ⟨_, rfl⟩
  have a1 := hf.more (Rw.nil_ok W' 47 2) rfl
  have a2 := a1.1.more (Rw.nil_ok W' 3 1) rfl
  obtain ⟨R2, hR2⟩ : ∃ R2, R2 = upd (upd R' (3 + 2 * m.tg.length) ⟨47, 2, .slice none 0 0, 0, []⟩) (3 + 2 * m.tg.length + 1) ⟨3, 1, .slice none 0 0, 0, []⟩ := ⟨_, rfl⟩
  rw [← hR2] at a2
  have old : ∀ i, i < 3 + 2 * m.tg.length → R2 i = R' i := fun i hi => by rw [hR2, upd_other _ _ (by omega), upd_other _ _ (by omega)]
  have n1 : R2 (3 + 2 * m.tg.length) = ⟨47, 2, .slice none 0 0, 0, []⟩ := by rw [hR2, upd_other _ _ (by omega), upd_same]
  have n2 : R2 (4 + 2 * m.tg.length) = ⟨3, 1, .slice none 0 0, 0, []⟩ := by rw [hR2, show 4 + 2 * m.tg.length = 3 + 2 * m.tg.length + 1 by omega, upd_same]
  have hl : (stF m).tg.length = m.tg.length + 1 := by simp [stF]
  have hh : ∀ k, Has (3 + 2 * (stF m).tg.length) R2 k → Has (3 + 2 * m.tg.length) R' k := fun k hk => a1.2 k (a2.2 k (by rw [hl] at hk; exact hk))
  have g1 : ∀ i, i < m.tg.length → R2 (3 + 2 * i) = R (3 + 2 * i) := fun i hi => by rw [old _ (by omega), ho _ (by omega) (by omega)]
  have g2 : ∀ i, i < m.tg.length → R2 (4 + 2 * i) = R (4 + 2 * i) := fun i hi => by rw [old _ (by omega), ho _ (by omega) (by omega)]
  have d1 : ∀ i, i < m.tg.length → (stF m).ed.getD i [] = m.ed.getD i [] := fun i hi => by
    have := h.l1
    simp only [stF, List.getD_eq_getElem?_getD]
    rw [List.getElem?_append_left (by omega)]
  have d2 : ∀ i, i < m.tg.length → (stF m).fr.getD i [] = m.fr.getD i [] := fun i hi => by
    have := h.l2
    simp only [stF, List.getD_eq_getElem?_getD]
    rw [List.getElem?_append_left (by omega)]
  have d3 : (stF m).ed.getD m.tg.length [] = [] := by
    have := h.l1
    simp only [stF, List.getD_eq_getElem?_getD]
    rw [List.getElem?_append_right (by omega)]
    simp [this]
  have d4 : (stF m).fr.getD m.tg.length [] = [] := by
    have := h.l2
    simp only [stF, List.getD_eq_getElem?_getD]
    rw [List.getElem?_append_right (by omega)]
    simp [this]
  refine ⟨R2, ⟨by simp [stF, h.l1], by simp [stF, h.l2], by rw [hl]; exact a2.1, fun k hk => hn k (hh k hk), fun k hk => Nat.lt_of_lt_of_le (h.bl k hk) hs, ?_, ?_, ?_, fun i hi => ?_, fun i hi => ?_⟩, old, hh⟩
  · rw [old 0 (by omega)]
    refine ⟨h0.1.trans h.r0.1, h0.2.1, by rw [h0.2.2.1, hl], ?_⟩
    rw [h0.2.2.2, h.r0.2.2.2, hl, List.range_succ, List.map_append, List.map_cons, List.map_nil, n1]
    congr 1
    refine List.map_congr_left (fun i hi => ?_)
    rw [g1 i (List.mem_range.1 hi)]
  · rw [old 1 (by omega)]
    refine ⟨h1.1.trans h.r1.1, h1.2.1, by rw [h1.2.2.1, hl], ?_⟩
    rw [h1.2.2.2, h.r1.2.2.2, hl, List.range_succ, List.map_append, List.map_cons, List.map_nil, n2]
    congr 1
    refine List.map_congr_left (fun i hi => ?_)
    rw [g2 i (List.mem_range.1 hi)]
  · rw [old 2 (by omega)]
    refine ⟨h2.1.trans h.r2.1, h2.2.1, by rw [h2.2.2.1, hl], ?_⟩
    rw [h2.2.2.2, h.r2.2.2.2]
    simp [stF]
  · rw [hl] at hi
    by_cases e : i = m.tg.length
    · subst e
      rw [n1, d3]
      exact ⟨rfl, rfl, rfl, trivial⟩
    · have hi' : i < m.tg.length := by omega
      rw [g1 i hi', d1 i hi']
      have := h.re i hi'
      exact ⟨this.1, this.2.1, this.2.2.1, this.2.2.2.kept hs hB⟩
  · rw [hl] at hi
    by_cases e : i = m.tg.length
    · subst e
      rw [n2, d4]
      exact ⟨rfl, rfl, rfl, rfl⟩
    · have hi' : i < m.tg.length := by omega
      rw [g2 i hi', d2 i hi']
      exact h.rf i hi'
end Go.Proofs.YtioahgklplbinaaDoor

/- Machines in memory, behind a way more. -/
namespace Go.Proofs.YtioahgklplbinaaDoor
open Go.RowKit Go.Shelf Go.Maps SetM WrM NfaM
theorem map_set {f : Nat → Value} (n i : Nat) (v : Value) : ((List.range n).map f).set i v = (List.range n).map (fun j => if j = i then v else f j) := by
  refine List.ext_getElem (by simp) (fun j hj hj' => ?_)
  simp at hj'
  rw [List.getElem_set]
  simp only [List.getElem_map, List.getElem_range]
  by_cases e : i = j
  · subst e; simp
  · rw [if_neg e, if_neg (fun h => e h.symm)]
theorem getD_set {α : Type} (l : List (List α)) (i j : Nat) (x : List α) (hi : i < l.length) : (l.set i x).getD j [] = if j = i then x else l.getD j [] := by
  simp only [List.getD_eq_getElem?_getD, List.getElem?_set]
  by_cases e : i = j
  · subst e; simp [hi]
  · rw [if_neg e, if_neg (fun h => e h.symm)]
/-- The two rows that are touched, and what becomes of the family. -/
theorem MVx.touch {W W1 : World} {B : Nat → Prop} {R : Nat → Rw} {m : Mc} (h : MVx W B R m) {i q : Nat} (hq : q < 2) (hi : i < m.tg.length) {r : Rw} {g : Nat} (hg : W.grownBy W1 (R (3 + q + 2 * i)).v.ownBlock) (hr : r.ok W1) (hv : r.v.ownBlock = some g) (hat : (R (3 + q + 2 * i)).v.ownBlock = some g ∨ g = W.heap.size)
    {g1 len c1 : Nat} (h1 : (R q).v = .slice (some ⟨g1, 0, none⟩) len c1) (hn1 : (R q).n = len) :
    Fam (W1.setCell ⟨g1, i, none⟩ r.v) (3 + 2 * m.tg.length) (upd (upd R (3 + q + 2 * i) r) q { R q with xs := (R q).xs.set i r.v }) ∧
    (∀ k, Has (3 + 2 * m.tg.length) (upd (upd R (3 + q + 2 * i) r) q { R q with xs := (R q).xs.set i r.v }) k → Has (3 + 2 * m.tg.length) R k ∨ k = W.heap.size) ∧
    (∀ k, B k → (W1.setCell ⟨g1, i, none⟩ r.v).heap[k]? = W.heap[k]?) ∧ W.heap.size ≤ (W1.setCell ⟨g1, i, none⟩ r.v).heap.size ∧ (∀ k, k < W.heap.size → ¬ Has (3 + 2 * m.tg.length) R k → (W1.setCell ⟨g1, i, none⟩ r.v).heap[k]? = W.heap[k]?) := by
  have a1 := h.fam.grow (i := 3 + q + 2 * i) (by omega) hg hr hv hat
  have e1 : upd R (3 + q + 2 * i) r q = R q := upd_other R r (by omega)
  have a2 := a1.1.store (i := q) (by omega) (g := g1) (len := len) (cap := c1) (by rw [e1]; exact h1) (by rw [e1]; exact hn1) i r.v
  rw [e1] at a2
  have hown : ∀ k, (R (3 + q + 2 * i)).v.ownBlock = some k → Has (3 + 2 * m.tg.length) R k := fun k hk => ⟨_, by omega, hk⟩
  have hg1 : Has (3 + 2 * m.tg.length) R g1 := ⟨q, by omega, by rw [h1]; rfl⟩
  have hall : ∀ k, k < W.heap.size → ¬ Has (3 + 2 * m.tg.length) R k → (W1.setCell ⟨g1, i, none⟩ r.v).heap[k]? = W.heap[k]? := fun k hk hn => by
    rw [heap_setCell_other W1 ⟨g1, i, none⟩ k r.v (fun e => hn (e ▸ hg1))]
    exact hg.block k hk (fun e => hn (hown k e.symm))
  refine ⟨a2.1, fun k hk => a1.2 k (a2.2 k hk), fun k hk => hall k (h.bl k hk) (fun hh => h.nb k hh hk), ?_, hall⟩
  rw [World.size_setCell]
  exact hg.size
theorem MVx.free {W W1 : World} {B : Nat → Prop} {R : Nat → Rw} {m : Mc} (h : MVx W B R m) {i : Nat} {t : Int} (hi : i < m.tg.length) {r : Rw} {g : Nat} (hg : W.grownBy W1 (R (4 + 2 * i)).v.ownBlock) (hr : r.ok W1) (hv : r.v.ownBlock = some g) (hat : (R (4 + 2 * i)).v.ownBlock = some g ∨ g = W.heap.size)
    (he : r.e = 3 ∧ r.s = 1 ∧ r.n = (m.fr.getD i []).length + 1 ∧ r.xs = (m.fr.getD i [] ++ [t]).map (.int .i64)) {g1 c1 : Nat} (h1 : (R 1).v = .slice (some ⟨g1, 0, none⟩) m.tg.length c1) :
    MVx (W1.setCell ⟨g1, i, none⟩ r.v) B (upd (upd R (4 + 2 * i) r) 1 { R 1 with xs := (R 1).xs.set i r.v }) (frF m i t) ∧ (∀ k, Has (3 + 2 * m.tg.length) (upd (upd R (4 + 2 * i) r) 1 { R 1 with xs := (R 1).xs.set i r.v }) k → Has (3 + 2 * m.tg.length) R k ∨ k = W.heap.size) ∧ (∀ k, k < W.heap.size → ¬ Has (3 + 2 * m.tg.length) R k → (W1.setCell ⟨g1, i, none⟩ r.v).heap[k]? = W.heap[k]?) := by
  have ht := h.touch (q := 1) (by omega) hi (r := r) (g := g) hg hr hv hat h1 h.r1.2.2.1
  obtain ⟨f1, f2, f3, f4, f5⟩ := ht
  obtain ⟨R2, hR2⟩ : ∃ R2, R2 = upd (upd R (4 + 2 * i) r) 1 { R 1 with xs := (R 1).xs.set i r.v } := ⟨_, rfl⟩
  have f1' : Fam (W1.setCell ⟨g1, i, none⟩ r.v) (3 + 2 * m.tg.length) R2 := by rw [hR2]; exact f1
  have f2' : ∀ k, Has (3 + 2 * m.tg.length) R2 k → Has (3 + 2 * m.tg.length) R k ∨ k = W.heap.size := by rw [hR2]; exact f2
  rw [← hR2]
  have o : ∀ j, j ≠ 4 + 2 * i → j ≠ 1 → R2 j = R j := fun j h1 h2 => by rw [hR2, upd_other _ _ h2, upd_other _ _ h1]
  have n1 : R2 (4 + 2 * i) = r := by rw [hR2, upd_other _ _ (by omega), upd_same]
  have n2 : R2 1 = { R 1 with xs := (R 1).xs.set i r.v } := by rw [hR2, upd_same]
  have hl : (frF m i t).tg = m.tg := rfl
  refine ⟨⟨h.l1, by simp [frF, h.l2], f1', fun k hk hB => ?_, fun k hk => Nat.lt_of_lt_of_le (h.bl k hk) f4, ?_, ?_, ?_, fun j hj => ?_, fun j hj => ?_⟩, f2', f5⟩
  · rcases f2' k hk with hk | hk
    · exact h.nb k hk hB
    · have := h.bl k hB; omega
  · rw [o 0 (by omega) (by omega)]
    refine ⟨h.r0.1, h.r0.2.1, h.r0.2.2.1, ?_⟩
    rw [h.r0.2.2.2]
    exact List.map_congr_left (fun j _ => by rw [o _ (by omega) (by omega)])
  · rw [n2]
    refine ⟨h.r1.1, h.r1.2.1, h.r1.2.2.1, ?_⟩
    show (R 1).xs.set i r.v = _
    rw [h.r1.2.2.2, map_set]
    refine List.map_congr_left (fun j _ => ?_)
    by_cases e : j = i
    · subst e; rw [if_pos rfl, n1]
    · rw [if_neg e, o _ (by omega) (by omega)]
  · rw [o 2 (by omega) (by omega)]
    exact h.r2
  · rw [o _ (by omega) (by omega)]
    have := h.re j hj
    exact ⟨this.1, this.2.1, this.2.2.1, this.2.2.2.kept f4 f3⟩
  · have hd : (frF m i t).fr.getD j [] = if j = i then m.fr.getD i [] ++ [t] else m.fr.getD j [] := getD_set _ _ _ _ (by rw [h.l2]; exact hi)
    by_cases e : j = i
    · subst e
      rw [n1, hd, if_pos rfl]
      exact ⟨he.1, he.2.1, by rw [he.2.2.1]; simp, he.2.2.2⟩
    · rw [o _ (by omega) (by omega), hd, if_neg e]
      exact h.rf j hj
theorem MVx.edge {W W1 : World} {B : Nat → Prop} {R : Nat → Rw} {m : Mc} (h : MVx W B R m) {i : Nat} {t : Int} {sl : List Sp} (hi : i < m.tg.length) {r : Rw} {g : Nat} (hg : W.grownBy W1 (R (3 + 2 * i)).v.ownBlock) (hr : r.ok W1) (hv : r.v.ownBlock = some g) (hat : (R (3 + 2 * i)).v.ownBlock = some g ∨ g = W.heap.size)
    {a b : Value} (he : r.e = 47 ∧ r.s = 2 ∧ r.n = (m.ed.getD i []).length + 1 ∧ r.xs = (R (3 + 2 * i)).xs ++ [a, b]) (hE : EdC W B [a, b] [(t, sl)]) {g1 c1 : Nat} (h1 : (R 0).v = .slice (some ⟨g1, 0, none⟩) m.tg.length c1) :
    MVx (W1.setCell ⟨g1, i, none⟩ r.v) B (upd (upd R (3 + 2 * i) r) 0 { R 0 with xs := (R 0).xs.set i r.v }) (edF m i t sl) ∧ (∀ k, Has (3 + 2 * m.tg.length) (upd (upd R (3 + 2 * i) r) 0 { R 0 with xs := (R 0).xs.set i r.v }) k → Has (3 + 2 * m.tg.length) R k ∨ k = W.heap.size) ∧ (∀ k, k < W.heap.size → ¬ Has (3 + 2 * m.tg.length) R k → (W1.setCell ⟨g1, i, none⟩ r.v).heap[k]? = W.heap[k]?) := by
  have ht := h.touch (q := 0) (by omega) hi (r := r) (g := g) hg hr hv hat h1 h.r0.2.2.1
  obtain ⟨f1, f2, f3, f4, f5⟩ := ht
  obtain ⟨R2, hR2⟩ : ∃ R2, R2 = upd (upd R (3 + 2 * i) r) 0 { R 0 with xs := (R 0).xs.set i r.v } := ⟨_, rfl⟩
  have f1' : Fam (W1.setCell ⟨g1, i, none⟩ r.v) (3 + 2 * m.tg.length) R2 := by rw [hR2]; exact f1
  have f2' : ∀ k, Has (3 + 2 * m.tg.length) R2 k → Has (3 + 2 * m.tg.length) R k ∨ k = W.heap.size := by rw [hR2]; exact f2
  rw [← hR2]
  have o : ∀ j, j ≠ 3 + 2 * i → j ≠ 0 → R2 j = R j := fun j h1 h2 => by rw [hR2, upd_other _ _ h2, upd_other _ _ h1]
  have n1 : R2 (3 + 2 * i) = r := by rw [hR2, upd_other _ _ (by omega), upd_same]
  have n2 : R2 0 = { R 0 with xs := (R 0).xs.set i r.v } := by rw [hR2, upd_same]
  refine ⟨⟨by simp [edF, h.l1], h.l2, f1', fun k hk hB => ?_, fun k hk => Nat.lt_of_lt_of_le (h.bl k hk) f4, ?_, ?_, ?_, fun j hj => ?_, fun j hj => ?_⟩, f2', f5⟩
  · rcases f2' k hk with hk | hk
    · exact h.nb k hk hB
    · have := h.bl k hB; omega
  · rw [n2]
    refine ⟨h.r0.1, h.r0.2.1, h.r0.2.2.1, ?_⟩
    show (R 0).xs.set i r.v = _
    rw [h.r0.2.2.2, map_set]
    refine List.map_congr_left (fun j _ => ?_)
    by_cases e : j = i
    · subst e; rw [if_pos rfl, n1]
    · rw [if_neg e, o _ (by omega) (by omega)]
  · rw [o 1 (by omega) (by omega)]
    refine ⟨h.r1.1, h.r1.2.1, h.r1.2.2.1, ?_⟩
    rw [h.r1.2.2.2]
    exact List.map_congr_left (fun j _ => by rw [o _ (by omega) (by omega)])
  · rw [o 2 (by omega) (by omega)]
    exact h.r2
  · have hd : (edF m i t sl).ed.getD j [] = if j = i then m.ed.getD i [] ++ [(t, sl)] else m.ed.getD j [] := getD_set _ _ _ _ (by rw [h.l1]; exact hi)
    by_cases e : j = i
    · subst e
      rw [n1, hd, if_pos rfl]
      refine ⟨he.1, he.2.1, by rw [he.2.2.1]; simp, ?_⟩
      rw [he.2.2.2]
      exact EdC.push (hE.kept f4 f3) ((h.re j hj).2.2.2.kept f4 f3)
    · rw [o _ (by omega) (by omega), hd, if_neg e]
      have := h.re j hj
      exact ⟨this.1, this.2.1, this.2.2.1, this.2.2.2.kept f4 f3⟩
  · rw [o _ (by omega) (by omega)]
    exact h.rf j hj
end Go.Proofs.YtioahgklplbinaaDoor

/- One element appended to a row of a family. -/
namespace Go.Proofs.YtioahgklplbinaaDoor
open Go.RowKit Go.Shelf Go.Maps SetM WrM NfaM
/-- The row with an element more. -/
def Rw.more (r : Rw) (g cap : Nat) (cs : List Value) : Rw := ⟨r.e, r.s, .slice (some ⟨g, 0, none⟩) (r.n + 1) cap, r.n + 1, r.xs ++ cs⟩
theorem wpList_fam {w : World} {ops : Array Oper} {rest : List Oper} {o : Oper} {a : Act} {Q : Exit → Act → World → Prop} (hgd : o.guard = none) (s x : Operand) (t : TypeId)
    (ho : o.op = .call { callee := .builtin .append, args := #[s, x], argTypes := #[t, t] }) {z : Value} {bytes : Nat} (r : Rw) (ht : Tryd.prog.underlying t = some (.slice r.e)) (hinfo : (Tryd.prog.info? r.e).map (fun i => (i.zero, i.size, i.bytes)) = some (some z, r.s, bytes)) (hzs : z.cells.size = r.s) (hsz : 0 < r.s) (hby : bytes ≤ 64)
    (hr : r.ok w) (hs : a.eval s = r.v) (g0 : Nat) (hx : a.eval x = .slice (some ⟨g0, 0, none⟩) 1 1) (cs : List Value) (hb : w.heap[g0]? = some (.cells cs.toArray r.e (0, 0))) (hcl : cs.length = r.s) (h1 : ∀ u ∈ cs, u.oneCell' = true) (h63 : r.n ≤ 1000000)
    (h : ∀ g cap w', (r.more g cap cs).ok w' → w.grownBy w' r.v.ownBlock → (r.v.ownBlock = some g ∨ g = w.heap.size) → wpList Tryd.prog ops Q rest (a.put o.dst (.slice (some ⟨g, 0, none⟩) (r.n + 1) cap)) w') : wpList Tryd.prog ops Q (o :: rest) a w := by
  obtain ⟨i0, hi, hz0, hz1, hz2⟩ := info_parts hinfo
  refine wpList_append_lies _ hgd s x t ho 0 r.e i0 z r.s bytes ht hi hz0 hz1 hz2 hzs hsz r.v r.n r.xs hs hr ⟨g0, 0, none⟩ 1 1 cs hx (by omega) (fun j y hy => World.news_of_block hb j y (by simpa using hy)) h1 (by omega) (by unfold maxLen; omega) ?_ (Nat.zero_le _) _ rfl ?_
  · exact Nat.le_trans (Nat.mul_le_mul (show r.n + 1 ≤ 1000001 by omega) hby) (by decide)
  · intro g cap w' k1 k2 k3 _
    exact h g cap w' k1 k2 k3
theorem step_fam {w : World} {ops : Array Oper} {o : Oper} {a : Act} {K : Act → World → Prop} {Q : Exit → Act → World → Prop} {E : Prop} (hgd : o.guard = none) (s x : Operand) (t : TypeId)
    (ho : o.op = .call { callee := .builtin .append, args := #[s, x], argTypes := #[t, t] }) {z : Value} {bytes : Nat} (r : Rw) (ht : Tryd.prog.underlying t = some (.slice r.e)) (hinfo : (Tryd.prog.info? r.e).map (fun i => (i.zero, i.size, i.bytes)) = some (some z, r.s, bytes)) (hzs : z.cells.size = r.s) (hsz : 0 < r.s) (hby : bytes ≤ 64)
    (hr : r.ok w) (hs : a.eval s = r.v) (g0 : Nat) (hx : a.eval x = .slice (some ⟨g0, 0, none⟩) 1 1) (cs : List Value) (hb : w.heap[g0]? = some (.cells cs.toArray r.e (0, 0))) (hcl : cs.length = r.s) (h1 : ∀ u ∈ cs, u.oneCell' = true) (h63 : r.n ≤ 1000000)
    (h : ∀ g cap w', (r.more g cap cs).ok w' → w.grownBy w' r.v.ownBlock → (r.v.ownBlock = some g ∨ g = w.heap.size) → K (a.put o.dst (.slice (some ⟨g, 0, none⟩) (r.n + 1) cap)) w') :
    if Region.wanted o (yielded ops a.tmps) = true then Oper.wp Tryd.prog o a w K Q else E := by
  obtain ⟨i0, hi, hz0, hz1, hz2⟩ := info_parts hinfo
  refine step_append_lies _ hgd s x t ho 0 r.e i0 z r.s bytes ht hi hz0 hz1 hz2 hzs hsz r.v r.n r.xs hs hr ⟨g0, 0, none⟩ 1 1 cs hx (by omega) (fun j y hy => World.news_of_block hb j y (by simpa using hy)) h1 (by omega) (by unfold maxLen; omega) ?_ (Nat.zero_le _) _ rfl ?_
  · exact Nat.le_trans (Nat.mul_le_mul (show r.n + 1 ≤ 1000001 by omega) hby) (by decide)
  · intro g cap w' k1 k2 k3 _
    exact h g cap w' k1 k2 k3
end Go.Proofs.YtioahgklplbinaaDoor

/- The document's builder of machines: a new state; a way by nothing. -/
namespace Go.Proofs.YtioahgklplbinaaDoor
open Go.RowKit Go.Shelf Go.Maps SetM WrM NfaM
/-- A walk that appends to rows of a machine that lies in a box b, its result's variable behind it. -/
structure StS (W : World) (n : Nat) (R : Nat → Rw) (V : World) (Rk : Nat → Rw) (cs : Array Value) : Prop where
  fam : Fam V n Rk
  box : V.heap[W.heap.size]? = some (.cells cs 30 (0, 0))
  res : V.heap[W.heap.size + 1]? = some (.cells #[.slice none 0 0, .slice none 0 0, .slice none 0 0] 30 (0, 0))
  os : V.os = W.os
  tape : V.tape = W.tape
  output : V.output = W.output
  size : W.heap.size + 2 ≤ V.heap.size
  old : ∀ x, x < W.heap.size → ¬ Has n R x → V.heap[x]? = W.heap[x]?
  has : ∀ x, Has n Rk x → Has n R x ∨ W.heap.size + 2 ≤ x
theorem StS.start {W : World} {n : Nat} {R : Nat → Rw} (h : Fam W n R) (cs : Array Value) : StS W n R ((W.alloc (.cells cs 30)).alloc (.cells #[.slice none 0 0, .slice none 0 0, .slice none 0 0] 30)) R cs := by
  have z1 := World.size_alloc W (.cells cs 30)
  have b1 : Below W.heap.size W (W.alloc (.cells cs 30)) := (Below.refl _ _).alloc (Nat.le_refl _) _
  have b2 := b1.alloc (by rw [z1]; omega) (.cells #[.slice none 0 0, .slice none 0 0, .slice none 0 0] 30)
  refine ⟨h.kept (fun k hk => b2.block k (h.lt hk)), ?_, ?_, b2.os, b2.tape, b2.output, by rw [World.size_alloc, z1]; exact Nat.le_refl _, fun x hx _ => b2.block x hx, fun x hx => .inl hx⟩
  · rw [Lib.alloc_old _ _ _ (by rw [z1]; omega)]
    exact heap_alloc_new W _
  · rw [← z1]
    exact heap_alloc_new _ _
theorem StS.far {W V : World} {n : Nat} {R Rk : Nat → Rw} {cs : Array Value} (h : StS W n R V Rk cs) (h0 : Fam W n R) {k : Nat} (hk : k = W.heap.size ∨ k = W.heap.size + 1) : ¬ Has n Rk k := fun hh => by
  rcases h.has k hh with hh | hh
  · have := h0.lt hh; omega
  · omega
/-- Three cells stored. -/
def put3 (W : World) (B : Nat) (a b c : Value) : World := ((W.setCell ⟨B, 0, none⟩ a).setCell ⟨B, 1, none⟩ b).setCell ⟨B, 2, none⟩ c
theorem put3_heap {W : World} {B : Nat} {x y z : Value} {t : TypeId} (a b c : Value) (h : W.heap[B]? = some (.cells #[x, y, z] t (0, 0))) : (put3 W B a b c).heap[B]? = some (.cells #[a, b, c] t (0, 0)) :=
  heap_setC _ B _ _ (heap_setC _ B _ _ (heap_setC W B _ _ h 0 a) 1 b) 2 c
theorem put3_other (W : World) (B : Nat) (a b c : Value) (k : Nat) (hk : k ≠ B) : (put3 W B a b c).heap[k]? = W.heap[k]? := by
  unfold put3
  rw [heap_setCell_other _ ⟨B, 2, none⟩ k c hk, heap_setCell_other _ ⟨B, 1, none⟩ k b hk, heap_setCell_other _ ⟨B, 0, none⟩ k a hk]
theorem put3_size (W : World) (B : Nat) (a b c : Value) : (put3 W B a b c).heap.size = W.heap.size := by
  unfold put3
  simp only [World.size_setCell]
theorem sizeM : (Tryd.prog.info? 30).map (·.size) = some 3 := by kernel_rfl
theorem ret_nfa {fn : Func} {p : Tmp} {Q : Ending → World → Prop} {tmps : Array Value} {w1 : World} {B : Nat} {x y z a b c : Value} (hf : fn.results = #[.cell p 30]) (hp : tmps.getD p undef = .pointer (some ⟨B, 0, none⟩))
    (h3 : w1.heap[B]? = some (.cells #[x, y, z] 30 (0, 0))) (hQ : Q (.returned (.agg #[a, b, c])) (put3 w1 B a b c)) :
    bodyPost Tryd.prog fn Q .ret { tmps := tmps, defers := [] } (((w1.setCell ⟨B, 0, none⟩ a).setCell ⟨B, 1, none⟩ b).setCell ⟨B, 2, none⟩ c) :=
  bodyPost_ret (results_cell_row hf tmps _ B _ #[a, b, c] (0, 0) _ hp (put3_heap a b c h3) Tryd.underlying30 rfl sizeM) rfl hQ
/-- What comes out: the machine, and what stays. -/
theorem StS.done {W V : World} {R Rk : Nat → Rw} {cs : Array Value} {O : Nat → Prop} {n : Nat} (h : StS W n R V Rk cs) (a b c : Value) (hO : ∀ k, Has n R k → O k) : Frm O W (put3 V (W.heap.size + 1) a b c) := by
  have hs := h.size
  exact ⟨h.os, h.tape, h.output, by rw [put3_size]; omega, fun k hk hn => by rw [put3_other _ _ _ _ _ _ (by omega)]; exact h.old k hk (fun hh => hn (hO k hh))⟩
end Go.Proofs.YtioahgklplbinaaDoor

/- The document's builder of machines: a way by nothing. -/
namespace Go.Proofs.YtioahgklplbinaaDoor
open Go.RowKit Go.Shelf Go.Maps SetM WrM NfaM
/-- A row that is not empty: its block, its cells. -/
theorem Rw.ok.form {W : World} {e : TypeId} {s n : Nat} {v : Value} {xs : List Value} (h : (⟨e, s, v, n, xs⟩ : Rw).ok W) (hn : 0 < n) : ∃ g cap, v = .slice (some ⟨g, 0, none⟩) n cap ∧ g < W.heap.size :=
  let ⟨g, cap, h1, _, h2⟩ := World.ownsRow.form h hn
  ⟨g, cap, h1, h2⟩
theorem Rw.ok.at {W : World} {e : TypeId} {n g cap : Nat} {xs : List Value} (h : (⟨e, 1, .slice (some ⟨g, 0, none⟩) n cap, n, xs⟩ : Rw).ok W) {i : Nat} (hi : i < n) : W.cell? ⟨g, i, none⟩ = xs[i]? ∧ W.frozen? ⟨g, i, none⟩ = false :=
  ⟨World.ownsRow.cellAt h i (by show i < n * 1; omega), World.ownsRow.frozenAt h i⟩
/-- What is left to know behind the store: the machine, read from its result's variable; what stays. -/
theorem end_mv {W X V2 : World} {B O : Nat → Prop} {R R2 : Nat → Rw} {m m2 : Mc} {a b c : Value} (h : MVx V2 B R2 m2) (hl : m2.tg.length = m.tg.length) (hR : MVx W B R m) (hO : ∀ k, Has (3 + 2 * m.tg.length) R k → O k)
    (hh : ∀ k, Has (3 + 2 * m.tg.length) R2 k → Has (3 + 2 * m.tg.length) R k ∨ k = X.heap.size) (ho : ∀ k, k < X.heap.size → ¬ Has (3 + 2 * m.tg.length) R k → V2.heap[k]? = X.heap[k]?) (hS : StS W (3 + 2 * m.tg.length) R X R #[a, b, c]) (hw : X.heap.size ≤ V2.heap.size ∧ V2.os = X.os ∧ V2.tape = X.tape ∧ V2.output = X.output)
    (e0 : a = (R2 0).v) (e1 : b = (R2 1).v) (e2 : c = (R2 2).v) :
    StS W (3 + 2 * m.tg.length) R V2 R2 #[a, b, c] ∧ MV (put3 V2 (W.heap.size + 1) a b c) (Onew O W) B (.agg #[a, b, c]) m2 ∧ Frm O W (put3 V2 (W.heap.size + 1) a b c) := by
  have hs := hS.size
  have S2 : StS W (3 + 2 * m.tg.length) R V2 R2 #[a, b, c] := ⟨by rw [← hl]; exact h.fam, (ho _ (by omega) (hS.far hR.fam (.inl rfl))).trans hS.box, (ho _ (by omega) (hS.far hR.fam (.inr rfl))).trans hS.res, hw.2.1.trans hS.os, hw.2.2.1.trans hS.tape, hw.2.2.2.trans hS.output, by omega,
    fun x hx hn => (ho x (by omega) hn).trans (hS.old x hx hn), fun x hx => by
      rcases hh x hx with hx | hx
      · exact .inl hx
      · right; omega⟩
  refine ⟨S2, ⟨R2, h.kept (by rw [put3_size]; exact Nat.le_refl _) (fun k hk => put3_other _ _ _ _ _ _ (fun e => ?_)), by rw [e0, e1, e2], fun k hk => ?_⟩, S2.done a b c hO⟩
  · subst e
    rcases hk with hk | hk
    · rw [hl] at hk
      exact S2.far hR.fam (.inr rfl) hk
    · have := hR.bl _ hk; omega
  · rw [hl] at hk
    rcases hh k hk with hk | hk
    · exact .inl (hO k hk)
    · right; omega
end Go.Proofs.YtioahgklplbinaaDoor
