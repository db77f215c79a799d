/- Rows that a call made itself, a family of them, no two in one block; machines of such rows. -/
import Derived.Deep.AppendLies
import Derived.Laws.OwnMore
namespace Go.Proofs.YtkphbjppmiefkaaDoor
open Go

/-- A row that is owned: its elements' type, the cells of one, the slice, its length, its cells. -/
structure Rw where
  e : TypeId
  s : Nat
  v : Value
  n : Nat
  xs : List Value
def Rw.ok (W : World) (r : Rw) : Prop := W.ownsRow 0 r.e r.s r.v r.n r.xs
theorem Rw.ok.lt {W : World} {r : Rw} (h : r.ok W) {k : Nat} (hk : r.v.ownBlock = some k) : k < W.heap.size := (World.ownsRow.lt h k hk).2
/-- What is owned lies in its block alone. -/
theorem Rw.ok.of_block {W W' : World} {r : Rw} (h : r.ok W) (hb : ∀ k, r.v.ownBlock = some k → W'.heap[k]? = W.heap[k]?) : r.ok W' := by
  obtain ⟨h1, h2⟩ := h
  refine ⟨h1, ?_⟩
  rcases h2 with h2 | ⟨g, cap, cur, e1, e2, e3, e4⟩
  · exact .inl h2
  · exact .inr ⟨g, cap, cur, e1, e2, (hb g (by rw [e1]; rfl)).trans e3, e4⟩
/-- One row of a family is another one now. -/
def upd (R : Nat → Rw) (i : Nat) (r : Rw) : Nat → Rw := fun j => if j = i then r else R j
theorem upd_same (R : Nat → Rw) (i : Nat) (r : Rw) : upd R i r i = r := if_pos rfl
theorem upd_other (R : Nat → Rw) {i j : Nat} (r : Rw) (h : j ≠ i) : upd R i r j = R j := if_neg h
/-- A family of rows, the first n of R; no two in one block. -/
structure Fam (W : World) (n : Nat) (R : Nat → Rw) : Prop where
  own : ∀ i, i < n → (R i).ok W
  apart : ∀ i j, i < n → j < n → i ≠ j → ∀ k, (R i).v.ownBlock = some k → (R j).v.ownBlock ≠ some k
/-- A block is one of the family's. -/
def Has (n : Nat) (R : Nat → Rw) (k : Nat) : Prop := ∃ i, i < n ∧ (R i).v.ownBlock = some k
theorem Fam.lt {W : World} {n : Nat} {R : Nat → Rw} (h : Fam W n R) {k : Nat} (hk : Has n R k) : k < W.heap.size := by
  obtain ⟨i, hi, hk⟩ := hk
  exact (h.own i hi).lt hk
theorem Fam.kept {W W' : World} {n : Nat} {R : Nat → Rw} (h : Fam W n R) (hb : ∀ k, Has n R k → W'.heap[k]? = W.heap[k]?) : Fam W' n R :=
  ⟨fun i hi => (h.own i hi).of_block (fun k hk => hb k ⟨i, hi, hk⟩), h.apart⟩
theorem Fam.congr {W : World} {n : Nat} {R R' : Nat → Rw} (h : Fam W n R) (he : ∀ i, i < n → R' i = R i) : Fam W n R' :=
  ⟨fun i hi => by rw [he i hi]; exact h.own i hi, fun i j hi hj => by rw [he i hi, he j hj]; exact h.apart i j hi hj⟩
/-- Behind an append to one of the rows. -/
theorem Fam.grow {W W' : World} {n : Nat} {R : Nat → Rw} (h : Fam W n R) {i : Nat} (hi : i < n) {r : Rw} {g : Nat} (hg : W.grownBy W' (R i).v.ownBlock) (hr : r.ok W') (hv : r.v.ownBlock = some g) (hat : (R i).v.ownBlock = some g ∨ g = W.heap.size) :
    Fam W' n (upd R i r) ∧ (∀ k, Has n (upd R i r) k → Has n R k ∨ k = W.heap.size) := by
  have hne : ∀ j, j < n → j ≠ i → ∀ k, (R j).v.ownBlock = some k → some k ≠ (R i).v.ownBlock := fun j hj hji k hk e => h.apart j i hj hi hji k hk e.symm
  have hng : ∀ j, j < n → j ≠ i → ∀ k, (R j).v.ownBlock = some k → k ≠ g := fun j hj hji k hk e => by
    rcases hat with ha | ha
    · exact hne j hj hji k hk (by rw [ha, e])
    · have := (h.own j hj).lt hk; omega
  refine ⟨⟨fun j hj => ?_, fun a b ha hb hab k hk => ?_⟩, ?_⟩
  · by_cases e : j = i
    · subst e; rw [upd_same]; exact hr
    · rw [upd_other R r e]
      exact (h.own j hj).of_block (fun k hk => hg.block k ((h.own j hj).lt hk) (hne j hj e k hk))
  · by_cases ea : a = i
    · subst ea
      rw [upd_same] at hk
      rw [upd_other R r (Ne.symm hab)]
      rw [hv] at hk
      cases hk
      exact fun hk' => hng b hb (Ne.symm hab) _ hk' rfl
    · rw [upd_other R r ea] at hk
      by_cases eb : b = i
      · subst eb
        rw [upd_same, hv]
        exact fun e => hng a ha ea k hk (by cases e; rfl)
      · rw [upd_other R r eb]
        exact h.apart a b ha hb hab k hk
  · rintro k ⟨j, hj, hk⟩
    by_cases e : j = i
    · subst e
      rw [upd_same, hv] at hk
      cases hk
      rcases hat with ha | ha
      · exact .inl ⟨j, hj, ha⟩
      · exact .inr ha
    · rw [upd_other R r e] at hk
      exact .inl ⟨j, hj, hk⟩
/-- Behind a store into one of the rows. -/
theorem Fam.store {W : World} {n : Nat} {R : Nat → Rw} (h : Fam W n R) {i : Nat} (hi : i < n) {g len cap : Nat} (hv : (R i).v = .slice (some ⟨g, 0, none⟩) len cap) (hn : (R i).n = len) (j : Nat) (u : Value) :
    Fam (W.setCell ⟨g, j, none⟩ u) n (upd R i { R i with xs := (R i).xs.set j u }) ∧ (∀ k, Has n (upd R i { R i with xs := (R i).xs.set j u }) k → Has n R k) := by
  have ho : W.ownsRow 0 (R i).e (R i).s (.slice (some ⟨g, 0, none⟩) (R i).n cap) (R i).n (R i).xs := by
    have := h.own i hi
    unfold Rw.ok at this
    rw [hv, ← hn] at this
    exact this
  have hs := ho.stored j u
  have hvi : (R i).v.ownBlock = some g := by rw [hv]; rfl
  refine ⟨⟨fun a ha => ?_, fun a b ha hb hab k => ?_⟩, ?_⟩
  · by_cases e : a = i
    · subst e
      rw [upd_same]
      show World.ownsRow _ 0 (R a).e (R a).s (R a).v (R a).n _
      rw [hv, ← hn]
      exact hs.1
    · rw [upd_other R _ e]
      exact (h.own a ha).of_block (fun k hk => hs.2.block k ((h.own a ha).lt hk) (fun ek => h.apart a i ha hi e k hk (by rw [hvi, ek])))
  · have hsame : ∀ c, (upd R i { R i with xs := (R i).xs.set j u } c).v = (R c).v := fun c => by
      by_cases e : c = i
      · subst e; rw [upd_same]
      · rw [upd_other R _ e]
    rw [hsame, hsame]
    exact h.apart a b ha hb hab k
  · rintro k ⟨c, hc, hk⟩
    by_cases e : c = i
    · subst e; rw [upd_same] at hk; exact ⟨c, hc, hk⟩
    · rw [upd_other R _ e] at hk; exact ⟨c, hc, hk⟩
/-- A row of nothing more. -/
theorem Fam.more {W : World} {n : Nat} {R : Nat → Rw} (h : Fam W n R) {r : Rw} (hr : r.ok W) (hv : r.v.ownBlock = none) : Fam W (n + 1) (upd R n r) ∧ (∀ k, Has (n + 1) (upd R n r) k → Has n R k) := by
  refine ⟨⟨fun i hi => ?_, fun a b ha hb hab k hk => ?_⟩, ?_⟩
  · by_cases e : i = n
    · subst e; rw [upd_same]; exact hr
    · rw [upd_other R r e]; exact h.own i (by omega)
  · by_cases ea : a = n
    · subst ea; rw [upd_same, hv] at hk; cases hk
    · rw [upd_other R r ea] at hk
      by_cases eb : b = n
      · subst eb; rw [upd_same, hv]; exact fun e => by cases e
      · rw [upd_other R r eb]; exact h.apart a b (by omega) (by omega) hab k hk
  · rintro k ⟨j, hj, hk⟩
    by_cases e : j = n
    · subst e; rw [upd_same, hv] at hk; cases hk
    · rw [upd_other R r e] at hk; exact ⟨j, by omega, hk⟩
theorem Fam.none (W : World) (R : Nat → Rw) : Fam W 0 R := ⟨fun _ h => by omega, fun _ _ h => by omega⟩
theorem Rw.nil_ok (W : World) (e : TypeId) (s : Nat) : (⟨e, s, .slice Option.none 0 0, 0, []⟩ : Rw).ok W := World.ownsRow_nil W 0 e s
end Go.Proofs.YtkphbjppmiefkaaDoor
