/- Plain mathematics of layer 3: the pieces of a set, each of which is one row; what they have in all. -/
import Derived.Test.YtgaalkcociifmaaDoorSMath
namespace Go.Proofs.YtgaalkcociifmaaDoor.SeqM
open U.UtfM (enc enc1 enc2 enc3 enc4)

/-- A part cut into pieces, each of one row. -/
def leaves (n : Nat) (a b : Int) : List Sp :=
  match cutAt n a b with
  | none => [(a, b)]
  | some x => if _h : a < x ∧ x ≤ b then leaves n a (x - 1) ++ leaves n x b else []
termination_by (b - a).toNat
decreasing_by all_goals omega
theorem leaves_none {n : Nat} {a b : Int} (h : cutAt n a b = none) : leaves n a b = [(a, b)] := by rw [leaves, h]
theorem leaves_some {n : Nat} {a b x : Int} (hab : a ≤ b) (h : cutAt n a b = some x) : leaves n a b = leaves n a (x - 1) ++ leaves n x b := by
  rw [leaves, h]; simp only []; rw [dif_pos (cutAt_in hab h)]
/-- Induction over how a part is cut. -/
theorem cut_ind {n : Nat} {P : Int → Int → Prop} (h0 : ∀ a b, a ≤ b → cutAt n a b = none → P a b) (h1 : ∀ a b x, a < x → x ≤ b → cutAt n a b = some x → P a (x - 1) → P x b → P a b) : ∀ (k : Nat) (a b : Int), (b - a).toNat ≤ k → a ≤ b → P a b
  | 0, a, b, hk, hab => by
    cases hc : cutAt n a b with
    | none => exact h0 a b hab hc
    | some x => have := cutAt_in hab hc; omega
  | k + 1, a, b, hk, hab => by
    cases hc : cutAt n a b with
    | none => exact h0 a b hab hc
    | some x =>
      obtain ⟨h2, h3⟩ := cutAt_in hab hc
      exact h1 a b x h2 h3 hc (cut_ind h0 h1 k a (x - 1) (by omega) (by omega)) (cut_ind h0 h1 k x b (by omega) h3)
theorem cut_ind' {n : Nat} {P : Int → Int → Prop} {a b : Int} (hab : a ≤ b) (h0 : ∀ a b, a ≤ b → cutAt n a b = none → P a b) (h1 : ∀ a b x, a < x → x ≤ b → cutAt n a b = some x → P a (x - 1) → P x b → P a b) : P a b :=
  cut_ind h0 h1 _ a b (Nat.le_refl _) hab

/-- The row of a piece. -/
def rowOf (s : Sp) : List Rg := (enc s.1).zip (enc s.2)
theorem rows_leaves {n : Nat} {a b : Int} (hab : a ≤ b) : rows n a b = (leaves n a b).map rowOf := by
  refine cut_ind' (n := n) (P := fun a b => rows n a b = (leaves n a b).map rowOf) hab (fun a b _ hc => ?_) (fun a b x h1 h2 hc ih1 ih2 => ?_)
  · rw [rows_none hc, leaves_none hc]; rfl
  · rw [rows_some (by omega) hc, leaves_some (by omega) hc, ih1, ih2, List.map_append]
/-- A piece: a part that is not cut. -/
def Leaf (n : Nat) (s : Sp) : Prop := Good (n, s) ∧ cutAt n s.1 s.2 = none
theorem leaves_leaf {n : Nat} {a b : Int} (hg : Good (n, a, b)) : ∀ s ∈ leaves n a b, Leaf n s ∧ a ≤ s.1 ∧ s.2 ≤ b := by
  have hab := hg.in.2.1
  refine cut_ind' (n := n) (P := fun a b => Good (n, a, b) → ∀ s ∈ leaves n a b, Leaf n s ∧ a ≤ s.1 ∧ s.2 ≤ b) hab (fun a b _ hc hg s hs => ?_) (fun a b x h1 h2 hc ih1 ih2 hg s hs => ?_) hg
  · rw [leaves_none hc] at hs
    obtain rfl := List.mem_singleton.1 hs
    exact ⟨⟨hg, hc⟩, Int.le_refl _, Int.le_refl _⟩
  · rw [leaves_some (by omega) hc, List.mem_append] at hs
    rcases hs with hs | hs
    · obtain ⟨g1, g2, g3⟩ := ih1 (hg.cut (Int.le_refl _) (by omega) (by omega)) s hs; exact ⟨g1, g2, by omega⟩
    · obtain ⟨g1, g2, g3⟩ := ih2 (hg.cut (by omega) h2 (Int.le_refl _)) s hs; exact ⟨g1, by omega, g3⟩
theorem leaves_mem {n : Nat} {a b : Int} (hab : a ≤ b) (r : Int) : (∃ s ∈ leaves n a b, s.1 ≤ r ∧ r ≤ s.2) ↔ a ≤ r ∧ r ≤ b := by
  refine cut_ind' (n := n) (P := fun a b => (∃ s ∈ leaves n a b, s.1 ≤ r ∧ r ≤ s.2) ↔ a ≤ r ∧ r ≤ b) hab (fun a b _ hc => ?_) (fun a b x h1 h2 hc ih1 ih2 => ?_)
  · rw [leaves_none hc]; simp
  · rw [leaves_some (by omega) hc]
    constructor
    · rintro ⟨s, hs, h⟩
      rcases List.mem_append.1 hs with hs | hs
      · have := ih1.1 ⟨s, hs, h⟩; omega
      · have := ih2.1 ⟨s, hs, h⟩; omega
    · intro h
      by_cases hx : r < x
      · obtain ⟨s, hs, h'⟩ := ih1.2 ⟨h.1, by omega⟩; exact ⟨s, List.mem_append.2 (.inl hs), h'⟩
      · obtain ⟨s, hs, h'⟩ := ih2.2 ⟨by omega, h.2⟩; exact ⟨s, List.mem_append.2 (.inr hs), h'⟩
/-- How many numbers pieces have. -/
def many (l : List Sp) : Int := (l.map fun s => s.2 - s.1 + 1).sum
theorem many_append (a b : List Sp) : many (a ++ b) = many a + many b := by simp [many]
theorem many_nil : many [] = 0 := rfl
theorem many_cons (s : Sp) (t : List Sp) : many (s :: t) = (s.2 - s.1 + 1) + many t := by simp [many]
theorem leaves_many {n : Nat} {a b : Int} (hab : a ≤ b) : many (leaves n a b) = b - a + 1 := by
  refine cut_ind' (n := n) (P := fun a b => many (leaves n a b) = b - a + 1) hab (fun a b _ hc => ?_) (fun a b x h1 h2 hc ih1 ih2 => ?_)
  · rw [leaves_none hc]; simp [many]
  · rw [leaves_some (by omega) hc, many_append, ih1, ih2]; omega
/-- Pieces rise. -/
def Ups (l : List Sp) : Prop := l.Pairwise fun s t => s.2 < t.1
theorem leaves_ups {n : Nat} {a b : Int} (hg : Good (n, a, b)) : Ups (leaves n a b) := by
  refine cut_ind' (n := n) (P := fun a b => Good (n, a, b) → Ups (leaves n a b)) hg.in.2.1 (fun a b _ hc _ => ?_) (fun a b x h1 h2 hc ih1 ih2 hg => ?_) hg
  · rw [leaves_none hc]; exact List.pairwise_singleton _ _
  · have g1 := hg.cut (Int.le_refl a) (show a ≤ x - 1 by omega) (by omega)
    have g2 := hg.cut (show a ≤ x by omega) h2 (Int.le_refl b)
    rw [leaves_some (by omega) hc]
    refine List.pairwise_append.2 ⟨ih1 g1, ih2 g2, fun s hs t ht => ?_⟩
    have := (leaves_leaf g1 s hs).2.2
    have := (leaves_leaf g2 t ht).2.1
    omega

/-- The pieces of parts, of a list of spans. -/
def leavesP (p : List (Nat × Sp)) : List Sp := p.flatMap (fun q => leaves q.1 q.2.1 q.2.2)
def leavesOf (l : List Sp) : List Sp := leavesP (parts l)
theorem rowsP_leaves {p : List (Nat × Sp)} (h : ∀ q ∈ p, q.2.1 ≤ q.2.2) : rowsP p = (leavesP p).map rowOf := by
  induction p with
  | nil => rfl
  | cons q t ih =>
    rw [rowsP_cons, ih (fun x hx => h x (by simp [hx])), rows_leaves (h q (by simp))]
    unfold leavesP
    rw [List.flatMap_cons, List.map_append]
theorem good_le {q : Nat × Sp} (h : Good q) : q.2.1 ≤ q.2.2 := h.2.2.2.1
theorem rowsOf_leaves {l : List Sp} (h : ∀ s ∈ l, Scal s) : rowsOf l = (leavesOf l).map rowOf := rowsP_leaves (fun q hq => good_le (good_parts h q hq))
theorem leavesOf_leaf {l : List Sp} (h : ∀ s ∈ l, Scal s) : ∀ s ∈ leavesOf l, ∃ n, Leaf n s := fun s hs => by
  obtain ⟨q, hq, hs⟩ := List.mem_flatMap.1 hs
  exact ⟨q.1, (leaves_leaf (n := q.1) (a := q.2.1) (b := q.2.2) (good_parts h q hq) s hs).1⟩
/-- Which numbers the parts have. -/
theorem partsOf_mem {s : Sp} (hs : Scal s) (r : Int) : (∃ q ∈ partsOf s, q.2.1 ≤ r ∧ r ≤ q.2.2) ↔ s.1 ≤ r ∧ r ≤ s.2 := by
  obtain ⟨h1, h2, h3, _⟩ := hs
  constructor
  · rintro ⟨q, hq, h⟩
    unfold partsOf partsTo at hq
    obtain ⟨k, _, hq⟩ := List.mem_flatMap.1 hq
    unfold pieceAt at hq
    split at hq
    · obtain rfl := List.mem_singleton.1 hq; simp only at h; omega
    · simp at hq
  · intro h
    have key : ∀ k, k < 4 → (bnd k).1 ≤ r → r ≤ (bnd k).2 → ∃ q ∈ partsOf s, q.2.1 ≤ r ∧ r ≤ q.2.2 := fun k hk ha hb => by
      refine ⟨(k + 1, (max s.1 (bnd k).1, min s.2 (bnd k).2)), ?_, by simp only; omega, by simp only; omega⟩
      unfold partsOf partsTo
      refine List.mem_flatMap.2 ⟨k, List.mem_range.2 hk, ?_⟩
      unfold pieceAt
      rw [if_pos (by omega)]
      simp
    by_cases c1 : r ≤ 127
    · exact key 0 (by omega) (by simp [bnd]; omega) (by simp [bnd]; omega)
    by_cases c2 : r ≤ 2047
    · exact key 1 (by omega) (by simp [bnd]; omega) (by simp [bnd]; omega)
    by_cases c3 : r ≤ 65535
    · exact key 2 (by omega) (by simp [bnd]; omega) (by simp [bnd]; omega)
    · exact key 3 (by omega) (by simp [bnd]; omega) (by simp [bnd]; omega)
theorem leavesOf_mem {l : List Sp} (h : ∀ s ∈ l, Scal s) (r : Int) : (∃ s ∈ leavesOf l, s.1 ≤ r ∧ r ≤ s.2) ↔ ∃ s ∈ l, s.1 ≤ r ∧ r ≤ s.2 := by
  constructor
  · rintro ⟨s, hs, hr⟩
    obtain ⟨q, hq, hs⟩ := List.mem_flatMap.1 hs
    have h1 := (leaves_mem (good_le (good_parts h q hq)) r).1 ⟨s, hs, hr⟩
    obtain ⟨t, ht, hq⟩ := List.mem_flatMap.1 hq
    exact ⟨t, ht, (partsOf_mem (h t ht) r).1 ⟨q, hq, h1⟩⟩
  · rintro ⟨t, ht, hr⟩
    obtain ⟨q, hq, h1⟩ := (partsOf_mem (h t ht) r).2 hr
    have hqp : q ∈ parts l := List.mem_flatMap.2 ⟨t, ht, hq⟩
    obtain ⟨s, hs, h2⟩ := (leaves_mem (good_le (good_parts h q hqp)) r).2 h1
    exact ⟨s, List.mem_flatMap.2 ⟨q, hqp, hs⟩, h2⟩
theorem pieceAt_many (s : Sp) (k : Nat) : ((pieceAt s k).map fun q => q.2.2 - q.2.1 + 1).sum = max 0 (min s.2 (bnd k).2 - max s.1 (bnd k).1 + 1) := by
  unfold pieceAt
  split
  · simp; omega
  · simp; omega
theorem partsOf_many {s : Sp} (hs : Scal s) : ((partsOf s).map fun q => q.2.2 - q.2.1 + 1).sum = s.2 - s.1 + 1 := by
  obtain ⟨h1, h2, h3, _⟩ := hs
  have e : partsOf s = (((([] ++ pieceAt s 0) ++ pieceAt s 1) ++ pieceAt s 2) ++ pieceAt s 3) := by
    unfold partsOf; rw [partsTo_succ, partsTo_succ, partsTo_succ, partsTo_succ, partsTo_zero]
  rw [e]
  simp only [List.map_append, List.sum_append, List.map_nil, List.sum_nil, pieceAt_many, bnd]
  omega
theorem leavesP_many {p : List (Nat × Sp)} (h : ∀ q ∈ p, q.2.1 ≤ q.2.2) : many (leavesP p) = (p.map fun q => q.2.2 - q.2.1 + 1).sum := by
  induction p with
  | nil => rfl
  | cons q t ih =>
    have e : leavesP (q :: t) = leaves q.1 q.2.1 q.2.2 ++ leavesP t := by unfold leavesP; rw [List.flatMap_cons]
    rw [e, many_append, ih (fun x hx => h x (by simp [hx])), leaves_many (h q (by simp))]
    simp
theorem leavesOf_many {l : List Sp} (h : ∀ s ∈ l, Scal s) : many (leavesOf l) = many l := by
  unfold leavesOf
  rw [leavesP_many (fun q hq => good_le (good_parts h q hq))]
  induction l with
  | nil => rfl
  | cons s t ih =>
    have e : parts (s :: t) = partsOf s ++ parts t := by unfold parts; rw [List.flatMap_cons]
    rw [e, List.map_append, List.sum_append, partsOf_many (h s (by simp)), ih (fun x hx => h x (by simp [hx])), many_cons]
/-- Parts rise, if the spans do. -/
theorem partsOf_in {s : Sp} {q : Nat × Sp} (h : q ∈ partsOf s) : s.1 ≤ q.2.1 ∧ q.2.2 ≤ s.2 := by
  unfold partsOf partsTo at h
  obtain ⟨k, _, hq⟩ := List.mem_flatMap.1 h
  unfold pieceAt at hq
  split at hq
  · obtain rfl := List.mem_singleton.1 hq; simp only; omega
  · simp at hq
theorem pieceAt_in {s : Sp} {k : Nat} {q : Nat × Sp} (h : q ∈ pieceAt s k) : (bnd k).1 ≤ q.2.1 ∧ q.2.2 ≤ (bnd k).2 := by
  unfold pieceAt at h
  split at h
  · obtain rfl := List.mem_singleton.1 h; simp only; omega
  · simp at h
def UpsP (p : List (Nat × Sp)) : Prop := p.Pairwise fun s t => s.2.2 < t.2.1
theorem pieceAt_ups (s : Sp) (k : Nat) : UpsP (pieceAt s k) := by
  unfold pieceAt UpsP; split <;> simp
theorem partsOf_ups (s : Sp) : UpsP (partsOf s) := by
  have e : partsOf s = (((([] ++ pieceAt s 0) ++ pieceAt s 1) ++ pieceAt s 2) ++ pieceAt s 3) := by
    unfold partsOf; rw [partsTo_succ, partsTo_succ, partsTo_succ, partsTo_succ, partsTo_zero]
  rw [e]
  have b0 : (bnd 0) = (0, 127) := rfl
  have b1 : (bnd 1) = (128, 2047) := rfl
  have b2 : (bnd 2) = (2048, 65535) := rfl
  have b3 : (bnd 3) = (65536, 1114111) := rfl
  have p0 : ∀ q ∈ pieceAt s 0, q.2.2 ≤ 127 := fun q hq => by have := pieceAt_in hq; rw [b0] at this; simp only at this; omega
  have p1 : ∀ q ∈ pieceAt s 1, 128 ≤ q.2.1 ∧ q.2.2 ≤ 2047 := fun q hq => by have := pieceAt_in hq; rw [b1] at this; simp only at this; omega
  have p2 : ∀ q ∈ pieceAt s 2, 2048 ≤ q.2.1 ∧ q.2.2 ≤ 65535 := fun q hq => by have := pieceAt_in hq; rw [b2] at this; simp only at this; omega
  have p3 : ∀ q ∈ pieceAt s 3, 65536 ≤ q.2.1 := fun q hq => by have := pieceAt_in hq; rw [b3] at this; simp only at this; omega
  refine List.pairwise_append.2 ⟨List.pairwise_append.2 ⟨List.pairwise_append.2 ⟨by rw [List.nil_append]; exact pieceAt_ups s 0, pieceAt_ups s 1, fun x hx y hy => ?_⟩, pieceAt_ups s 2, fun x hx y hy => ?_⟩, pieceAt_ups s 3, fun x hx y hy => ?_⟩
  · rw [List.nil_append] at hx; have := p0 x hx; have := p1 y hy; omega
  · simp only [List.nil_append, List.mem_append] at hx
    have := p2 y hy
    rcases hx with hx | hx
    · have := p0 x hx; omega
    · have := p1 x hx; omega
  · simp only [List.nil_append, List.mem_append] at hx
    have := p3 y hy
    rcases hx with (hx | hx) | hx
    · have := p0 x hx; omega
    · have := p1 x hx; omega
    · have := p2 x hx; omega
theorem parts_ups {l : List Sp} (h : Ups l) : UpsP (parts l) := by
  induction l with
  | nil => exact List.Pairwise.nil
  | cons s t ih =>
    have e : parts (s :: t) = partsOf s ++ parts t := by unfold parts; rw [List.flatMap_cons]
    rw [e]
    have h' := List.pairwise_cons.1 h
    refine List.pairwise_append.2 ⟨partsOf_ups s, ih h'.2, fun x hx y hy => ?_⟩
    obtain ⟨u, hu, hy⟩ := List.mem_flatMap.1 hy
    have := partsOf_in hx
    have := partsOf_in hy
    have := h'.1 u hu
    omega
theorem leavesP_ups {p : List (Nat × Sp)} (hg : ∀ q ∈ p, Good q) (h : UpsP p) : Ups (leavesP p) := by
  induction p with
  | nil => exact List.Pairwise.nil
  | cons q t ih =>
    have e : leavesP (q :: t) = leaves q.1 q.2.1 q.2.2 ++ leavesP t := by unfold leavesP; rw [List.flatMap_cons]
    rw [e]
    have h' := List.pairwise_cons.1 h
    have gq : Good (q.1, q.2.1, q.2.2) := hg q (by simp)
    refine List.pairwise_append.2 ⟨leaves_ups gq, ih (fun x hx => hg x (by simp [hx])) h'.2, fun x hx y hy => ?_⟩
    obtain ⟨u, hu, hy⟩ := List.mem_flatMap.1 hy
    have gu : Good (u.1, u.2.1, u.2.2) := hg u (by simp [hu])
    have := (leaves_leaf gq x hx).2.2
    have := (leaves_leaf gu y hy).2.1
    have := h'.1 u hu
    omega
theorem leavesOf_ups {l : List Sp} (hs : ∀ s ∈ l, Scal s) (h : Ups l) : Ups (leavesOf l) := leavesP_ups (good_parts hs) (parts_ups h)
end Go.Proofs.YtgaalkcociifmaaDoor.SeqM
