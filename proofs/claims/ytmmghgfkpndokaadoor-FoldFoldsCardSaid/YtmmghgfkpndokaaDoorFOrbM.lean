/- Plain mathematics of orbits: they are short; what the document's counting comes to; what a mover's numbers are, taken one by one. Nothing of a program stands here. -/
import Derived.Test.YtmmghgfkpndokaaDoorFMath
namespace SetM
/-- A list that rises is no longer than one that has all it has. -/
theorem rise_len : ∀ (a E : List Int), a.Pairwise (· < ·) → (∀ x ∈ a, x ∈ E) → a.length ≤ E.length
  | [], _, _, _ => by simp
  | x :: t, E, ha, h => by
    obtain ⟨a1, a2⟩ := List.pairwise_cons.1 ha
    have hx : x ∈ E := h x (by simp)
    have h1 := rise_len t (E.erase x) a2 (fun y hy => (List.mem_erase_of_ne (by have := a1 y hy; omega)).2 (h y (by simp [hy])))
    rw [List.length_erase_of_mem hx] at h1
    have := List.length_pos_of_mem hx
    simp only [List.length_cons]; omega
def cands (r : Int) : List Int := foldF r :: runsL.map fun u => foldF r - stepR u
theorem cands_mem {x r : Int} (h : foldF x = foldF r) : x ∈ cands r := by
  unfold cands
  by_cases e : foldF x = x
  · rw [← h, e]; simp
  · obtain ⟨u, hu, _, _, h5⟩ := foldFrom_run runsL x e
    have h6 : foldF x = x + stepR u := h5
    exact List.mem_cons.2 (.inr (List.mem_map.2 ⟨u, hu, by omega⟩))
theorem orbit_len {r : Int} {o : List Int} (h : IsOrbit r o) : o.length ≤ 14 := rise_len o (cands r) h.1 (fun x hx => cands_mem ((h.2 x).1 hx).2.2)
/-- The numbers of a closed set of one number are its orbit. -/
theorem orbit_of {r : Int} {out : List Sp} (hn : Nf out) (hm : ∀ x, Mem out x ↔ ClosedK (Tells [(r, r)]) x) : IsOrbit r (numsL out) := by
  refine ⟨rise_numsL out hn, fun x => ?_⟩
  rw [mem_numsL, hm]
  unfold ClosedK
  have h1 : ∀ y, Tells [(r, r)] y ↔ Sc y ∧ y = r := fun y => by
    unfold Tells; rw [mem_cons]
    constructor
    · rintro ⟨a, b | b⟩
      · exact ⟨a, by omega⟩
      · exact absurd b (mem_nil y)
    · rintro ⟨a, rfl⟩; exact ⟨a, .inl ⟨Int.le_refl _, Int.le_refl _⟩⟩
  constructor
  · rintro ⟨a, y, hy, h⟩
    obtain ⟨hs, rfl⟩ := (h1 y).1 hy
    exact ⟨a, hs, h.symm⟩
  · rintro ⟨a, b, h⟩
    exact ⟨a, r, (h1 r).2 ⟨b, rfl⟩, h.symm⟩
theorem numsL_next (l : List Sp) (k : Nat) (hk : k < l.length) : numsL (l.take (k + 1)) = numsL (l.take k) ++ numsS l[k] := by
  unfold numsL
  rw [List.take_succ_eq_append_getElem hk, List.flatMap_append]; simp
theorem numsL_pre (l : List Sp) (k : Nat) (hk : k < l.length) : (numsL (l.take k)).length + (numsS l[k]).length ≤ (numsL l).length := by
  have h : numsL l = numsL (l.take (k + 1)) ++ numsL (l.drop (k + 1)) := by
    unfold numsL
    rw [← List.flatMap_append, List.take_append_drop]
  rw [h, numsL_next l k hk, List.length_append, List.length_append]; omega
theorem numsS_next (s : Sp) (i : Nat) (hi : s.1 + i ≤ s.2) : (numsS s).take (i + 1) = (numsS s).take i ++ [s.1 + i] := by
  have hlt : i < (numsS s).length := by rw [numsS_len]; omega
  rw [List.take_succ_eq_append_getElem hlt]
  unfold numsS
  simp
/-- The document's orbit: of all numbers below 3000 those that are alike, and the number itself, if it lies beyond. -/
def docL (r : Int) (n : Nat) : List Int := ((List.range n).map Int.ofNat).filter fun x => decide (foldF x = foldF r)
theorem docL_succ (r : Int) (n : Nat) : docL r (n + 1) = docL r n ++ if foldF (n : Int) = foldF r then [(n : Int)] else [] := by
  unfold docL
  rw [List.range_succ, List.map_append, List.filter_append]
  by_cases h : foldF (n : Int) = foldF r
  · rw [if_pos h]; simp [h]
  · rw [if_neg h]; simp [h]
theorem docL_len (r : Int) (n : Nat) : (docL r n).length ≤ n := by
  unfold docL
  refine Nat.le_trans (List.length_filter_le _ _) ?_
  simp
theorem mem_docL (r x : Int) (n : Nat) : x ∈ docL r n ↔ 0 ≤ x ∧ x < n ∧ foldF x = foldF r := by
  unfold docL
  rw [List.mem_filter, List.mem_map]
  simp only [List.mem_range, decide_eq_true_eq]
  constructor
  · rintro ⟨⟨i, hi, rfl⟩, h⟩; exact ⟨by simp only [Int.ofNat_eq_natCast]; omega, by simp only [Int.ofNat_eq_natCast]; omega, h⟩
  · rintro ⟨h1, h2, h3⟩; exact ⟨⟨x.toNat, by omega, by simp only [Int.ofNat_eq_natCast]; omega⟩, h3⟩
theorem docL_rise (r : Int) (n : Nat) : (docL r n).Pairwise (· < ·) := by
  unfold docL
  refine List.Pairwise.filter _ ?_
  rw [List.pairwise_map]
  refine List.Pairwise.imp ?_ List.pairwise_lt_range
  intro a b h
  simp only [Int.ofNat_eq_natCast]; omega
theorem foldF_far {x r : Int} (h : foldF x = foldF r) : (x < 12288 ∧ r < 12288) ∨ x = r := by
  have h1 := foldF_spec x
  have h2 := foldF_spec r
  omega
theorem doc_orbit (r : Int) (hr : Sc r) : IsOrbit r (docL r 12288 ++ if 12288 ≤ r then [r] else []) := by
  have hr0 : 0 ≤ r := by unfold Sc at hr; omega
  have hlow : ∀ x : Int, 0 ≤ x → x < 12288 → Sc x := fun x h1 h2 => by unfold Sc; omega
  constructor
  · rw [List.pairwise_append]
    refine ⟨docL_rise r _, by split <;> simp, fun a ha b hb => ?_⟩
    have h1 := (mem_docL r a _).1 ha
    split at hb
    · simp at hb; subst hb; omega
    · simp at hb
  · intro x
    rw [List.mem_append, mem_docL]
    constructor
    · rintro (⟨h1, h2, h3⟩ | h)
      · exact ⟨hlow x h1 h2, hr, h3⟩
      · split at h
        · simp at h; subst h; exact ⟨hr, hr, rfl⟩
        · simp at h
    · rintro ⟨h1, _, h3⟩
      have hx0 : 0 ≤ x := by unfold Sc at h1; omega
      rcases foldF_far h3 with ⟨h4, _⟩ | rfl
      · exact .inl ⟨hx0, h4, h3⟩
      · by_cases h5 : 12288 ≤ x
        · rw [if_pos h5]; simp
        · exact .inl ⟨hx0, by omega, rfl⟩
theorem no_orbit {r : Int} (hr : ¬ Sc r) : IsOrbit r [] := ⟨List.Pairwise.nil, fun x => ⟨fun h => absurd h (by simp), fun h => absurd h.2.1 hr⟩⟩
end SetM
