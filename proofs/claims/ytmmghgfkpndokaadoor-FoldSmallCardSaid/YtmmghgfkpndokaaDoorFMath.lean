/- Plain mathematics of folding: the runs, what a number folds to, what closing a set comes to, an orbit as a list that rises. Nothing of a program stands here. -/
import Derived.Test.YtmmghgfkpndokaaDoorMath
namespace SetM
/-- A run: its first, its last, what the first goes to. -/
abbrev Rn := Int × Int × Int
def runsL : List Rn := [(65, 90, 97), (181, 181, 956), (192, 214, 224), (216, 222, 248), (913, 929, 945), (931, 937, 963), (962, 962, 963), (1024, 1039, 1104), (1040, 1071, 1072), (7838, 7838, 223), (8486, 8486, 969), (8490, 8490, 107), (8491, 8491, 229)]
def stepR (u : Rn) : Int := u.2.2 - u.1
/-- What a number folds to by some runs. -/
def foldFrom : List Rn → Int → Int
  | [], r => r
  | u :: t, r => if u.1 ≤ r ∧ r ≤ u.2.1 then r + stepR u else foldFrom t r
def foldF (r : Int) : Int := foldFrom runsL r
/-- As the document writes it. -/
def foldD (r : Int) : Int :=
  if (65 ≤ r ∧ r ≤ 90) ∨ (192 ≤ r ∧ r ≤ 222 ∧ r ≠ 215) ∨ (913 ≤ r ∧ r ≤ 937 ∧ r ≠ 930) ∨ (1040 ≤ r ∧ r ≤ 1071) then r + 32
  else if 1024 ≤ r ∧ r ≤ 1039 then r + 80
  else if r = 181 then 956 else if r = 962 then 963 else if r = 7838 then 223 else if r = 8486 then 969 else if r = 8490 then 107 else if r = 8491 then 229 else r
/-- All that the runs say of one number, for omega. -/
theorem foldF_spec (r : Int) : (((65 ≤ r ∧ r ≤ 90) ∨ (192 ≤ r ∧ r ≤ 214) ∨ (216 ≤ r ∧ r ≤ 222) ∨ (913 ≤ r ∧ r ≤ 929) ∨ (931 ≤ r ∧ r ≤ 937) ∨ (1040 ≤ r ∧ r ≤ 1071)) ∧ foldF r = r + 32) ∨
    (1024 ≤ r ∧ r ≤ 1039 ∧ foldF r = r + 80) ∨ (r = 181 ∧ foldF r = 956) ∨ (r = 962 ∧ foldF r = 963) ∨ (r = 7838 ∧ foldF r = 223) ∨ (r = 8486 ∧ foldF r = 969) ∨ (r = 8490 ∧ foldF r = 107) ∨ (r = 8491 ∧ foldF r = 229) ∨
    (foldF r = r ∧ (∀ u ∈ runsL, ¬ (u.1 ≤ r ∧ r ≤ u.2.1)) ∧ ¬ ((65 ≤ r ∧ r ≤ 90) ∨ (192 ≤ r ∧ r ≤ 214) ∨ (216 ≤ r ∧ r ≤ 222) ∨ (913 ≤ r ∧ r ≤ 929) ∨ (931 ≤ r ∧ r ≤ 937) ∨ (1024 ≤ r ∧ r ≤ 1071) ∨ r = 181 ∨ r = 962 ∨ r = 7838 ∨ r = 8486 ∨ r = 8490 ∨ r = 8491)) := by
  unfold foldF
  simp only [runsL, foldFrom, stepR]
  by_cases h1 : 65 ≤ r ∧ r ≤ 90
  · rw [if_pos h1]; omega
  rw [if_neg h1]
  by_cases h2 : 181 ≤ r ∧ r ≤ 181
  · rw [if_pos h2]; omega
  rw [if_neg h2]
  by_cases h3 : 192 ≤ r ∧ r ≤ 214
  · rw [if_pos h3]; omega
  rw [if_neg h3]
  by_cases h4 : 216 ≤ r ∧ r ≤ 222
  · rw [if_pos h4]; omega
  rw [if_neg h4]
  by_cases h5 : 913 ≤ r ∧ r ≤ 929
  · rw [if_pos h5]; omega
  rw [if_neg h5]
  by_cases h6 : 931 ≤ r ∧ r ≤ 937
  · rw [if_pos h6]; omega
  rw [if_neg h6]
  by_cases h7 : 962 ≤ r ∧ r ≤ 962
  · rw [if_pos h7]; omega
  rw [if_neg h7]
  by_cases h8 : 1024 ≤ r ∧ r ≤ 1039
  · rw [if_pos h8]; omega
  rw [if_neg h8]
  by_cases h9 : 1040 ≤ r ∧ r ≤ 1071
  · rw [if_pos h9]; omega
  rw [if_neg h9]
  by_cases h10 : 7838 ≤ r ∧ r ≤ 7838
  · rw [if_pos h10]; omega
  rw [if_neg h10]
  by_cases h11 : 8486 ≤ r ∧ r ≤ 8486
  · rw [if_pos h11]; omega
  rw [if_neg h11]
  by_cases h12 : 8490 ≤ r ∧ r ≤ 8490
  · rw [if_pos h12]; omega
  rw [if_neg h12]
  by_cases h13 : 8491 ≤ r ∧ r ≤ 8491
  · rw [if_pos h13]; omega
  rw [if_neg h13]
  refine .inr (.inr (.inr (.inr (.inr (.inr (.inr (.inr ⟨rfl, ?_, by omega⟩)))))))
  intro u hu
  simp only [List.mem_cons, List.not_mem_nil, or_false] at hu
  rcases hu with rfl | rfl | rfl | rfl | rfl | rfl | rfl | rfl | rfl | rfl | rfl | rfl | rfl <;> assumption
theorem foldF_doc (r : Int) : foldF r = foldD r := by
  unfold foldD
  rcases foldF_spec r with h | h | h | h | h | h | h | h | ⟨h, _, h2⟩
  · rw [if_pos (by omega)]; exact h.2
  · rw [if_neg (by omega), if_pos (by omega)]; exact h.2.2
  · obtain ⟨rfl, h⟩ := h; exact h
  · obtain ⟨rfl, h⟩ := h; exact h
  · obtain ⟨rfl, h⟩ := h; exact h
  · obtain ⟨rfl, h⟩ := h; exact h
  · obtain ⟨rfl, h⟩ := h; exact h
  · obtain ⟨rfl, h⟩ := h; exact h
  · rw [if_neg (by omega), if_neg (by omega), if_neg (by omega), if_neg (by omega), if_neg (by omega), if_neg (by omega), if_neg (by omega), if_neg (by omega)]; exact h
/-- Folded twice is folded once. -/
theorem foldF_idem (r : Int) : foldF (foldF r) = foldF r := by
  have h1 := foldF_spec r
  have h2 := foldF_spec (foldF r)
  rcases h1 with h | h | h | h | h | h | h | h | ⟨h, _, _⟩
  case inr.inr.inr.inr.inr.inr.inr.inr => rw [h, h]
  all_goals
    rcases h2 with k | k | k | k | k | k | k | k | ⟨k, _, _⟩
    all_goals omega
/-- In a run a number folds by its step. -/
theorem foldF_run {u : Rn} (hu : u ∈ runsL) {r : Int} (h1 : u.1 ≤ r) (h2 : r ≤ u.2.1) : foldF r = r + stepR u := by
  have h := foldF_spec r
  simp only [runsL, List.mem_cons, List.not_mem_nil, or_false] at hu
  rcases hu with rfl | rfl | rfl | rfl | rfl | rfl | rfl | rfl | rfl | rfl | rfl | rfl | rfl
  all_goals
    simp only [stepR] at *
    omega
theorem foldFrom_run : ∀ (l : List Rn) (r : Int), foldFrom l r ≠ r → ∃ u ∈ l, u.1 ≤ r ∧ r ≤ u.2.1 ∧ foldFrom l r = r + stepR u
  | [], r, h => absurd rfl h
  | u :: t, r, h => by
    unfold foldFrom at h ⊢
    by_cases e : u.1 ≤ r ∧ r ≤ u.2.1
    · rw [if_pos e] at h ⊢; exact ⟨u, by simp, e.1, e.2, rfl⟩
    · rw [if_neg e] at h ⊢
      obtain ⟨v, hv, h3⟩ := foldFrom_run t r h
      exact ⟨v, by simp [hv], h3⟩
/-- Where a span goes that is moved. -/
def moveS (lo hi step : Int) (s : Sp) : List Sp := if max s.1 lo ≤ min s.2 hi then [(max s.1 lo + step, min s.2 hi + step)] else []
def aheadS (u : Rn) : Sp → List Sp := moveS u.1 u.2.1 (stepR u)
def backS (u : Rn) : Sp → List Sp := moveS (u.1 + stepR u) (u.2.1 + stepR u) (-stepR u)
def gatherL (way : Rn → Sp → List Sp) (l : List Sp) : List Sp := (runsL.flatMap fun u => l.flatMap (way u)) ++ l
theorem mem_flatMap {α : Type} (f : α → List Sp) (l : List α) (r : Int) : Mem (l.flatMap f) r ↔ ∃ a ∈ l, Mem (f a) r := by
  unfold Mem
  constructor
  · rintro ⟨s, hs, h⟩; obtain ⟨a, ha, h2⟩ := List.mem_flatMap.1 hs; exact ⟨a, ha, s, h2, h⟩
  · rintro ⟨a, ha, s, hs, h⟩; exact ⟨s, List.mem_flatMap.2 ⟨a, ha, hs⟩, h⟩
theorem mem_moveS (lo hi step : Int) (s : Sp) (r : Int) : Mem (moveS lo hi step s) r ↔ s.1 ≤ r - step ∧ r - step ≤ s.2 ∧ lo ≤ r - step ∧ r - step ≤ hi := by
  unfold moveS
  split
  · simp [Mem]; omega
  · simp [Mem]; omega
theorem mem_gather (lo hi step : Rn → Int) (l : List Sp) (r : Int) : Mem (gatherL (fun u => moveS (lo u) (hi u) (step u)) l) r ↔ Mem l r ∨ ∃ u ∈ runsL, Mem l (r - step u) ∧ lo u ≤ r - step u ∧ r - step u ≤ hi u := by
  unfold gatherL
  rw [mem_append, mem_flatMap, or_comm]
  refine or_congr Iff.rfl ⟨?_, ?_⟩
  · rintro ⟨u, hu, h⟩
    rw [mem_flatMap] at h
    obtain ⟨s, hs, h⟩ := h
    rw [mem_moveS] at h
    exact ⟨u, hu, ⟨s, hs, h.1, h.2.1⟩, h.2.2⟩
  · rintro ⟨u, hu, ⟨s, hs, h1, h2⟩, h3⟩
    refine ⟨u, hu, ?_⟩
    rw [mem_flatMap]
    exact ⟨s, hs, by rw [mem_moveS]; exact ⟨h1, h2, h3⟩⟩
/-- What closing comes to, ahead and back. -/
def closeL (l : List Sp) : List Sp := gatherL backS (gatherL aheadS l)
theorem mem_ahead (l : List Sp) (r : Int) : Mem (gatherL aheadS l) r ↔ Mem l r ∨ ∃ x, Mem l x ∧ foldF x = r := by
  have h := mem_gather (fun u => u.1) (fun u => u.2.1) stepR l r
  refine h.trans ?_
  constructor
  · rintro (h | ⟨u, hu, h1, h2, h3⟩)
    · exact .inl h
    · exact .inr ⟨_, h1, by rw [foldF_run hu h2 h3]; omega⟩
  · rintro (h | ⟨x, h1, h2⟩)
    · exact .inl h
    · by_cases e : foldF x = x
      · left; rw [← h2, e]; exact h1
      · obtain ⟨u, hu, h3, h4, h5⟩ := foldFrom_run runsL x e
        have h6 : foldF x = x + stepR u := h5
        refine .inr ⟨u, hu, ?_, ?_, ?_⟩
        · rw [← h2, h6, Int.add_sub_cancel]; exact h1
        · omega
        · omega
theorem mem_back (l : List Sp) (r : Int) : Mem (gatherL backS l) r ↔ Mem l r ∨ Mem l (foldF r) := by
  have h := mem_gather (fun u => u.1 + stepR u) (fun u => u.2.1 + stepR u) (fun u => -stepR u) l r
  refine h.trans ?_
  constructor
  · rintro (h | ⟨u, hu, h1, h2, h3⟩)
    · exact .inl h
    · right; rw [foldF_run hu (by omega) (by omega)]; rw [show r - -stepR u = r + stepR u from by omega] at h1; exact h1
  · rintro (h | h)
    · exact .inl h
    · by_cases e : foldF r = r
      · left; rw [← e]; exact h
      · obtain ⟨u, hu, h3, h4, h5⟩ := foldFrom_run runsL r e
        have h6 : foldF r = r + stepR u := h5
        refine .inr ⟨u, hu, ?_, ?_, ?_⟩
        · rw [h6] at h; rw [show r - -stepR u = r + stepR u from by omega]; exact h
        · omega
        · omega
theorem mem_close (l : List Sp) (r : Int) : Mem (closeL l) r ↔ ∃ x, Mem l x ∧ foldF x = foldF r := by
  unfold closeL
  rw [mem_back, mem_ahead, mem_ahead]
  constructor
  · rintro ((h | ⟨x, h1, h2⟩) | (h | ⟨x, h1, h2⟩))
    · exact ⟨r, h, rfl⟩
    · exact ⟨x, h1, by rw [← h2, foldF_idem]⟩
    · exact ⟨_, h, foldF_idem r⟩
    · exact ⟨x, h1, h2⟩
  · rintro ⟨x, h1, h2⟩
    exact .inr (.inr ⟨x, h1, h2⟩)
/-- The condition of a closed set. -/
def ClosedK (K : Int → Prop) (r : Int) : Prop := Sc r ∧ ∃ x, K x ∧ foldF x = foldF r
theorem gather_len (way : Rn → Sp → List Sp) (hw : ∀ u s, (way u s).length ≤ 1) (l : List Sp) : (gatherL way l).length ≤ 14 * l.length := by
  have h1 : ∀ u, (l.flatMap (way u)).length ≤ l.length := by
    intro u
    induction l with
    | nil => simp
    | cons s t ih => rw [List.flatMap_cons, List.length_append, List.length_cons]; have := hw u s; omega
  have h2 : ∀ m : List Rn, (m.flatMap fun u => l.flatMap (way u)).length ≤ m.length * l.length := by
    intro m
    induction m with
    | nil => simp
    | cons u t ih => rw [List.flatMap_cons, List.length_append, List.length_cons, Nat.add_mul]; have := h1 u; omega
  unfold gatherL
  rw [List.length_append]
  have h3 := h2 runsL
  have h4 : runsL.length = 13 := rfl
  rw [h4] at h3
  omega
theorem moveS_len (lo hi step : Int) (s : Sp) : (moveS lo hi step s).length ≤ 1 := by unfold moveS; split <;> simp
theorem closeL_len (l : List Sp) : (closeL l).length ≤ 196 * l.length := by
  unfold closeL
  have h1 := gather_len backS (fun u s => moveS_len _ _ _ _) (gatherL aheadS l)
  have h2 := gather_len aheadS (fun u s => moveS_len _ _ _ _) l
  omega
/-- Spans stay within bounds that a step can't leave. -/
def Near (l : List Sp) : Prop := ∀ s ∈ l, -1000000000 ≤ s.1 ∧ s.1 ≤ 1000000000 ∧ -1000000000 ≤ s.2 ∧ s.2 ≤ 1000000000
/-- Lists that rise and have the same are the same. -/
theorem rise_unique : ∀ (a b : List Int), a.Pairwise (· < ·) → b.Pairwise (· < ·) → (∀ x, x ∈ a ↔ x ∈ b) → a = b
  | [], [], _, _, _ => rfl
  | [], y :: t, _, _, h => absurd ((h y).2 (by simp)) (by simp)
  | x :: t, [], _, _, h => absurd ((h x).1 (by simp)) (by simp)
  | x :: s, y :: t, ha, hb, h => by
    obtain ⟨a1, a2⟩ := List.pairwise_cons.1 ha
    obtain ⟨b1, b2⟩ := List.pairwise_cons.1 hb
    have e : x = y := by
      have h1 := (h x).1 (by simp)
      have h2 := (h y).2 (by simp)
      rcases List.mem_cons.1 h1 with h1 | h1
      · exact h1
      · rcases List.mem_cons.1 h2 with h2 | h2
        · exact h2.symm
        · have := a1 y h2; have := b1 x h1; omega
    subst e
    rw [rise_unique s t a2 b2 (fun z => ?_)]
    constructor
    · intro hz
      have := a1 z hz
      rcases List.mem_cons.1 ((h z).1 (by simp [hz])) with h1 | h1
      · omega
      · exact h1
    · intro hz
      have := b1 z hz
      rcases List.mem_cons.1 ((h z).2 (by simp [hz])) with h1 | h1
      · omega
      · exact h1
/-- All numbers of one span; of spans. -/
def numsS (s : Sp) : List Int := (List.range (s.2 - s.1 + 1).toNat).map fun i => s.1 + Int.ofNat i
def numsL (l : List Sp) : List Int := l.flatMap numsS
theorem mem_numsS (s : Sp) (r : Int) : r ∈ numsS s ↔ s.1 ≤ r ∧ r ≤ s.2 := by
  unfold numsS
  rw [List.mem_map]
  constructor
  · rintro ⟨i, hi, rfl⟩; have := List.mem_range.1 hi; simp only [Int.ofNat_eq_natCast]; omega
  · rintro ⟨h1, h2⟩; exact ⟨(r - s.1).toNat, List.mem_range.2 (by omega), by simp only [Int.ofNat_eq_natCast]; omega⟩
theorem mem_numsL (l : List Sp) (r : Int) : r ∈ numsL l ↔ Mem l r := by
  unfold numsL Mem
  rw [List.mem_flatMap]
  exact ⟨fun ⟨s, hs, h⟩ => ⟨s, hs, (mem_numsS s r).1 h⟩, fun ⟨s, hs, h⟩ => ⟨s, hs, (mem_numsS s r).2 h⟩⟩
theorem rise_numsS (s : Sp) : (numsS s).Pairwise (· < ·) := by
  unfold numsS
  rw [List.pairwise_map]
  refine List.Pairwise.imp ?_ List.pairwise_lt_range
  intro a b h
  simp only [Int.ofNat_eq_natCast]; omega
theorem rise_numsL : ∀ (l : List Sp), Nf l → (numsL l).Pairwise (· < ·)
  | [], _ => by simp [numsL]
  | s :: t, h => by
    have e : numsL (s :: t) = numsS s ++ numsL t := rfl
    rw [e, List.pairwise_append]
    refine ⟨rise_numsS s, rise_numsL t h.2.2, fun a ha b hb => ?_⟩
    have h1 := (mem_numsS s a).1 ha
    have h2 := nf_beyond h ((mem_numsL t b).1 hb)
    omega
theorem numsS_len (s : Sp) : (numsS s).length = (s.2 - s.1 + 1).toNat := by simp [numsS]
/-- An orbit: what lies in it, in the order of numbers. -/
def IsOrbit (r : Int) (o : List Int) : Prop := o.Pairwise (· < ·) ∧ ∀ x, x ∈ o ↔ Sc x ∧ Sc r ∧ foldF x = foldF r
theorem IsOrbit.eq {r s : Int} {a b : List Int} (ha : IsOrbit r a) (hb : IsOrbit s b) (h : ∀ x, (Sc x ∧ Sc r ∧ foldF x = foldF r) ↔ (Sc x ∧ Sc s ∧ foldF x = foldF s)) : a = b :=
  rise_unique a b ha.1 hb.1 (fun x => by rw [ha.2, hb.2]; exact h x)
end SetM
