/- Plain mathematics: how many numbers a normal list tells. Nothing of a program stands here. -/
import Derived.Test.YtgaalkcociifmaaDoorMath
namespace SetM
/-- How many numbers a list of spans has, each span counted whole. -/
def sizeZ (l : List Sp) : Int := (l.map fun s => s.2 - s.1 + 1).sum
/-- How many numbers below M a condition has. -/
def cnt (p : Nat → Bool) (M : Nat) : Nat := (List.range M).countP p
theorem cnt_succ (p : Nat → Bool) (M : Nat) : cnt p (M + 1) = cnt p M + if p M then 1 else 0 := by
  unfold cnt; rw [List.range_succ, List.countP_append]; simp [List.countP_cons]
theorem cnt_le (p : Nat → Bool) (M : Nat) : cnt p M ≤ M := by
  unfold cnt; have := List.countP_le_length (p := p) (l := List.range M); simpa using this
theorem cnt_span (a b : Int) (h0 : 0 ≤ a) (hab : a ≤ b) : ∀ M : Nat, (cnt (fun n => decide (a ≤ (n : Int) ∧ (n : Int) ≤ b)) M : Int) = max 0 (min (M : Int) (b + 1) - a)
  | 0 => by
    have : cnt (fun n => decide (a ≤ (n : Int) ∧ (n : Int) ≤ b)) 0 = 0 := rfl
    rw [this]; omega
  | M + 1 => by
    have ih := cnt_span a b h0 hab M
    have hs := cnt_succ (fun n => decide (a ≤ (n : Int) ∧ (n : Int) ≤ b)) M
    by_cases hm : a ≤ (M : Int) ∧ (M : Int) ≤ b
    · rw [if_pos (decide_eq_true hm)] at hs
      omega
    · rw [if_neg (by simpa using hm)] at hs
      omega
theorem cnt_congr {p q : Nat → Bool} {M : Nat} (h : ∀ n, n < M → p n = q n) : cnt p M = cnt q M := by
  unfold cnt
  refine List.countP_congr (fun n hn => ?_)
  rw [h n (List.mem_range.1 hn)]
theorem cnt_or_and (p q : Nat → Bool) : ∀ M, cnt (fun n => p n || q n) M + cnt (fun n => p n && q n) M = cnt p M + cnt q M
  | 0 => rfl
  | M + 1 => by
    rw [cnt_succ, cnt_succ, cnt_succ, cnt_succ]
    have := cnt_or_and p q M
    cases p M <;> cases q M <;> simp <;> omega
theorem cnt_none : ∀ M, cnt (fun _ => false) M = 0
  | 0 => rfl
  | M + 1 => by rw [cnt_succ, cnt_none M]; simp
/-- The size of a normal list is the count of what it tells. -/
theorem size_cnt (M : Nat) : ∀ (l : List Sp), Nf l → (∀ r, Mem l r → 0 ≤ r ∧ r < M) → sizeZ l = cnt (fun n => decide (Mem l (n : Int))) M
  | [], _, _ => by
    rw [cnt_congr (q := fun _ => false) (fun n _ => decide_eq_false (mem_nil n)), cnt_none]; rfl
  | s :: t, hn, hr => by
    have ih := size_cnt M t hn.2.2 (fun r h => hr r ((mem_cons s t r).2 (.inr h)))
    have h1 := hr s.1 ((mem_cons s t s.1).2 (.inl ⟨Int.le_refl _, hn.1⟩))
    have h2 := hr s.2 ((mem_cons s t s.2).2 (.inl ⟨hn.1, Int.le_refl _⟩))
    have e1 : cnt (fun n => decide (Mem (s :: t) (n : Int))) M = cnt (fun n => decide (s.1 ≤ (n : Int) ∧ (n : Int) ≤ s.2) || decide (Mem t (n : Int))) M :=
      cnt_congr (fun n _ => by rw [← Bool.decide_or]; exact decide_eq_decide.2 (mem_cons s t n))
    have e2 : cnt (fun n => decide (s.1 ≤ (n : Int) ∧ (n : Int) ≤ s.2) && decide (Mem t (n : Int))) M = 0 := by
      rw [cnt_congr (q := fun _ => false) (fun n _ => ?_), cnt_none]
      rw [Bool.and_eq_false_iff]
      by_cases hm : Mem t (n : Int)
      · left; exact decide_eq_false (fun h => by have := nf_beyond hn hm; omega)
      · right; exact decide_eq_false hm
    have e3 := cnt_or_and (fun n => decide (s.1 ≤ (n : Int) ∧ (n : Int) ≤ s.2)) (fun n => decide (Mem t (n : Int))) M
    have h3 := hn.1
    have e4 := cnt_span s.1 s.2 h1.1 hn.1 M
    rw [show min (M : Int) (s.2 + 1) = s.2 + 1 from Int.min_eq_right (by omega), show max 0 (s.2 + 1 - s.1) = s.2 + 1 - s.1 from Int.max_eq_right (by omega)] at e4
    have e5 : sizeZ (s :: t) = (s.2 - s.1 + 1) + sizeZ t := by simp [sizeZ]
    rw [e5, e1, ih]
    omega
/-- Two sets, what both have, and what either has. -/
theorem sizes_both {a b u i : List Sp} (ha : Nf a) (hb : Nf b) (hu : Nf u) (hi : Nf i) (hra : ∀ r, Mem a r → Sc r) (hrb : ∀ r, Mem b r → Sc r) (hU : ∀ r, Mem u r ↔ Mem a r ∨ Mem b r) (hI : ∀ r, Mem i r ↔ Mem a r ∧ Mem b r) :
    sizeZ u + sizeZ i = sizeZ a + sizeZ b := by
  obtain ⟨M, hM⟩ : ∃ M : Nat, (M : Int) = 1114112 := ⟨1114112, rfl⟩
  have hs : ∀ r, Sc r → 0 ≤ r ∧ r < M := fun r h => by unfold Sc at h; omega
  rw [size_cnt M a ha (fun r h => hs r (hra r h)), size_cnt M b hb (fun r h => hs r (hrb r h)), size_cnt M u hu (fun r h => hs r (((hU r).1 h).elim (hra r) (hrb r))), size_cnt M i hi (fun r h => hs r (hra r ((hI r).1 h).1))]
  have e1 : cnt (fun n => decide (Mem u (n : Int))) M = cnt (fun n => decide (Mem a (n : Int)) || decide (Mem b (n : Int))) M :=
    cnt_congr (fun n _ => by rw [← Bool.decide_or]; exact decide_eq_decide.2 (hU n))
  have e2 : cnt (fun n => decide (Mem i (n : Int))) M = cnt (fun n => decide (Mem a (n : Int)) && decide (Mem b (n : Int))) M :=
    cnt_congr (fun n _ => by rw [← Bool.decide_and]; exact decide_eq_decide.2 (hI n))
  have e3 := cnt_or_and (fun n => decide (Mem a (n : Int))) (fun n => decide (Mem b (n : Int))) M
  rw [e1, e2]; omega
theorem size_range {a : List Sp} (ha : Nf a) (hra : ∀ r, Mem a r → Sc r) : 0 ≤ sizeZ a ∧ sizeZ a ≤ 1114112 := by
  obtain ⟨M, hM⟩ : ∃ M : Nat, (M : Int) = 1114112 := ⟨1114112, rfl⟩
  have hs : ∀ r, Sc r → 0 ≤ r ∧ r < M := fun r h => by unfold Sc at h; omega
  rw [size_cnt M a ha (fun r h => hs r (hra r h))]
  have := cnt_le (fun n => decide (Mem a (n : Int))) M
  omega
/-- A set and all scalars that are not in it. -/
theorem sizes_not {a c : List Sp} (ha : Nf a) (hc : Nf c) (hra : ∀ r, Mem a r → Sc r) (hC : ∀ r, Mem c r ↔ Sc r ∧ ¬ Mem a r) : sizeZ a + sizeZ c = 1112064 := by
  have hk : Nf [(0, 55295), (57344, 1114111)] := by simp [Nf]
  have hkm : ∀ r, Mem [(0, 55295), (57344, 1114111)] r ↔ Sc r := fun r => by simp [Mem, Sc]
  have h := sizes_both (u := [(0, 55295), (57344, 1114111)]) (i := []) ha hc hk trivial hra (fun r h => ((hC r).1 h).1)
    (fun r => by rw [hkm, hC]; constructor
                 · intro h; by_cases hm : Mem a r
                   · exact .inl hm
                   · exact .inr ⟨h, hm⟩
                 · rintro (h | h)
                   · exact hra r h
                   · exact h.1)
    (fun r => by rw [hC]; exact ⟨fun h => absurd h (mem_nil r), fun h => absurd h.1 h.2.2⟩)
  have e1 : sizeZ [(0, 55295), (57344, 1114111)] = 1112064 := by decide
  have e2 : sizeZ [] = 0 := rfl
  omega
end SetM
