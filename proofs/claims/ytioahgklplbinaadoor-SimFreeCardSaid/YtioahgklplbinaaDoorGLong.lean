/- Plain mathematics of machines that go: the longest front; what states together come to. Nothing of a program stands here. -/
import Derived.Test.YtioahgklplbinaaDoorGPure
namespace SimM
open SetM NfaM
theorem Cl.none {m : Mc} {P : Nat → Prop} (h : ∀ k, ¬ P k) : ∀ k, ¬ Cl m P k := by
  intro k hk
  induction hk with
  | base k hp => exact h k hp
  | step _ _ _ _ ih => exact ih
theorem step_nil (m : Mc) (r : Int) : stepF m [] r = [] := by
  unfold stepF
  rw [stL_nil]
  exact fun k _ => Cl.none (fun k ⟨i, hi, _⟩ => by cases hi.2) k
/-- Where one is by scalars, one behind the other. -/
noncomputable def goF (m : Mc) (s : List Int) : List Int := s.foldl (stepF m) (startF m)
theorem go_zero (m : Mc) : goF m [] = startF m := rfl
theorem go_snoc (m : Mc) (s : List Int) (r : Int) : goF m (s ++ [r]) = stepF m (goF m s) r := by unfold goF; rw [List.foldl_append]; rfl
theorem go_take (m : Mc) {s : List Int} {i : Nat} (h : i < s.length) : goF m (s.take (i + 1)) = stepF m (goF m (s.take i)) s[i] := by rw [List.take_succ_eq_append_getElem h, go_snoc]
theorem go_nil (m : Mc) {s : List Int} {i : Nat} (h : goF m (s.take i) = []) : ∀ d, goF m (s.take (i + d)) = []
  | 0 => h
  | d + 1 => by
    by_cases hl : i + d < s.length
    · rw [show i + (d + 1) = i + d + 1 by omega, go_take m hl, go_nil m h d, step_nil]
    · rw [List.take_of_length_le (by omega), ← List.take_of_length_le (show s.length ≤ i + d by omega)]
      exact go_nil m h d
theorem no_tag (m : Mc) (t : Int) : ¬ TgP m [] t := fun ⟨_, k, hk, _⟩ => by cases hk.2
/-- Which front of those that have i scalars, or fewer, is the longest with a tag. -/
structure Lng (m : Mc) (s : List Int) (i : Nat) (a b : Int) : Prop where
  lo : 0 ≤ a
  hi : a ≤ i
  none : a = 0 → b = -1
  some : 0 < a → TgP m (goF m (s.take a.toNat)) b ∧ ∀ t, TgP m (goF m (s.take a.toNat)) t → b ≤ t
  rest : ∀ k : Nat, a < k → k ≤ i → ∀ t, ¬ TgP m (goF m (s.take k)) t
theorem Lng.zero (m : Mc) (s : List Int) : Lng m s 0 0 (-1) :=
  ⟨Int.le_refl _, Int.le_refl _, fun _ => rfl, fun h => absurd h (by decide), fun k h1 h2 => by omega⟩
theorem Lng.no {m : Mc} {s : List Int} {i : Nat} {a b : Int} (h : Lng m s i a b) (hn : ∀ t, ¬ TgP m (goF m (s.take (i + 1))) t) : Lng m s (i + 1) a b :=
  ⟨h.lo, by have := h.hi; omega, h.none, h.some, fun k h1 h2 t ht => by
    by_cases e : k = i + 1
    · subst e; exact hn t ht
    · exact h.rest k h1 (by omega) t ht⟩
theorem Lng.yes {m : Mc} {s : List Int} {i : Nat} {b : Int} (h1 : TgP m (goF m (s.take (i + 1))) b) (h2 : ∀ t, TgP m (goF m (s.take (i + 1))) t → b ≤ t) : Lng m s (i + 1) ((i : Int) + 1) b := by
  have e : ((i : Int) + 1).toNat = i + 1 := by omega
  exact ⟨by omega, by omega, fun h => by omega, fun _ => by rw [e]; exact ⟨h1, h2⟩, fun k h1 h2 => by omega⟩
theorem Lng.stop {m : Mc} {s : List Int} {i : Nat} {a b : Int} (h : Lng m s i a b) (hn : goF m (s.take i) = []) : Lng m s s.length a b ∨ s.length < i := by
  by_cases hl : i ≤ s.length
  · left
    refine ⟨h.lo, by have := h.hi; omega, h.none, h.some, fun k h1 h2 t ht => ?_⟩
    by_cases e : k ≤ i
    · exact h.rest k h1 e t ht
    · have := go_nil m hn (k - i)
      rw [show i + (k - i) = k by omega] at this
      rw [this] at ht
      exact no_tag m t ht
  · right; omega
theorem Lng.unique {m : Mc} {s : List Int} {i : Nat} {a b a' b' : Int} (h : Lng m s i a b) (h' : Lng m s i a' b') : a = a' ∧ b = b' := by
  have key : ∀ {a b a' b' : Int}, Lng m s i a b → Lng m s i a' b' → a' ≤ a := fun {a b a' b'} h h' => by
    refine Int.not_lt.1 (fun hlt => ?_)
    have h1 := h.lo
    have h2 := h'.hi
    have h3 := (h'.some (by omega)).1
    exact h.rest a'.toNat (by omega) (by omega) _ h3
  have e : a = a' := Int.le_antisymm (key h' h) (key h h')
  subst e
  refine ⟨rfl, ?_⟩
  by_cases h0 : a = 0
  · rw [h.none h0, h'.none h0]
  · have hp : 0 < a := by have := h.lo; omega
    exact Int.le_antisymm ((h.some hp).2 _ (h'.some hp).1) ((h'.some hp).2 _ (h.some hp).1)
/-- What stands behind the longest front does not shorten it. -/
theorem Lng.front {m : Mc} {s u : List Int} {a b a' b' : Int} (h : Lng m s s.length a b) (h' : Lng m (s ++ u) (s ++ u).length a' b') : a ≤ a' ∧ ((s.length : Int) < a' ∨ (a' = a ∧ b = b')) := by
  have ht : ∀ k : Nat, k ≤ s.length → (s ++ u).take k = s.take k := fun k hk => by rw [List.take_append_of_le_length hk]
  have h1 := h.hi
  have h2 := h.lo
  have h3 := h'.lo
  have hl : a ≤ a' := by
    refine Int.not_lt.1 (fun hlt => ?_)
    have hs := (h.some (by omega)).1
    rw [← ht _ (by omega)] at hs
    exact h'.rest a.toNat (by omega) (by rw [List.length_append]; omega) _ hs
  refine ⟨hl, ?_⟩
  by_cases hg : (s.length : Int) < a'
  · exact .inl hg
  · right
    have h'' : Lng m s s.length a' b' := by
      refine ⟨h3, by omega, h'.none, fun hp => ?_, fun k k1 k2 t hk => ?_⟩
      · have := h'.some hp
        rw [ht _ (by omega)] at this
        exact this
      · rw [← ht _ k2] at hk
        exact h'.rest k k1 (by rw [List.length_append]; omega) t hk
    have := h.unique h''
    exact ⟨this.1.symm, this.2⟩
theorem mv_app (m : Mc) (n : Nat) (a b : List Int) (r : Int) (k : Nat) : Mv m (Inn n (a ++ b)) r k ↔ Mv m (Inn n a) r k ∨ Mv m (Inn n b) r k := by
  unfold Mv Inn
  constructor
  · rintro ⟨i, ⟨h1, h2⟩, h3⟩
    rcases List.mem_append.1 h2 with h2 | h2
    · exact .inl ⟨i, ⟨h1, h2⟩, h3⟩
    · exact .inr ⟨i, ⟨h1, h2⟩, h3⟩
  · rintro (⟨i, ⟨h1, h2⟩, h3⟩ | ⟨i, ⟨h1, h2⟩, h3⟩)
    · exact ⟨i, ⟨h1, List.mem_append.2 (.inl h2)⟩, h3⟩
    · exact ⟨i, ⟨h1, List.mem_append.2 (.inr h2)⟩, h3⟩
theorem cl_or {m : Mc} {P Q : Nat → Prop} {k : Nat} : Cl m (fun k => P k ∨ Q k) k ↔ Cl m P k ∨ Cl m Q k := by
  constructor
  · intro h
    induction h with
    | base k hp => exact hp.elim (fun h => .inl (.base k h)) (fun h => .inr (.base k h))
    | step i k _ hm ih => exact ih.elim (fun h => .inl (.step i k h hm)) (fun h => .inr (.step i k h hm))
  · rintro (h | h)
    · exact Cl.mono (fun k hk => .base k (.inl hk)) h
    · exact Cl.mono (fun k hk => .base k (.inr hk)) h
theorem step_app (m : Mc) (a b : List Int) (r x : Int) : x ∈ stepF m (a ++ b) r ↔ x ∈ stepF m a r ∨ x ∈ stepF m b r := by
  unfold stepF
  have h : ∀ k, Cl m (Mv m (Inn m.len (a ++ b)) r) k ↔ Cl m (Mv m (Inn m.len a) r) k ∨ Cl m (Mv m (Inn m.len b) r) k := fun k => by
    rw [← cl_or]
    exact Cl.congr (fun k => mv_app m m.len a b r k) k
  rw [mem_stL, mem_stL, mem_stL]
  constructor
  · rintro ⟨k, h1, h2, h3⟩
    exact ((h k).1 h2).elim (fun h2 => .inl ⟨k, h1, h2, h3⟩) (fun h2 => .inr ⟨k, h1, h2, h3⟩)
  · rintro (⟨k, h1, h2, h3⟩ | ⟨k, h1, h2, h3⟩)
    · exact ⟨k, h1, (h k).2 (.inl h2), h3⟩
    · exact ⟨k, h1, (h k).2 (.inr h2), h3⟩
/-- Free ways from where one is by nothing lead nowhere else. -/
theorem start_free {m : Mc} (hfr : ∀ row ∈ m.fr, ∀ t ∈ row, 0 ≤ t ∧ t < (m.len : Int)) {k : Nat} (hk : (k : Int) ∈ startF m) : ∀ t ∈ m.fr.getD k [], t ∈ startF m := by
  intro t ht
  unfold startF at hk ⊢
  obtain ⟨k', h1, h2, h3⟩ := mem_stL.1 hk
  obtain rfl : k = k' := by omega
  have hb : 0 ≤ t ∧ t < (m.len : Int) := by
    by_cases hi : k < m.fr.length
    · have e : m.fr.getD k [] = m.fr[k] := by simp [List.getD, hi]
      rw [e] at ht
      exact hfr _ (List.getElem_mem hi) t ht
    · have e : m.fr.getD k [] = [] := by simp [List.getD, Nat.le_of_not_lt hi]
      rw [e] at ht
      cases ht
  exact mem_stL.2 ⟨t.toNat, by omega, .step k _ h2 (by rw [show ((t.toNat : Nat) : Int) = t by omega]; exact ht), by omega⟩
theorem start_head {m : Mc} (h : 0 < m.len) : ∃ l, startF m = 0 :: l := by
  have key : ∀ n, ∃ l, stL (n + 1) (Cl m (· = 0)) = 0 :: l := fun n => by
    induction n with
    | zero => exact ⟨[], by rw [stL_yes (.base 0 rfl), stL_zero]; rfl⟩
    | succ n ih =>
      obtain ⟨l, hl⟩ := ih
      by_cases hp : Cl m (· = 0) (n + 1)
      · exact ⟨l ++ [((n + 1 : Nat) : Int)], by rw [stL_yes hp, hl]; rfl⟩
      · exact ⟨l, by rw [stL_no hp, hl]⟩
  obtain ⟨l, hl⟩ := key (m.len - 1)
  rw [show m.len - 1 + 1 = m.len by omega] at hl
  exact ⟨l, hl⟩
end SimM
