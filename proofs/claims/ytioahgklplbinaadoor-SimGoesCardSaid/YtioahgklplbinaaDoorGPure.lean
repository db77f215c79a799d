/- Plain mathematics of machines that go: what free ways lead to, rows of states, what is gathered. Nothing of a program stands here. -/
import Derived.Test.YtioahgklplbinaaDoorNMA
namespace SimM
open SetM NfaM
/-- What free ways lead to from what is marked. -/
inductive Cl (m : Mc) (P : Nat → Prop) : Nat → Prop where
  | base (k : Nat) : P k → Cl m P k
  | step (i k : Nat) : Cl m P i → (k : Int) ∈ m.fr.getD i [] → Cl m P k
theorem Cl.mono {m : Mc} {P Q : Nat → Prop} (h : ∀ k, P k → Cl m Q k) : ∀ {k}, Cl m P k → Cl m Q k := by
  intro k hk
  induction hk with
  | base k hp => exact h k hp
  | step i k _ hm ih => exact .step i k ih hm
theorem Cl.congr {m : Mc} {P Q : Nat → Prop} (h : ∀ k, P k ↔ Q k) (k : Nat) : Cl m P k ↔ Cl m Q k :=
  ⟨Cl.mono (fun k hk => .base k ((h k).1 hk)), Cl.mono (fun k hk => .base k ((h k).2 hk))⟩
theorem mem_row {α : Type} {l : List (List α)} {i : Nat} {x : α} (h : x ∈ l.getD i []) : ∃ row ∈ l, x ∈ row := by
  by_cases hi : i < l.length
  · have e : l.getD i [] = l[i] := by simp [List.getD, hi]
    rw [e] at h
    exact ⟨l[i], List.getElem_mem hi, h⟩
  · have e : l.getD i [] = [] := by simp [List.getD, Nat.le_of_not_lt hi]
    rw [e] at h
    cases h
theorem row_at {α : Type} {l : List (List α)} {i : Nat} (hi : i < l.length) : l.getD i [] = l[i] := by simp [List.getD, hi]
theorem snoc_cases {α : Type} (L : List α) : L = [] ∨ ∃ K i, L = K ++ [i] := by
  rcases List.eq_nil_or_concat L with h | ⟨K, i, h⟩
  · exact .inl h
  · exact .inr ⟨K, i, by simpa using h⟩
open Classical in
/-- States of which something is true, rising. -/
noncomputable def stN (n : Nat) (P : Nat → Prop) : List Nat := (List.range n).filter (fun k => decide (P k))
noncomputable def stL (n : Nat) (P : Nat → Prop) : List Int := (stN n P).map (fun k : Nat => (k : Int))
theorem mem_stN {n : Nat} {P : Nat → Prop} {k : Nat} : k ∈ stN n P ↔ k < n ∧ P k := by unfold stN; simp
theorem mem_stL {n : Nat} {P : Nat → Prop} {x : Int} : x ∈ stL n P ↔ ∃ k : Nat, k < n ∧ P k ∧ x = k := by
  unfold stL
  rw [List.mem_map]
  constructor
  · rintro ⟨k, h, rfl⟩; exact ⟨k, (mem_stN.1 h).1, (mem_stN.1 h).2, rfl⟩
  · rintro ⟨k, h1, h2, rfl⟩; exact ⟨k, mem_stN.2 ⟨h1, h2⟩, rfl⟩
theorem stN_zero (P : Nat → Prop) : stN 0 P = [] := rfl
theorem stN_yes {n : Nat} {P : Nat → Prop} (h : P n) : stN (n + 1) P = stN n P ++ [n] := by unfold stN; rw [List.range_succ, List.filter_append]; simp [h]
theorem stN_no {n : Nat} {P : Nat → Prop} (h : ¬ P n) : stN (n + 1) P = stN n P := by unfold stN; rw [List.range_succ, List.filter_append]; simp [h]
theorem stL_zero (P : Nat → Prop) : stL 0 P = [] := rfl
theorem stL_yes {n : Nat} {P : Nat → Prop} (h : P n) : stL (n + 1) P = stL n P ++ [(n : Int)] := by unfold stL; rw [stN_yes h, List.map_append]; rfl
theorem stL_no {n : Nat} {P : Nat → Prop} (h : ¬ P n) : stL (n + 1) P = stL n P := by unfold stL; rw [stN_no h]
theorem stN_len (n : Nat) (P : Nat → Prop) : (stN n P).length ≤ n := by
  unfold stN
  have := List.length_filter_le (fun k => @decide (P k) (Classical.propDecidable _)) (List.range n)
  rw [List.length_range] at this
  exact this
theorem stL_len (n : Nat) (P : Nat → Prop) : (stL n P).length ≤ n := by unfold stL; rw [List.length_map]; exact stN_len n P
theorem stL_congr {n : Nat} {P Q : Nat → Prop} (h : ∀ k, k < n → (P k ↔ Q k)) : stL n P = stL n Q := by
  induction n with
  | zero => rfl
  | succ n ih =>
    have h1 := ih (fun k hk => h k (by omega))
    by_cases hp : P n
    · rw [stL_yes hp, stL_yes ((h n (by omega)).1 hp), h1]
    · rw [stL_no hp, stL_no (fun hq => hp ((h n (by omega)).2 hq)), h1]
theorem stL_rise (n : Nat) (P : Nat → Prop) : (stL n P).Pairwise (· < ·) := by
  induction n with
  | zero => exact List.Pairwise.nil
  | succ n ih =>
    by_cases hp : P n
    · rw [stL_yes hp, List.pairwise_append]
      refine ⟨ih, by simp, fun a ha b hb => ?_⟩
      obtain ⟨k, h1, _, rfl⟩ := mem_stL.1 ha
      simp at hb
      omega
    · rw [stL_no hp]; exact ih
theorem stL_nil {n : Nat} {P : Nat → Prop} : stL n P = [] ↔ ∀ k, k < n → ¬ P k := by
  constructor
  · intro h k hk hp
    have := mem_stL.2 ⟨k, hk, hp, rfl⟩
    rw [h] at this
    cases this
  · intro h
    refine List.eq_nil_iff_forall_not_mem.2 (fun x hx => ?_)
    obtain ⟨k, h1, h2, _⟩ := mem_stL.1 hx
    exact h k h1 h2
/-- How many are not marked. -/
noncomputable def un (n : Nat) (M : Nat → Prop) : Nat := (stN n (fun k => ¬ M k)).length
theorem un_le (n : Nat) (M : Nat → Prop) : un n M ≤ n := stN_len n _
theorem un_congr {n : Nat} {M M' : Nat → Prop} (h : ∀ k, k < n → (M k ↔ M' k)) : un n M = un n M' := by
  have := congrArg List.length (stL_congr (n := n) (P := fun k => ¬ M k) (Q := fun k => ¬ M' k) (fun k hk => not_congr (h k hk)))
  unfold stL at this
  rw [List.length_map, List.length_map] at this
  exact this
theorem un_add : ∀ (n : Nat) {M : Nat → Prop} {j : Nat}, j < n → ¬ M j → un n (fun k => M k ∨ k = j) + 1 = un n M
  | 0, M, j, h, _ => absurd h (Nat.not_lt_zero j)
  | n + 1, M, j, h, hj => by
    by_cases e : j = n
    · subst e
      have h1 : un (j + 1) (fun k => M k ∨ k = j) = un j (fun k => M k ∨ k = j) := by unfold un; rw [stN_no (by simp)]
      have h2 : un (j + 1) M = un j M + 1 := by unfold un; rw [stN_yes hj]; simp
      have h3 : un j (fun k => M k ∨ k = j) = un j M := un_congr (fun k hk => ⟨fun h => h.elim id (fun h => by omega), .inl⟩)
      omega
    · have ih := un_add n (show j < n by omega) hj
      by_cases hn : M n
      · have h1 : un (n + 1) (fun k => M k ∨ k = j) = un n (fun k => M k ∨ k = j) := by unfold un; rw [stN_no (by simp [hn])]
        have h2 : un (n + 1) M = un n M := by unfold un; rw [stN_no (by simp [hn])]
        omega
      · have h1 : un (n + 1) (fun k => M k ∨ k = j) = un n (fun k => M k ∨ k = j) + 1 := by unfold un; rw [stN_yes (by simp [hn]; omega)]; simp
        have h2 : un (n + 1) M = un n M + 1 := by unfold un; rw [stN_yes hn]; simp
        omega
theorem un_lt {n : Nat} {M M' : Nat → Prop} {j : Nat} (hs : ∀ k, M k → M' k) (hj : j < n) (h1 : ¬ M j) (h2 : M' j) : un n M' < un n M := by
  have h3 : ∀ (n : Nat) (A B : Nat → Prop), (∀ k, A k → B k) → un n B ≤ un n A := by
    intro n A B h
    induction n with
    | zero => exact Nat.le_refl _
    | succ n ih =>
      by_cases hb : B n
      · have e : un (n + 1) B = un n B := by unfold un; rw [stN_no (by simp [hb])]
        have : un n A ≤ un (n + 1) A := by
          by_cases ha : A n
          · have e : un (n + 1) A = un n A := by unfold un; rw [stN_no (by simp [ha])]
            omega
          · have e : un (n + 1) A = un n A + 1 := by unfold un; rw [stN_yes ha]; simp
            omega
        omega
      · have e : un (n + 1) B = un n B + 1 := by unfold un; rw [stN_yes hb]; simp
        have e2 : un (n + 1) A = un n A + 1 := by unfold un; rw [stN_yes (fun ha => hb (h n ha))]; simp
        omega
  have h4 := un_add n hj h1
  have h5 := h3 n (fun k => M k ∨ k = j) M' (fun k hk => hk.elim (hs k) (fun e => e ▸ h2))
  omega
/-- What is gathered so far, and what is left to be looked at; i is being looked at. -/
structure Wk (m : Mc) (P M : Nat → Prop) (L : List Nat) : Prop where
  sub : ∀ k, P k → M k
  cl : ∀ k, M k → Cl m P k
  inL : ∀ k ∈ L, M k
  done : ∀ i, M i → i ∉ L → ∀ k : Nat, (k : Int) ∈ m.fr.getD i [] → M k
/-- i has been taken away from what is left; r of its ways were gone. -/
structure Wk1 (m : Mc) (P M : Nat → Prop) (L : List Nat) (i r : Nat) : Prop where
  sub : ∀ k, P k → M k
  cl : ∀ k, M k → Cl m P k
  inL : ∀ k ∈ L, M k
  at_ : M i
  part : ∀ k : Nat, (k : Int) ∈ (m.fr.getD i []).take r → M k
  done : ∀ x, M x → x ∉ L → x ≠ i → ∀ k : Nat, (k : Int) ∈ m.fr.getD x [] → M k
theorem Wk.begin (m : Mc) (P : Nat → Prop) (L : List Nat) (h : ∀ k, P k ↔ k ∈ L) : Wk m P P L :=
  ⟨fun _ h => h, fun k h => .base k h, fun k hk => (h k).2 hk, fun i hi hn => absurd ((h i).1 hi) hn⟩
theorem Wk.take {m : Mc} {P M : Nat → Prop} {L : List Nat} {i : Nat} (h : Wk m P M (L ++ [i])) : Wk1 m P M L i 0 :=
  ⟨h.sub, h.cl, fun k hk => h.inL k (by simp [hk]), h.inL i (by simp), fun k hk => by simp at hk, fun x hx hn hi => h.done x hx (by simp [hn, hi])⟩
theorem Wk1.skip {m : Mc} {P M : Nat → Prop} {L : List Nat} {i r k : Nat} (h : Wk1 m P M L i r) (hr : r < (m.fr.getD i []).length) (hk : (m.fr.getD i [])[r] = (k : Int)) (hM : M k) : Wk1 m P M L i (r + 1) :=
  ⟨h.sub, h.cl, h.inL, h.at_, fun x hx => by
    rw [List.take_succ_eq_append_getElem hr, List.mem_append] at hx
    rcases hx with hx | hx
    · exact h.part x hx
    · rw [hk] at hx
      simp at hx
      obtain rfl : x = k := by omega
      exact hM, h.done⟩
theorem Wk1.add {m : Mc} {P M : Nat → Prop} {L : List Nat} {i r k : Nat} (h : Wk1 m P M L i r) (hr : r < (m.fr.getD i []).length) (hk : (m.fr.getD i [])[r] = (k : Int)) : Wk1 m P (fun x => M x ∨ x = k) (L ++ [k]) i (r + 1) :=
  ⟨fun x hx => .inl (h.sub x hx), fun x hx => hx.elim (h.cl x) (fun e => e ▸ .step i k (h.cl i h.at_) (hk ▸ List.getElem_mem hr)), fun x hx => by
    rcases List.mem_append.1 hx with hx | hx
    · exact .inl (h.inL x hx)
    · exact .inr (by simpa using hx), .inl h.at_, fun x hx => by
    rw [List.take_succ_eq_append_getElem hr, List.mem_append] at hx
    rcases hx with hx | hx
    · exact .inl (h.part x hx)
    · rw [hk] at hx
      simp at hx
      exact .inr (by omega), fun x hx hn hi y hy => by
    have hn' : x ∉ L ∧ x ≠ k := by simpa using hn
    exact .inl (h.done x (hx.elim id (fun e => absurd e hn'.2)) hn'.1 hi y hy)⟩
theorem Wk1.last {m : Mc} {P M : Nat → Prop} {L : List Nat} {i r : Nat} (h : Wk1 m P M L i r) (hr : r = (m.fr.getD i []).length) : Wk m P M L :=
  ⟨h.sub, h.cl, h.inL, fun x hx hn y hy => by
    by_cases e : x = i
    · subst e
      exact h.part y (by rw [hr, List.take_length]; exact hy)
    · exact h.done x hx hn e y hy⟩
theorem Wk.fin {m : Mc} {P M : Nat → Prop} (h : Wk m P M []) (k : Nat) : M k ↔ Cl m P k := by
  refine ⟨h.cl k, fun hk => ?_⟩
  induction hk with
  | base k hp => exact h.sub k hp
  | step i k _ hm ih => exact h.done i ih (by simp) k hm
/-- The document's way: rounds till nothing more is gathered. -/
structure Rd (m : Mc) (P M0 M : Nat → Prop) (more : Bool) (i r : Nat) : Prop where
  sub : ∀ k, P k → M k
  cl : ∀ k, M k → Cl m P k
  up : ∀ k, M0 k → M k
  no : more = false → ∀ k, M k → M0 k
  done : more = false → ∀ x, x < i → M x → ∀ k : Nat, (k : Int) ∈ m.fr.getD x [] → M k
  part : more = false → M i → ∀ k : Nat, (k : Int) ∈ (m.fr.getD i []).take r → M k
  yes : more = true → ∃ j, j < m.fr.length ∧ ¬ M0 j ∧ M j
theorem Rd.begin {m : Mc} {P M : Nat → Prop} (h1 : ∀ k, P k → M k) (h2 : ∀ k, M k → Cl m P k) : Rd m P M M false 0 0 :=
  ⟨h1, h2, fun _ h => h, fun _ _ h => h, fun _ x h => absurd h (Nat.not_lt_zero x), fun _ _ k hk => by simp at hk, fun h => by cases h⟩
theorem Rd.skip {m : Mc} {P M0 M : Nat → Prop} {more : Bool} {i r k : Nat} (h : Rd m P M0 M more i r) (hr : r < (m.fr.getD i []).length) (hk : (m.fr.getD i [])[r] = (k : Int)) (hM : M k) : Rd m P M0 M more i (r + 1) :=
  ⟨h.sub, h.cl, h.up, h.no, h.done, fun hm hi x hx => by
    rw [List.take_succ_eq_append_getElem hr, List.mem_append] at hx
    rcases hx with hx | hx
    · exact h.part hm hi x hx
    · rw [hk] at hx
      simp at hx
      obtain rfl : x = k := by omega
      exact hM, h.yes⟩
theorem Rd.add {m : Mc} {P M0 M : Nat → Prop} {more : Bool} {i r k : Nat} (h : Rd m P M0 M more i r) (hr : r < (m.fr.getD i []).length) (hk : (m.fr.getD i [])[r] = (k : Int)) (hi : M i) (hn : ¬ M k) (hlt : k < m.fr.length) : Rd m P M0 (fun x => M x ∨ x = k) true i (r + 1) :=
  ⟨fun x hx => .inl (h.sub x hx), fun x hx => hx.elim (h.cl x) (fun e => e ▸ .step i k (h.cl i hi) (hk ▸ List.getElem_mem hr)), fun x hx => .inl (h.up x hx), (fun e => by cases e), (fun e => by cases e), (fun e => by cases e), fun _ => ⟨k, hlt, fun h0 => hn (h.up k h0), .inr rfl⟩⟩
theorem Rd.row {m : Mc} {P M0 M : Nat → Prop} {more : Bool} {i r : Nat} (h : Rd m P M0 M more i r) (hr : M i → r = (m.fr.getD i []).length) : Rd m P M0 M more (i + 1) 0 :=
  ⟨h.sub, h.cl, h.up, h.no, fun hm x hx hMx k hk => by
    by_cases e : x = i
    · subst e
      exact h.part hm hMx k (by rw [hr hMx, List.take_length]; exact hk)
    · exact h.done hm x (by omega) hMx k hk, fun _ _ k hk => by simp at hk, h.yes⟩
theorem Rd.fin {m : Mc} {P M0 M : Nat → Prop} {n : Nat} (h : Rd m P M0 M false n 0) (hn : ∀ k, M k → k < n) (k : Nat) : M k ↔ Cl m P k := by
  refine ⟨h.cl k, fun hk => ?_⟩
  induction hk with
  | base k hp => exact h.sub k hp
  | step i k _ hm ih => exact h.done rfl i (hn i ih) ih k hm
/-! One step, what one comes to. -/
/-- Where one is by a scalar more, ahead of free ways. -/
def Mv (m : Mc) (P : Nat → Prop) (r : Int) (k : Nat) : Prop := ∃ i, P i ∧ ∃ e ∈ m.ed.getD i [], e.1 = (k : Int) ∧ Tells e.2 r
/-- States of a list of numbers. -/
def Inn (n : Nat) (l : List Int) (k : Nat) : Prop := k < n ∧ (k : Int) ∈ l
/-- Start. -/
noncomputable def startF (m : Mc) : List Int := stL m.len (Cl m (· = 0))
/-- Step. -/
noncomputable def stepF (m : Mc) (at_ : List Int) (r : Int) : List Int := stL m.len (Cl m (Mv m (Inn m.len at_) r))
/-- Tags: all that those of the states are, from 0 on. -/
def TgP (m : Mc) (at_ : List Int) (t : Int) : Prop := 0 ≤ t ∧ ∃ k, Inn m.len at_ k ∧ m.tg.getD k (-1) = t
theorem rise_uniq : ∀ (a b : List Int), a.Pairwise (· < ·) → b.Pairwise (· < ·) → (∀ x, x ∈ a ↔ x ∈ b) → a = b
  | [], [], _, _, _ => rfl
  | [], y :: t, _, _, h => absurd ((h y).2 (by simp)) (by simp)
  | x :: s, [], _, _, h => absurd ((h x).1 (by simp)) (by simp)
  | x :: s, y :: t, ha, hb, h => by
    rw [List.pairwise_cons] at ha hb
    have e : x = y := by
      rcases List.mem_cons.1 ((h x).1 (by simp)) with h1 | h1
      · exact h1
      · rcases List.mem_cons.1 ((h y).2 (by simp)) with h2 | h2
        · exact h2.symm
        · have h3 := ha.1 y h2
          have h4 := hb.1 x h1
          omega
    subst e
    congr 1
    refine rise_uniq s t ha.2 hb.2 (fun z => ?_)
    constructor
    · intro hz
      rcases List.mem_cons.1 ((h z).1 (by simp [hz])) with h1 | h1
      · subst h1; have := ha.1 z hz; omega
      · exact h1
    · intro hz
      rcases List.mem_cons.1 ((h z).2 (by simp [hz])) with h1 | h1
      · subst h1; have := hb.1 z hz; omega
      · exact h1
/-- A row of tags. -/
structure IsTags (m : Mc) (at_ l : List Int) : Prop where
  rise : l.Pairwise (· < ·)
  mem : ∀ t, t ∈ l ↔ TgP m at_ t
theorem IsTags.unique {m : Mc} {at_ l l' : List Int} (h : IsTags m at_ l) (h' : IsTags m at_ l') : l = l' := rise_uniq l l' h.rise h'.rise (fun t => (h.mem t).trans (h'.mem t).symm)
end SimM
