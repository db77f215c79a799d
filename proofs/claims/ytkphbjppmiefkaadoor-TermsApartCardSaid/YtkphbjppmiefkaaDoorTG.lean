/- Plain mathematics: what is gathered by words are the parts. Nothing of a program stands here. -/
import Derived.Test.YtkphbjppmiefkaaDoorTP
namespace TermsM
open SetM
/-- The runs below i that have a word. -/
def rOf (e ws : List Int) (i : Nat) (w : Int) : List Sp := ((List.range i).filter (fun j => decide (ws.getD j 0 = w))).map (fun j => (e.getD j 0, e.getD (j + 1) 0 - 1))
theorem rOf_succ (e ws : List Int) (i : Nat) (w : Int) : rOf e ws (i + 1) w = if ws.getD i 0 = w then rOf e ws i w ++ [(e.getD i 0, e.getD (i + 1) 0 - 1)] else rOf e ws i w := by
  unfold rOf
  rw [List.range_succ, List.filter_append, List.map_append]
  by_cases h : ws.getD i 0 = w
  · rw [if_pos h, List.filter_cons_of_pos (by simpa using h)]; rfl
  · rw [if_neg h, List.filter_cons_of_neg (by simpa using h)]; simp
theorem mem_rOf {e ws : List Int} {i : Nat} {w : Int} {u : Sp} : u ∈ rOf e ws i w ↔ ∃ j, j < i ∧ ws.getD j 0 = w ∧ u = (e.getD j 0, e.getD (j + 1) 0 - 1) := by
  unfold rOf
  simp only [List.mem_map, List.mem_filter, List.mem_range, decide_eq_true_eq]
  constructor
  · rintro ⟨j, ⟨h1, h2⟩, rfl⟩; exact ⟨j, h1, h2, rfl⟩
  · rintro ⟨j, h1, h2, rfl⟩; exact ⟨j, ⟨h1, h2⟩, rfl⟩
/-- While runs are gathered. -/
structure Gt (e ws : List Int) (i : Nat) (p : List (List Sp)) (kn : Int → Option Nat) : Prop where
  lt : ∀ w k, kn w = some k → k < p.length ∧ w ≠ 0
  row : ∀ w k, kn w = some k → p[k]? = some (rOf e ws i w)
  inj : ∀ w w' k, kn w = some k → kn w' = some k → w = w'
  onto : ∀ k, k < p.length → ∃ w, kn w = some k
  has : ∀ j, j < i → ws.getD j 0 ≠ 0 → ∃ k, kn (ws.getD j 0) = some k
  ne : ∀ w k, kn w = some k → rOf e ws i w ≠ []
  up : p.Pairwise (fun x y => lo x < lo y)
theorem Gt.start {e ws : List Int} : Gt e ws 0 [] (fun _ => none) :=
  ⟨fun _ _ h => (by cases h), fun _ _ h => (by cases h), fun _ _ _ h => (by cases h), fun k h => absurd h (Nat.not_lt_zero _), fun j h => absurd h (Nat.not_lt_zero _), fun _ _ h => (by cases h), List.Pairwise.nil⟩
theorem Gt.skip {e ws : List Int} {i : Nat} {p : List (List Sp)} {kn : Int → Option Nat} (h : Gt e ws i p kn) (hz : ws.getD i 0 = 0) : Gt e ws (i + 1) p kn := by
  have hr : ∀ w k, kn w = some k → rOf e ws (i + 1) w = rOf e ws i w := fun w k hk => by
    rw [rOf_succ, if_neg (fun h1 => (h.lt w k hk).2 (by rw [← h1]; exact hz))]
  refine ⟨h.lt, fun w k hk => ?_, h.inj, h.onto, fun j hj hne => ?_, fun w k hk => ?_, h.up⟩
  · rw [hr w k hk]; exact h.row w k hk
  · rcases Nat.lt_or_ge j i with h1 | h1
    · exact h.has j h1 hne
    · obtain rfl : j = i := by omega
      exact absurd hz hne
  · rw [hr w k hk]; exact h.ne w k hk
theorem lo_append {x : List Sp} (hx : x ≠ []) (y : List Sp) : lo (x ++ y) = lo x := by
  cases x with
  | nil => exact absurd rfl hx
  | cons a t => rfl
theorem Gt.old {e ws : List Int} {i : Nat} {p : List (List Sp)} {kn : Int → Option Nat} (h : Gt e ws i p kn) {k : Nat} (hk : kn (ws.getD i 0) = some k) : Gt e ws (i + 1) (p.set k (p.getD k [] ++ [(e.getD i 0, e.getD (i + 1) 0 - 1)])) kn := by
  have hlt := (h.lt _ _ hk).1
  have hrow := h.row _ _ hk
  have hrow' : p.getD k [] = rOf e ws i (ws.getD i 0) := by rw [List.getD_eq_getElem?_getD, hrow]; rfl
  refine ⟨fun w k' hk' => ?_, fun w k' hk' => ?_, h.inj, fun k' hk' => ?_, fun j hj hne => ?_, fun w k' hk' => ?_, ?_⟩
  · rw [List.length_set]; exact h.lt w k' hk'
  · rw [rOf_succ]
    by_cases e1 : ws.getD i 0 = w
    · subst e1
      obtain rfl : k = k' := by rw [hk] at hk'; exact Option.some.inj hk'
      rw [if_pos rfl, List.getElem?_set_self hlt, hrow']
    · rw [if_neg e1, List.getElem?_set_ne (fun e2 => e1 (h.inj _ _ _ hk (by rw [e2]; exact hk')))]
      exact h.row w k' hk'
  · rw [List.length_set] at hk'; exact h.onto k' hk'
  · rcases Nat.lt_or_ge j i with h1 | h1
    · exact h.has j h1 hne
    · obtain rfl : j = i := by omega
      exact ⟨k, hk⟩
  · rw [rOf_succ]
    split
    · simp
    · exact h.ne w k' hk'
  · rw [List.pairwise_iff_getElem]
    have hlo : ∀ a (ha : a < p.length) (ha' : a < (p.set k (p.getD k [] ++ [(e.getD i 0, e.getD (i + 1) 0 - 1)])).length), lo ((p.set k (p.getD k [] ++ [(e.getD i 0, e.getD (i + 1) 0 - 1)]))[a]) = lo p[a] := fun a ha ha' => by
      by_cases e1 : k = a
      · subst e1
        rw [List.getElem_set_self, List.getD_eq_getElem?_getD, List.getElem?_eq_getElem ha, Option.getD_some, lo_append]
        have h4 : p[k]? = some p[k] := List.getElem?_eq_getElem ha
        rw [hrow] at h4
        rw [← Option.some.inj h4]
        exact h.ne _ _ hk
      · rw [List.getElem_set_ne e1]
    intro a b ha hb hab
    rw [List.length_set] at ha hb
    rw [hlo a ha, hlo b hb]
    exact List.pairwise_iff_getElem.1 h.up a b ha hb hab
theorem Gt.new {e ws : List Int} {i : Nat} {p : List (List Sp)} {kn : Int → Option Nat} (h : Gt e ws i p kn) (hne : ws.getD i 0 ≠ 0) (hk : kn (ws.getD i 0) = none) (he : ∀ j, j < i → e.getD j 0 < e.getD i 0) :
    Gt e ws (i + 1) (p ++ [[(e.getD i 0, e.getD (i + 1) 0 - 1)]]) (fun w => if w = ws.getD i 0 then some p.length else kn w) := by
  have h0 : rOf e ws i (ws.getD i 0) = [] := by
    rw [List.eq_nil_iff_forall_not_mem]
    intro u hu
    obtain ⟨j, h1, h2, _⟩ := mem_rOf.1 hu
    obtain ⟨k, h3⟩ := h.has j h1 (by rw [h2]; exact hne)
    rw [h2, hk] at h3
    cases h3
  refine ⟨fun w k h1 => ?_, fun w k h1 => ?_, fun w w' k h1 h2 => ?_, fun k h1 => ?_, fun j hj h1 => ?_, fun w k h1 => ?_, ?_⟩
  · by_cases e1 : w = ws.getD i 0
    · rw [if_pos e1] at h1; cases h1
      rw [e1]
      exact ⟨by simp, hne⟩
    · rw [if_neg e1] at h1
      have := h.lt w k h1
      exact ⟨by simp; omega, this.2⟩
  · rw [rOf_succ]
    by_cases e1 : w = ws.getD i 0
    · rw [if_pos e1] at h1; cases h1
      rw [if_pos e1.symm, e1, h0]
      simp
    · rw [if_neg e1] at h1
      rw [if_neg (fun e2 => e1 e2.symm), List.getElem?_append_left (h.lt w k h1).1]
      exact h.row w k h1
  · by_cases e1 : w = ws.getD i 0 <;> by_cases e2 : w' = ws.getD i 0
    · rw [e1, e2]
    · rw [if_pos e1] at h1; rw [if_neg e2] at h2; cases h1
      have := (h.lt _ _ h2).1; omega
    · rw [if_neg e1] at h1; rw [if_pos e2] at h2; cases h2
      have := (h.lt _ _ h1).1; omega
    · rw [if_neg e1] at h1; rw [if_neg e2] at h2
      exact h.inj w w' k h1 h2
  · rcases Nat.lt_or_ge k p.length with h2 | h2
    · obtain ⟨w, h3⟩ := h.onto k h2
      exact ⟨w, by rw [if_neg (fun e1 => by rw [e1, hk] at h3; cases h3)]; exact h3⟩
    · have : k = p.length := by simp at h1; omega
      exact ⟨_, by rw [if_pos rfl, this]⟩
  · by_cases e1 : ws.getD j 0 = ws.getD i 0
    · exact ⟨_, by rw [if_pos e1]⟩
    · have hj' : j < i := by
        rcases Nat.lt_or_ge j i with h2 | h2
        · exact h2
        · obtain rfl : j = i := by omega
          exact absurd rfl e1
      obtain ⟨k, h2⟩ := h.has j hj' h1
      exact ⟨k, by rw [if_neg e1]; exact h2⟩
  · rw [rOf_succ]
    by_cases e1 : w = ws.getD i 0
    · rw [if_pos e1.symm]; simp
    · rw [if_neg e1] at h1
      rw [if_neg (fun e2 => e1 e2.symm)]; exact h.ne w k h1
  · rw [List.pairwise_append]
    refine ⟨h.up, by simp, fun x hx y hy => ?_⟩
    rw [List.mem_singleton.1 hy]
    obtain ⟨k, hk', rfl⟩ := List.mem_iff_getElem.1 hx
    obtain ⟨w, h3⟩ := h.onto k hk'
    have h4 : p[k]? = some p[k] := List.getElem?_eq_getElem hk'
    rw [h.row w k h3] at h4
    have h5 := Option.some.inj h4
    have h6 := h.ne w k h3
    rw [h5] at h6
    show lo p[k] < e.getD i 0
    cases h7 : p[k] with
    | nil => exact absurd h7 h6
    | cons u t =>
      have : u ∈ rOf e ws i w := by rw [h5, h7]; simp
      obtain ⟨j, h8, _, h9⟩ := mem_rOf.1 this
      show u.1 < _
      rw [h9]
      exact he j h8
/-- Where a number lies amid rising ones. -/
theorem place_of {e : List Int} : ∀ (n : Nat), n ≤ e.length → ∀ (r : Int), (0 < n → e.getD 0 0 ≤ r) → 0 < n → ∃ j, j < n ∧ e.getD j 0 ≤ r ∧ (j + 1 < n → r < e.getD (j + 1) 0)
  | 0, _, _, _, h => absurd h (Nat.lt_irrefl _)
  | 1, _, r, h, _ => ⟨0, by omega, h (by omega), fun h => by omega⟩
  | n + 2, hn, r, h, _ => by
    obtain ⟨j, h1, h2, h3⟩ := place_of (n + 1) (by omega) r (fun _ => h (by omega)) (by omega)
    rcases Int.lt_or_le r (e.getD (j + 1) 0) with h4 | h4
    · exact ⟨j, by omega, h2, fun _ => h4⟩
    · rcases Nat.lt_or_ge (j + 1) (n + 1) with h5 | h5
      · have := h3 h5; omega
      · exact ⟨j + 1, by omega, h4, fun h => by omega⟩
/-- What the program's way comes to: the sets made normal, the numbers at which they begin or have ended, their words. -/
structure Way (l ss : List (List Sp)) (e ws : List Int) (last : Int) : Prop where
  to : ∀ s ∈ l, ∃ n ∈ ss, ∀ r, Mem n r ↔ Tells s r
  from_ : ∀ n ∈ ss, Nf n ∧ ∃ s ∈ l, ∀ r, Mem n r ↔ Tells s r
  up : e.Pairwise (· < ·)
  ends : ∀ x, x ∈ e ↔ ∃ s ∈ ss, Tog s x
  wd : Wd ss e ws last
theorem up_getD {e : List Int} (h : e.Pairwise (· < ·)) {i j : Nat} (hij : i < j) (hj : j < e.length) : e.getD i 0 < e.getD j 0 := by
  rw [List.getD_eq_getElem?_getD, List.getD_eq_getElem?_getD, List.getElem?_eq_getElem hj, List.getElem?_eq_getElem (show i < e.length by omega)]
  exact List.pairwise_iff_getElem.1 h i j (by omega) hj hij
theorem up_le {e : List Int} (h : e.Pairwise (· < ·)) {i j : Nat} (hij : i ≤ j) (hj : j < e.length) : e.getD i 0 ≤ e.getD j 0 := by
  rcases Nat.lt_or_ge i j with h1 | h1
  · exact Int.le_of_lt (up_getD h h1 hj)
  · obtain rfl : i = j := by omega
    exact Int.le_refl _
theorem getD_mem {e : List Int} {i : Nat} (h : i < e.length) : e.getD i 0 ∈ e := by
  rw [List.getD_eq_getElem?_getD, List.getElem?_eq_getElem h]; exact List.getElem_mem h
theorem of_mem {e : List Int} {x : Int} (h : x ∈ e) : ∃ i, i < e.length ∧ e.getD i 0 = x := by
  obtain ⟨i, hi, rfl⟩ := List.mem_iff_getElem.1 h
  exact ⟨i, hi, by rw [List.getD_eq_getElem?_getD, List.getElem?_eq_getElem hi]; rfl⟩
/-- Amid two that follow one another lies none. -/
theorem no_between {e : List Int} (h : e.Pairwise (· < ·)) {j : Nat} {x : Int} (hj : j < e.length) (h1 : e.getD j 0 < x) (h2 : j + 1 < e.length → x < e.getD (j + 1) 0) : x ∉ e := by
  intro hx
  obtain ⟨i, hi, rfl⟩ := of_mem hx
  rcases Nat.lt_or_ge j i with h3 | h3
  · have h4 := up_le h (show j + 1 ≤ i by omega) hi
    have := h2 (by omega)
    omega
  · have := up_le h h3 hj; omega
theorem Way.last {l ss : List (List Sp)} {e ws : List Int} {last : Int} (h : Way l ss e ws last) {i : Nat} (hi : i < e.length) (hl : e.length ≤ i + 1) : ws.getD i 0 = 0 := by
  have hlen := h.wd.len
  have h1 := (h.wd.non i (by omega) hi).2 (fun s hs => mem_behind (fun x hx ht => no_between h.up (j := i) (x := x) hi (by
    rw [List.getD_eq_getElem?_getD, List.getElem?_eq_getElem hi]; exact hx) (fun h2 => by omega) ((h.ends x).2 ⟨s, hs, ht⟩)))
  rw [List.getD_eq_getElem?_getD, List.getElem?_eq_getElem (show i < ws.length by omega)]
  exact h1
/-- In a run all are in the same sets as the first. -/
theorem Way.run {l ss : List (List Sp)} {e ws : List Int} {last : Int} (h : Way l ss e ws last) {i : Nat} (hi : i < e.length) {r : Int} (h1 : e.getD i 0 ≤ r) (h2 : i + 1 < e.length → r < e.getD (i + 1) 0) : ∀ s ∈ ss, (Mem s (e.getD i 0) ↔ Mem s r) := fun s hs =>
  mem_same h1 (fun x h3 h4 ht => no_between h.up (j := i) (x := x) hi h3 (fun h5 => by have := h2 h5; omega) ((h.ends x).2 ⟨s, hs, ht⟩))
theorem Way.non {l ss : List (List Sp)} {e ws : List Int} {last : Int} (h : Way l ss e ws last) {i : Nat} (hi : i < e.length) : ws.getD i 0 = 0 ↔ ∀ s ∈ ss, ¬ Mem s (e.getD i 0) := by
  have hlen := h.wd.len
  have := h.wd.non i (by omega) hi
  rw [List.getD_eq_getElem?_getD, List.getElem?_eq_getElem (show i < ws.length by omega), List.getD_eq_getElem?_getD, List.getElem?_eq_getElem hi]
  exact this
theorem Way.sam {l ss : List (List Sp)} {e ws : List Int} {last : Int} (h : Way l ss e ws last) {i j : Nat} (hi : i < e.length) (hj : j < e.length) : ws.getD i 0 = ws.getD j 0 ↔ ∀ s ∈ ss, (Mem s (e.getD i 0) ↔ Mem s (e.getD j 0)) := by
  have hlen := h.wd.len
  have := h.wd.sam i j (by omega) (by omega) hi hj
  simp only [List.getD_eq_getElem?_getD, List.getElem?_eq_getElem (show i < ws.length by omega), List.getElem?_eq_getElem (show j < ws.length by omega), List.getElem?_eq_getElem hi, List.getElem?_eq_getElem hj, Option.getD_some]
  exact this
/-- What is in a set lies in a run. -/
theorem Way.find {l ss : List (List Sp)} {e ws : List Int} {last : Int} (h : Way l ss e ws last) {s : List Sp} (hs : s ∈ ss) {r : Int} (hr : Mem s r) : ∃ j, j + 1 < e.length ∧ e.getD j 0 ≤ r ∧ r < e.getD (j + 1) 0 ∧ ws.getD j 0 ≠ 0 := by
  obtain ⟨u, hu, h1, h2⟩ := id hr
  have hb := (h.ends u.1).2 ⟨s, hs, u, hu, .inl rfl⟩
  obtain ⟨b, hb1, hb2⟩ := of_mem hb
  obtain ⟨j, h3, h4, h5⟩ := place_of e.length (Nat.le_refl _) r (fun _ => by have := up_le h.up (Nat.zero_le b) hb1; omega) (by omega)
  have hne : ws.getD j 0 ≠ 0 := fun h6 => (h.non h3).1 h6 s hs ((h.run h3 h4 h5 s hs).2 hr)
  have hj : j + 1 < e.length := by
    rcases Nat.lt_or_ge (j + 1) e.length with h6 | h6
    · exact h6
    · exact absurd (h.last h3 h6) hne
  exact ⟨j, hj, h4, h5 hj, hne⟩
theorem Way.al {l ss : List (List Sp)} {e ws : List Int} {last : Int} (h : Way l ss e ws last) (r r' : Int) : Al l r r' ↔ ∀ s ∈ ss, (Mem s r ↔ Mem s r') := by
  constructor
  · intro h1 n hn
    obtain ⟨_, s, hs, hm⟩ := h.from_ n hn
    rw [hm, hm]; exact h1 s hs
  · intro h1 s hs
    obtain ⟨n, hn, hm⟩ := h.to s hs
    rw [← hm, ← hm]; exact h1 n hn
theorem Way.an {l ss : List (List Sp)} {e ws : List Int} {last : Int} (h : Way l ss e ws last) (r : Int) : An l r ↔ ∃ s ∈ ss, Mem s r := by
  constructor
  · rintro ⟨s, hs, ht⟩
    obtain ⟨n, hn, hm⟩ := h.to s hs
    exact ⟨n, hn, (hm r).2 ht⟩
  · rintro ⟨n, hn, ht⟩
    obtain ⟨_, s, hs, hm⟩ := h.from_ n hn
    exact ⟨s, hs, (hm r).1 ht⟩
theorem nf_of : ∀ {x : List Sp}, (∀ u ∈ x, u.1 ≤ u.2) → x.Pairwise (fun u v => u.2 + 1 < v.1) → Nf x
  | [], _, _ => trivial
  | u :: t, h1, h2 => ⟨h1 u (by simp), (List.pairwise_cons.1 h2).1, nf_of (fun v hv => h1 v (by simp [hv])) (List.pairwise_cons.1 h2).2⟩
/-- A word's runs, when all are gathered. -/
theorem Way.nf {l ss : List (List Sp)} {e ws : List Int} {last : Int} (h : Way l ss e ws last) {w : Int} (hw : w ≠ 0) : Nf (rOf e ws e.length w) := by
  have hin : ∀ j, j < e.length → ws.getD j 0 = w → j + 1 < e.length := fun j h1 h2 => by
    rcases Nat.lt_or_ge (j + 1) e.length with h3 | h3
    · exact h3
    · exact absurd (h2 ▸ h.last h1 h3) hw
  refine nf_of (fun u hu => ?_) ?_
  · obtain ⟨j, h1, h2, rfl⟩ := mem_rOf.1 hu
    have := up_getD h.up (show j < j + 1 by omega) (hin j h1 h2)
    show e.getD j 0 ≤ e.getD (j + 1) 0 - 1
    omega
  · unfold rOf
    rw [List.pairwise_map]
    have hp : ((List.range e.length).filter (fun j => decide (ws.getD j 0 = w))).Pairwise (· < ·) := List.Pairwise.filter _ List.pairwise_lt_range
    refine hp.imp_of_mem ?_
    intro a b ha hb hab
    simp only [List.mem_filter, List.mem_range, decide_eq_true_eq] at ha hb
    show e.getD (a + 1) 0 - 1 + 1 < e.getD b 0
    rcases Nat.lt_or_ge (a + 1) b with h1 | h1
    · have := up_getD h.up h1 hb.1; omega
    · obtain rfl : b = a + 1 := by omega
      exfalso
      obtain ⟨s, hs, ht⟩ := (h.ends _).1 (getD_mem hb.1)
      have h3 := (h.sam ha.1 hb.1).1 (ha.2.trans hb.2.symm) s hs
      have h4 := mem_flip (nf_apt (h.from_ s hs).1) (up_getD h.up hab hb.1) ht (fun x h5 h6 h7 => no_between h.up (j := a) (x := x) ha.1 h5 (fun _ => h6) ((h.ends x).2 ⟨s, hs, h7⟩))
      rw [← h3] at h4
      exact absurd h4 (by by_cases h8 : Mem s (e.getD a 0) <;> simp [h8])
theorem Way.parts {l ss : List (List Sp)} {e ws : List Int} {last : Int} (h : Way l ss e ws last) {p : List (List Sp)} {kn : Int → Option Nat} (hg : Gt e ws e.length p kn) : PartsOf l p := by
  -- a part is a word's runs
  have hrow : ∀ x ∈ p, ∃ w k, kn w = some k ∧ p[k]? = some x ∧ w ≠ 0 ∧ x = rOf e ws e.length w := fun x hx => by
    obtain ⟨k, hk, rfl⟩ := List.mem_iff_getElem.1 hx
    obtain ⟨w, hw⟩ := hg.onto k hk
    have h4 : p[k]? = some p[k] := List.getElem?_eq_getElem hk
    refine ⟨w, k, hw, h4, (hg.lt w k hw).2, ?_⟩
    rw [hg.row w k hw] at h4
    exact (Option.some.inj h4).symm
  have hmem : ∀ w r, w ≠ 0 → (Mem (rOf e ws e.length w) r ↔ ∃ j, j + 1 < e.length ∧ ws.getD j 0 = w ∧ e.getD j 0 ≤ r ∧ r < e.getD (j + 1) 0) := fun w r hw => by
    constructor
    · rintro ⟨u, hu, h1, h2⟩
      obtain ⟨j, h3, h4, rfl⟩ := mem_rOf.1 hu
      have h5 : j + 1 < e.length := by
        rcases Nat.lt_or_ge (j + 1) e.length with h6 | h6
        · exact h6
        · exact absurd (h4 ▸ h.last h3 h6) hw
      have h2 : r ≤ e.getD (j + 1) 0 - 1 := h2
      exact ⟨j, h5, h4, h1, by omega⟩
    · rintro ⟨j, h1, h2, h3, h4⟩
      exact ⟨_, mem_rOf.2 ⟨j, by omega, h2, rfl⟩, h3, by show r ≤ e.getD (j + 1) 0 - 1; omega⟩
  have huniq : ∀ r i j, i + 1 < e.length → j + 1 < e.length → e.getD i 0 ≤ r → r < e.getD (i + 1) 0 → e.getD j 0 ≤ r → r < e.getD (j + 1) 0 → i = j := fun r i j h1 h2 h3 h4 h5 h6 => by
    rcases Nat.lt_trichotomy i j with h7 | h7 | h7
    · have := up_le h.up (show i + 1 ≤ j by omega) (by omega); omega
    · exact h7
    · have := up_le h.up (show j + 1 ≤ i by omega) (by omega); omega
  have hfind : ∀ r, An l r → ∃ j, j + 1 < e.length ∧ e.getD j 0 ≤ r ∧ r < e.getD (j + 1) 0 ∧ ws.getD j 0 ≠ 0 := fun r hr => by
    obtain ⟨s, hs, hm⟩ := (h.an r).1 hr
    exact h.find hs hm
  refine ⟨⟨fun x hx => ?_, fun x hx r r' hr hr' => ?_, fun x hx r r' hr hr' ha => ?_, fun r => ?_, ?_⟩, hg.up⟩
  · obtain ⟨w, k, h1, h2, h3, rfl⟩ := hrow x hx
    exact ⟨h.nf h3, hg.ne w k h1⟩
  · obtain ⟨w, k, h1, h2, h3, rfl⟩ := hrow x hx
    obtain ⟨i, i1, i2, i3, i4⟩ := (hmem w r h3).1 hr
    obtain ⟨j, j1, j2, j3, j4⟩ := (hmem w r' h3).1 hr'
    rw [h.al]
    intro s hs
    rw [← h.run (by omega) i3 (fun _ => i4) s hs, ← h.run (by omega) j3 (fun _ => j4) s hs]
    exact (h.sam (by omega) (by omega)).1 (i2.trans j2.symm) s hs
  · obtain ⟨w, k, h1, h2, h3, rfl⟩ := hrow x hx
    obtain ⟨i, i1, i2, i3, i4⟩ := (hmem w r h3).1 hr
    obtain ⟨j, j1, j3, j4, j5⟩ := hfind r' hr'
    refine (hmem w r' h3).2 ⟨j, j1, ?_, j3, j4⟩
    rw [← i2]
    refine (h.sam (by omega) (by omega)).2 (fun s hs => ?_)
    rw [h.run (by omega) i3 (fun _ => i4) s hs, h.run (by omega) j3 (fun _ => j4) s hs]
    exact ((h.al r r').1 ha s hs).symm
  · constructor
    · intro hr
      obtain ⟨j, j1, j3, j4, j5⟩ := hfind r hr
      obtain ⟨k, hk⟩ := hg.has j (by omega) j5
      exact ⟨_, List.mem_of_getElem? (hg.row _ k hk), (hmem _ r j5).2 ⟨j, j1, rfl, j3, j4⟩⟩
    · rintro ⟨x, hx, hr⟩
      obtain ⟨w, k, h1, h2, h3, rfl⟩ := hrow x hx
      obtain ⟨i, i1, i2, i3, i4⟩ := (hmem w r h3).1 hr
      rw [h.an]
      have : ¬ ∀ s ∈ ss, ¬ Mem s (e.getD i 0) := fun h5 => h3 (i2 ▸ (h.non (by omega)).2 h5)
      refine Classical.byContradiction (fun h6 => this (fun s hs h7 => h6 ⟨s, hs, (h.run (by omega) i3 (fun _ => i4) s hs).1 h7⟩))
  · rw [List.pairwise_iff_getElem]
    intro a b ha hb hab r hr hr'
    obtain ⟨w, h1⟩ := hg.onto a ha
    obtain ⟨w', h2⟩ := hg.onto b hb
    have e1 : p[a] = rOf e ws e.length w := by
      have h4 : p[a]? = some p[a] := List.getElem?_eq_getElem ha
      rw [hg.row w a h1] at h4; exact (Option.some.inj h4).symm
    have e2 : p[b] = rOf e ws e.length w' := by
      have h4 : p[b]? = some p[b] := List.getElem?_eq_getElem hb
      rw [hg.row w' b h2] at h4; exact (Option.some.inj h4).symm
    rw [e1] at hr
    rw [e2] at hr'
    obtain ⟨i, i1, i2, i3, i4⟩ := (hmem w r (hg.lt _ _ h1).2).1 hr
    obtain ⟨j, j1, j2, j3, j4⟩ := (hmem w' r (hg.lt _ _ h2).2).1 hr'
    obtain rfl := huniq r i j i1 j1 i3 i4 j3 j4
    rw [i2] at j2
    rw [j2, h2] at h1
    have := Option.some.inj h1
    omega
end TermsM
