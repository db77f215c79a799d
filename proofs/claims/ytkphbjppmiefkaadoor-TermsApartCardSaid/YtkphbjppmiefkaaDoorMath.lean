/- Plain mathematics of sets of scalars as lists of spans: normal lists are unique; what the marks of two lists of spans come to. Nothing of a program stands here. -/
namespace SetM
/-- A span of numbers. -/
abbrev Sp := Int × Int
/-- Spans tell a number: it lies in one of them. -/
def Mem (l : List Sp) (r : Int) : Prop := ∃ s ∈ l, s.1 ≤ r ∧ r ≤ s.2
/-- A number is a scalar. -/
def Sc (r : Int) : Prop := (0 ≤ r ∧ r ≤ 55295) ∨ (57344 ≤ r ∧ r ≤ 1114111)
/-- Spans tell a scalar. -/
def Tells (l : List Sp) (r : Int) : Prop := Sc r ∧ Mem l r
/-- The one order of spans: rising, each with a number between it and the next. -/
def Nf : List Sp → Prop
  | [] => True
  | s :: t => s.1 ≤ s.2 ∧ (∀ u ∈ t, s.2 + 1 < u.1) ∧ Nf t
instance (r : Int) : Decidable (Sc r) := by unfold Sc; infer_instance
instance (l : List Sp) (r : Int) : Decidable (Mem l r) := by unfold Mem; infer_instance
instance (l : List Sp) (r : Int) : Decidable (Tells l r) := by unfold Tells; infer_instance

theorem mem_nil (r : Int) : ¬ Mem [] r := by simp [Mem]
theorem mem_cons (s : Sp) (t : List Sp) (r : Int) : Mem (s :: t) r ↔ (s.1 ≤ r ∧ r ≤ s.2) ∨ Mem t r := by simp [Mem]
theorem mem_append (s t : List Sp) (r : Int) : Mem (s ++ t) r ↔ Mem s r ∨ Mem t r := by
  unfold Mem; constructor
  · rintro ⟨x, hx, h⟩; rcases List.mem_append.1 hx with h1 | h1
    · exact .inl ⟨x, h1, h⟩
    · exact .inr ⟨x, h1, h⟩
  · rintro (⟨x, hx, h⟩ | ⟨x, hx, h⟩)
    · exact ⟨x, List.mem_append.2 (.inl hx), h⟩
    · exact ⟨x, List.mem_append.2 (.inr hx), h⟩
theorem mem_flatten (l : List (List Sp)) (r : Int) : Mem l.flatten r ↔ ∃ a ∈ l, Mem a r := by
  induction l with
  | nil => simp [mem_nil]
  | cons a t ih => rw [List.flatten_cons, mem_append, ih]; simp
theorem tells_nil (r : Int) : ¬ Tells [] r := fun h => mem_nil r h.2

/-- All that a normal list behind a span tells lies beyond it. -/
theorem nf_beyond {s : Sp} {t : List Sp} (h : Nf (s :: t)) {r : Int} (hr : Mem t r) : s.2 + 1 < r := by
  obtain ⟨u, hu, h1, _⟩ := hr
  have := h.2.1 u hu
  omega

/-- Two normal lists that tell the same are the same. -/
theorem nf_unique : ∀ (a b : List Sp), Nf a → Nf b → (∀ r, Mem a r ↔ Mem b r) → a = b
  | [], [], _, _, _ => rfl
  | [], s :: t, _, hb, h => absurd ((h s.1).2 ⟨s, by simp, Int.le_refl _, hb.1⟩) (mem_nil _)
  | s :: t, [], ha, _, h => absurd ((h s.1).1 ⟨s, by simp, Int.le_refl _, ha.1⟩) (mem_nil _)
  | s :: t, u :: v, ha, hb, h => by
    have a1 := ha.1
    have b1 := hb.1
    have key : ∀ {s u : Sp} {t v : List Sp}, Nf (s :: t) → Nf (u :: v) → (∀ r, Mem (s :: t) r ↔ Mem (u :: v) r) → u.1 ≤ s.1 := by
      intro s u t v ha hb h
      rcases (mem_cons u v s.1).1 ((h s.1).1 ((mem_cons s t s.1).2 (.inl ⟨Int.le_refl _, ha.1⟩))) with h1 | h1
      · exact h1.1
      · have := nf_beyond hb h1; have := hb.1; omega
    have e1 : s.1 = u.1 := Int.le_antisymm (key hb ha (fun r => (h r).symm)) (key ha hb h)
    have key2 : ∀ {s u : Sp} {t v : List Sp}, Nf (s :: t) → Nf (u :: v) → s.1 = u.1 → (∀ r, Mem (s :: t) r ↔ Mem (u :: v) r) → u.2 ≤ s.2 := by
      intro s u t v ha hb e h
      rcases Int.lt_or_le s.2 u.2 with hlt | hle
      · have h0 := ha.1
        rcases (mem_cons s t (s.2 + 1)).1 ((h (s.2 + 1)).2 ((mem_cons u v _).2 (.inl ⟨by omega, by omega⟩))) with h1 | h1
        · omega
        · have := nf_beyond ha h1; omega
      · exact hle
    have e2 : s.2 = u.2 := Int.le_antisymm (key2 hb ha e1.symm (fun r => (h r).symm)) (key2 ha hb e1 h)
    obtain rfl : s = u := Prod.ext e1 e2
    rw [nf_unique t v ha.2.2 hb.2.2 (fun r => ?_)]
    constructor
    · intro hr
      have hb2 := nf_beyond ha hr
      rcases (mem_cons s v r).1 ((h r).1 ((mem_cons s t r).2 (.inr hr))) with h1 | h1
      · omega
      · exact h1
    · intro hr
      have hb2 := nf_beyond hb hr
      rcases (mem_cons s t r).1 ((h r).2 ((mem_cons s v r).2 (.inr hr))) with h1 | h1
      · omega
      · exact h1

/-- The first and the last scalar of each run that one span tells. -/
def endsOf (s : Sp) : List Sp :=
  if s.2 < max s.1 0 then [] else
    (if max s.1 0 ≤ min s.2 55295 then [(max s.1 0, min s.2 55295)] else []) ++
      (if s.2 < max s.1 57344 then [] else if max s.1 57344 ≤ min s.2 1114111 then [(max s.1 57344, min s.2 1114111)] else [])
def endsL (l : List Sp) : List Sp := l.flatMap endsOf

theorem mem_endsOf (s : Sp) (r : Int) : Mem (endsOf s) r ↔ Sc r ∧ s.1 ≤ r ∧ r ≤ s.2 := by
  unfold endsOf Sc
  split
  · simp [Mem]; omega
  · rw [mem_append]
    have e1 : Mem (if max s.1 0 ≤ min s.2 55295 then [(max s.1 0, min s.2 55295)] else []) r ↔ (0 ≤ r ∧ r ≤ 55295) ∧ s.1 ≤ r ∧ r ≤ s.2 := by
      split
      · simp [Mem]; omega
      · simp [Mem]; omega
    have e2 : Mem (if s.2 < max s.1 57344 then [] else if max s.1 57344 ≤ min s.2 1114111 then [(max s.1 57344, min s.2 1114111)] else []) r ↔ (57344 ≤ r ∧ r ≤ 1114111) ∧ s.1 ≤ r ∧ r ≤ s.2 := by
      split
      · simp [Mem]; omega
      · split
        · simp [Mem]; omega
        · simp [Mem]; omega
    rw [e1, e2]
    omega
theorem mem_endsL (l : List Sp) (r : Int) : Mem (endsL l) r ↔ Tells l r := by
  induction l with
  | nil => simp [endsL, mem_nil, Tells]
  | cons s t ih =>
    have : endsL (s :: t) = endsOf s ++ endsL t := rfl
    rw [this, mem_append, ih, mem_endsOf]
    unfold Tells
    rw [mem_cons]
    constructor
    · rintro (⟨h1, h2⟩ | ⟨h1, h2⟩)
      · exact ⟨h1, .inl h2⟩
      · exact ⟨h1, .inr h2⟩
    · rintro ⟨h1, h2 | h2⟩
      · exact .inl ⟨h1, h2⟩
      · exact .inr ⟨h1, h2⟩
/-- Each pair of ends lies in order, in the scalars' range. -/
theorem endsOf_in (s e : Sp) (h : e ∈ endsOf s) : 0 ≤ e.1 ∧ e.1 ≤ e.2 ∧ e.2 ≤ 1114111 := by
  unfold endsOf at h
  split at h
  · simp at h
  · rcases List.mem_append.1 h with h | h
    · split at h
      · simp at h; subst h; refine ⟨?_, ?_, ?_⟩ <;> simp only [] <;> omega
      · simp at h
    · split at h
      · simp at h
      · split at h
        · simp at h; subst h; refine ⟨?_, ?_, ?_⟩ <;> simp only [] <;> omega
        · simp at h
theorem endsL_in (l : List Sp) (e : Sp) (h : e ∈ endsL l) : 0 ≤ e.1 ∧ e.1 ≤ e.2 ∧ e.2 ≤ 1114111 := by
  obtain ⟨s, _, hs⟩ := List.mem_flatMap.1 h
  exact endsOf_in s e hs
theorem endsOf_len (s : Sp) : (endsOf s).length ≤ 2 := by
  unfold endsOf; split
  · simp
  · rw [List.length_append]
    have e1 : (if max s.1 0 ≤ min s.2 55295 then [(max s.1 0, min s.2 55295)] else []).length ≤ 1 := by split <;> simp
    have e2 : (if s.2 < max s.1 57344 then [] else if max s.1 57344 ≤ min s.2 1114111 then [(max s.1 57344, min s.2 1114111)] else []).length ≤ 1 := by
      split
      · simp
      · split <;> simp
    omega
theorem endsL_len (l : List Sp) : (endsL l).length ≤ 2 * l.length := by
  induction l with
  | nil => simp [endsL]
  | cons s t ih =>
    have : endsL (s :: t) = endsOf s ++ endsL t := rfl
    rw [this, List.length_append, List.length_cons]
    have := endsOf_len s
    omega

/-- A mark: its place, its side, its step. -/
abbrev Mk := Int × Int × Int
def marksOf (side : Int) (x : Sp) : List Mk := [(x.1, side, 1), (x.2 + 1, side, -1)]
def rawOf (side : Int) (e : List Sp) : List Mk := e.flatMap (marksOf side)
def raw (a b : List Sp) : List Mk := rawOf 0 (endsL a) ++ rawOf 1 (endsL b)

/-- What the marks of one side up to a place come to. -/
def D : List Mk → Int → Int → Int
  | [], _, _ => 0
  | m :: t, k, r => (if m.2.1 = k ∧ m.1 ≤ r then m.2.2 else 0) + D t k r
theorem D_append (a b : List Mk) (k r : Int) : D (a ++ b) k r = D a k r + D b k r := by
  induction a with
  | nil => simp [D]
  | cons m t ih => simp only [List.cons_append, D, ih]; omega
theorem D_perm {a b : List Mk} (h : List.Perm a b) (k r : Int) : D a k r = D b k r := by
  induction h with
  | nil => rfl
  | cons x _ ih => simp only [D, ih]
  | swap x y l => simp only [D]; omega
  | trans _ _ i1 i2 => exact i1.trans i2
theorem D_far {l : List Mk} {k r : Int} (h : ∀ m ∈ l, r < m.1) : D l k r = 0 := by
  induction l with
  | nil => rfl
  | cons m t ih =>
    have h1 := h m (by simp)
    rw [D, ih (fun x hx => h x (by simp [hx])), if_neg (by omega)]; rfl
theorem D_same {l : List Mk} {k r s : Int} (h : ∀ m ∈ l, m.1 ≤ r ↔ m.1 ≤ s) : D l k r = D l k s := by
  induction l with
  | nil => rfl
  | cons m t ih =>
    have h1 := h m (by simp)
    rw [D, D, ih (fun x hx => h x (by simp [hx]))]
    by_cases e : m.2.1 = k ∧ m.1 ≤ r
    · rw [if_pos e, if_pos ⟨e.1, h1.1 e.2⟩]
    · rw [if_neg e, if_neg (fun e2 => e ⟨e2.1, h1.2 e2.2⟩)]
/-- How deep one side is: never below nothing, and above it just where an end of that side tells the place. -/
theorem D_rawOf (side k r : Int) (e : List Sp) (h : ∀ x ∈ e, x.1 ≤ x.2) : 0 ≤ D (rawOf side e) k r ∧ (0 < D (rawOf side e) k r ↔ side = k ∧ Mem e r) := by
  induction e with
  | nil => simp [rawOf, D, mem_nil]
  | cons x t ih =>
    have hx := h x (by simp)
    obtain ⟨i1, i2⟩ := ih (fun y hy => h y (by simp [hy]))
    have e1 : rawOf side (x :: t) = marksOf side x ++ rawOf side t := rfl
    rw [e1, D_append, mem_cons]
    have e2 : D (marksOf side x) k r = if side = k ∧ x.1 ≤ r ∧ r ≤ x.2 then 1 else 0 := by
      simp only [marksOf, D]
      by_cases hs : side = k
      · by_cases h1 : x.1 ≤ r
        · by_cases h2 : x.2 + 1 ≤ r
          · rw [if_pos ⟨hs, h1⟩, if_pos ⟨hs, h2⟩, if_neg (by omega)]; rfl
          · rw [if_pos ⟨hs, h1⟩, if_neg (by omega), if_pos ⟨hs, h1, by omega⟩]; rfl
        · rw [if_neg (by omega), if_neg (by omega), if_neg (by omega)]; rfl
      · rw [if_neg (by omega), if_neg (by omega), if_neg (by omega)]; rfl
    rw [e2]
    by_cases hc : side = k ∧ x.1 ≤ r ∧ r ≤ x.2
    · rw [if_pos hc]
      exact ⟨by omega, fun _ => ⟨hc.1, .inl hc.2⟩, fun _ => by omega⟩
    · rw [if_neg hc]
      refine ⟨by omega, fun hp => ?_, fun hp => ?_⟩
      · have := i2.1 (by omega); exact ⟨this.1, .inr this.2⟩
      · rcases hp.2 with h2 | h2
        · exact absurd ⟨hp.1, h2⟩ hc
        · have := i2.2 ⟨hp.1, h2⟩; omega
theorem D_raw0 (a b : List Sp) (r : Int) : 0 < D (raw a b) 0 r ↔ Tells a r := by
  have h0 := D_rawOf 0 0 r (endsL a) (fun x hx => (endsL_in a x hx).2.1)
  have h1 := D_rawOf 1 0 r (endsL b) (fun x hx => (endsL_in b x hx).2.1)
  unfold raw
  rw [D_append, ← mem_endsL]
  have : ¬ 0 < D (rawOf 1 (endsL b)) 0 r := fun h => absurd (h1.2.1 h).1 (by omega)
  constructor
  · intro h; exact (h0.2.1 (by omega)).2
  · intro h; have := h0.2.2 ⟨rfl, h⟩; omega
theorem D_raw1 (a b : List Sp) (r : Int) : 0 < D (raw a b) 1 r ↔ Tells b r := by
  have h0 := D_rawOf 0 1 r (endsL a) (fun x hx => (endsL_in a x hx).2.1)
  have h1 := D_rawOf 1 1 r (endsL b) (fun x hx => (endsL_in b x hx).2.1)
  unfold raw
  rw [D_append, ← mem_endsL]
  have : ¬ 0 < D (rawOf 0 (endsL a)) 1 r := fun h => absurd (h0.2.1 h).1 (by omega)
  constructor
  · intro h; exact (h1.2.1 (by omega)).2
  · intro h; have := h1.2.2 ⟨rfl, h⟩; omega

/-- What a mark of a list is: a place within the scalars or just behind, a side of two, a step of one. -/
def Good (m : Mk) : Prop := 0 ≤ m.1 ∧ m.1 ≤ 1114112 ∧ (m.2.1 = 0 ∨ m.2.1 = 1) ∧ (m.2.2 = 1 ∨ m.2.2 = -1)
theorem good_rawOf {side : Int} (hs : side = 0 ∨ side = 1) {l : List Sp} {m : Mk} (h : m ∈ rawOf side (endsL l)) : Good m := by
  obtain ⟨x, hx, hm⟩ := List.mem_flatMap.1 h
  obtain ⟨h1, h2, h3⟩ := endsL_in l x hx
  simp only [marksOf, List.mem_cons, List.not_mem_nil, or_false] at hm
  rcases hm with rfl | rfl
  · exact ⟨h1, by show x.1 ≤ 1114112; omega, hs, .inl rfl⟩
  · exact ⟨by show 0 ≤ x.2 + 1; omega, by show x.2 + 1 ≤ 1114112; omega, hs, .inr rfl⟩
theorem good_raw {a b : List Sp} {m : Mk} (h : m ∈ raw a b) : Good m := by
  rcases List.mem_append.1 h with h | h
  · exact good_rawOf (.inl rfl) h
  · exact good_rawOf (.inr rfl) h
theorem rawOf_len (side : Int) (e : List Sp) : (rawOf side e).length = 2 * e.length := by
  induction e with
  | nil => rfl
  | cons x t ih =>
    have : rawOf side (x :: t) = marksOf side x ++ rawOf side t := rfl
    rw [this, List.length_append, ih]; simp [marksOf]; omega
theorem raw_len (a b : List Sp) : (raw a b).length ≤ 4 * a.length + 4 * b.length := by
  unfold raw
  rw [List.length_append, rawOf_len, rawOf_len]
  have := endsL_len a; have := endsL_len b; omega

/-- Where the loop stands. -/
structure CS where
  d0 : Int
  d1 : Int
  on : Bool
  start : Int
  out : List Sp
def d0Of (st : CS) (m : Mk) : Int := if m.2.1 = 0 then st.d0 + m.2.2 else st.d0
def d1Of (st : CS) (m : Mk) : Int := if m.2.1 = 0 then st.d1 else st.d1 + m.2.2
def sameNext (m : Mk) : Option Mk → Bool
  | none => false
  | some x => x.1 == m.1
def cstep (keep : Bool → Bool → Bool) (st : CS) (m : Mk) (nx : Option Mk) : CS :=
  if sameNext m nx = true then { st with d0 := d0Of st m, d1 := d1Of st m }
  else
    { d0 := d0Of st m, d1 := d1Of st m, on := keep (decide (0 < d0Of st m)) (decide (0 < d1Of st m)),
      start := if keep (decide (0 < d0Of st m)) (decide (0 < d1Of st m)) = true ∧ st.on = false then m.1 else st.start,
      out := if keep (decide (0 < d0Of st m)) (decide (0 < d1Of st m)) = false ∧ st.on = true then st.out ++ [(st.start, m.1 - 1)] else st.out }
def crun (keep : Bool → Bool → Bool) : List Mk → CS → CS
  | [], st => st
  | m :: t, st => crun keep t (cstep keep st m t.head?)

/-- The places of a list rise. -/
def Rises (l : List Mk) : Prop := l.Pairwise (fun x y => x.1 ≤ y.1)

theorem nf_snoc {l : List Sp} {s : Sp} (h : Nf l) (hs : s.1 ≤ s.2) (hf : ∀ u ∈ l, u.2 + 1 < s.1) : Nf (l ++ [s]) := by
  induction l with
  | nil => exact ⟨hs, by simp, trivial⟩
  | cons x t ih =>
    refine ⟨h.1, fun u hu => ?_, ih h.2.2 (fun u hu => hf u (by simp [hu]))⟩
    rcases List.mem_append.1 hu with h1 | h1
    · exact h.2.1 u h1
    · simp at h1; subst h1; exact hf x (by simp)

/-- What holds where all marks up to p are counted. -/
structure Inv (K : Int → Bool) (p : Int) (on : Bool) (start : Int) (out : List Sp) : Prop where
  now : on = K p
  nf : Nf out
  opened : on = true → start ≤ p ∧ (∀ r, start ≤ r → r ≤ p → K r = true) ∧ (∀ s ∈ out, s.2 + 1 < start) ∧ ∀ r, r < start → (Mem out r ↔ K r = true)
  shut : on = false → (∀ s ∈ out, s.2 < p) ∧ ∀ r, r ≤ p → (Mem out r ↔ K r = true)

theorem inv_next {K : Int → Bool} {p q : Int} {on : Bool} {start : Int} {out : List Sp} (h : Inv K p on start out) (hpq : p < q) (hK : ∀ r, p ≤ r → r < q → K r = K p) :
    Inv K q (K q) (if K q = true ∧ on = false then q else start) (if K q = false ∧ on = true then out ++ [(start, q - 1)] else out) := by
  have hn := h.now
  cases hon : on
  · obtain ⟨h1, h2⟩ := h.shut hon
    have hb : ∀ r, r < q → (Mem out r ↔ K r = true) := by
      intro r hr
      rcases Int.lt_or_le p r with h3 | h3
      · rw [hK r (by omega) hr, ← hn, hon]
        refine ⟨fun ⟨s, hs, _, h5⟩ => ?_, fun h => absurd h (by simp)⟩
        have := h1 s hs; omega
      · exact h2 r h3
    cases hq : K q
    · rw [if_neg (by simp), if_neg (by simp)]
      refine ⟨hq.symm, h.nf, fun h => absurd h (by simp), fun _ => ⟨fun s hs => by have := h1 s hs; omega, fun r hr => ?_⟩⟩
      rcases Int.lt_or_eq_of_le hr with h3 | h3
      · exact hb r h3
      · subst h3; rw [hq]
        refine ⟨fun ⟨s, hs, _, h5⟩ => ?_, fun h => absurd h (by simp)⟩
        have := h1 s hs; omega
    · rw [if_pos ⟨rfl, rfl⟩, if_neg (by simp)]
      refine ⟨hq.symm, h.nf, fun _ => ⟨Int.le_refl _, fun r h3 h4 => ?_, fun s hs => by have := h1 s hs; omega, fun r hr => hb r hr⟩, fun h => absurd h (by simp)⟩
      obtain rfl : r = q := by omega
      exact hq
  · obtain ⟨h1, h2, h3, h4⟩ := h.opened hon
    have hb : ∀ r, start ≤ r → r < q → K r = true := by
      intro r h5 h6
      rcases Int.lt_or_le p r with h7 | h7
      · rw [hK r (by omega) h6, ← hn, hon]
      · exact h2 r h5 h7
    cases hq : K q
    · rw [if_neg (by simp), if_pos ⟨rfl, rfl⟩]
      refine ⟨hq.symm, nf_snoc h.nf (by show start ≤ q - 1; omega) h3, fun h => absurd h (by simp), fun _ => ⟨fun s hs => ?_, fun r hr => ?_⟩⟩
      · rcases List.mem_append.1 hs with h5 | h5
        · have := h3 s h5; omega
        · simp at h5; subst h5; show q - 1 < q; omega
      · rw [mem_append, mem_cons]
        rcases Int.lt_or_le r start with h5 | h5
        · rw [← h4 r h5]
          constructor
          · rintro (h6 | h6 | h6)
            · exact h6
            · exact absurd h6.1 (by show ¬ start ≤ r; omega)
            · exact absurd h6 (mem_nil r)
          · exact .inl
        · rcases Int.lt_or_eq_of_le hr with h6 | h6
          · exact ⟨fun _ => hb r h5 h6, fun _ => .inr (.inl ⟨h5, by show r ≤ q - 1; omega⟩)⟩
          · subst h6; rw [hq]
            refine ⟨?_, fun h => absurd h (by simp)⟩
            rintro (⟨s, hs, _, h7⟩ | h7 | h7)
            · have := h3 s hs; omega
            · exact absurd h7.2 (by show ¬ r ≤ r - 1; omega)
            · exact absurd h7 (mem_nil r)
    · rw [if_neg (by simp), if_neg (by simp)]
      refine ⟨hq.symm, h.nf, fun _ => ⟨by omega, fun r h5 h6 => ?_, h3, h4⟩, fun h => absurd h (by simp)⟩
      rcases Int.lt_or_eq_of_le h6 with h7 | h7
      · exact hb r h5 h7
      · subst h7; exact hq

theorem D_all {l : List Mk} {k r : Int} (m : Mk) (_h : ∀ x ∈ l, x.1 ≤ r) (hm : m.1 ≤ r) : D (l ++ [m]) k r = D l k r + if m.2.1 = k then m.2.2 else 0 := by
  rw [D_append]
  simp only [D]
  by_cases e : m.2.1 = k
  · rw [if_pos ⟨e, hm⟩, if_pos e]; omega
  · rw [if_neg (fun x => e x.1), if_neg e]; omega

/-- The loop, from where all marks up to p, and some of the next place, are counted. -/
theorem crun_right (keep : Bool → Bool → Bool) (full : List Mk) (hg : ∀ m ∈ full, Good m) : ∀ (rest pre : List Mk) (st : CS) (p : Int), full = pre ++ rest → Rises (pre ++ rest) →
    (∀ m ∈ rest, p < m.1) → (∀ m ∈ pre, m.1 ≤ p ∨ ∃ x, rest.head? = some x ∧ m.1 = x.1) →
    (∀ r, (∀ m ∈ pre, m.1 ≤ r) → st.d0 = D pre 0 r ∧ st.d1 = D pre 1 r) →
    Inv (fun r => keep (decide (0 < D full 0 r)) (decide (0 < D full 1 r))) p st.on st.start st.out →
    ∃ q, (∀ m ∈ full, m.1 ≤ q) ∧ Inv (fun r => keep (decide (0 < D full 0 r)) (decide (0 < D full 1 r))) q (crun keep rest st).on (crun keep rest st).start (crun keep rest st).out := by
  intro rest
  induction rest with
  | nil =>
    intro pre st p hf _ _ hp _ hi
    refine ⟨p, fun m hm => ?_, hi⟩
    rw [hf, List.append_nil] at hm
    rcases hp m hm with h | ⟨x, h, _⟩
    · exact h
    · cases h
  | cons m t ih =>
    intro pre st p hf hr hp hq hd hi
    have hf2 : full = (pre ++ [m]) ++ t := by rw [hf]; simp
    have hr2 : Rises ((pre ++ [m]) ++ t) := by rw [← hf2, hf]; exact hr
    have hpm := hp m (by simp)
    have hpre : ∀ x ∈ pre, x.1 ≤ m.1 := by
      intro x hx
      exact (List.pairwise_append.1 hr).2.2 x hx m (by simp)
    have hgm := hg m (by rw [hf]; simp)
    have hd' : ∀ r, (∀ x ∈ pre ++ [m], x.1 ≤ r) → d0Of st m = D (pre ++ [m]) 0 r ∧ d1Of st m = D (pre ++ [m]) 1 r := by
      intro r h
      have ha : ∀ x ∈ pre, x.1 ≤ r := fun x hx => h x (by simp [hx])
      have hm := h m (by simp)
      obtain ⟨e0, e1⟩ := hd r ha
      rw [D_all m ha hm, D_all m ha hm, ← e0, ← e1]
      unfold d0Of d1Of
      rcases hgm.2.2.1 with h0 | h0 <;> rw [h0] <;> simp
    by_cases hs : sameNext m t.head? = true
    · -- the next mark is of the same place
      have hc : cstep keep st m t.head? = { st with d0 := d0Of st m, d1 := d1Of st m } := by unfold cstep; rw [if_pos hs]
      have : crun keep (m :: t) st = crun keep t { st with d0 := d0Of st m, d1 := d1Of st m } := by show crun keep t (cstep keep st m t.head?) = _; rw [hc]
      rw [this]
      cases ht : t with
      | nil => rw [ht] at hs; exact absurd hs (by simp [sameNext])
      | cons x t' =>
        rw [ht] at hs
        have hx : x.1 = m.1 := by simpa [sameNext] using hs
        rw [← ht]
        refine ih (pre ++ [m]) _ p hf2 hr2 (fun y hy => hp y (by simp [hy])) (fun y hy => ?_) hd' hi
        rcases List.mem_append.1 hy with h1 | h1
        · rcases hq y h1 with h2 | ⟨z, hz, h3⟩
          · exact .inl h2
          · simp at hz; subst hz; exact .inr ⟨x, by rw [ht]; rfl, by rw [h3, hx]⟩
        · simp at h1; subst h1; exact .inr ⟨x, by rw [ht]; rfl, hx.symm⟩
    · -- the place is whole
      have hbeyond : ∀ y ∈ t, m.1 < y.1 := by
        cases ht : t with
        | nil => simp
        | cons x t' =>
          rw [ht] at hs hr
          have hx : x.1 ≠ m.1 := by simpa [sameNext] using hs
          have hrm := (List.pairwise_cons.1 (List.pairwise_append.1 hr).2.1)
          have h1 := hrm.1 x (by simp)
          intro y hy
          rcases List.mem_cons.1 hy with rfl | hy
          · omega
          · have h2 := (List.pairwise_cons.1 hrm.2).1 y hy; omega
      have hDm : ∀ k, D full k m.1 = D (pre ++ [m]) k m.1 := by
        intro k; rw [hf2, D_append, D_far (l := t) (fun y hy => hbeyond y hy)]; omega
      have hall : ∀ x ∈ pre ++ [m], x.1 ≤ m.1 := by
        intro x hx
        rcases List.mem_append.1 hx with h1 | h1
        · exact hpre x h1
        · simp at h1; subst h1; exact Int.le_refl _
      obtain ⟨e0, e1⟩ := hd' m.1 hall
      have hKm : keep (decide (0 < d0Of st m)) (decide (0 < d1Of st m)) = keep (decide (0 < D full 0 m.1)) (decide (0 < D full 1 m.1)) := by
        rw [hDm, hDm, e0, e1]
      have hflat : ∀ r, p ≤ r → r < m.1 → ∀ k, D full k r = D full k p := by
        intro r h1 h2 k
        refine D_same (fun y hy => ?_)
        rw [hf] at hy
        rcases List.mem_append.1 hy with h3 | h3
        · rcases hq y h3 with h4 | ⟨z, hz, h4⟩
          · exact ⟨fun _ => h4, fun _ => by omega⟩
          · simp at hz; subst hz; constructor <;> intro h5 <;> omega
        · have h4 : m.1 ≤ y.1 := by
            rcases List.mem_cons.1 h3 with rfl | h5
            · exact Int.le_refl _
            · have := hbeyond y h5; omega
          constructor <;> intro h5 <;> omega
      have hnext := inv_next hi hpm (fun r h1 h2 => by simp only [hflat r h1 h2])
      have hc : crun keep (m :: t) st = crun keep t (cstep keep st m t.head?) := rfl
      rw [hc]
      refine ih (pre ++ [m]) _ m.1 hf2 hr2 hbeyond (fun y hy => .inl (hall y hy)) ?_ ?_
      · intro r h
        unfold cstep
        rw [if_neg hs]
        exact hd' r h
      · unfold cstep
        rw [if_neg hs]
        simp only [hKm]
        exact hnext

/-- What combine comes to: of any order of the marks that rises it is the normal list of what keep wants. -/
theorem crun_final (keep : Bool → Bool → Bool) (h0 : keep false false = false) (a b : List Sp) (row : List Mk) (hp : List.Perm (raw a b) row) (hr : Rises row) (s0 : Int) :
    Nf (crun keep row ⟨0, 0, false, s0, []⟩).out ∧ ∀ r, Mem (crun keep row ⟨0, 0, false, s0, []⟩).out r ↔ keep (decide (Tells a r)) (decide (Tells b r)) = true := by
  have hg : ∀ m ∈ row, Good m := fun m hm => good_raw (hp.mem_iff.2 hm)
  have hK : ∀ r, keep (decide (0 < D row 0 r)) (decide (0 < D row 1 r)) = keep (decide (Tells a r)) (decide (Tells b r)) := by
    intro r
    rw [← D_perm hp, ← D_perm hp]
    congr 1
    · exact decide_eq_decide.2 (D_raw0 a b r)
    · exact decide_eq_decide.2 (D_raw1 a b r)
  have hlow : ∀ l : List Sp, ∀ r, r < 0 → ¬ Tells l r := fun l r hr h => by have := h.1; unfold Sc at this; omega
  have hhigh : ∀ l : List Sp, ∀ r, 1114111 < r → ¬ Tells l r := fun l r hr h => by have := h.1; unfold Sc at this; omega
  obtain ⟨q, hq, hi⟩ := crun_right keep row hg row [] ⟨0, 0, false, s0, []⟩ (-1) rfl hr (fun m hm => by have := (hg m hm).1; omega) (by simp) (by intro r _; exact ⟨rfl, rfl⟩)
    ⟨by show false = keep _ _; rw [hK]; simp [hlow, h0], trivial, fun h => absurd h (by simp), fun _ => ⟨by simp, fun r hr => by
      simp only [hK]
      refine ⟨fun h => absurd h (mem_nil r), fun h => ?_⟩
      rw [decide_eq_false (hlow a r (by omega)), decide_eq_false (hlow b r (by omega)), h0] at h
      cases h⟩⟩
  have hflat : ∀ r, q ≤ r → keep (decide (Tells a r)) (decide (Tells b r)) = keep (decide (Tells a q)) (decide (Tells b q)) := by
    intro r h
    rw [← hK, ← hK]
    have : ∀ k, D row k r = D row k q := fun k => D_same (fun y hy => by have := hq y hy; constructor <;> intro _ <;> omega)
    rw [this, this]
  have hend : ∀ r, q ≤ r → keep (decide (Tells a r)) (decide (Tells b r)) = false := by
    intro r h
    rw [hflat r h, ← hflat (max q 1114112) (by omega), decide_eq_false (hhigh a _ (by omega)), decide_eq_false (hhigh b _ (by omega)), h0]
  have hoff : (crun keep row ⟨0, 0, false, s0, []⟩).on = false := by
    rw [hi.now]; simp only [hK]; exact hend q (Int.le_refl _)
  refine ⟨hi.nf, fun r => ?_⟩
  obtain ⟨h1, h2⟩ := hi.shut hoff
  rcases Int.lt_or_le q r with h | h
  · rw [hend r (by omega)]
    refine ⟨fun ⟨s, hs, _, h5⟩ => ?_, fun h => absurd h (by simp)⟩
    have := h1 s hs; omega
  · rw [h2 r h]; simp only [hK]
end SetM
