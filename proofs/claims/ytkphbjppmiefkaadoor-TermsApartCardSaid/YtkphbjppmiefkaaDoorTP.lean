/- Plain mathematics of the program's way to parts: ends, what is in which sets, words, what is gathered by words. Nothing of a program stands here. -/
import Derived.Test.YtkphbjppmiefkaaDoorTM
namespace TermsM
open SetM
/-- A number at which spans begin, or have just ended. -/
def Tog (s : List Sp) (x : Int) : Prop := ∃ u ∈ s, x = u.1 ∨ x = u.2 + 1
instance (s : List Sp) (x : Int) : Decidable (Tog s x) := by unfold Tog; infer_instance
/-- Spans that lie apart, rising. -/
def Apt (s : List Sp) : Prop := (∀ u ∈ s, u.1 ≤ u.2) ∧ s.Pairwise (fun u v => u.2 + 1 < v.1)
theorem nf_apt : ∀ {s : List Sp}, Nf s → Apt s
  | [], _ => ⟨fun _ h => (by cases h), List.Pairwise.nil⟩
  | u :: t, h => by
    have ih := nf_apt h.2.2
    refine ⟨fun v hv => ?_, List.pairwise_cons.2 ⟨h.2.1, ih.2⟩⟩
    rcases List.mem_cons.1 hv with rfl | hv
    · exact h.1
    · exact ih.1 v hv
theorem apt_two {s : List Sp} (h : Apt s) {u v : Sp} (hu : u ∈ s) (hv : v ∈ s) : u = v ∨ u.2 + 1 < v.1 ∨ v.2 + 1 < u.1 := by
  obtain ⟨i, hi, rfl⟩ := List.mem_iff_getElem.1 hu
  obtain ⟨j, hj, rfl⟩ := List.mem_iff_getElem.1 hv
  rcases Nat.lt_trichotomy i j with hij | rfl | hij
  · exact .inr (.inl (List.pairwise_iff_getElem.1 h.2 i j hi hj hij))
  · exact .inl rfl
  · exact .inr (.inr (List.pairwise_iff_getElem.1 h.2 j i hj hi hij))
theorem mem_same {s : List Sp} {a b : Int} (hab : a ≤ b) (hn : ∀ x, a < x → x ≤ b → ¬ Tog s x) : Mem s a ↔ Mem s b := by
  constructor
  · rintro ⟨u, hu, h1, h2⟩
    refine ⟨u, hu, by omega, ?_⟩
    rcases Int.lt_or_le u.2 b with h | h
    · exact absurd ⟨u, hu, .inr rfl⟩ (hn (u.2 + 1) (by omega) (by omega))
    · exact h
  · rintro ⟨u, hu, h1, h2⟩
    refine ⟨u, hu, ?_, by omega⟩
    rcases Int.lt_or_le a u.1 with h | h
    · exact absurd ⟨u, hu, .inl rfl⟩ (hn u.1 h h1)
    · exact h
theorem mem_flip {s : List Sp} (hs : Apt s) {a b : Int} (hab : a < b) (ht : Tog s b) (hn : ∀ x, a < x → x < b → ¬ Tog s x) : Mem s b ↔ ¬ Mem s a := by
  obtain ⟨u, hu, e⟩ := ht
  have hu1 := hs.1 u hu
  rcases e with rfl | rfl
  · refine iff_of_true ⟨u, hu, Int.le_refl _, hu1⟩ ?_
    rintro ⟨v, hv, h1, h2⟩
    have hv1 := hs.1 v hv
    rcases apt_two hs hu hv with rfl | h | h
    · omega
    · omega
    · exact hn (v.2 + 1) (by omega) (by omega) ⟨v, hv, .inr rfl⟩
  · refine iff_of_false ?_ (fun h => h ⟨u, hu, ?_, by omega⟩)
    · rintro ⟨v, hv, h1, h2⟩
      rcases apt_two hs hu hv with rfl | h | h <;> omega
    · rcases Int.lt_or_le a u.1 with h | h
      · exact absurd ⟨u, hu, .inl rfl⟩ (hn u.1 h (by omega))
      · exact h
theorem mem_before {s : List Sp} {a : Int} (hn : ∀ x, x ≤ a → ¬ Tog s x) : ¬ Mem s a := by
  rintro ⟨u, hu, h1, h2⟩
  exact hn u.1 h1 ⟨u, hu, .inl rfl⟩
theorem mem_behind {s : List Sp} {a : Int} (hn : ∀ x, a < x → ¬ Tog s x) : ¬ Mem s a := by
  rintro ⟨u, hu, h1, h2⟩
  exact hn (u.2 + 1) (by omega) ⟨u, hu, .inr rfl⟩
/-! Numbers whose bits say which of some sets. -/
/-- Bit j: does it hold of the j-th? -/
def bitsOf (p : List Sp → Prop) [DecidablePred p] : List (List Sp) → Nat
  | [] => 0
  | s :: c => (if p s then 1 else 0) + 2 * bitsOf p c
theorem bitsOf_bit (p : List Sp → Prop) [DecidablePred p] : ∀ (c : List (List Sp)) (j : Nat), (bitsOf p c).testBit j = (c[j]?.map (fun s => decide (p s))).getD false
  | [], j => by simp [bitsOf]
  | s :: c, 0 => by
    unfold bitsOf
    rw [Nat.testBit_zero]
    by_cases h : p s <;> simp [h] <;> omega
  | s :: c, j + 1 => by
    unfold bitsOf
    rw [Nat.testBit_succ, show ((if p s then 1 else 0) + 2 * bitsOf p c) / 2 = bitsOf p c by split <;> omega, bitsOf_bit p c j]
    simp
theorem bitsOf_lt (p : List Sp → Prop) [DecidablePred p] : ∀ (c : List (List Sp)), bitsOf p c < 2 ^ c.length
  | [] => by simp [bitsOf]
  | s :: c => by
    have := bitsOf_lt p c
    unfold bitsOf
    rw [List.length_cons, Nat.pow_succ]
    split <;> omega
theorem bitsOf_zero {p : List Sp → Prop} [DecidablePred p] {c : List (List Sp)} : bitsOf p c = 0 ↔ ∀ s ∈ c, ¬ p s := by
  induction c with
  | nil => simp [bitsOf]
  | cons s c ih =>
    unfold bitsOf
    constructor
    · intro h
      have h1 : ¬ p s := fun hp => by rw [if_pos hp] at h; omega
      rw [if_neg h1] at h
      intro x hx
      rcases List.mem_cons.1 hx with rfl | hx
      · exact h1
      · exact ih.1 (by omega) x hx
    · intro h
      rw [if_neg (h s (by simp)), ih.2 (fun x hx => h x (by simp [hx]))]
theorem bitsOf_eq {p q : List Sp → Prop} [DecidablePred p] [DecidablePred q] {c : List (List Sp)} : bitsOf p c = bitsOf q c ↔ ∀ s ∈ c, (p s ↔ q s) := by
  constructor
  · intro h s hs
    obtain ⟨j, hj, rfl⟩ := List.mem_iff_getElem.1 hs
    have e := congrArg (fun n => n.testBit j) h
    simp only [bitsOf_bit, List.getElem?_eq_getElem hj, Option.map_some, Option.getD_some] at e
    exact decide_eq_decide.1 e
  · intro h
    refine Nat.eq_of_testBit_eq (fun j => ?_)
    rw [bitsOf_bit, bitsOf_bit]
    by_cases hj : j < c.length
    · rw [List.getElem?_eq_getElem hj]
      simp only [Option.map_some, Option.getD_some]
      exact decide_eq_decide.2 (h _ (List.getElem_mem hj))
    · rw [List.getElem?_eq_none (by omega)]; rfl
theorem bitsOf_xor {p q r : List Sp → Prop} [DecidablePred p] [DecidablePred q] [DecidablePred r] {c : List (List Sp)} (h : ∀ s ∈ c, (r s ↔ (p s ∧ ¬ q s) ∨ (¬ p s ∧ q s))) : bitsOf p c ^^^ bitsOf q c = bitsOf r c := by
  refine Nat.eq_of_testBit_eq (fun j => ?_)
  rw [Nat.testBit_xor, bitsOf_bit, bitsOf_bit, bitsOf_bit]
  by_cases hj : j < c.length
  · have hh := h _ (List.getElem_mem hj)
    rw [List.getElem?_eq_getElem hj]
    simp only [Option.map_some, Option.getD_some]
    by_cases h1 : p c[j] <;> by_cases h2 : q c[j] <;> simp [h1, h2] at hh ⊢ <;> exact hh
  · rw [List.getElem?_eq_none (by omega)]; rfl
theorem bitsOf_last {p : List Sp → Prop} [DecidablePred p] {a : List (List Sp)} {s s' : List Sp} (h1 : ¬ p s) (h2 : p s') : bitsOf p (a ++ [s]) ^^^ (1 <<< a.length) = bitsOf p (a ++ [s']) := by
  refine Nat.eq_of_testBit_eq (fun j => ?_)
  rw [Nat.testBit_xor, bitsOf_bit, bitsOf_bit, Nat.one_shiftLeft, Nat.testBit_two_pow]
  rcases Nat.lt_trichotomy j a.length with hj | rfl | hj
  · rw [List.getElem?_append_left hj, List.getElem?_append_left hj]
    simp [show ¬ a.length = j by omega]
  · simp [h1, h2]
  · rw [List.getElem?_eq_none (by simp; omega), List.getElem?_eq_none (by simp; omega)]
    simp [show ¬ a.length = j by omega]
theorem bitsOf_none {p : List Sp → Prop} [DecidablePred p] {a : List (List Sp)} {s : List Sp} (h1 : ¬ p s) : bitsOf p (a ++ [s]) = bitsOf p a := by
  refine Nat.eq_of_testBit_eq (fun j => ?_)
  rw [bitsOf_bit, bitsOf_bit]
  rcases Nat.lt_trichotomy j a.length with hj | rfl | hj
  · rw [List.getElem?_append_left hj]
  · simp [h1]
  · rw [List.getElem?_eq_none (by simp; omega), List.getElem?_eq_none (by omega)]
/-- Which of some sets have a number. -/
def sgn (c : List (List Sp)) (x : Int) : Nat := bitsOf (fun s => Mem s x) c
/-- Which of some sets begin at a number, or have just ended. -/
def tgl (c : List (List Sp)) (x : Int) : Nat := bitsOf (fun s => Tog s x) c
theorem sgn_step {c : List (List Sp)} (hc : ∀ s ∈ c, Apt s) {a b : Int} (hab : a < b) (hn : ∀ s ∈ c, ∀ x, a < x → x < b → ¬ Tog s x) : sgn c a ^^^ tgl c b = sgn c b := by
  refine bitsOf_xor (fun s hs => ?_)
  by_cases ht : Tog s b
  · rw [mem_flip (hc s hs) hab ht (hn s hs)]
    simp [ht]
  · rw [← mem_same (Int.le_of_lt hab) (fun x h1 h2 => by
      rcases Int.lt_or_le x b with h | h
      · exact hn s hs x h1 h
      · obtain rfl : x = b := by omega
        exact ht)]
    simp [ht]
theorem sgn_first {c : List (List Sp)} (hc : ∀ s ∈ c, Apt s) {b : Int} (hn : ∀ s ∈ c, ∀ x, x < b → ¬ Tog s x) : tgl c b = sgn c b := by
  have h0 : sgn c (b - 1) = 0 := bitsOf_zero.2 (fun s hs => mem_before (fun x hx => hn s hs x (by omega)))
  have := sgn_step hc (a := b - 1) (b := b) (by omega) (fun s hs x h1 h2 => hn s hs x h2)
  rw [h0, Nat.zero_xor] at this
  exact this
theorem sgn_same {c : List (List Sp)} {a b : Int} (hab : a ≤ b) (hn : ∀ s ∈ c, ∀ x, a < x → x ≤ b → ¬ Tog s x) : sgn c a = sgn c b :=
  bitsOf_eq.2 (fun s hs => mem_same hab (hn s hs))
theorem sgn_behind {c : List (List Sp)} {a : Int} (hn : ∀ s ∈ c, ∀ x, a < x → ¬ Tog s x) : sgn c a = 0 := bitsOf_zero.2 (fun s hs => mem_behind (hn s hs))
theorem sgn_before {c : List (List Sp)} {a : Int} (hn : ∀ s ∈ c, ∀ x, x ≤ a → ¬ Tog s x) : sgn c a = 0 := bitsOf_zero.2 (fun s hs => mem_before (hn s hs))
/-! Words. -/
/-- The words of the runs that begin at numbers: by which of the sets they are in; 0: in none. -/
structure Wd (S : List (List Sp)) (e ws : List Int) (last : Int) : Prop where
  len : ws.length = e.length
  nn : 0 ≤ last
  rng : ∀ i (h : i < ws.length), 0 ≤ ws[i] ∧ ws[i] ≤ last
  non : ∀ i (h : i < ws.length) (h' : i < e.length), ws[i] = 0 ↔ ∀ s ∈ S, ¬ Mem s e[i]
  sam : ∀ i j (hi : i < ws.length) (hj : j < ws.length) (hi' : i < e.length) (hj' : j < e.length), ws[i] = ws[j] ↔ ∀ s ∈ S, (Mem s e[i] ↔ Mem s e[j])
theorem Wd.start {e : List Int} : Wd [] e (List.replicate e.length 0) 0 :=
  ⟨by simp, Int.le_refl _, fun i h => by simp, fun i h h' => by simp, fun i j hi hj hi' hj' => by simp⟩
/-- While words grow: by the sets of c too, up to cur. -/
structure Ln (c : List (List Sp)) (e ws0 : List Int) (last0 : Int) (K : Int → Nat → Int) (ws : List Int) (last : Int) (cur : Nat) : Prop where
  len : ws.length = ws0.length
  le : last0 ≤ last
  old : ∀ i (h : i < ws.length) (h' : i < ws0.length) (h2 : i < e.length), cur ≤ i ∨ sgn c e[i] = 0 → ws[i] = ws0[i]
  new : ∀ i (h : i < ws.length) (h' : i < ws0.length) (h2 : i < e.length), i < cur → sgn c e[i] ≠ 0 → ws[i] = K ws0[i] (sgn c e[i]) ∧ ws[i] ≠ 0
  inj : ∀ a b a' b', K a b ≠ 0 → K a b = K a' b' → a = a' ∧ b = b'
  rng : ∀ a b, K a b ≠ 0 → last0 < K a b ∧ K a b ≤ last
theorem Ln.start {c : List (List Sp)} {e ws0 : List Int} {last0 : Int} : Ln c e ws0 last0 (fun _ _ => 0) ws0 last0 0 :=
  ⟨rfl, Int.le_refl _, fun _ _ _ _ _ => rfl, fun i _ _ _ h => absurd h (Nat.not_lt_zero _), fun _ _ _ _ h => absurd rfl h, fun _ _ h => absurd rfl h⟩
theorem Ln.skip {c : List (List Sp)} {e ws0 : List Int} {last0 : Int} {K : Int → Nat → Int} {ws : List Int} {last : Int} {cur nxt : Nat} (h : Ln c e ws0 last0 K ws last cur) (hc : cur ≤ nxt) (hz : ∀ i (h2 : i < e.length), cur ≤ i → i < nxt → sgn c e[i] = 0) : Ln c e ws0 last0 K ws last nxt :=
  ⟨h.len, h.le, fun i h1 h2 h3 h4 => h.old i h1 h2 h3 (by
      rcases h4 with h4 | h4
      · exact .inl (by omega)
      · exact .inr h4), fun i h1 h2 h3 h4 h5 => by
    rcases Nat.lt_or_ge i cur with h6 | h6
    · exact h.new i h1 h2 h3 h6 h5
    · exact absurd (hz i h3 h6 h4) h5, h.inj, h.rng⟩
/-- A run that has a word already. -/
theorem Ln.known {c : List (List Sp)} {e ws0 : List Int} {last0 : Int} {K : Int → Nat → Int} {ws : List Int} {last : Int} {cur : Nat} (h : Ln c e ws0 last0 K ws last cur) (hc : cur < ws0.length) (he : cur < e.length) (hz : sgn c e[cur] ≠ 0) (hk : K ws0[cur] (sgn c e[cur]) ≠ 0) : Ln c e ws0 last0 K (ws.set cur (K ws0[cur] (sgn c e[cur]))) last (cur + 1) := by
  refine ⟨by rw [List.length_set]; exact h.len, h.le, fun i h1 h2 h3 h4 => ?_, fun i h1 h2 h3 h4 h5 => ?_, h.inj, h.rng⟩
  · rw [List.length_set] at h1
    rw [List.getElem_set_ne (by rintro rfl; rcases h4 with h4 | h4; · omega
                                exact hz h4)]
    exact h.old i h1 h2 h3 (by rcases h4 with h4 | h4; · exact .inl (by omega)
                               exact .inr h4)
  · rw [List.length_set] at h1
    rcases Nat.lt_or_ge i cur with h6 | h6
    · rw [List.getElem_set_ne (by omega)]; exact h.new i h1 h2 h3 h6 h5
    · obtain rfl : i = cur := by omega
      rw [List.getElem_set_self]; exact ⟨rfl, hk⟩
/-- A run that has a new word. -/
theorem Ln.more {c : List (List Sp)} {e ws0 : List Int} {last0 : Int} {K : Int → Nat → Int} {ws : List Int} {last : Int} {cur : Nat} (h : Ln c e ws0 last0 K ws last cur) (h0 : 0 ≤ last0) (hc : cur < ws0.length) (he : cur < e.length) (hz : sgn c e[cur] ≠ 0) (hk : K ws0[cur] (sgn c e[cur]) = 0) :
    Ln c e ws0 last0 (fun a b => if a = ws0[cur] ∧ b = sgn c e[cur] then last + 1 else K a b) (ws.set cur (last + 1)) (last + 1) (cur + 1) := by
  have hle := h.le
  refine ⟨by rw [List.length_set]; exact h.len, by omega, fun i h1 h2 h3 h4 => ?_, fun i h1 h2 h3 h4 h5 => ?_, fun a b a' b' h1 h2 => ?_, fun a b h1 => ?_⟩
  · rw [List.length_set] at h1
    rw [List.getElem_set_ne (by rintro rfl; rcases h4 with h4 | h4; · omega
                                exact hz h4)]
    exact h.old i h1 h2 h3 (by rcases h4 with h4 | h4; · exact .inl (by omega)
                               exact .inr h4)
  · rw [List.length_set] at h1
    rcases Nat.lt_or_ge i cur with h6 | h6
    · rw [List.getElem_set_ne (by omega)]
      obtain ⟨h7, h8⟩ := h.new i h1 h2 h3 h6 h5
      rw [if_neg (fun h9 => by rw [h9.1, h9.2] at h7; rw [hk] at h7; exact h8 h7)]
      exact ⟨h7, h8⟩
    · obtain rfl : i = cur := by omega
      rw [List.getElem_set_self, if_pos ⟨rfl, rfl⟩]; exact ⟨rfl, by omega⟩
  · by_cases k1 : a = ws0[cur] ∧ b = sgn c e[cur]
    · by_cases k2 : a' = ws0[cur] ∧ b' = sgn c e[cur]
      · exact ⟨k1.1.trans k2.1.symm, k1.2.trans k2.2.symm⟩
      · rw [if_pos k1, if_neg k2] at h2
        have := h.rng a' b' (by omega)
        omega
    · rw [if_neg k1] at h1 h2
      by_cases k2 : a' = ws0[cur] ∧ b' = sgn c e[cur]
      · rw [if_pos k2] at h2
        have := h.rng a b h1
        omega
      · rw [if_neg k2] at h2
        exact h.inj a b a' b' h1 h2
  · by_cases k1 : a = ws0[cur] ∧ b = sgn c e[cur]
    · rw [if_pos k1]; omega
    · rw [if_neg k1] at h1 ⊢
      have := h.rng a b h1
      omega
/-- When all runs are done. -/
theorem Ln.fin {S c : List (List Sp)} {e ws0 : List Int} {last0 : Int} {K : Int → Nat → Int} {ws : List Int} {last : Int} (hw : Wd S e ws0 last0) (h : Ln c e ws0 last0 K ws last e.length) : Wd (S ++ c) e ws last := by
  have hl := hw.len
  have hl2 := h.len
  have h0 := hw.nn
  have h1 := h.le
  have hval : ∀ i (hi : i < ws.length), (sgn c (e[i]'(by omega)) = 0 ∧ ws[i] = ws0[i]'(by omega)) ∨ (sgn c (e[i]'(by omega)) ≠ 0 ∧ ws[i] = K (ws0[i]'(by omega)) (sgn c (e[i]'(by omega))) ∧ ws[i] ≠ 0) := fun i hi => by
    by_cases hz : sgn c (e[i]'(by omega)) = 0
    · exact .inl ⟨hz, h.old i hi (by omega) (by omega) (.inr hz)⟩
    · exact .inr ⟨hz, h.new i hi (by omega) (by omega) (by omega) hz⟩
  refine ⟨by omega, by omega, fun i hi => ?_, fun i hi hi' => ?_, fun i j hi hj hi' hj' => ?_⟩
  · rcases hval i hi with ⟨_, h3⟩ | ⟨_, h3, h4⟩
    · have := hw.rng i (by omega); omega
    · have := h.rng _ _ (h3 ▸ h4); omega
  · have h5 := hw.non i (by omega) hi'
    rcases hval i hi with ⟨h2, h3⟩ | ⟨h2, h3, h4⟩
    · rw [h3, h5]
      have h6 := bitsOf_zero.1 h2
      exact ⟨fun k s hs => (List.mem_append.1 hs).elim (k s) (h6 s), fun k s hs => k s (List.mem_append.2 (.inl hs))⟩
    · refine iff_of_false h4 (fun k => h2 (bitsOf_zero.2 (fun s hs => k s (List.mem_append.2 (.inr hs)))))
  · have h5 := hw.sam i j (by omega) (by omega) hi' hj'
    have hsg : sgn c e[i] = sgn c e[j] ↔ ∀ s ∈ c, (Mem s e[i] ↔ Mem s e[j]) := bitsOf_eq
    have happ : (∀ s ∈ S ++ c, (Mem s e[i] ↔ Mem s e[j])) ↔ ws0[i]'(by omega) = ws0[j]'(by omega) ∧ sgn c e[i] = sgn c e[j] := by
      rw [h5, hsg]
      exact ⟨fun k => ⟨fun s hs => k s (List.mem_append.2 (.inl hs)), fun s hs => k s (List.mem_append.2 (.inr hs))⟩, fun k s hs => (List.mem_append.1 hs).elim (k.1 s) (k.2 s)⟩
    rw [happ]
    rcases hval i hi with ⟨h2, h3⟩ | ⟨h2, h3, h4⟩ <;> rcases hval j hj with ⟨g2, g3⟩ | ⟨g2, g3, g4⟩
    · rw [h3, g3, h2, g2]; simp
    · have := h.rng _ _ (g3 ▸ g4)
      have := hw.rng i (by omega)
      exact iff_of_false (by omega) (fun k => g2 (by rw [← k.2]; exact h2))
    · have := h.rng _ _ (h3 ▸ h4)
      have := hw.rng j (by omega)
      exact iff_of_false (by omega) (fun k => h2 (by rw [k.2]; exact g2))
    · constructor
      · intro k
        rw [h3, g3] at k
        exact h.inj _ _ _ _ (h3 ▸ h4) k
      · rintro ⟨k1, k2⟩
        rw [h3, g3, k1, k2]
end TermsM
