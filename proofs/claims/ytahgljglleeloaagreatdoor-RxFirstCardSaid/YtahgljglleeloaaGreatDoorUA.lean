/- UMath, UWords, UEnc, in one text. -/
import Derived.WalkKit
import Derived.WalkLawsBesides
import Derived.Lib.Hide
import Derived.Laws.BitsLemmas
import Derived.Laws.BitsAllLaws
import Derived.BigQuiet
import Derived.Deep.QuietTactic
import Derived.Shelf.RegionOpen
import Derived.Test.YtahgljglleeloaaGreatDoorProg
/- Plain mathematics of layer 2: a scalar's bytes, the first char of bytes, all chars. -/
namespace Go.Proofs.YtahgljglleeloaaGreatDoor.U.UtfM

/-- A scalar: no surrogate, at most 10ffff. -/
def Sc (r : Int) : Prop := 0 ≤ r ∧ r ≤ 1114111 ∧ ¬ (55296 ≤ r ∧ r ≤ 57343)
instance (r : Int) : Decidable (Sc r) := by unfold Sc; exact inferInstance
def enc (r : Int) : List Int :=
  if Sc r then
    if r < 128 then [r]
    else if r < 2048 then [192 + r / 64, 128 + r % 64]
    else if r < 65536 then [224 + r / 4096, 128 + r / 64 % 64, 128 + r % 64]
    else [240 + r / 262144, 128 + r / 4096 % 64, 128 + r / 64 % 64, 128 + r % 64]
  else []
theorem enc0 {r : Int} (h : ¬ Sc r) : enc r = [] := by unfold enc; rw [if_neg h]
theorem enc1 {r : Int} (h : Sc r) (h1 : r < 128) : enc r = [r] := by unfold enc; rw [if_pos h, if_pos h1]
theorem enc2 {r : Int} (h : Sc r) (h1 : 128 ≤ r) (h2 : r < 2048) : enc r = [192 + r / 64, 128 + r % 64] := by
  unfold enc; rw [if_pos h, if_neg (by omega), if_pos h2]
theorem enc3 {r : Int} (h : Sc r) (h1 : 2048 ≤ r) (h2 : r < 65536) : enc r = [224 + r / 4096, 128 + r / 64 % 64, 128 + r % 64] := by
  unfold enc; rw [if_pos h, if_neg (by omega), if_neg (by omega), if_pos h2]
theorem enc4 {r : Int} (h : Sc r) (h1 : 65536 ≤ r) : enc r = [240 + r / 262144, 128 + r / 4096 % 64, 128 + r / 64 % 64, 128 + r % 64] := by
  unfold enc; rw [if_pos h, if_neg (by omega), if_neg (by omega), if_neg (by omega)]
/-- The four ranges of scalars. -/
theorem sc_cases {r : Int} (h : Sc r) : (0 ≤ r ∧ r < 128) ∨ (128 ≤ r ∧ r < 2048) ∨ (2048 ≤ r ∧ r < 65536) ∨ (65536 ≤ r ∧ r ≤ 1114111) := by
  unfold Sc at h; omega
theorem enc_len_le (r : Int) : (enc r).length ≤ 4 := by
  unfold enc; split <;> (try split) <;> (try split) <;> (try split) <;> simp
theorem enc_pos {r : Int} (h : Sc r) : 0 < (enc r).length := by
  rcases sc_cases h with ⟨a, b⟩ | ⟨a, b⟩ | ⟨a, b⟩ | ⟨a, b⟩
  · rw [enc1 h b]; simp
  · rw [enc2 h a b]; simp
  · rw [enc3 h a b]; simp
  · rw [enc4 h a]; simp
theorem enc_nil {r : Int} : enc r = [] ↔ ¬ Sc r := by
  constructor
  · intro h hs; have := enc_pos hs; rw [h] at this; simp at this
  · exact enc0
def IsBytes (l : List Int) : Prop := ∀ c ∈ l, 0 ≤ c ∧ c ≤ 255
theorem IsBytes.drop {l : List Int} (h : IsBytes l) (n : Nat) : IsBytes (l.drop n) := fun c hc => h c (List.mem_of_mem_drop hc)
theorem IsBytes.take {l : List Int} (h : IsBytes l) (n : Nat) : IsBytes (l.take n) := fun c hc => h c (List.mem_of_mem_take hc)
theorem IsBytes.append {l m : List Int} (h : IsBytes l) (g : IsBytes m) : IsBytes (l ++ m) := fun c hc => (List.mem_append.1 hc).elim (h c) (g c)
theorem IsBytes.nil : IsBytes [] := fun c h => by simp at h
theorem enc_bytes (r : Int) : IsBytes (enc r) := by
  intro c hc
  by_cases h : Sc r
  · have h' := h
    unfold Sc at h'
    rcases sc_cases h with ⟨a, b⟩ | ⟨a, b⟩ | ⟨a, b⟩ | ⟨a, b⟩
    · rw [enc1 h b] at hc; simp at hc; omega
    · rw [enc2 h a b] at hc; simp at hc; omega
    · rw [enc3 h a b] at hc; simp at hc; omega
    · rw [enc4 h a] at hc; simp at hc; omega
  · rw [enc0 h] at hc; simp at hc

/-- What a lead byte says: first bits, how many follow, the next one's ends. -/
structure Shape where
  bits : Int
  more : Nat
  lo : Int
  hi : Int
def lead (a : Int) : Option Shape :=
  if a < 128 then some ⟨a, 0, 0, 0⟩
  else if a < 194 then none
  else if a < 224 then some ⟨a - 192, 1, 128, 191⟩
  else if a = 224 then some ⟨a - 224, 2, 160, 191⟩
  else if a = 237 then some ⟨a - 224, 2, 128, 159⟩
  else if a < 240 then some ⟨a - 224, 2, 128, 191⟩
  else if a = 240 then some ⟨a - 240, 3, 144, 191⟩
  else if a < 244 then some ⟨a - 240, 3, 128, 191⟩
  else if a = 244 then some ⟨a - 240, 3, 128, 143⟩
  else none
theorem lead_in {a : Int} {s : Shape} (h : lead a = some s) (ha : 0 ≤ a) : 0 ≤ s.bits ∧ s.bits ≤ 127 ∧ s.more ≤ 3 ∧ (s.more ≠ 0 → s.bits ≤ 31 ∧ 128 ≤ s.lo ∧ s.lo ≤ 160 ∧ 143 ≤ s.hi ∧ s.hi ≤ 191) := by
  unfold lead at h
  repeat' split at h
  all_goals first | (cases h; done) | (obtain rfl := Option.some.inj h; refine ⟨?_, ?_, ?_, ?_⟩ <;> simp <;> omega)
/-- The bytes behind a lead byte: m of them are to come. -/
def goOn : Nat → Int → Int → Int → Nat → List Int → Int × Nat
  | 0, _, _, r, n, _ => (r, n)
  | _ + 1, _, _, _, n, [] => (-1, n)
  | m + 1, lo, hi, r, n, c :: t => if lo ≤ c ∧ c ≤ hi then goOn m 128 191 (r * 64 + (c - 128)) (n + 1) t else (-1, n)
def dec : List Int → Int × Nat
  | [] => (-1, 0)
  | a :: t => match lead a with
    | none => (-1, 1)
    | some s => goOn s.more s.lo s.hi s.bits 1 t
theorem dec_some {a : Int} {t : List Int} {s : Shape} (h : lead a = some s) : dec (a :: t) = goOn s.more s.lo s.hi s.bits 1 t := by
  simp only [dec, h]
theorem dec_none {a : Int} {t : List Int} (h : lead a = none) : dec (a :: t) = (-1, 1) := by
  simp only [dec, h]
theorem goOn_yes {m : Nat} {lo hi r c : Int} {n : Nat} {t : List Int} (h : lo ≤ c) (h2 : c ≤ hi) : goOn (m + 1) lo hi r n (c :: t) = goOn m 128 191 (r * 64 + (c - 128)) (n + 1) t := by
  rw [goOn, if_pos ⟨h, h2⟩]
theorem goOn_no {m : Nat} {lo hi r c : Int} {n : Nat} {t : List Int} (h : c < lo ∨ hi < c) : goOn (m + 1) lo hi r n (c :: t) = (-1, n) := by
  rw [goOn, if_neg (by omega)]
theorem goOn_end {m : Nat} {lo hi r : Int} {n : Nat} : goOn (m + 1) lo hi r n [] = (-1, n) := rfl
theorem goOn_zero {lo hi r : Int} {n : Nat} {t : List Int} : goOn 0 lo hi r n t = (r, n) := by cases t <;> rfl

/-- What a lead byte that is a scalar's first one says. -/
theorem lead2 {a : Int} (h : 194 ≤ a) (h2 : a < 224) : lead a = some ⟨a - 192, 1, 128, 191⟩ := by
  unfold lead; rw [if_neg (by omega), if_neg (by omega), if_pos (by omega)]
theorem lead3 {a : Int} (h : 224 ≤ a) (h2 : a < 240) : ∃ lo hi, lead a = some ⟨a - 224, 2, lo, hi⟩ ∧ lo = (if a = 224 then 160 else 128) ∧ hi = (if a = 237 then 159 else 191) := by
  unfold lead
  rw [if_neg (by omega), if_neg (by omega), if_neg (by omega)]
  by_cases h3 : a = 224
  · subst h3; exact ⟨_, _, rfl, rfl, rfl⟩
  · by_cases h4 : a = 237
    · subst h4; exact ⟨_, _, rfl, rfl, rfl⟩
    · rw [if_neg h3, if_neg h4, if_pos h2, if_neg h3, if_neg h4]; exact ⟨_, _, rfl, rfl, rfl⟩
theorem lead4 {a : Int} (h : 240 ≤ a) (h2 : a ≤ 244) : ∃ lo hi, lead a = some ⟨a - 240, 3, lo, hi⟩ ∧ lo = (if a = 240 then 144 else 128) ∧ hi = (if a = 244 then 143 else 191) := by
  unfold lead
  rw [if_neg (by omega), if_neg (by omega), if_neg (by omega), if_neg (by omega), if_neg (by omega), if_neg (by omega)]
  by_cases h3 : a = 240
  · subst h3; exact ⟨_, _, rfl, rfl, rfl⟩
  · by_cases h4 : a = 244
    · subst h4; exact ⟨_, _, rfl, rfl, rfl⟩
    · rw [if_neg h3, if_pos (by omega), if_neg h3, if_neg h4]; exact ⟨_, _, rfl, rfl, rfl⟩
theorem lead1 {a : Int} (h2 : a < 128) : lead a = some ⟨a, 0, 0, 0⟩ := by unfold lead; rw [if_pos h2]

/-- A scalar's bytes are read as the scalar, whatever stands behind. -/
theorem dec_enc {r : Int} (h : Sc r) (t : List Int) : dec (enc r ++ t) = (r, (enc r).length) := by
  have h' := h
  unfold Sc at h'
  rcases sc_cases h with ⟨a, b⟩ | ⟨a, b⟩ | ⟨a, b⟩ | ⟨a, b⟩
  · rw [enc1 h b, List.singleton_append, dec_some (lead1 b)]; rfl
  · rw [enc2 h a b]
    simp only [List.cons_append, List.nil_append]
    rw [dec_some (lead2 (by omega) (by omega)), goOn_yes (by simp only; omega) (by simp only; omega), goOn_zero]
    simp; omega
  · rw [enc3 h a b]
    simp only [List.cons_append, List.nil_append]
    obtain ⟨lo, hi, hl, h1, h2⟩ := lead3 (a := 224 + r / 4096) (by omega) (by omega)
    rw [dec_some hl]
    rw [goOn_yes (by simp only; rw [h1]; split <;> omega) (by simp only; rw [h2]; split <;> omega), goOn_yes (by omega) (by omega), goOn_zero]
    simp; omega
  · rw [enc4 h a]
    simp only [List.cons_append, List.nil_append]
    obtain ⟨lo, hi, hl, h1, h2⟩ := lead4 (a := 240 + r / 262144) (by omega) (by omega)
    rw [dec_some hl]
    rw [goOn_yes (by simp only; rw [h1]; split <;> omega) (by simp only; rw [h2]; split <;> omega), goOn_yes (by omega) (by omega), goOn_yes (by omega) (by omega), goOn_zero]
    simp; omega
/-- A scalar's bytes that are cut are one char that is none. -/
theorem dec_cut {r : Int} (n : Nat) (hn : 1 ≤ n) (hn2 : n < (enc r).length) : dec ((enc r).take n) = (-1, n) := by
  by_cases h : Sc r
  case neg => rw [enc0 h] at hn2; simp at hn2
  have h' := h
  unfold Sc at h'
  rcases sc_cases h with ⟨a, b⟩ | ⟨a, b⟩ | ⟨a, b⟩ | ⟨a, b⟩
  · rw [enc1 h b] at hn2; simp at hn2; omega
  · rw [enc2 h a b] at hn2 ⊢
    simp at hn2
    obtain rfl : n = 1 := by omega
    simp only [List.take_succ_cons, List.take_zero]
    rw [dec_some (lead2 (by omega) (by omega)), goOn_end]
  · rw [enc3 h a b] at hn2 ⊢
    simp at hn2
    obtain ⟨lo, hi, hl, h1, h2⟩ := lead3 (a := 224 + r / 4096) (by omega) (by omega)
    rcases (by omega : n = 1 ∨ n = 2) with rfl | rfl
    · simp only [List.take_succ_cons, List.take_zero]
      rw [dec_some hl, goOn_end]
    · simp only [List.take_succ_cons, List.take_zero]
      rw [dec_some hl]
      rw [goOn_yes (by simp only; rw [h1]; split <;> omega) (by simp only; rw [h2]; split <;> omega), goOn_end]
  · rw [enc4 h a] at hn2 ⊢
    simp at hn2
    obtain ⟨lo, hi, hl, h1, h2⟩ := lead4 (a := 240 + r / 262144) (by omega) (by omega)
    rcases (by omega : n = 1 ∨ n = 2 ∨ n = 3) with rfl | rfl | rfl
    · simp only [List.take_succ_cons, List.take_zero]
      rw [dec_some hl, goOn_end]
    · simp only [List.take_succ_cons, List.take_zero]
      rw [dec_some hl]
      rw [goOn_yes (by simp only; rw [h1]; split <;> omega) (by simp only; rw [h2]; split <;> omega), goOn_end]
    · simp only [List.take_succ_cons, List.take_zero]
      rw [dec_some hl]
      rw [goOn_yes (by simp only; rw [h1]; split <;> omega) (by simp only; rw [h2]; split <;> omega), goOn_yes (by omega) (by omega), goOn_end]

/-- What the first char of bytes is. -/
def DecOk (b : List Int) : Prop :=
  1 ≤ (dec b).2 ∧ (dec b).2 ≤ b.length ∧ ((dec b).1 = -1 ∧ (dec b).2 ≤ 3 ∨ Sc (dec b).1 ∧ enc (dec b).1 = b.take (dec b).2)
theorem lead_cases (a : Int) : a < 128 ∨ (lead a = none) ∨ (194 ≤ a ∧ a < 224) ∨ (224 ≤ a ∧ a < 240) ∨ (240 ≤ a ∧ a ≤ 244) := by
  by_cases h1 : a < 128
  · exact .inl h1
  by_cases h2 : a < 194
  · exact .inr (.inl (by unfold lead; rw [if_neg h1, if_pos h2]))
  by_cases h3 : 244 < a
  · exact .inr (.inl (by unfold lead; rw [if_neg h1, if_neg h2, if_neg (by omega), if_neg (by omega), if_neg (by omega), if_neg (by omega), if_neg (by omega), if_neg (by omega), if_neg (by omega)]))
  omega
theorem dec_ok {b : List Int} (hb : IsBytes b) (hne : b ≠ []) : DecOk b := by
  unfold DecOk
  match b, hne with
  | a :: t, _ =>
    have ha := hb a (by simp)
    rcases lead_cases a with h | h | ⟨h1, h2⟩ | ⟨h1, h2⟩ | ⟨h1, h2⟩
    · rw [dec_some (lead1 h), goOn_zero]
      have hs : Sc a := by unfold Sc; omega
      exact ⟨by simp, by simp, .inr ⟨hs, by rw [enc1 hs h]; rfl⟩⟩
    · rw [dec_none h]; exact ⟨by simp, by simp, .inl ⟨rfl, by simp⟩⟩
    · rw [dec_some (lead2 h1 h2)]
      match t with
      | [] => rw [goOn_end]; exact ⟨by simp, by simp, .inl ⟨rfl, by simp⟩⟩
      | c :: t =>
        by_cases hc : 128 ≤ c ∧ c ≤ 191
        · rw [goOn_yes hc.1 hc.2, goOn_zero]
          have hs : Sc ((a - 192) * 64 + (c - 128)) := by unfold Sc; omega
          exact ⟨by simp, by simp, .inr ⟨hs, by rw [enc2 hs (by omega) (by omega)]; simp; omega⟩⟩
        · rw [goOn_no (by simp only; omega)]; exact ⟨by simp, by simp, .inl ⟨rfl, by simp⟩⟩
    · obtain ⟨lo, hi, hl, e1, e2⟩ := lead3 h1 h2
      rw [dec_some hl]
      match t with
      | [] => rw [goOn_end]; exact ⟨by simp, by simp, .inl ⟨rfl, by simp⟩⟩
      | c :: t =>
        by_cases hc : lo ≤ c ∧ c ≤ hi
        · have hlo : 128 ≤ lo ∧ (a = 224 → lo = 160) := by rw [e1]; split <;> omega
          have hhi : hi ≤ 191 ∧ (a = 237 → hi = 159) := by rw [e2]; split <;> omega
          rw [goOn_yes hc.1 hc.2]
          match t with
          | [] => rw [goOn_end]; exact ⟨by simp, by simp, .inl ⟨rfl, by simp⟩⟩
          | d :: t =>
            by_cases hd : 128 ≤ d ∧ d ≤ 191
            · rw [goOn_yes hd.1 hd.2, goOn_zero]
              have hs : Sc (((a - 224) * 64 + (c - 128)) * 64 + (d - 128)) := by unfold Sc; omega
              exact ⟨by simp, by simp, .inr ⟨hs, by rw [enc3 hs (by omega) (by omega)]; simp; omega⟩⟩
            · rw [goOn_no (by omega)]; exact ⟨by simp, by simp, .inl ⟨rfl, by simp⟩⟩
        · rw [goOn_no (by simp only; omega)]; exact ⟨by simp, by simp, .inl ⟨rfl, by simp⟩⟩
    · obtain ⟨lo, hi, hl, e1, e2⟩ := lead4 h1 h2
      rw [dec_some hl]
      match t with
      | [] => rw [goOn_end]; exact ⟨by simp, by simp, .inl ⟨rfl, by simp⟩⟩
      | c :: t =>
        by_cases hc : lo ≤ c ∧ c ≤ hi
        · have hlo : 128 ≤ lo ∧ (a = 240 → lo = 144) := by rw [e1]; split <;> omega
          have hhi : hi ≤ 191 ∧ (a = 244 → hi = 143) := by rw [e2]; split <;> omega
          rw [goOn_yes hc.1 hc.2]
          match t with
          | [] => rw [goOn_end]; exact ⟨by simp, by simp, .inl ⟨rfl, by simp⟩⟩
          | d :: t =>
            by_cases hd : 128 ≤ d ∧ d ≤ 191
            · rw [goOn_yes hd.1 hd.2]
              match t with
              | [] => rw [goOn_end]; exact ⟨by simp, by simp, .inl ⟨rfl, by simp⟩⟩
              | f :: t =>
                by_cases hf : 128 ≤ f ∧ f ≤ 191
                · rw [goOn_yes hf.1 hf.2, goOn_zero]
                  have hs : Sc ((((a - 240) * 64 + (c - 128)) * 64 + (d - 128)) * 64 + (f - 128)) := by unfold Sc; omega
                  exact ⟨by simp, by simp, .inr ⟨hs, by rw [enc4 hs (by omega)]; simp; omega⟩⟩
                · rw [goOn_no (by omega)]; exact ⟨by simp, by simp, .inl ⟨rfl, by simp⟩⟩
            · rw [goOn_no (by omega)]; exact ⟨by simp, by simp, .inl ⟨rfl, by simp⟩⟩
        · rw [goOn_no (by simp only; omega)]; exact ⟨by simp, by simp, .inl ⟨rfl, by simp⟩⟩

/-- A char: its scalar (or -1), where it begins, how long it is. -/
abbrev Ch := Int × Nat × Nat
def chars (at0 : Nat) (b : List Int) : List Ch :=
  if _h : b = [] then [] else ((dec b).1, at0, (dec b).2) :: chars (at0 + (dec b).2) (b.drop (max 1 (dec b).2))
termination_by b.length
decreasing_by
  have : 0 < b.length := List.length_pos_iff.2 _h
  simp; omega
theorem chars_nil (at0 : Nat) : chars at0 [] = [] := by rw [chars]; simp
theorem chars_step {b : List Int} (hb : IsBytes b) (hne : b ≠ []) (at0 : Nat) : chars at0 b = ((dec b).1, at0, (dec b).2) :: chars (at0 + (dec b).2) (b.drop (dec b).2) := by
  rw [chars, dif_neg hne]
  have := (dec_ok hb hne).1
  rw [show max 1 (dec b).2 = (dec b).2 from by omega]
/-- Bytes are gone through char by char. -/
theorem bytes_rec {P : List Int → Prop} (h0 : P []) (h1 : ∀ b, IsBytes b → b ≠ [] → P (b.drop (dec b).2) → P b) : ∀ b, IsBytes b → P b := by
  intro b
  generalize hn : b.length = n
  induction n using Nat.strongRecOn generalizing b with
  | _ n ih =>
    intro hb
    by_cases hne : b = []
    · rw [hne]; exact h0
    · have hd := dec_ok hb hne
      unfold DecOk at hd
      exact h1 b hb hne (ih (b.drop (dec b).2).length (by rw [List.length_drop]; omega) _ rfl (hb.drop _))
theorem chars_shift : ∀ b, IsBytes b → ∀ at0 k : Nat, chars (k + at0) b = (chars at0 b).map (fun c => (c.1, k + c.2.1, c.2.2)) := by
  apply bytes_rec
  · intro at0 k; rw [chars_nil, chars_nil]; rfl
  · intro b hb hne ih at0 k
    rw [chars_step hb hne, chars_step hb hne, List.map_cons, Nat.add_assoc, ih]
theorem chars_len_le : ∀ b, IsBytes b → ∀ at0 : Nat, (chars at0 b).length ≤ b.length := by
  apply bytes_rec
  · intro at0; rw [chars_nil]; simp
  · intro b hb hne ih at0
    have hd := dec_ok hb hne
    unfold DecOk at hd
    have := ih (at0 + (dec b).2)
    rw [chars_step hb hne, List.length_cons]
    rw [List.length_drop] at this
    omega
/-- All chars are within the bytes. -/
theorem chars_in : ∀ b, IsBytes b → ∀ at0 : Nat, ∀ c ∈ chars at0 b, (c.1 = -1 ∨ Sc c.1) ∧ at0 ≤ c.2.1 ∧ c.2.1 + c.2.2 ≤ at0 + b.length ∧ 1 ≤ c.2.2 ∧ c.2.2 ≤ 4 := by
  apply bytes_rec
  · intro at0 c hc; rw [chars_nil] at hc; simp at hc
  · intro b hb hne ih at0 c hc
    have hd := dec_ok hb hne
    unfold DecOk at hd
    rw [chars_step hb hne, List.mem_cons] at hc
    rcases hc with rfl | hc
    · refine ⟨?_, by simp, by simp; omega, hd.1, ?_⟩
      · rcases hd.2.2 with h | h
        · exact .inl h.1
        · exact .inr h.1
      · rcases hd.2.2 with h | h
        · simp only; omega
        · have h1 := enc_len_le (dec b).1
          rw [h.2, List.length_take] at h1
          simp only; omega
    · obtain ⟨h1, h2, h3, h4⟩ := ih _ c hc
      rw [List.length_drop] at h3
      exact ⟨h1, by omega, by omega, h4⟩
/-- Where the first char that is none begins. -/
def firstOf (l : List Ch) : Int := match l.find? (fun c => decide (c.1 < 0)) with
  | some c => c.2.1
  | none => -1
theorem firstOf_nil : firstOf [] = -1 := rfl
theorem firstOf_bad {c : Ch} {l : List Ch} (h : c.1 < 0) : firstOf (c :: l) = c.2.1 := by
  unfold firstOf; rw [List.find?_cons_of_pos (by simpa using h)]
theorem firstOf_good {c : Ch} {l : List Ch} (h : 0 ≤ c.1) : firstOf (c :: l) = firstOf l := by
  unfold firstOf; rw [List.find?_cons_of_neg (by simp; omega)]
def first (b : List Int) : Int := firstOf (chars 0 b)

/-- Scalars written one behind the other. -/
def wr (xs : List Int) : List Int := xs.flatMap enc
theorem wr_bytes (xs : List Int) : IsBytes (wr xs) := by
  intro c hc
  obtain ⟨x, _, h⟩ := List.mem_flatMap.1 hc
  exact enc_bytes x c h
theorem wr_nil : wr [] = [] := rfl
theorem wr_cons (x : Int) (xs : List Int) : wr (x :: xs) = enc x ++ wr xs := by simp [wr]
theorem wr_append (xs ys : List Int) : wr (xs ++ ys) = wr xs ++ wr ys := by simp [wr]
theorem wr_len_le (xs : List Int) : (wr xs).length ≤ 4 * xs.length := by
  induction xs with
  | nil => simp [wr]
  | cons x t ih => rw [wr_cons, List.length_append, List.length_cons]; have := enc_len_le x; omega
/-- What is read of scalars that were written, with anything behind. -/
theorem chars_wr (b : List Int) (hb : IsBytes b) : ∀ (xs : List Int) (at0 : Nat), chars at0 (wr xs ++ b) = chars at0 (wr xs) ++ chars (at0 + (wr xs).length) b := by
  intro xs
  induction xs with
  | nil => intro at0; simp [wr_nil, chars_nil]
  | cons x t ih =>
    intro at0
    rw [wr_cons]
    by_cases hs : Sc x
    · have hne : enc x ++ wr t ≠ [] := by intro h; have := enc_pos hs; rw [List.append_eq_nil_iff] at h; rw [h.1] at this; simp at this
      have hne2 : enc x ++ wr t ++ b ≠ [] := by intro h; exact hne (List.append_eq_nil_iff.1 h).1
      rw [chars_step (((enc_bytes x).append (wr_bytes t)).append hb) hne2, chars_step ((enc_bytes x).append (wr_bytes t)) hne, List.append_assoc, dec_enc hs, dec_enc hs]
      dsimp only
      rw [List.drop_left, List.drop_left, ih, List.length_append, List.cons_append, Nat.add_assoc]
    · rw [enc0 hs]; simpa using ih at0
theorem chars_wr_scalars : ∀ (xs : List Int) (at0 : Nat), (chars at0 (wr xs)).map (·.1) = xs.filter (fun x => decide (Sc x)) := by
  intro xs
  induction xs with
  | nil => intro at0; simp [wr_nil, chars_nil]
  | cons x t ih =>
    intro at0
    rw [wr_cons]
    by_cases hs : Sc x
    · have hne : enc x ++ wr t ≠ [] := by intro h; have := enc_pos hs; rw [List.append_eq_nil_iff] at h; rw [h.1] at this; simp at this
      rw [chars_step ((enc_bytes x).append (wr_bytes t)) hne, dec_enc hs]
      dsimp only
      rw [List.drop_left, List.map_cons, ih, List.filter_cons_of_pos (by simpa using hs)]
    · rw [enc0 hs, List.filter_cons_of_neg (by simpa using hs)]; simpa using ih at0
theorem firstOf_all {l : List Ch} (h : ∀ c ∈ l, 0 ≤ c.1) : firstOf l = -1 := by
  induction l with
  | nil => rfl
  | cons c t ih => rw [firstOf_good (h c (by simp))]; exact ih (fun c hc => h c (by simp [hc]))
theorem first_wr (xs : List Int) : first (wr xs) = -1 := by
  apply firstOf_all
  intro c hc
  have : c.1 ∈ (chars 0 (wr xs)).map (·.1) := List.mem_map.2 ⟨c, hc, rfl⟩
  rw [chars_wr_scalars, List.mem_filter] at this
  have h := this.2
  simp [Sc] at h
  omega
/-- What lies ahead of the first char that is none. -/
theorem first_at : ∀ b, IsBytes b → ∀ at0 : Nat, (firstOf (chars at0 b) = -1 ∧ ∀ c ∈ chars at0 b, 0 ≤ c.1) ∨
    ∃ k : Nat, firstOf (chars at0 b) = ((at0 + k : Nat) : Int) ∧ k < b.length ∧ (dec (b.drop k)).1 = -1 ∧ ∃ xs, b.take k = wr xs := by
  apply bytes_rec
  · intro at0; rw [chars_nil]; exact .inl ⟨rfl, by simp⟩
  · intro b hb hne ih at0
    have hd := dec_ok hb hne
    unfold DecOk at hd
    have hpos : 0 < b.length := List.length_pos_iff.2 hne
    rw [chars_step hb hne]
    rcases hd.2.2 with h | h
    · rw [firstOf_bad (by simp only; omega)]
      exact .inr ⟨0, by simp, hpos, by simpa using h.1, [], by simp [wr_nil]⟩
    · have h0 : 0 ≤ (dec b).1 := by have := h.1; unfold Sc at this; omega
      rw [firstOf_good h0]
      rcases ih (at0 + (dec b).2) with ⟨e1, e2⟩ | ⟨k, e1, e2, e3, xs, e4⟩
      · refine .inl ⟨e1, fun c hc => ?_⟩
        rcases List.mem_cons.1 hc with rfl | hc
        · exact h0
        · exact e2 c hc
      · rw [List.length_drop] at e2
        refine .inr ⟨(dec b).2 + k, by rw [e1]; congr 1; omega, by omega, by rw [← List.drop_drop]; exact e3, (dec b).1 :: xs, ?_⟩
        rw [wr_cons, h.2, ← e4, List.take_add]

/-- Bytes are in the order of their scalars. -/
def lexLt : List Int → List Int → Bool
  | _, [] => false
  | [], _ :: _ => true
  | a :: s, b :: t => decide (a < b) || (a == b && lexLt s t)
end Go.Proofs.YtahgljglleeloaaGreatDoor.U.UtfM

/- Words for memory: a slice of bytes that reads as a list of numbers. -/
namespace Go.Proofs.YtahgljglleeloaaGreatDoor.U
open Go.RowKit Go.Shelf UtfM

/-- The slice value holds the bytes l, in a block below n₀ (or there are none). -/
def Bytes (n₀ : Nat) (W : World) (A : Option Addr) (l : List Int) : Prop :=
  IsBytes l ∧ (l ≠ [] → ∃ b off, A = some ⟨b, off, none⟩ ∧ b < n₀ ∧ ∀ j (h : j < l.length), W.cell? ⟨b, off + j, none⟩ = some (.int .u8 l[j]))
theorem Bytes.below {n₀ : Nat} {V W : World} (h : Below n₀ V W) {A : Option Addr} {l : List Int} (hs : Bytes n₀ V A l) : Bytes n₀ W A l := ⟨hs.1, fun hl => by
  obtain ⟨b, off, e, hb, hc⟩ := hs.2 hl
  exact ⟨b, off, e, hb, fun j hj => (h.cell (p := ⟨b, off + j, none⟩) hb).trans (hc j hj)⟩⟩
theorem Bytes.mono {n₀ n₁ : Nat} {W : World} {A : Option Addr} {l : List Int} (hs : Bytes n₀ W A l) (h : n₀ ≤ n₁) : Bytes n₁ W A l := ⟨hs.1, fun hl => by
  obtain ⟨b, off, e, hb, hc⟩ := hs.2 hl
  exact ⟨b, off, e, by omega, hc⟩⟩
theorem Bytes.nil {n₀ : Nat} {W : World} {A : Option Addr} : Bytes n₀ W A [] := ⟨IsBytes.nil, fun h => absurd rfl h⟩
/-- A slice of bytes, here and now. -/
def By (W : World) (A : Option Addr) (l : List Int) : Prop := Bytes W.heap.size W A l
theorem By.step {W W' : World} {A : Option Addr} {l : List Int} (h : By W A l) (hb : Below W.heap.size W W') : By W' A l := (Bytes.below hb h).mono hb.size
theorem By.nil {W : World} {A : Option Addr} : By W A [] := Bytes.nil
theorem By.drop {W : World} {b off : Nat} {l : List Int} (h : By W (some ⟨b, off, none⟩) l) (k : Nat) : By W (some ⟨b, off + k, none⟩) (l.drop k) := ⟨h.1.drop k, fun hne => by
  obtain ⟨b', off', e, hb, hc⟩ := h.2 (by intro h0; rw [h0] at hne; simp at hne)
  cases e
  refine ⟨b, off + k, rfl, hb, fun j hj => ?_⟩
  rw [List.length_drop] at hj
  have := hc (k + j) (by omega)
  rw [show off + k + j = off + (k + j) from by omega, this, List.getElem_drop]⟩
theorem By.take {W : World} {A : Option Addr} {l : List Int} (h : By W A l) (k : Nat) : By W A (l.take k) := ⟨h.1.take k, fun hne => by
  obtain ⟨b', off', e, hb, hc⟩ := h.2 (by intro h0; rw [h0] at hne; simp at hne)
  refine ⟨b', off', e, hb, fun j hj => ?_⟩
  rw [List.length_take] at hj
  rw [hc j (by omega), List.getElem_take]⟩
end Go.Proofs.YtahgljglleeloaaGreatDoor.U

/- utf.Encode: a scalar's bytes. -/
namespace Go.Proofs.YtahgljglleeloaaGreatDoor.U
open Go.RowKit Go.Shelf UtfM

def EncPost (w : World) (r : Int) (e : Ending) (w' : World) : Prop :=
  ∃ P c, e = .returned (.slice P (enc r).length c) ∧ By w' P (enc r) ∧ (enc r).length ≤ c ∧ c ≤ 4 ∧ (P = none → c = 0) ∧ (enc r = [] → P = none) ∧ Below w.heap.size w w'

def EncNew (w : World) (r : Int) (e : Ending) (w' : World) : Prop :=
  ∃ P c, e = .returned (.slice P (enc r).length c) ∧ By w' P (enc r) ∧ (enc r).length ≤ c ∧ c ≤ 4 ∧ (P = none → c = 0) ∧ (enc r = [] → P = none) ∧ (∀ a, P = some a → w.heap.size ≤ a.block) ∧ Below w.heap.size w w'

theorem wraps_i64 (n : Int) (_h₀ : 0 ≤ n) (h₁ : n < 2 ^ 31) : IntKind.i64.wrap n = n := by rw [IntKind.wrap_i64]; omega
theorem i64_and63 (x : Int) (h₀ : 0 ≤ x) (h₁ : x < 2147483648) : bits .and .i64 x 63 = x % 64 := bits_mask .i64 31 (by decide) wraps_i64 6 (by decide) x h₀ h₁
theorem i64_or6 (x y : Int) (hx₀ : 0 ≤ x) (hx : x % 64 = 0) (hx₁ : x < 2147483648) (h₀ : 0 ≤ y) (h₁ : y < 64) : bits .or .i64 x y = x + y :=
  bits_join .i64 31 (by decide) wraps_i64 6 x y hx₀ hx hx₁ h₀ h₁ (by omega)
theorem i64_or5 (x y : Int) (hx₀ : 0 ≤ x) (hx : x % 32 = 0) (hx₁ : x < 2147483648) (h₀ : 0 ≤ y) (h₁ : y < 32) : bits .or .i64 x y = x + y :=
  bits_join .i64 31 (by decide) wraps_i64 5 x y hx₀ hx hx₁ h₀ h₁ (by omega)
theorem i64_or4 (x y : Int) (hx₀ : 0 ≤ x) (hx : x % 16 = 0) (hx₁ : x < 2147483648) (h₀ : 0 ≤ y) (h₁ : y < 16) : bits .or .i64 x y = x + y :=
  bits_join .i64 31 (by decide) wraps_i64 4 x y hx₀ hx hx₁ h₀ h₁ (by omega)
theorem i64_or0 (y : Int) (h₀ : 0 ≤ y) (h₁ : y < 2147483648) : bits .or .i64 0 y = y := by
  rw [bits_join .i64 31 (by decide) wraps_i64 31 0 y (by decide) (by decide) (by decide) h₀ (by omega) (by omega)]; omega

/-- A new block of bytes. -/
theorem by_new (w : World) (t : TypeId) (l : List Int) (hl : IsBytes l) : By (w.alloc (.cells (l.map (Value.int .u8)).toArray t)) (some ⟨w.heap.size, 0, none⟩) l :=
  ⟨hl, fun _ => ⟨w.heap.size, 0, rfl, by rw [World.size_alloc]; omega, fun j hj => by
    rw [cell_of_row _ w.heap.size _ _ _ _ (heap_alloc_new w _)]
    simp [hj]⟩⟩
theorem enc_shut (w : World) (r : Int) (l : List Int) (n : Nat) (h : enc r = l) (hn : l.length = n) (hn4 : n ≤ 4) (hne : 0 < n) (C : Array Value) (hC : C = (l.map (Value.int .u8)).toArray) :
    EncNew w r (.returned (.slice (some ⟨w.heap.size, 0, none⟩) n n)) (w.alloc (.cells C 5)) := by
  subst hn hC
  refine ⟨_, _, by rw [h], by rw [h]; exact by_new w _ l (by rw [← h]; exact enc_bytes r), by rw [h]; exact Nat.le_refl _, hn4, (fun h => by cases h), (fun h0 => by rw [h] at h0; subst h0; exact absurd hne (by simp)), (fun a ha => by cases ha; exact Nat.le_refl _), (Below.refl _ _).alloc (Nat.le_refl _) _⟩

set_option maxRecDepth 100000 in
set_option maxHeartbeats 1000000 in
theorem enc_low (r : Int) (h : r < 0) (w : World) : Calls Tryz.prog 118 #[.int .i64 r] w (EncNew w r) := by
  have HS := Lib.hid (enc0 (r := r) (by unfold Sc; omega))
  go_enter Tryz.func118, Tryz.ntmps118
  go_wp2
  go_ret
  exact ⟨none, 0, by rw [HS.out]; rfl, by rw [HS.out]; exact By.nil, by rw [HS.out]; simp, by omega, fun _ => rfl, fun _ => rfl, (fun a ha => by cases ha), Below.refl _ _⟩

set_option maxRecDepth 100000 in
set_option maxHeartbeats 1000000 in
theorem enc_high (r : Int) (h : 1114111 < r) (w : World) : Calls Tryz.prog 118 #[.int .i64 r] w (EncNew w r) := by
  have HS := Lib.hid (enc0 (r := r) (by unfold Sc; omega))
  have d0 : ¬ (r < 0) := by omega
  go_enter Tryz.func118, Tryz.ntmps118
  go_wp2
  go_ret
  exact ⟨none, 0, by rw [HS.out]; rfl, by rw [HS.out]; exact By.nil, by rw [HS.out]; simp, by omega, fun _ => rfl, fun _ => rfl, (fun a ha => by cases ha), Below.refl _ _⟩

set_option maxRecDepth 100000 in
set_option maxHeartbeats 1000000 in
theorem enc_gap (r : Int) (h : 55296 ≤ r) (h2 : r ≤ 57343) (w : World) : Calls Tryz.prog 118 #[.int .i64 r] w (EncNew w r) := by
  have HS := Lib.hid (enc0 (r := r) (by unfold Sc; omega))
  have d0 : ¬ (r < 0) := by omega
  have d1 : ¬ (1114111 < r) := by omega
  go_enter Tryz.func118, Tryz.ntmps118
  go_wp2
  go_ret
  exact ⟨none, 0, by rw [HS.out]; rfl, by rw [HS.out]; exact By.nil, by rw [HS.out]; simp, by omega, fun _ => rfl, fun _ => rfl, (fun a ha => by cases ha), Below.refl _ _⟩

set_option maxRecDepth 100000 in
set_option maxHeartbeats 1000000 in
theorem enc_one (r : Int) (h : 0 ≤ r) (h2 : r < 128) (w : World) : Calls Tryz.prog 118 #[.int .i64 r] w (EncNew w r) := by
  have hmk : ∀ w, (Instr.makeSlice 38 (.int .i64 1) (.int .i64 1)).run Tryz.prog w = .ok (.slice (some ⟨w.heap.size, 0, none⟩) 1 1) (w.alloc (.cells #[.int .u8 0] 5)) := fun _ => by kernel_rfl
  have d0 : ¬ (r < 0) := by omega
  have d1 : ¬ (1114111 < r) := by omega
  have d2 : ¬ (55296 ≤ r) := by omega
  go_enter Tryz.func118, Tryz.ntmps118
  go_wp2
  refine wp_loop_rounds 1 ?_
  rw [rounds_succ]
  go_wp2
  go_ret
  refine enc_shut w r [r] 1 (enc1 (by unfold Sc; omega) h2) rfl (by omega) (by omega) _ ?_
  simp [i64_or0 r (by omega) (by omega)]; omega

set_option maxRecDepth 100000 in
set_option maxHeartbeats 1000000 in
theorem enc_two (r : Int) (h : 128 ≤ r) (h2 : r < 2048) (w : World) : Calls Tryz.prog 118 #[.int .i64 r] w (EncNew w r) := by
  have hmk : ∀ w, (Instr.makeSlice 38 (.int .i64 2) (.int .i64 2)).run Tryz.prog w = .ok (.slice (some ⟨w.heap.size, 0, none⟩) 2 2) (w.alloc (.cells #[.int .u8 0, .int .u8 0] 5)) := fun _ => by kernel_rfl
  have d0 : ¬ (r < 0) := by omega
  have d1 : ¬ (1114111 < r) := by omega
  have d2 : ¬ (55296 ≤ r) := by omega
  have d3 : ¬ (r < 128) := by omega
  go_enter Tryz.func118, Tryz.ntmps118
  go_wp2
  refine wp_loop_rounds 2 ?_
  rw [rounds_succ]
  go_wp2
  rw [rounds_succ]
  go_wp2
  go_ret
  refine enc_shut w r [192 + r / 64, 128 + r % 64] 2 (enc2 (by unfold Sc; omega) h h2) rfl (by omega) (by omega) _ ?_
  rw [i64_and63 r (by omega) (by omega), i64_or6 128 (r % 64) (by omega) (by omega) (by omega) (by omega) (by omega), i64_or5 192 (r / 64) (by omega) (by omega) (by omega) (by omega) (by omega)]; simp; omega

set_option maxRecDepth 100000 in
set_option maxHeartbeats 1000000 in
theorem enc_three (r : Int) (h : 2048 ≤ r) (h2 : r < 55296) (w : World) : Calls Tryz.prog 118 #[.int .i64 r] w (EncNew w r) := by
  have hmk : ∀ w, (Instr.makeSlice 38 (.int .i64 3) (.int .i64 3)).run Tryz.prog w = .ok (.slice (some ⟨w.heap.size, 0, none⟩) 3 3) (w.alloc (.cells #[.int .u8 0, .int .u8 0, .int .u8 0] 5)) := fun _ => by kernel_rfl
  have d0 : ¬ (r < 0) := by omega
  have d1 : ¬ (1114111 < r) := by omega
  have d2 : ¬ (55296 ≤ r) := by omega
  have d3 : ¬ (r < 128) := by omega
  have d4 : ¬ (r < 2048) := by omega
  have d5 : r < 65536 := by omega
  go_enter Tryz.func118, Tryz.ntmps118
  go_wp2
  refine wp_loop_rounds 3 ?_
  rw [rounds_succ]
  go_wp2
  rw [rounds_succ]
  go_wp2
  rw [rounds_succ]
  go_wp2
  go_ret
  refine enc_shut w r [224 + r / 4096, 128 + r / 64 % 64, 128 + r % 64] 3 (enc3 (by unfold Sc; omega) h (by omega)) rfl (by omega) (by omega) _ ?_
  rw [i64_and63 r (by omega) (by omega), i64_or6 128 (r % 64) (by omega) (by omega) (by omega) (by omega) (by omega), i64_and63 (r / 64) (by omega) (by omega), i64_or6 128 (r / 64 % 64) (by omega) (by omega) (by omega) (by omega) (by omega), i64_or5 224 (r / 64 / 64) (by omega) (by omega) (by omega) (by omega) (by omega)]; simp; omega

set_option maxRecDepth 100000 in
set_option maxHeartbeats 1000000 in
theorem enc_threeb (r : Int) (h : 57344 ≤ r) (h2 : r < 65536) (w : World) : Calls Tryz.prog 118 #[.int .i64 r] w (EncNew w r) := by
  have hmk : ∀ w, (Instr.makeSlice 38 (.int .i64 3) (.int .i64 3)).run Tryz.prog w = .ok (.slice (some ⟨w.heap.size, 0, none⟩) 3 3) (w.alloc (.cells #[.int .u8 0, .int .u8 0, .int .u8 0] 5)) := fun _ => by kernel_rfl
  have d0 : ¬ (r < 0) := by omega
  have d1 : ¬ (1114111 < r) := by omega
  have d2 : 55296 ≤ r := by omega
  have d6 : ¬ (r ≤ 57343) := by omega
  have d3 : ¬ (r < 128) := by omega
  have d4 : ¬ (r < 2048) := by omega
  go_enter Tryz.func118, Tryz.ntmps118
  go_wp2
  refine wp_loop_rounds 3 ?_
  rw [rounds_succ]
  go_wp2
  rw [rounds_succ]
  go_wp2
  rw [rounds_succ]
  go_wp2
  go_ret
  refine enc_shut w r [224 + r / 4096, 128 + r / 64 % 64, 128 + r % 64] 3 (enc3 (by unfold Sc; omega) (by omega) h2) rfl (by omega) (by omega) _ ?_
  rw [i64_and63 r (by omega) (by omega), i64_or6 128 (r % 64) (by omega) (by omega) (by omega) (by omega) (by omega), i64_and63 (r / 64) (by omega) (by omega), i64_or6 128 (r / 64 % 64) (by omega) (by omega) (by omega) (by omega) (by omega), i64_or5 224 (r / 64 / 64) (by omega) (by omega) (by omega) (by omega) (by omega)]; simp; omega

set_option maxRecDepth 100000 in
set_option maxHeartbeats 1000000 in
theorem enc_four (r : Int) (h : 65536 ≤ r) (h2 : r ≤ 1114111) (w : World) : Calls Tryz.prog 118 #[.int .i64 r] w (EncNew w r) := by
  have hmk : ∀ w, (Instr.makeSlice 38 (.int .i64 4) (.int .i64 4)).run Tryz.prog w = .ok (.slice (some ⟨w.heap.size, 0, none⟩) 4 4) (w.alloc (.cells #[.int .u8 0, .int .u8 0, .int .u8 0, .int .u8 0] 5)) := fun _ => by kernel_rfl
  have d0 : ¬ (r < 0) := by omega
  have d1 : ¬ (1114111 < r) := by omega
  have d2 : 55296 ≤ r := by omega
  have d6 : ¬ (r ≤ 57343) := by omega
  have d3 : ¬ (r < 128) := by omega
  have d4 : ¬ (r < 2048) := by omega
  have d5 : ¬ (r < 65536) := by omega
  go_enter Tryz.func118, Tryz.ntmps118
  go_wp2
  refine wp_loop_rounds 4 ?_
  rw [rounds_succ]
  go_wp2
  rw [rounds_succ]
  go_wp2
  rw [rounds_succ]
  go_wp2
  rw [rounds_succ]
  go_wp2
  go_ret
  refine enc_shut w r [240 + r / 262144, 128 + r / 4096 % 64, 128 + r / 64 % 64, 128 + r % 64] 4 (enc4 (by unfold Sc; omega) h) rfl (by omega) (by omega) _ ?_
  rw [i64_and63 r (by omega) (by omega), i64_or6 128 (r % 64) (by omega) (by omega) (by omega) (by omega) (by omega), i64_and63 (r / 64) (by omega) (by omega), i64_or6 128 (r / 64 % 64) (by omega) (by omega) (by omega) (by omega) (by omega), i64_and63 (r / 64 / 64) (by omega) (by omega), i64_or6 128 (r / 64 / 64 % 64) (by omega) (by omega) (by omega) (by omega) (by omega), i64_or4 240 (r / 64 / 64 / 64) (by omega) (by omega) (by omega) (by omega) (by omega)]; simp; omega

theorem enc_n (r : Int) (w : World) : Calls Tryz.prog 118 #[.int .i64 r] w (EncNew w r) := by
  by_cases h0 : r < 0
  · exact enc_low r h0 w
  by_cases h1 : 1114111 < r
  · exact enc_high r h1 w
  by_cases h2 : r < 128
  · exact enc_one r (by omega) h2 w
  by_cases h3 : r < 2048
  · exact enc_two r (by omega) h3 w
  by_cases h4 : r < 55296
  · exact enc_three r (by omega) h4 w
  by_cases h5 : r ≤ 57343
  · exact enc_gap r (by omega) h5 w
  by_cases h6 : r < 65536
  · exact enc_threeb r (by omega) h6 w
  exact enc_four r (by omega) (by omega) w
theorem enc_c (r : Int) (w : World) : Calls Tryz.prog 118 #[.int .i64 r] w (EncPost w r) :=
  (enc_n r w).mono fun _ _ ⟨P, c, h1, h2, h3, h4, h5, h6, _, h7⟩ => ⟨P, c, h1, h2, h3, h4, h5, h6, h7⟩
end Go.Proofs.YtahgljglleeloaaGreatDoor.U
