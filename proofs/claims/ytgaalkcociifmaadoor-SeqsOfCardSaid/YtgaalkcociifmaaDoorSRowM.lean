/- Plain mathematics of layer 3: what a piece's row takes, and how many rows of bytes it has. -/
import Derived.Test.YtgaalkcociifmaaDoorSDig
namespace Go.Proofs.YtgaalkcociifmaaDoor
open SeqM
open U.UtfM (enc enc1 enc2 enc3 enc4)

theorem ends2 {a b : Int} (ha : 0 ≤ a) (hb : 0 ≤ b) (ha2 : a ≤ 2047) (hb2 : b ≤ 2047) (h : cutAt 2 a b = none) : Ends4 (a / 262144) (a / 4096 % 64) (a / 64 % 64) (a % 64) (b / 262144) (b / 4096 % 64) (b / 64 % 64) (b % 64) :=
  ends_of (blk1 (dig_of ha) (dig_of hb) (leaf2 h)) (.inl ⟨by omega, by omega⟩) (.inl (by omega))
theorem ends3 {a b : Int} (ha : 0 ≤ a) (hb : 0 ≤ b) (ha2 : a ≤ 65535) (hb2 : b ≤ 65535) (h : cutAt 3 a b = none) : Ends4 (a / 262144) (a / 4096 % 64) (a / 64 % 64) (a % 64) (b / 262144) (b / 4096 % 64) (b / 64 % 64) (b % 64) :=
  ends_of (blk1 (dig_of ha) (dig_of hb) (leaf3 h).1) (blk2 (dig_of ha) (dig_of hb) (leaf3 h).2) (.inl (by omega))
theorem ends4 {a b : Int} (ha : 0 ≤ a) (hb : 0 ≤ b) (h : cutAt 4 a b = none) : Ends4 (a / 262144) (a / 4096 % 64) (a / 64 % 64) (a % 64) (b / 262144) (b / 4096 % 64) (b / 64 % 64) (b % 64) :=
  ends_of (blk1 (dig_of ha) (dig_of hb) (leaf4 h).1) (blk2 (dig_of ha) (dig_of hb) (leaf4 h).2.1) (blk3 (dig_of ha) (dig_of hb) (leaf4 h).2.2)
theorem row_1 {a b : Int} (sa : U.UtfM.Sc a) (sb : U.UtfM.Sc b) (h2 : a ≤ 127) (h4 : b ≤ 127) : rowOf (a, b) = [(a, b)] := by
  unfold rowOf; simp only []; rw [enc1 sa (by omega), enc1 sb (by omega)]; rfl
theorem row_2 {a b : Int} (sa : U.UtfM.Sc a) (sb : U.UtfM.Sc b) (h1 : 128 ≤ a) (h2 : a ≤ 2047) (h3 : 128 ≤ b) (h4 : b ≤ 2047) : rowOf (a, b) = [(192 + a / 64 % 64, 192 + b / 64 % 64), (128 + a % 64, 128 + b % 64)] := by
  unfold rowOf; simp only []; rw [enc2 sa h1 (by omega), enc2 sb h3 (by omega), show a / 64 % 64 = a / 64 by omega, show b / 64 % 64 = b / 64 by omega]; rfl
theorem row_3 {a b : Int} (sa : U.UtfM.Sc a) (sb : U.UtfM.Sc b) (h1 : 2048 ≤ a) (h2 : a ≤ 65535) (h3 : 2048 ≤ b) (h4 : b ≤ 65535) : rowOf (a, b) = [(224 + a / 4096 % 64, 224 + b / 4096 % 64), (128 + a / 64 % 64, 128 + b / 64 % 64), (128 + a % 64, 128 + b % 64)] := by
  unfold rowOf; simp only []; rw [enc3 sa h1 (by omega), enc3 sb h3 (by omega), show a / 4096 % 64 = a / 4096 by omega, show b / 4096 % 64 = b / 4096 by omega]; rfl
theorem row_4 {a b : Int} (sa : U.UtfM.Sc a) (sb : U.UtfM.Sc b) (h1 : 65536 ≤ a) (h3 : 65536 ≤ b) : rowOf (a, b) = [(240 + a / 262144, 240 + b / 262144), (128 + a / 4096 % 64, 128 + b / 4096 % 64), (128 + a / 64 % 64, 128 + b / 64 % 64), (128 + a % 64, 128 + b % 64)] := by
  unfold rowOf; simp only []; rw [enc4 sa h1, enc4 sb h3]; rfl
/-- A piece's row has as many rows of bytes as the piece has scalars. -/
theorem leaf_count {n : Nat} {a b : Int} (h : Leaf n (a, b)) : prodR (rowOf (a, b)) = b - a + 1 := by
  obtain ⟨hg, hc⟩ := h
  have hab := hg.in.2.1
  have sa := hg.sc (Int.le_refl a) hab
  have sb := hg.sc hab (Int.le_refl b)
  simp only at hc
  rcases (good_cases hg).2.2 with ⟨rfl, h3, h4⟩ | ⟨rfl, h3, h4⟩ | ⟨rfl, h3, h4⟩ | ⟨rfl, h3, h4⟩
  · rw [row_1 sa sb (by omega) (by omega), prod1]; exact wd_eq rfl (by omega)
  · have he := width4 (dig_of (by omega)) (dig_of (by omega)) hab (ends2 (by omega) (by omega) (by omega) (by omega) hc) 0 0 192 128
    rw [wd_eq (k := 1) (by omega) (by omega), wd_eq (k := 1) (x := 0 + a / 4096 % 64) (by omega) (by omega)] at he
    rw [row_2 sa sb h3 (by omega) (by omega) h4, prod2]
    simpa using he
  · have he := width4 (dig_of (by omega)) (dig_of (by omega)) hab (ends3 (by omega) (by omega) (by omega) (by omega) hc) 0 224 128 128
    rw [wd_eq (k := 1) (by omega) (by omega)] at he
    rw [row_3 sa sb h3 (by omega) (by omega) h4, prod3]
    simpa using he
  · rw [row_4 sa sb h3 (by omega), prod4]
    exact width4 (dig_of (by omega)) (dig_of (by omega)) hab (ends4 (by omega) (by omega) hc) 240 128 128 128
theorem l1 {l : List Int} (h : l.length = 1) : ∃ a, l = [a] := by match l, h with | [a], _ => exact ⟨a, rfl⟩
theorem l2 {l : List Int} (h : l.length = 2) : ∃ a b, l = [a, b] := by match l, h with | [a, b], _ => exact ⟨a, b, rfl⟩
theorem l3 {l : List Int} (h : l.length = 3) : ∃ a b c, l = [a, b, c] := by match l, h with | [a, b, c], _ => exact ⟨a, b, c, rfl⟩
theorem l4 {l : List Int} (h : l.length = 4) : ∃ a b c d, l = [a, b, c, d] := by match l, h with | [a, b, c, d], _ => exact ⟨a, b, c, d, rfl⟩
theorem shift {k a x b : Int} : (k + a ≤ x ∧ x ≤ k + b) ↔ (a ≤ x - k ∧ x - k ≤ b) := by omega
theorem digits_in {x a b : Int} (h : a ≤ x ∧ x ≤ b) (ha : 0 ≤ a) (hb : b < 64) : 0 ≤ x ∧ x < 64 := by omega
theorem top2 {r : Int} (h : 0 ≤ r) (h2 : r ≤ 2047) : r / 64 = r / 64 % 64 := by omega
theorem top3 {r : Int} (h : 0 ≤ r) (h2 : r ≤ 65535) : r / 4096 = r / 4096 % 64 := by omega
theorem back (k x : Int) : k + (x - k) = x := by omega
theorem unshift {k a x b : Int} (h : a ≤ x ∧ x ≤ b) : k + a ≤ k + x ∧ k + x ≤ k + b := by omega
theorem leaf_fits1 {a b : Int} (h : Leaf 1 (a, b)) (_h3 : 0 ≤ a) (h4 : b ≤ 127) (l : List Int) : fits (rowOf (a, b)) l = true ↔ ∃ r, a ≤ r ∧ r ≤ b ∧ l = enc r := by
  obtain ⟨hg, hc⟩ := h
  have hab := hg.in.2.1
  have sa := hg.sc (Int.le_refl a) hab
  have sb := hg.sc hab (Int.le_refl b)
  have hgr := fun r h1 h2 => hg.sc (r := r) h1 h2
  rw [row_1 sa sb (Int.le_trans hab h4) h4]
  constructor
  · intro hf
    obtain ⟨x, rfl⟩ := l1 ((fits_iff _ _).1 hf).1.symm
    rw [fits_cons] at hf
    exact ⟨x, hf.1.1, hf.1.2, by rw [enc1 (hgr x hf.1.1 hf.1.2) (Int.lt_of_le_of_lt (Int.le_trans hf.1.2 h4) (by decide))]⟩
  · rintro ⟨r, h1, h2, rfl⟩
    rw [enc1 (hgr r h1 h2) (Int.lt_of_le_of_lt (Int.le_trans h2 h4) (by decide)), fits_cons]
    exact ⟨⟨h1, h2⟩, rfl⟩
set_option maxHeartbeats 1000000 in
theorem leaf_fits2 {a b : Int} (h : Leaf 2 (a, b)) (h3 : 128 ≤ a) (h4 : b ≤ 2047) (l : List Int) : fits (rowOf (a, b)) l = true ↔ ∃ r, a ≤ r ∧ r ≤ b ∧ l = enc r := by
  obtain ⟨hg, hc⟩ := h
  have hab := hg.in.2.1
  have sa := hg.sc (Int.le_refl a) hab
  have sb := hg.sc hab (Int.le_refl b)
  simp only at hc
  have hgr := fun r h1 h2 => hg.sc (r := r) h1 h2
  have y3 : a / 262144 ≤ 0 ∧ 0 ≤ b / 262144 := ⟨by omega, by omega⟩
  have y2 : a / 4096 % 64 ≤ 0 ∧ 0 ≤ b / 4096 % 64 := ⟨by omega, by omega⟩
  have da := dig_of (a := a) (Int.le_trans (by decide) h3)
  have db := dig_of (a := b) (Int.le_trans (by decide) (Int.le_trans h3 hab))
  have he := ends2 (Int.le_trans (by decide) h3) (Int.le_trans (by decide) (Int.le_trans h3 hab)) (Int.le_trans hab h4) h4 hc
  rw [row_2 sa sb h3 (Int.le_trans hab h4) (Int.le_trans h3 hab) h4]
  constructor
  · intro hf
    obtain ⟨x1, x0, rfl⟩ := l2 ((fits_iff _ _).1 hf).1.symm
    rw [fits_cons, fits_cons] at hf
    obtain ⟨p, q, _⟩ := hf
    simp only at p q
    rw [shift] at p q
    have dr : Dig (0 * 262144 + 0 * 4096 + (x1 - 192) * 64 + (x0 - 128)) 0 0 (x1 - 192) (x0 - 128) := ⟨rfl, digits_in q da.z.1 db.z.2, digits_in p da.o.1 db.o.2, ⟨by decide, by decide⟩, Int.le_refl 0⟩
    obtain ⟨ha, hb⟩ := (between da db dr he).2 ⟨y3, y2, p, q⟩
    refine ⟨_, ha, hb, ?_⟩
    obtain ⟨e3, e2, e1, e0⟩ := dr.at
    rw [enc2 (hgr _ ha hb) (Int.le_trans h3 ha) (Int.lt_of_le_of_lt (Int.le_trans hb h4) (by decide)), top2 (Int.le_trans (by decide) (Int.le_trans h3 ha)) (Int.le_trans hb h4), e1, e0, back 192 x1, back 128 x0]
  · rintro ⟨r, h1, h2, rfl⟩
    obtain ⟨p3, p2, p1, p0⟩ := (between da db (dig_of (a := r) (Int.le_trans (by decide) (Int.le_trans h3 h1))) he).1 ⟨h1, h2⟩
    rw [enc2 (hgr r h1 h2) (Int.le_trans h3 h1) (Int.lt_of_le_of_lt (Int.le_trans h2 h4) (by decide)), top2 (Int.le_trans (by decide) (Int.le_trans h3 h1)) (Int.le_trans h2 h4), fits_cons, fits_cons]
    exact ⟨unshift p1, unshift p0, rfl⟩
set_option maxHeartbeats 1000000 in
theorem leaf_fits3 {a b : Int} (h : Leaf 3 (a, b)) (h3 : 2048 ≤ a) (h4 : b ≤ 65535) (l : List Int) : fits (rowOf (a, b)) l = true ↔ ∃ r, a ≤ r ∧ r ≤ b ∧ l = enc r := by
  obtain ⟨hg, hc⟩ := h
  have hab := hg.in.2.1
  have sa := hg.sc (Int.le_refl a) hab
  have sb := hg.sc hab (Int.le_refl b)
  simp only at hc
  have hgr := fun r h1 h2 => hg.sc (r := r) h1 h2
  have y3 : a / 262144 ≤ 0 ∧ 0 ≤ b / 262144 := ⟨by omega, by omega⟩
  have da := dig_of (a := a) (Int.le_trans (by decide) h3)
  have db := dig_of (a := b) (Int.le_trans (by decide) (Int.le_trans h3 hab))
  have he := ends3 (Int.le_trans (by decide) h3) (Int.le_trans (by decide) (Int.le_trans h3 hab)) (Int.le_trans hab h4) h4 hc
  rw [row_3 sa sb h3 (Int.le_trans hab h4) (Int.le_trans h3 hab) h4]
  constructor
  · intro hf
    obtain ⟨x2, x1, x0, rfl⟩ := l3 ((fits_iff _ _).1 hf).1.symm
    rw [fits_cons, fits_cons, fits_cons] at hf
    obtain ⟨o, p, q, _⟩ := hf
    simp only at o p q
    rw [shift] at o p q
    have dr : Dig (0 * 262144 + (x2 - 224) * 4096 + (x1 - 128) * 64 + (x0 - 128)) 0 (x2 - 224) (x1 - 128) (x0 - 128) := ⟨rfl, digits_in q da.z.1 db.z.2, digits_in p da.o.1 db.o.2, digits_in o da.t.1 db.t.2, Int.le_refl 0⟩
    obtain ⟨ha, hb⟩ := (between da db dr he).2 ⟨y3, o, p, q⟩
    refine ⟨_, ha, hb, ?_⟩
    obtain ⟨e3, e2, e1, e0⟩ := dr.at
    rw [enc3 (hgr _ ha hb) (Int.le_trans h3 ha) (Int.lt_of_le_of_lt (Int.le_trans hb h4) (by decide)), top3 (Int.le_trans (by decide) (Int.le_trans h3 ha)) (Int.le_trans hb h4), e2, e1, e0, back 224 x2, back 128 x1, back 128 x0]
  · rintro ⟨r, h1, h2, rfl⟩
    obtain ⟨p3, p2, p1, p0⟩ := (between da db (dig_of (a := r) (Int.le_trans (by decide) (Int.le_trans h3 h1))) he).1 ⟨h1, h2⟩
    rw [enc3 (hgr r h1 h2) (Int.le_trans h3 h1) (Int.lt_of_le_of_lt (Int.le_trans h2 h4) (by decide)), top3 (Int.le_trans (by decide) (Int.le_trans h3 h1)) (Int.le_trans h2 h4), fits_cons, fits_cons, fits_cons]
    exact ⟨unshift p2, unshift p1, unshift p0, rfl⟩
set_option maxHeartbeats 1000000 in
theorem leaf_fits4 {a b : Int} (h : Leaf 4 (a, b)) (h3 : 65536 ≤ a) (_h4 : b ≤ 1114111) (l : List Int) : fits (rowOf (a, b)) l = true ↔ ∃ r, a ≤ r ∧ r ≤ b ∧ l = enc r := by
  obtain ⟨hg, hc⟩ := h
  have hab := hg.in.2.1
  have sa := hg.sc (Int.le_refl a) hab
  have sb := hg.sc hab (Int.le_refl b)
  simp only at hc
  have hgr := fun r h1 h2 => hg.sc (r := r) h1 h2
  have da := dig_of (a := a) (Int.le_trans (by decide) h3)
  have db := dig_of (a := b) (Int.le_trans (by decide) (Int.le_trans h3 hab))
  have he := ends4 (Int.le_trans (by decide) h3) (Int.le_trans (by decide) (Int.le_trans h3 hab)) hc
  rw [row_4 sa sb h3 (Int.le_trans h3 hab)]
  constructor
  · intro hf
    obtain ⟨x3, x2, x1, x0, rfl⟩ := l4 ((fits_iff _ _).1 hf).1.symm
    rw [fits_cons, fits_cons, fits_cons, fits_cons] at hf
    obtain ⟨m, o, p, q, _⟩ := hf
    simp only at m o p q
    rw [shift] at m o p q
    have dr : Dig ((x3 - 240) * 262144 + (x2 - 128) * 4096 + (x1 - 128) * 64 + (x0 - 128)) (x3 - 240) (x2 - 128) (x1 - 128) (x0 - 128) := ⟨rfl, digits_in q da.z.1 db.z.2, digits_in p da.o.1 db.o.2, digits_in o da.t.1 db.t.2, Int.le_trans da.h m.1⟩
    obtain ⟨ha, hb⟩ := (between da db dr he).2 ⟨m, o, p, q⟩
    refine ⟨_, ha, hb, ?_⟩
    obtain ⟨e3, e2, e1, e0⟩ := dr.at
    rw [enc4 (hgr _ ha hb) (Int.le_trans h3 ha), e3, e2, e1, e0, back 240 x3, back 128 x2, back 128 x1, back 128 x0]
  · rintro ⟨r, h1, h2, rfl⟩
    obtain ⟨p3, p2, p1, p0⟩ := (between da db (dig_of (a := r) (Int.le_trans (by decide) (Int.le_trans h3 h1))) he).1 ⟨h1, h2⟩
    rw [enc4 (hgr r h1 h2) (Int.le_trans h3 h1), fits_cons, fits_cons, fits_cons, fits_cons]
    exact ⟨unshift p3, unshift p2, unshift p1, unshift p0, rfl⟩
/-- A piece's row takes just the bytes of the piece's scalars. -/
theorem leaf_fits {n : Nat} {a b : Int} (h : Leaf n (a, b)) (l : List Int) : fits (rowOf (a, b)) l = true ↔ ∃ r, a ≤ r ∧ r ≤ b ∧ l = enc r := by
  rcases (good_cases h.1).2.2 with ⟨rfl, h3, h4⟩ | ⟨rfl, h3, h4⟩ | ⟨rfl, h3, h4⟩ | ⟨rfl, h3, h4⟩
  · exact leaf_fits1 h h3 h4 l
  · exact leaf_fits2 h h3 h4 l
  · exact leaf_fits3 h h3 h4 l
  · exact leaf_fits4 h h3 h4 l
/-- All rows of a list of spans of scalars. -/
theorem countR_leaves : ∀ (L : List Sp), (∀ s ∈ L, ∃ n, Leaf n s) → ∀ k, (L.map rowOf).foldl (fun n r => n + prodR r) k = k + many L
  | [], _, k => by simp [many]
  | s :: t, h, k => by
    obtain ⟨n, hn⟩ := h s (by simp)
    rw [List.map_cons, List.foldl_cons, countR_leaves t (fun u hu => h u (by simp [hu])), many_cons, leaf_count (n := n) hn]
    omega
theorem count_rows {l : List Sp} (h : ∀ s ∈ l, Scal s) : countR (rowsOf l) = many l := by
  unfold countR
  rw [rowsOf_leaves h, countR_leaves _ (leavesOf_leaf h), leavesOf_many h]; omega
theorem match_rows {l : List Sp} (h : ∀ s ∈ l, Scal s) (b : List Int) : anyFits (rowsOf l) b = true ↔ ∃ r, (∃ s ∈ l, s.1 ≤ r ∧ r ≤ s.2) ∧ b = enc r := by
  unfold anyFits
  rw [rowsOf_leaves h, List.any_eq_true]
  constructor
  · rintro ⟨x, hx, hf⟩
    obtain ⟨s, hs, rfl⟩ := List.mem_map.1 hx
    obtain ⟨n, hn⟩ := leavesOf_leaf h s hs
    obtain ⟨r, h1, h2, h3⟩ := (leaf_fits (n := n) (a := s.1) (b := s.2) hn b).1 hf
    exact ⟨r, (leavesOf_mem h r).1 ⟨s, hs, h1, h2⟩, h3⟩
  · rintro ⟨r, hr, rfl⟩
    obtain ⟨s, hs, h1, h2⟩ := (leavesOf_mem h r).2 hr
    obtain ⟨n, hn⟩ := leavesOf_leaf h s hs
    exact ⟨_, List.mem_map.2 ⟨s, hs, rfl⟩, (leaf_fits (n := n) (a := s.1) (b := s.2) hn _).2 ⟨r, h1, h2, rfl⟩⟩
theorem rows_short {l : List Sp} (h : ∀ s ∈ l, Scal s) : ∀ r ∈ rowsOf l, r.length ≤ 4 ∧ 1 ≤ r.length ∧ ∀ x ∈ r, IsRg x := fun r hr => by
  rw [rowsOf_leaves h] at hr
  obtain ⟨s, hs, rfl⟩ := List.mem_map.1 hr
  obtain ⟨n, hg, _⟩ := leavesOf_leaf h s hs
  have hg : SeqM.Good (n, s.1, s.2) := hg
  have hab := hg.in.2.1
  have e : (rowOf s).length = n := by unfold rowOf; rw [List.length_zip, hg.len (Int.le_refl _) hab, hg.len hab (Int.le_refl _)]; omega
  have h1 := hg.1
  have h2 := hg.2.1
  refine ⟨by rw [e]; exact h2, by rw [e]; exact h1, fun x hx => ?_⟩
  unfold rowOf at hx
  have h1 := List.of_mem_zip (a := x.1) (b := x.2) hx
  have a := U.UtfM.enc_bytes s.1 x.1 h1.1
  have b := U.UtfM.enc_bytes s.2 x.2 h1.2
  exact ⟨a.1, a.2, b.1, b.2⟩
end Go.Proofs.YtgaalkcociifmaaDoor
