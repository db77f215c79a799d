/- RHex, RCut, in one text. -/
import Derived.Test.YtahgljglleeloaaGreatDoorRM
import Derived.Test.YtahgljglleeloaaGreatDoorRShelf
import Derived.Lib.Hide
import Derived.Laws.Strings3
import Derived.Laws.BytesArg
import Derived.Laws.IdiomStrings
import Derived.WalkKit
import Derived.WalkSmall
import Derived.IntWalk
import Derived.BigCall
import Derived.BigGuard
import Derived.BigQuiet
/- strconv.ParseInt at one to six hexadecimal digits. -/
namespace Go.Proofs.YtahgljglleeloaaGreatDoor.Hx
open Go.RowKit Go.Shelf RxM

theorem isH_cases {c : Int} (h : isH c = true) : (48 ≤ c ∧ c ≤ 57) ∨ (97 ≤ c ∧ c ≤ 102) ∨ (65 ≤ c ∧ c ≤ 70) := by
  simpa [isH, isD] using h
theorem low_bits {c : Int} (h : (97 ≤ c ∧ c ≤ 102) ∨ (65 ≤ c ∧ c ≤ 70)) : bits .or .u8 c 32 = hexV c + 87 := by
  have : c = 97 ∨ c = 98 ∨ c = 99 ∨ c = 100 ∨ c = 101 ∨ c = 102 ∨ c = 65 ∨ c = 66 ∨ c = 67 ∨ c = 68 ∨ c = 69 ∨ c = 70 := by omega
  rcases this with rfl | rfl | rfl | rfl | rfl | rfl | rfl | rfl | rfl | rfl | rfl | rfl <;> rfl
theorem lower_c (c : Int) (w : World) : Calls Tryz.prog 161 #[.int .u8 c] w fun e w' => e = .returned (.int .u8 (bits .or .u8 c 32)) ∧ w' = w := by
  go_enter Tryz.func161, Tryz.ntmps161
  go_wp2
  go_ret
  exact ⟨rfl, rfl⟩
def hexA (a : Int) (l : List Int) : Int := l.foldl (fun n c => n * 16 + hexV c) a
theorem hexA_cons (a c : Int) (l : List Int) : hexA a (c :: l) = hexA (a * 16 + hexV c) l := rfl
theorem hexV_le {c : Int} (h : isH c = true) : 0 ≤ hexV c ∧ hexV c ≤ 15 := by
  unfold hexV
  rcases isH_cases h with h | h | h
  · rw [if_pos h.2]; omega
  · rw [if_neg (by omega), if_neg (by omega)]; omega
  · rw [if_neg (by omega), if_pos h.2]; omega

/-- A string's bytes as numbers. -/
def bs0 (s : ByteArray) : List Int := s.data.toList.map fun b => (b.toNat : Int)
def capB (w : World) (t : ByteArray) : Nat := grownCap w t.size 0 5
def objB (w : World) (t : ByteArray) : Obj := .cells (bytesRow t (capB w t)) 5 ((bytesRow t (capB w t)).size, (bytesRow t (capB w t)).size + 1)
theorem conv_b (t : ByteArray) (w : World) : (convert 9 38 (.string t)).run Tryz.prog w = .ok (.slice (some ⟨w.heap.size, 0, none⟩) t.size (capB w t)) (w.drew.alloc (objB w t)) :=
  run_bytes_of_string w _ _ _ t Tryz.underlying9 Tryz.underlying38 Tryz.underlying5
theorem cell_b (t : ByteArray) (w : World) (j : Nat) (hj : j < t.size) : (w.drew.alloc (objB w t)).cell? ⟨w.heap.size, j, none⟩ = some (.int .u8 ((bs0 t).getD j 0)) := by
  rw [show (w.drew.alloc (objB w t)).cell? ⟨w.heap.size, j, none⟩ = (bytesRow t (capB w t))[j]? from cell_of_row _ w.heap.size _ _ _ _ (heap_alloc_new w.drew _)]
  unfold bytesRow bs0
  have hj' : j < t.data.size := hj
  rw [Array.getElem?_append_left (by simp; omega)]
  rw [Array.getElem?_map, Array.getElem?_eq_getElem hj']
  simp [List.getD, List.getElem?_map, Array.getElem?_toList, Array.getElem?_eq_getElem hj']
theorem below_b (t : ByteArray) (w : World) : Below w.heap.size w (w.drew.alloc (objB w t)) := (Below.refl _ _).drew.alloc (Nat.le_refl _) _
theorem pow16 (a b : Nat) (h : a ≤ b) : (16 : Int) ^ a ≤ 16 ^ b := by
  have := Nat.pow_le_pow_right (show 0 < 16 by decide) h
  exact_mod_cast this
set_option maxHeartbeats 8000000 in
set_option maxRecDepth 100000 in
theorem uint_c (t : ByteArray) (hne : t.size ≠ 0) (h6 : t.size ≤ 6) (hall : ∀ c ∈ bs0 t, isH c = true) (w : World) :
    Calls Tryz.prog 148 #[.string t, .int .i64 16, .int .i64 32] w fun e w' => e = .returned (.tuple #[.int .u64 (hexN (bs0 t)), .nilIface]) ∧ Below w.heap.size w w' := by
  have hemp : t.toList.isEmpty = false := by
    rw [← decide_eq_emptyBytes]
    exact decide_eq_false (fun h => hne (by rw [h]; rfl))
  have hcv := conv_b t w
  have hB := cell_b t w
  have hbl := below_b t w
  obtain ⟨W1, hW1⟩ : ∃ W1, W1 = w.drew.alloc (objB w t) := ⟨_, rfl⟩
  rw [← hW1] at hcv hB hbl
  clear hW1
  have HBL := Lib.hid hbl
  clear hbl
  have hLn : (bs0 t).length = t.size := by simp [bs0]
  obtain ⟨l, hl⟩ : ∃ l, l = bs0 t := ⟨_, rfl⟩
  rw [← hl] at hall hB hLn ⊢
  clear hl
  have hmv : IntKind.u64.wrap (IntKind.u64.wrap 4294967296 - 1) = 4294967295 := by
    rw [IntKind.wrap_u64, IntKind.wrap_u64]
    decide
  have HALL := Lib.hid hall
  clear hall
  go_enter Tryz.func148, Tryz.ntmps148
  go_wp2
  go_loop [12, 13, 101] (fun vu vn vi => ∃ (k : Nat) (a : Int), vu = .bool false ∧ vn = .int .u64 a ∧ vi = .int .i64 k ∧ k ≤ t.size ∧ Hid (0 ≤ a ∧ a < 16 ^ k ∧ hexN l = hexA a (l.drop k)))
    (fun _ _ vi => t.size - (intOf vi).toNat)
  case atStart => exact ⟨0, 0, rfl, rfl, rfl, by omega, Lib.hid ⟨by omega, by simp, rfl⟩⟩
  case round =>
    obtain ⟨k, a, rfl, rfl, rfl, hk, hh⟩ := hrel
    obtain ⟨a0, a1, hdec⟩ := hh.out
    clear hh
    by_cases hkn : k < t.size
    · have hc := hB k hkn
      have hdrop : l.drop k = l[k]'(by omega) :: l.drop (k + 1) := List.drop_eq_getElem_cons (by omega)
      have hget : l.getD k 0 = l[k]'(by omega) := by simp [List.getD, List.getElem?_eq_getElem (show k < l.length by omega)]
      have hH := HALL.out (l[k]'(by omega)) (List.getElem_mem _)
      rw [hdrop] at hdec
      rw [hget] at hc
      generalize l[k]'(by omega) = c at hc hdec hH
      have hv := hexV_le hH
      have hp := pow16 k 5 (by omega)
      have a2 : a < 1048576 := Int.lt_of_lt_of_le a1 hp
      have HN : Hid (0 ≤ a * 16 + hexV c ∧ a * 16 + hexV c < 16 ^ (k + 1) ∧ hexN l = hexA (a * 16 + hexV c) (l.drop (k + 1))) := Lib.hid ⟨by omega, by rw [Int.pow_succ]; omega, hdec⟩
      clear hB hdrop hget hdec a1 hp
      by_cases hdig : c ≤ 57
      · have hd0 : 48 ≤ c := by rcases isH_cases hH with h | h | h <;> omega
        have hx : hexV c = c - 48 := by unfold hexV; rw [if_pos hdig]
        rw [hx] at HN hv
        clear hx hH
        go_wp2
        refine ⟨⟨k + 1, a * 16 + (c - 48), rfl, (by first | rfl | (congr 1; omega)), (by first | rfl | (congr 1; omega)), by omega, HN⟩, by simp [intOf]; omega⟩
      · have hl : (97 ≤ c ∧ c ≤ 102) ∨ (65 ≤ c ∧ c ≤ 70) := by rcases isH_cases hH with h | h | h <;> omega
        have hlo := low_bits hl
        have c0 : 65 ≤ c := by omega
        have c1 : c ≤ 102 := by omega
        have c2 : c ≠ 95 := by omega
        generalize hexV c = x at HN hv hlo
        have hx10 : 10 ≤ x := by
          have h1 : bits .or .u8 c 32 ≥ 97 := by
            have : c = 97 ∨ c = 98 ∨ c = 99 ∨ c = 100 ∨ c = 101 ∨ c = 102 ∨ c = 65 ∨ c = 66 ∨ c = 67 ∨ c = 68 ∨ c = 69 ∨ c = 70 := by omega
            rcases this with rfl | rfl | rfl | rfl | rfl | rfl | rfl | rfl | rfl | rfl | rfl | rfl <;> decide
          omega
        have hlow : ∀ u, Calls Tryz.prog 161 #[.int .u8 c] u fun e w' => e = .returned (.int .u8 (x + 87)) ∧ w' = u := fun u => by
          have := lower_c c u
          rwa [hlo] at this
        clear hl hH hlo hdig
        go_wp2_with (go_at_call 161; refine (hlow _).mono ?_; rintro e w2 ⟨rfl, rfl⟩)
        refine ⟨⟨k + 1, a * 16 + x, rfl, (by first | rfl | (congr 1; omega)), (by first | rfl | (congr 1; omega)), by omega, HN⟩, by simp [intOf]; omega⟩
    · have hkk : k = t.size := by omega
      subst hkk
      rw [List.drop_eq_nil_of_le (by omega)] at hdec
      have HD := Lib.hid hdec
      clear hdec a1
      go_wp2
      go_ret2
      refine ⟨?_, HBL.out⟩
      rw [HD.out]; rfl
theorem hexA_bound : ∀ (l : List Int) (a : Int) (k : Nat), 0 ≤ a → a < 16 ^ k → (∀ c ∈ l, isH c = true) → 0 ≤ hexA a l ∧ hexA a l < 16 ^ (k + l.length)
  | [], a, k, h0, h1, _ => ⟨h0, h1⟩
  | c :: l, a, k, h0, h1, h => by
    have hv := hexV_le (h c (by simp))
    have := hexA_bound l (a * 16 + hexV c) (k + 1) (by omega) (by rw [Int.pow_succ]; omega) (fun x hx => h x (by simp [hx]))
    rw [hexA_cons, List.length_cons, show k + (l.length + 1) = k + 1 + l.length from by omega]
    exact this
theorem hexN_bound {l : List Int} (h : ∀ c ∈ l, isH c = true) (h6 : l.length ≤ 6) : 0 ≤ hexN l ∧ hexN l < 16777216 := by
  have := hexA_bound l 0 0 (by omega) (by decide) h
  have hp := pow16 (0 + l.length) 6 (by omega)
  exact ⟨this.1, Int.lt_of_lt_of_le this.2 hp⟩
theorem str_ix0 (s : ByteArray) (h : 0 < s.data.toList.length) : ∀ w, (Instr.index 9 (.string s) (.int .i64 0)).run Tryz.prog w = .ok (.int .u8 (((s.data.toList[0]'h).toNat : Nat) : Int)) w := by
  intro w
  have h1 : 0 < s.size := h
  rw [run_index_string w 9 s .i64 0 Tryz.underlying9, dif_pos ⟨by omega, by omega⟩]
  rfl
set_option maxHeartbeats 4000000 in
set_option maxRecDepth 100000 in
theorem int_c (t : ByteArray) (hne : t.size ≠ 0) (h6 : t.size ≤ 6) (hall : ∀ c ∈ bs0 t, isH c = true) (w : World) :
    Calls Tryz.prog 132 #[.string t, .int .i64 16, .int .i64 32] w fun e w' => e = .returned (.tuple #[.int .i64 (hexN (bs0 t)), .nilIface]) ∧ Below w.heap.size w w' := by
  have hemp : t.toList.isEmpty = false := by
    rw [← decide_eq_emptyBytes]
    exact decide_eq_false (fun h => hne (by rw [h]; rfl))
  have hlen : 0 < t.data.toList.length := by
    have : t.size = t.data.toList.length := rfl
    omega
  have hix := str_ix0 t hlen
  have hH : isH ((t.data.toList[0]'hlen).toNat : Int) = true := hall _ (by unfold bs0; exact List.mem_map.2 ⟨_, List.getElem_mem hlen, rfl⟩)
  have hc := isH_cases hH
  have hb := hexN_bound hall (by simp [bs0]; exact h6)
  have HC := Lib.hid (uint_c t hne h6 hall w)
  generalize ((t.data.toList[0]'hlen).toNat : Int) = c at hix hc
  generalize hexN (bs0 t) = n at hb HC ⊢
  have n1 : c ≠ 43 := by omega
  have n2 : c ≠ 45 := by omega
  have e1 : IntKind.i64.wrap n = n := IntWalk.i64_in _ (by omega)
  have b0 : 0 ≤ n := hb.1
  have b1 : n < 2147483648 := by omega
  have hmv : IntKind.u64.wrap 2147483648 = 2147483648 := by
    rw [IntKind.wrap_u64]
    decide
  clear hall hH hc hlen hb hne
  go_enter Tryz.func132, Tryz.ntmps132
  go_wp2_with fail
  refine HC.out.mono ?_
  rintro e w1 ⟨rfl, b⟩
  go_wp2
  go_ret2
  exact ⟨rfl, b⟩
set_option maxHeartbeats 4000000 in
set_option maxRecDepth 100000 in
theorem parse_c (t : ByteArray) (hne : t.size ≠ 0) (h6 : t.size ≤ 6) (hall : ∀ c ∈ bs0 t, isH c = true) (w : World) :
    Calls Tryz.prog 117 #[.string t, .int .i64 16, .int .i64 32] w fun e w' => e = .returned (.tuple #[.int .i64 (hexN (bs0 t)), .nilIface]) ∧ Below w.heap.size w w' := by
  have HC := Lib.hid (int_c t hne h6 hall w)
  clear hall hne h6
  go_enter Tryz.func117, Tryz.ntmps117
  go_wp2_with fail
  refine HC.out.mono ?_
  rintro e w1 ⟨rfl, b⟩
  go_wp2
  go_ret2
  exact ⟨rfl, b⟩
end Go.Proofs.YtahgljglleeloaaGreatDoor.Hx

/- strings.Cut at a sign of one byte. -/
namespace Go.Proofs.YtahgljglleeloaaGreatDoor.Hx
open Go.RowKit Go.Shelf RxM
open Go.Proofs.YtahgljglleeloaaGreatDoor.U.UtfM (wr enc Sc)

theorem index_split : ∀ (l : List UInt8) (c : UInt8),
    (Lib.indexByte l c = -1 ∧ c ∉ l) ∨ (∃ k : Nat, Lib.indexByte l c = k ∧ k < l.length ∧ c ∈ l ∧ (l.take k) = l.takeWhile (fun b => b != c))
  | [], c => .inl ⟨rfl, by simp⟩
  | b :: l, c => by
    by_cases h : b = c
    · subst h
      exact .inr ⟨0, by simp [Lib.indexByte], by simp, by simp, by simp⟩
    · have hb : (b == c) = false := by simpa using h
      rcases index_split l c with ⟨h1, h2⟩ | ⟨k, h1, h2, h3, h4⟩
      · refine .inl ⟨by simp [Lib.indexByte, hb, h1], ?_⟩
        simp only [List.mem_cons, not_or]
        exact ⟨fun e => h e.symm, h2⟩
      · refine .inr ⟨k + 1, ?_, by simp; omega, by simp [h3], ?_⟩
        · have : ¬ ((k : Int) = -1) := by omega
          simp [Lib.indexByte, hb, h1, this]
        · rw [List.take_succ_cons, List.takeWhile_cons, if_pos (by simpa using h), h4]
theorem takeWhile_app {α : Type} (p : α → Bool) (a b : List α) (h : ∀ x ∈ a, p x = true) : (a ++ b).takeWhile p = a ++ b.takeWhile p := by
  induction a with
  | nil => rfl
  | cons x a ih =>
    rw [List.cons_append, List.takeWhile_cons, if_pos (h x (by simp)), ih (fun y hy => h y (by simp [hy]))]; rfl
theorem take_bytes (t : ByteArray) (k : Nat) : (t.extract 0 k).data.toList = t.data.toList.take k := by
  rw [ByteArray.data_extract, Array.toList_extract, List.extract_eq_take_drop]; simp
def noV (t : ByteArray) : Value := .tuple #[.string t, .string ⟨#[]⟩, .bool false]
def yesV (t : ByteArray) (k : Nat) : Value := .tuple #[.string (t.extract 0 k), .string (t.extract (k + 1) t.size), .bool true]
theorem index_one (t : ByteArray) (c : UInt8) (w : World) : Calls Tryz.prog 153 #[.string t, .string ⟨#[c]⟩] w fun e w' => e = .returned (.int .i64 (Lib.indexByte t.data.toList c)) ∧ w' = w := Any.stringslite_Index_one Tryz.lays219 t c w
set_option maxRecDepth 100000 in
set_option maxHeartbeats 2000000 in
theorem icut_no (t : ByteArray) (c : UInt8) (h : Lib.indexByte t.data.toList c = -1) (w : World) : Calls Tryz.prog 134 #[.string t, .string ⟨#[c]⟩] w fun e w' => e = .returned (noV t) ∧ w' = w := by
  have HI := Lib.hid (index_one t c w)
  rw [h] at HI
  clear h
  go_enter Tryz.func134, Tryz.ntmps134
  go_wp2_with fail
  refine HI.out.mono ?_
  rintro e w1 ⟨rfl, rfl⟩
  go_wp2
  go_ret3
  exact ⟨rfl, rfl⟩
set_option maxRecDepth 100000 in
set_option maxHeartbeats 2000000 in
theorem icut_yes (t : ByteArray) (c : UInt8) (k : Nat) (h : Lib.indexByte t.data.toList c = k) (hk : k < t.size) (hs : t.size ≤ 100000) (w : World) : Calls Tryz.prog 134 #[.string t, .string ⟨#[c]⟩] w fun e w' => e = .returned (yesV t k) ∧ ∃ m, w' = w.drewN m := by
  have HI := Lib.hid (index_one t c w)
  rw [h] at HI
  have e1 : IntKind.i64.wrap ((k : Int) + 1) = (k : Int) + 1 := IntWalk.i64_in _ (by omega)
  have l0 : (0 : Int) ≤ (k : Int) := by omega
  have l1 : (k : Int) ≤ (t.size : Int) := by omega
  have l2 : (k : Int) + 1 ≤ (t.size : Int) := by omega
  have l3 : (0 : Int) ≤ (k : Int) + 1 := by omega
  have l4 : ((k : Int) + 1).toNat = k + 1 := by omega
  clear h
  go_enter Tryz.func134, Tryz.ntmps134
  go_wp2_with fail
  refine HI.out.mono ?_
  rintro e w1 ⟨rfl, rfl⟩
  go_wp2_with fail
  go_quiet (fail)
  go_wp2
  go_ret3
  exact ⟨rfl, _, rfl⟩
set_option maxRecDepth 100000 in
set_option maxHeartbeats 2000000 in
theorem cut_no (t : ByteArray) (c : UInt8) (h : Lib.indexByte t.data.toList c = -1) (w : World) : Calls Tryz.prog 119 #[.string t, .string ⟨#[c]⟩] w fun e w' => e = .returned (noV t) ∧ w' = w := by
  have HC := Lib.hid (icut_no t c h w)
  unfold noV at HC
  clear h
  go_enter Tryz.func119, Tryz.ntmps119
  go_wp2_with fail
  refine HC.out.mono ?_
  rintro e w1 ⟨rfl, rfl⟩
  go_wp2
  go_ret3
  exact ⟨rfl, rfl⟩
set_option maxRecDepth 100000 in
set_option maxHeartbeats 2000000 in
theorem cut_yes (t : ByteArray) (c : UInt8) (k : Nat) (h : Lib.indexByte t.data.toList c = k) (hk : k < t.size) (hs : t.size ≤ 100000) (w : World) : Calls Tryz.prog 119 #[.string t, .string ⟨#[c]⟩] w fun e w' => e = .returned (yesV t k) ∧ ∃ m, w' = w.drewN m := by
  have HC := Lib.hid (icut_yes t c k h hk hs w)
  unfold yesV at HC
  clear h hk hs
  go_enter Tryz.func119, Tryz.ntmps119
  go_wp2_with fail
  refine HC.out.mono ?_
  rintro e w1 ⟨rfl, m, rfl⟩
  go_wp2
  go_ret3
  exact ⟨rfl, _, rfl⟩

/-! Bytes of scalars up to a sign. -/
theorem enc_not {c : Int} (hs : Sc c) (h : c ≠ 125) : ∀ b ∈ enc c, b ≠ 125 := by
  rcases U.UtfM.sc_cases hs with h1 | h1 | h1 | h1
  · rw [U.UtfM.enc1 hs h1.2]; intro b hb; simp at hb; omega
  · rw [U.UtfM.enc2 hs h1.1 h1.2]; intro b hb; simp at hb; omega
  · rw [U.UtfM.enc3 hs h1.1 h1.2]; intro b hb; simp at hb; omega
  · rw [U.UtfM.enc4 hs h1.1]; intro b hb; simp at hb; omega
theorem wr_while : ∀ (r : List Int), (∀ c ∈ r, Sc c) → (wr r).takeWhile not125 = wr (r.takeWhile not125) ∧ (125 ∈ wr r ↔ r.dropWhile not125 ≠ [])
  | [], _ => by simp [U.UtfM.wr_nil]
  | c :: t, h => by
    have ih := wr_while t (fun x hx => h x (by simp [hx]))
    by_cases h1 : c = 125
    · subst h1
      have e : enc 125 = [125] := rfl
      rw [U.UtfM.wr_cons, e]
      constructor
      · rfl
      · simp [not125]
    · have hn : not125 c = true := by simp [not125, h1]
      have he := enc_not (h c (by simp)) h1
      rw [U.UtfM.wr_cons, List.takeWhile_cons, List.dropWhile_cons, if_pos hn, if_pos hn, takeWhile_app _ _ _ (fun x hx => by simp [not125]; exact he x hx), ih.1, U.UtfM.wr_cons]
      refine ⟨rfl, ?_⟩
      rw [List.mem_append, ← ih.2]
      constructor
      · rintro (h | h)
        · exact absurd rfl (he _ h)
        · exact h
      · exact .inr
end Go.Proofs.YtahgljglleeloaaGreatDoor.Hx
