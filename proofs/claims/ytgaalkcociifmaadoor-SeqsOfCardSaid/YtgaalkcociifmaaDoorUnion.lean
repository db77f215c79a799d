/- slices.Concat at spans, set.Union. -/
import Derived.Test.YtgaalkcociifmaaDoorOps
import Derived.Laws.AppendOwnNone
namespace Go.Proofs.YtgaalkcociifmaaDoor
open Go.RowKit Go.Shelf SetM

/-- A slice of slices of spans. -/
def RowsAt (n₀ : Nat) (W : World) (A : Option Addr) (ls : List (List Sp)) : Prop :=
  ls ≠ [] → ∃ b off, A = some ⟨b, off, none⟩ ∧ b < n₀ ∧ ∀ j (h : j < ls.length), ∃ P c, W.cell? ⟨b, off + j, none⟩ = some (.slice P ls[j].length c) ∧ Spans n₀ W P ls[j] ∧ (P = none → c = 0)
theorem RowsAt.below {n₀ : Nat} {V W : World} (h : Below n₀ V W) {A : Option Addr} {ls : List (List Sp)} (hs : RowsAt n₀ V A ls) : RowsAt n₀ W A ls := fun hl => by
  obtain ⟨b, off, e, hb, hc⟩ := hs hl
  refine ⟨b, off, e, hb, fun j hj => ?_⟩
  obtain ⟨P, c, h1, h2, h3⟩ := hc j hj
  exact ⟨P, c, (h.cell (p := ⟨b, off + j, none⟩) hb).trans h1, h2.below h, h3⟩
theorem spans_news {n₀ : Nat} {W : World} {ad : Addr} {l : List Sp} (h : Spans n₀ W (some ad) l) : ∀ j u, (cellsS l)[j]? = some u → W.cell? (ad.add j) = some u := by
  intro j u hj
  have hlt : j < l.length * 2 := by
    rcases Nat.lt_or_ge j (l.length * 2) with h1 | h1
    · exact h1
    · rw [List.getElem?_eq_none (by rw [cellsS_len]; exact h1)] at hj; cases hj
  obtain ⟨b, off, e, _, hc⟩ := h (by intro h0; rw [h0] at hlt; simp at hlt)
  injection e with e
  subst e
  have hk : j / 2 < l.length := by omega
  have e1 : (⟨b, off, none⟩ : Addr).add j = ⟨b, off + j, none⟩ := by unfold Addr.add; split <;> simp_all
  rw [e1]
  rw [cellsS_get l j hlt, List.getElem?_eq_getElem hk] at hj
  obtain ⟨c0, c1⟩ := hc (j / 2) hk
  rcases Nat.mod_two_eq_zero_or_one j with h2 | h2
  · rw [h2] at hj
    simp [encS] at hj
    rw [show off + j = off + j / 2 * 2 from by omega, c0, hj]
  · rw [h2] at hj
    simp [encS] at hj
    rw [show off + j = off + j / 2 * 2 + 1 from by omega, c1, hj]
theorem one_cellsS (l : List Sp) : ∀ u ∈ cellsS l, u.oneCell' = true := by
  intro u hu
  obtain ⟨s, _, h⟩ := List.mem_flatMap.1 hu
  simp [encS] at h
  rcases h with rfl | rfl <;> rfl
/-- All the spans of some lists. -/
def flat (ls : List (List Sp)) : List Sp := ls.flatten
def total (ls : List (List Sp)) : Nat := (flat ls).length
theorem total_take (ls : List (List Sp)) (k : Nat) (hk : k < ls.length) : flat (ls.take (k + 1)) = flat (ls.take k) ++ ls[k] := by
  unfold flat
  rw [List.take_succ_eq_append_getElem hk, List.flatten_append]; simp only [List.flatten_cons, List.flatten_nil, List.append_nil]
theorem total_le (ls : List (List Sp)) (k : Nat) : (flat (ls.take k)).length ≤ total ls := by
  have : (ls.take k).flatten ++ (ls.drop k).flatten = ls.flatten := by rw [← List.flatten_append, List.take_append_drop]
  unfold total flat
  rw [← this, List.length_append]; omega

/-- slices.Grow of nothing: room of the call's own. -/
theorem grow_any (n : Nat) (hn : n ≤ 1073741824) (w : World) : Calls Tryd.prog 69 #[.slice none 0 0, .int .i64 n] w fun e w' => ∃ v, e = .returned v ∧ w'.ownsRow w.heap.size 43 2 v 0 [] ∧ Below w.heap.size w w' := by
  by_cases h0 : n = 0
  · subst h0
    refine (Any8.slices_Grow_room Tryd.growS none 0 0 0 w (Nat.le_refl _) (by omega) (by omega) (by omega)).mono ?_
    rintro e w' ⟨rfl, rfl⟩
    exact ⟨_, rfl, World.ownsRow_nil _ _ _ _, Below.refl _ _⟩
  · obtain ⟨i0, hi, hz0, hz1, hz2⟩ := info_parts infoS
    refine (Any8.slices_Grow_grow Tryd.growS i0 _ hi hz0 (by omega) none 0 0 n [] w (Nat.le_refl _) (by omega) (by rw [hz2]; omega) (by omega) (by simp) (fun _ => rfl) (fun a h => by cases h)).mono ?_
    rintro e w' ⟨rfl, rfl⟩
    refine ⟨_, rfl, ⟨by simp, .inr ⟨w.heap.size, _, _, rfl, Nat.le_refl _, heap_alloc_new w.drew _, Nat.zero_le _, ?_, ?_, by simp⟩⟩, (Below.refl _ w).drew.alloc (Nat.le_refl _) _⟩
    · exact grownCap_le_maxLen w _ _ _ (by unfold maxLen; omega)
    · have hge := grownCap_ge w (0 + n) 0 43
      have hz : (Value.agg #[.int .i64 0, .int .i64 0]).cells.size = 2 := rfl
      simp only [Array.size_append, List.size_toArray, List.length_nil, size_zeroCells, hz]
      show 0 + (0 + n - 0) * 2 + (grownCap w (0 + n) 0 43 - (0 + n)) * 2 = grownCap w (0 + n) 0 43 * 2
      omega

set_option maxRecDepth 100000 in
set_option maxHeartbeats 1000000 in
theorem concat_any (A : Option Addr) (ca : Nat) (ls : List (List Sp)) (hl : ls.length ≤ 1073741824) (ht : total ls ≤ 1073741824) (w : World) (hR : RowsAt w.heap.size w A ls) :
    Calls Tryd.prog 54 #[.slice A ls.length ca] w fun e w' => ∃ v, e = .returned v ∧ w'.ownsRow w.heap.size 43 2 v (flat ls).length (cellsS (flat ls)) ∧ Below w.heap.size w w' := by
  obtain ⟨i0, hi, hz0, hz1, hz2⟩ := info_parts infoS
  have HR := Lib.hid hR
  clear hR
  go_enter Tryd.func54, Tryd.ntmps54
  go_wp2
  go_loopg [3, 11] ls.length (fun g s3 s11 wx => ∃ k : Nat, k + g = ls.length ∧ s11 = .int .i64 k ∧ s3 = .int .i64 ((flat (ls.take k)).length : Nat) ∧ w = wx)
  case atStart => exact ⟨0, by omega, rfl, by simp [flat], rfl⟩
  case round =>
    obtain ⟨k, hkg, rfl, rfl, rfl⟩ := hrel
    have hle := total_le ls k
    cases gk with
    | succ g =>
      have hk : k < ls.length := by omega
      have hkz : (k : Int) < (ls.length : Int) := by omega
      have hle2 := total_le ls (k + 1)
      obtain ⟨b, off, rfl, hb, hc⟩ := HR.out (by intro h; rw [h] at hk; simp at hk)
      obtain ⟨P, c, hcell, _, _⟩ := hc k hk
      have htk := total_take ls k hk
      have hlk : (flat (ls.take (k + 1))).length = (flat (ls.take k)).length + ls[k].length := by rw [htk, List.length_append]
      have HLK := Lib.hid hlk
      rw [hlk] at hle2
      clear htk hlk hc
      generalize (flat (ls.take k)).length = n at *
      generalize ls[k].length = m at *
      have hpos : ¬ ((n : Int) + (m : Int) < 0) := by omega
      go_wp2
      go_roundg g
      case measure => omega
      case rel => exact ⟨k + 1, by omega, by go_num, by rw [HLK.out]; go_num, rfl⟩
    | zero =>
      have hkz : ¬ ((k : Int) < (ls.length : Int)) := by omega
      have htk : (flat (ls.take k)).length = total ls := by rw [List.take_of_length_le (by omega)]; rfl
      rw [htk]
      clear hle htk
      go_wp2_with (go_at_call 69; refine (grow_any (total ls) ht _).mono ?_; rintro e W1 ⟨v, rfl, hown, hb1⟩)
      go_loopg [6, 27] ls.length (fun g s6 s27 wx => ∃ k : Nat, k + g = ls.length ∧ s27 = .int .i64 k ∧ wx.ownsRow w.heap.size 43 2 s6 (flat (ls.take k)).length (cellsS (flat (ls.take k))) ∧ Below w.heap.size w wx)
      case atStart => exact ⟨0, by omega, rfl, by simpa [cellsS, flat] using hown, hb1⟩
      case round =>
        clear hown hb1 hkg hkz
        obtain ⟨k2, hkg, rfl, hown, hb1⟩ := hrel
        have hle := total_le ls k2
        cases gk with
        | zero =>
          have hkz : ¬ ((k2 : Int) < (ls.length : Int)) := by omega
          have htk : (flat (ls.take k2)) = (flat ls) := by rw [List.take_of_length_le (by omega)]
          rw [htk] at hown
          clear htk
          go_wp2
          go_ret
          exact ⟨_, rfl, hown, hb1⟩
        | succ g =>
          have hk : k2 < ls.length := by omega
          have hkz : (k2 : Int) < (ls.length : Int) := by omega
          have hle2 := total_le ls (k2 + 1)
          obtain ⟨b, off, rfl, hb, hc⟩ := HR.out.below hb1 (by intro h; rw [h] at hk; simp at hk)
          obtain ⟨P, c, hcell, hsp, hpc⟩ := hc k2 hk
          have htk := total_take ls k2 hk
          rw [htk, List.length_append] at hle2
          have HTK := Lib.hid htk
          clear htk hc
          generalize hM : ls[k2] = m at *
          have hwz := hb1.size
          clear hM
          cases P with
          | none =>
            have hm : m = [] := by
              by_cases h0 : m = []
              · exact h0
              · obtain ⟨_, _, e, _⟩ := hsp h0; cases e
            subst hm
            obtain rfl : c = 0 := hpc rfl
            go_wp2_with (at_builtin; refine wpList_append_own_none rfl _ _ 25 rfl w.heap.size 43 i0 2 Tryd.underlying25 hi _ _ _ rfl hown rfl ?_)
            go_roundg g
            case measure => omega
            case rel => exact ⟨k2 + 1, by omega, by go_num, by rw [HTK.out, List.append_nil]; exact hown, hb1⟩
          | some ad =>
            go_wp2_with (at_builtin; refine wpList_append_own _ rfl _ _ 25 rfl w.heap.size 43 i0 (.agg #[.int .i64 0, .int .i64 0]) 2 16 Tryd.underlying25 hi hz0 hz1 hz2 rfl (by decide) _ _ _ rfl hown ad m.length c (cellsS m) rfl (cellsS_len m) (spans_news hsp) (one_cellsS m) (by unfold maxLen; omega) (by omega) hwz ?_; intro v' w2 hown' hgrow _)
            go_roundg g
            case measure => omega
            case rel => exact ⟨k2 + 1, by omega, by go_num, by rw [HTK.out, cellsS_append, List.length_append]; exact hown', hb1.grown hgrow hwz (fun j hj => (hown.lt j hj).1)⟩

/-- Union: the set of all that any tells. -/
theorem union_any (A : Option Addr) (ca : Nat) (ls : List (List Sp)) (hl : ls.length ≤ 1073741824) (ht : total ls ≤ 1073741824) (w : World) (h0 : 1 < w.heap.size) (hA : Areas w) (hR : RowsAt w.heap.size w A ls) :
    Calls Tryd.prog 32 #[.slice A ls.length ca] w (SetPost w (fun r => ∃ a ∈ ls, Tells a r) (4 * total ls)) := by
  have HR := Lib.hid hR
  have HA := Lib.hid hA
  clear hR hA
  go_enter Tryd.func32, Tryd.ntmps32
  go_wp2_with fail
  refine (concat_any A ca ls hl ht w HR.out).mono ?_
  rintro e W1 ⟨v, rfl, hown, hb1⟩
  obtain ⟨P, c, rfl, hs⟩ := spans_of hown
  have hz := hb1.size
  clear hown
  go_wp2_with fail
  refine (norm_any P c (flat ls) ht W1 (by omega) (HA.out.below hb1 h0) hs).mono ?_
  intro e W2 hp
  obtain ⟨v, out, rfl, n, m, hl2, ho, hb⟩ := hp.lower hb1
  go_wp2
  go_ret
  refine ⟨v, out, rfl, n, fun r => (m r).trans ?_, hl2, ho, hb⟩
  unfold Tells flat
  rw [mem_flatten]
  constructor
  · rintro ⟨h1, a, h2, h3⟩; exact ⟨a, h2, h1, h3⟩
  · rintro ⟨a, h2, h1, h3⟩; exact ⟨h1, a, h2, h3⟩
end Go.Proofs.YtgaalkcociifmaaDoor
