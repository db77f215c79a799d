/- The document's own answer for layer 1: scalar, Has, lay, edges. -/
import Derived.Test.YtkphbjppmiefkaaDoorSteps
import Derived.Test.YtkphbjppmiefkaaDoorRefMath
namespace Go.Proofs.YtkphbjppmiefkaaDoor
open Go.RowKit Go.Shelf SetM

theorem infoI : (Tryd.prog.info? 3).map (fun i => (i.zero, i.size, i.bytes)) = some (some (.int .i64 0), 1, 8) := by kernel_rfl

/-- A slice of ints holds the numbers l. -/
def Ints (n₀ : Nat) (W : World) (A : Option Addr) (l : List Int) : Prop :=
  l ≠ [] → ∃ b off, A = some ⟨b, off, none⟩ ∧ b < n₀ ∧ ∀ j (h : j < l.length), W.cell? ⟨b, off + j, none⟩ = some (.int .i64 l[j])
theorem Ints.below {n₀ : Nat} {V W : World} (h : Below n₀ V W) {A : Option Addr} {l : List Int} (hs : Ints n₀ V A l) : Ints n₀ W A l := fun hl => by
  obtain ⟨b, off, e, hb, hc⟩ := hs hl
  exact ⟨b, off, e, hb, fun j hj => (h.cell (p := ⟨b, off + j, none⟩) hb).trans (hc j hj)⟩
theorem Ints.mono {n₀ n₁ : Nat} {W : World} {A : Option Addr} {l : List Int} (hs : Ints n₀ W A l) (h : n₀ ≤ n₁) : Ints n₁ W A l := fun hl => by
  obtain ⟨b, off, e, hb, hc⟩ := hs hl
  exact ⟨b, off, e, by omega, hc⟩
theorem ints_of {W : World} {base : Nat} {v : Value} {l : List Int} (h : W.ownsRow base 3 1 v l.length (l.map (Value.int .i64))) : ∃ P c, v = .slice P l.length c ∧ Ints W.heap.size W P l ∧ l.length ≤ c ∧ (P = none → c = 0) := by
  rcases h.2 with ⟨rfl, h0⟩ | ⟨g, cap, cur, rfl, hb, hg, h1, h2, h3, h4⟩
  · exact ⟨none, 0, by rw [h0], fun hne => absurd (List.eq_nil_of_length_eq_zero h0) hne, by omega, fun _ => rfl⟩
  · refine ⟨_, cap, rfl, fun _ => ⟨g, 0, rfl, (Array.getElem?_eq_some_iff.1 hg).1, fun j hj => ?_⟩, h1, fun h => by cases h⟩
    rw [cell_of_row W g _ cur _ _ hg, Nat.zero_add, ← Array.getElem?_toList]
    have : (cur.toList.take (l.length * 1))[j]? = some (.int .i64 l[j]) := by rw [h4]; simp [hj]
    rwa [List.getElem?_take_of_lt (by omega)] at this

set_option maxHeartbeats 1000000 in
theorem scalar_any (r : Int) (w : World) : Calls Tryd.prog 41 #[.int .i64 r] w fun e w' => e = .returned (.bool (decide (Sc r))) ∧ w = w' := by
  have hcase : r < 0 ∨ (0 ≤ r ∧ r ≤ 55295) ∨ (55296 ≤ r ∧ r ≤ 57343) ∨ (57344 ≤ r ∧ r ≤ 1114111) ∨ 1114111 < r := by omega
  rcases hcase with hx | ⟨hx, hy⟩ | ⟨hx, hy⟩ | ⟨hx, hy⟩ | hx
  · rw [show decide (Sc r) = false from decide_eq_false (by unfold Sc; omega)]
    have da : decide (0 ≤ r) = false := decide_eq_false (by omega)
    go_enter Tryd.func41, Tryd.ntmps41
    go_wp2
    go_ret
    exact ⟨rfl, rfl⟩
  · rw [show decide (Sc r) = true from decide_eq_true (by unfold Sc; omega)]
    have da : decide (0 ≤ r) = true := decide_eq_true (by omega)
    have db : decide (r ≤ 1114111) = true := decide_eq_true (by omega)
    have dc : decide (r < 55296) = true := decide_eq_true (by omega)
    go_enter Tryd.func41, Tryd.ntmps41
    go_wp2
    go_ret
    exact ⟨rfl, rfl⟩
  · rw [show decide (Sc r) = false from decide_eq_false (by unfold Sc; omega)]
    have da : decide (0 ≤ r) = true := decide_eq_true (by omega)
    have db : decide (r ≤ 1114111) = true := decide_eq_true (by omega)
    have dc : decide (r < 55296) = false := decide_eq_false (by omega)
    have dd : decide (57343 < r) = false := decide_eq_false (by omega)
    go_enter Tryd.func41, Tryd.ntmps41
    go_wp2
    go_ret
    exact ⟨rfl, rfl⟩
  · rw [show decide (Sc r) = true from decide_eq_true (by unfold Sc; omega)]
    have da : decide (0 ≤ r) = true := decide_eq_true (by omega)
    have db : decide (r ≤ 1114111) = true := decide_eq_true (by omega)
    have dc : decide (r < 55296) = false := decide_eq_false (by omega)
    have dd : decide (57343 < r) = true := decide_eq_true (by omega)
    go_enter Tryd.func41, Tryd.ntmps41
    go_wp2
    go_ret
    exact ⟨rfl, rfl⟩
  · rw [show decide (Sc r) = false from decide_eq_false (by unfold Sc; omega)]
    have da : decide (0 ≤ r) = true := decide_eq_true (by omega)
    have db : decide (r ≤ 1114111) = false := decide_eq_false (by omega)
    go_enter Tryd.func41, Tryd.ntmps41
    go_wp2
    go_ret
    exact ⟨rfl, rfl⟩

set_option maxRecDepth 100000 in
set_option maxHeartbeats 1000000 in
/-- The document's Has. -/
theorem rhas_any (P : Option Addr) (c : Nat) (l : List Sp) (r : Int) (W : World) (hs : Sl W P l) (hl : l.length ≤ 1000000) : Calls Tryd.prog 25 #[.slice P l.length c, .int .i64 r] W fun e W' => e = .returned (.bool (decide (Tells l r))) ∧ W = W' := by
  obtain ⟨w, hw⟩ : ∃ w, w = W := ⟨_, rfl⟩
  rw [← hw] at hs ⊢
  clear hw
  go_enter Tryd.func25, Tryd.ntmps25
  go_wp2
  go_loopg [5] l.length (fun g s5 wx => ∃ k : Nat, k + g = l.length ∧ s5 = .int .i64 k ∧ Hid (¬ Mem (l.take k) r) ∧ w = wx)
  case atStart => exact ⟨0, by omega, rfl, Lib.hid (by simp [Mem]), rfl⟩
  case round =>
    obtain ⟨k, hkg, rfl, HN, rfl⟩ := hrel
    cases gk with
    | zero =>
      have hkz : ¬ ((k : Int) < (l.length : Int)) := by omega
      have hf : decide (Tells l r) = false := decide_eq_false (fun h => HN.out (by rw [List.take_of_length_le (by omega)]; exact h.2))
      have HF := Lib.hid hf
      clear hf
      go_wp2
      go_ret
      refine ⟨?_, rfl⟩
      rw [HF.out]; rfl
    | succ g =>
      have hk : k < l.length := by omega
      have hkz : (k : Int) < (l.length : Int) := by omega
      obtain ⟨b, off, rfl, hbb, hc⟩ := hs (by intro h; rw [h] at hk; simp at hk)
      obtain ⟨c0, c1⟩ := hc k hk
      have hstep : Mem (l.take (k + 1)) r ↔ Mem (l.take k) r ∨ (l[k].1 ≤ r ∧ r ≤ l[k].2) := by
        rw [List.take_succ_eq_append_getElem hk, mem_append, mem_cons]
        constructor
        · rintro (h | h | h)
          · exact .inl h
          · exact .inr h
          · exact absurd h (mem_nil r)
        · rintro (h | h)
          · exact .inl h
          · exact .inr (.inl h)
      have hin : (l[k].1 ≤ r ∧ r ≤ l[k].2) → (Tells l r ↔ Sc r) := fun h => ⟨fun h => h.1, fun hsc => ⟨hsc, l[k], List.getElem_mem hk, h⟩⟩
      have HST := Lib.hid hstep
      have HIN := Lib.hid hin
      clear hstep hin hc
      generalize l[k] = s at *
      obtain ⟨lo, hi⟩ := s
      dsimp only at *
      by_cases h1 : lo ≤ r
      · have d1 : decide (lo ≤ r) = true := decide_eq_true h1
        by_cases h2 : r ≤ hi
        · have d2 : decide (r ≤ hi) = true := decide_eq_true h2
          have hd : decide (Tells l r) = decide (Sc r) := decide_eq_decide.2 (HIN.out ⟨h1, h2⟩)
          have HD := Lib.hid hd
          clear hd
          go_wp2_with fail
          refine (scalar_any r _).mono ?_
          rintro e w' ⟨rfl, rfl⟩
          generalize hsc : decide (Sc r) = bb
          have HSC := Lib.hid hsc
          clear hsc
          go_wp2
          go_ret
          refine ⟨?_, rfl⟩
          rw [HD.out, HSC.out]; rfl
        · have d2 : decide (r ≤ hi) = false := decide_eq_false h2
          have HN2 : Hid (¬ Mem (l.take (k + 1)) r) := Lib.hid (fun h => ((HST.out.1 h).elim HN.out (fun h => h2 h.2)))
          go_wp2
          go_roundg g
          case measure => omega
          case rel => exact ⟨k + 1, by omega, by go_num, HN2, rfl⟩
      · have d1 : decide (lo ≤ r) = false := decide_eq_false h1
        have HN2 : Hid (¬ Mem (l.take (k + 1)) r) := Lib.hid (fun h => ((HST.out.1 h).elim HN.out (fun h => h1 h.1)))
        go_wp2
        go_roundg g
        case measure => omega
        case rel => exact ⟨k + 1, by omega, by go_num, HN2, rfl⟩
/-- A list's cells are each one cell. -/
theorem one_ints (l : List Int) : ∀ u ∈ l.map (Value.int .i64), u.oneCell' = true := by
  intro u hu; obtain ⟨x, _, rfl⟩ := List.mem_map.1 hu; rfl
theorem ints_news {W : World} {b off : Nat} {l : List Int} (hc : ∀ j (h : j < l.length), W.cell? ⟨b, off + j, none⟩ = some (.int .i64 l[j])) : ∀ j u, (l.map (Value.int .i64))[j]? = some u → W.cell? ((⟨b, off, none⟩ : Addr).add j) = some u := by
  intro j u hj
  have hlt : j < l.length := by
    rcases Nat.lt_or_ge j l.length with h | h
    · exact h
    · rw [List.getElem?_eq_none (by simpa using h)] at hj; cases hj
  have e1 : (⟨b, off, none⟩ : Addr).add j = ⟨b, off + j, none⟩ := by unfold Addr.add; split <;> simp_all
  rw [e1, hc j hlt]
  rw [List.getElem?_map, List.getElem?_eq_getElem hlt] at hj
  exact hj

set_option maxRecDepth 100000 in
set_option maxHeartbeats 2000000 in
theorem lay_any (A : Option Addr) (c : Nat) (l : List Int) (x : Int) (hup : Up l) (hl : l.length ≤ 1000000) (hcl : l.length ≤ c) (hcm : c ≤ 9223372036854775807) (hA0 : (A = none ∧ c = 0) ∨ ∃ b off, A = some ⟨b, off, none⟩) (w : World) (hI : Ints w.heap.size w A l) :
    Calls Tryd.prog 56 #[.slice A l.length c, .int .i64 x] w fun e w' => ∃ v, e = .returned v ∧ w'.ownsRow w.heap.size 3 1 v (layL l x).length ((layL l x).map (Value.int .i64)) ∧ Below w.heap.size w w' := by
  obtain ⟨i0, hi, hz0, hz1, hz2⟩ := info_parts infoI
  have HI := Lib.hid hI
  have HU := Lib.hid hup
  clear hI hup
  go_enter Tryd.func56, Tryd.ntmps56
  go_wp2
  go_loopg [5, 6] l.length (fun g s5 s6 wx => ∃ k : Nat, k + g = l.length ∧ s6 = .int .i64 k ∧ Hid (∀ j (hj : j < l.length), j < k → l[j] < x) ∧ wx.ownsRow w.heap.size 3 1 s5 (l.take k).length ((l.take k).map (Value.int .i64)) ∧ Below w.heap.size w wx)
  case atStart => exact ⟨0, by omega, rfl, Lib.hid (fun j hj h => by omega), by simpa using World.ownsRow_nil _ _ _ _, Below.refl _ _⟩
  case round =>
    obtain ⟨k, hkg, rfl, HL, hown, hb⟩ := hrel
    have hwz := hb.size
    have hlk : (l.take k).length = k := by rw [List.length_take]; omega
    by_cases hgo : ∃ h : k < l.length, l[k] < x
    · obtain ⟨hk, hlt⟩ := hgo
      have hkz : (k : Int) < (l.length : Int) := by omega
      obtain ⟨b, off, rfl, hbb, hc⟩ := HI.out (by intro h; rw [h] at hk; simp at hk)
      have c0 := (hb.cell (p := ⟨b, off + k, none⟩) hbb).trans (hc k hk)
      have hnext : Hid (∀ j (hj : j < l.length), j < k + 1 → l[j] < x) := Lib.hid (fun j hj h => by
        rcases Nat.lt_or_ge j k with h1 | h1
        · exact HL.out j hj h1
        · obtain rfl : j = k := by omega
          exact hlt)
      have htk : Hid ((l.take (k + 1)) = l.take k ++ [l[k]]) := Lib.hid (List.take_succ_eq_append_getElem hk)
      clear hc
      generalize l[k] = y at *
      have d1 : decide (y < x) = true := decide_eq_true hlt
      obtain ⟨g, rfl⟩ : ∃ g, gk = g + 1 := ⟨gk - 1, by omega⟩
      have hkl : (l.take k).length ≤ 1000000 := by omega
      clear hlk
      go_wp2_with (at_builtin; refine wpList_append_own _ rfl _ _ 35 rfl w.heap.size 3 i0 (.int .i64 0) 1 8 Tryd.underlying35 hi hz0 hz1 hz2 rfl (by decide) _ _ _ rfl (hown.alloc _) ⟨wr.heap.size, 0, none⟩ 1 1 [.int .i64 y] rfl rfl (cell_news _ _ _) (by simp [Value.oneCell']) (by unfold maxLen; omega) (by omega) (by rw [World.size_alloc]; omega) ?_; intro v' w2 hown' hgrow _)
      go_roundg g
      case measure => omega
      case rel => exact ⟨k + 1, by omega, by go_num, hnext, by rw [htk.out, List.map_append, List.length_append]; exact hown', (hb.alloc hwz _).grown hgrow (by rw [World.size_alloc]; omega) (fun j hj => (hown.lt j hj).1)⟩
    · -- the loop ends at k
      have hstop : ∀ h : k < l.length, x ≤ l[k] := fun h => by
        rcases Int.lt_or_le l[k] x with h1 | h1
        · exact absurd ⟨h, h1⟩ hgo
        · exact h1
      have hcut := layL_cut HU.out x k (by omega) HL.out hstop
      clear hgo
      by_cases hk : k < l.length
      · have hkz : (k : Int) < (l.length : Int) := by omega
        obtain ⟨b, off, rfl, hbb, hc⟩ := HI.out (by intro h; rw [h] at hk; simp at hk)
        have c0 := (hb.cell (p := ⟨b, off + k, none⟩) hbb).trans (hc k hk)
        have hyx := hstop hk
        rw [List.getElem?_eq_getElem hk] at hcut
        have HCC := Lib.hid hc
        clear hc hstop
        generalize l[k] = y at *
        have d1 : decide (y < x) = false := decide_eq_false (by omega)
        have hkl : (l.take k).length ≤ 1000000 := by omega
        have hlk2 : (l.take k).length ≤ k := by omega
        clear hlk
        by_cases hxy : y = x
        · have d2 : (y == x) = true := by rw [beq_iff_eq]; exact hxy
          rw [if_pos (by rw [hxy])] at hcut
          have HCUT := Lib.hid hcut
          clear hcut hxy
          by_cases hck : c = k + 1
          · have hd0 : l.drop (k + 1) = [] := List.drop_eq_nil_of_le (by omega)
            rw [hd0] at HCUT
            have hm0 : l.length - (k + 1) = 0 := by omega
            have hck2 : c - (k + 1) = 0 := by omega
            go_wp2_with (first | (at_builtin; refine wpList_append_own _ rfl (.tmp 42) (.tmp 44) 35 rfl w.heap.size 3 i0 (.int .i64 0) 1 8 Tryd.underlying35 hi hz0 hz1 hz2 rfl (by decide) _ _ _ rfl (hown.alloc _) ⟨wr.heap.size, 0, none⟩ 1 1 [.int .i64 x] rfl rfl (cell_news _ _ _) (by simp [Value.oneCell']) (by unfold maxLen; omega) (by omega) (by rw [World.size_alloc]; omega) ?_; intro v' w2 hown' hgrow _; have hb2 := (hb.alloc hwz _).grown hgrow (by rw [World.size_alloc]; omega) (fun j hj => (hown.lt j hj).1); have hwz2 := hb2.size) | (at_builtin; refine wpList_append_own _ rfl (.tmp 46) (.tmp 49) 35 rfl w.heap.size 3 i0 (.int .i64 0) 1 8 Tryd.underlying35 hi hz0 hz1 hz2 rfl (by decide) _ _ _ rfl hown' ⟨b, off, none⟩ 0 0 [] rfl rfl (fun j u hj => by simp at hj) (by simp) (by unfold maxLen; omega) (by omega) hwz2 ?_; intro v3 w3 hown3 hgrow3 _))
            go_ret
            refine ⟨_, rfl, ?_, hb2.grown hgrow3 hwz2 (fun j hj => (hown'.lt j hj).1)⟩
            rw [HCUT.out]
            have e1 : (l.take k ++ [x]).length = (l.take k).length + 1 := by simp
            have e2 : (l.take k ++ [x]).map (Value.int .i64) = (l.take k).map (Value.int .i64) ++ [.int .i64 x] := by simp
            rw [e1, e2]
            simpa using hown3
          · have hcd : ∀ j (h : j < (l.drop (k + 1)).length), w.cell? ⟨b, off + (k + 1) + j, none⟩ = some (.int .i64 (l.drop (k + 1))[j]) := fun j hj => by
              rw [List.length_drop] at hj
              have := HCC.out (k + 1 + j) (by omega)
              rw [show off + (k + 1) + j = off + (k + 1 + j) from by omega, this, List.getElem_drop]
            have HCD := Lib.hid hcd
            clear hcd
            go_wp2_with (first | (at_builtin; refine wpList_append_own _ rfl (.tmp 42) (.tmp 44) 35 rfl w.heap.size 3 i0 (.int .i64 0) 1 8 Tryd.underlying35 hi hz0 hz1 hz2 rfl (by decide) _ _ _ rfl (hown.alloc _) ⟨wr.heap.size, 0, none⟩ 1 1 [.int .i64 x] rfl rfl (cell_news _ _ _) (by simp [Value.oneCell']) (by unfold maxLen; omega) (by omega) (by rw [World.size_alloc]; omega) ?_; intro v' w2 hown' hgrow _; have hb2 := (hb.alloc hwz _).grown hgrow (by rw [World.size_alloc]; omega) (fun j hj => (hown.lt j hj).1); have hwz2 := hb2.size) | (at_builtin; refine wpList_append_own _ rfl (.tmp 46) (.tmp 49) 35 rfl w.heap.size 3 i0 (.int .i64 0) 1 8 Tryd.underlying35 hi hz0 hz1 hz2 rfl (by decide) _ _ _ rfl hown' ⟨b, off + (k + 1), none⟩ (l.length - (k + 1)) (c - (k + 1)) ((l.drop (k + 1)).map (Value.int .i64)) rfl (by simp) (ints_news (fun j hj => (hb2.cell (p := ⟨b, off + (k + 1) + j, none⟩) hbb).trans (HCD.out j hj))) (one_ints _) (by unfold maxLen; omega) (by omega) hwz2 ?_; intro v3 w3 hown3 hgrow3 _))
            go_ret
            refine ⟨_, rfl, ?_, hb2.grown hgrow3 hwz2 (fun j hj => (hown'.lt j hj).1)⟩
            rw [HCUT.out]
            have e1 : (l.take k ++ x :: (l.drop (k + 1))).length = (l.take k).length + 1 + (l.drop (k + 1)).length := by simp; omega
            have e2 : (l.take k ++ x :: (l.drop (k + 1))).map (Value.int .i64) = (l.take k).map (Value.int .i64) ++ [.int .i64 x] ++ (l.drop (k + 1)).map (Value.int .i64) := by simp
            rw [e1, e2]
            simpa using hown3
        · have d2 : (y == x) = false := by rw [beq_eq_false_iff_ne]; exact hxy
          rw [if_neg (by simpa using hxy)] at hcut
          have HCUT := Lib.hid hcut
          have hcd : ∀ j (h : j < (l.drop k).length), w.cell? ⟨b, off + k + j, none⟩ = some (.int .i64 (l.drop k)[j]) := fun j hj => by
            rw [List.length_drop] at hj
            have := HCC.out (k + j) (by omega)
            rw [show off + k + j = off + (k + j) from by omega, this, List.getElem_drop]
          have HCD := Lib.hid hcd
          clear hcut hxy hcd
          go_wp2_with (first | (at_builtin; refine wpList_append_own _ rfl (.tmp 42) (.tmp 44) 35 rfl w.heap.size 3 i0 (.int .i64 0) 1 8 Tryd.underlying35 hi hz0 hz1 hz2 rfl (by decide) _ _ _ rfl (hown.alloc _) ⟨wr.heap.size, 0, none⟩ 1 1 [.int .i64 x] rfl rfl (cell_news _ _ _) (by simp [Value.oneCell']) (by unfold maxLen; omega) (by omega) (by rw [World.size_alloc]; omega) ?_; intro v' w2 hown' hgrow _; have hb2 := (hb.alloc hwz _).grown hgrow (by rw [World.size_alloc]; omega) (fun j hj => (hown.lt j hj).1); have hwz2 := hb2.size) | (at_builtin; refine wpList_append_own _ rfl (.tmp 46) (.tmp 49) 35 rfl w.heap.size 3 i0 (.int .i64 0) 1 8 Tryd.underlying35 hi hz0 hz1 hz2 rfl (by decide) _ _ _ rfl hown' ⟨b, off + k, none⟩ (l.length - k) (c - k) ((l.drop k).map (Value.int .i64)) rfl (by simp) (ints_news (fun j hj => (hb2.cell (p := ⟨b, off + k + j, none⟩) hbb).trans (HCD.out j hj))) (one_ints _) (by unfold maxLen; omega) (by omega) hwz2 ?_; intro v3 w3 hown3 hgrow3 _))
          go_ret
          refine ⟨_, rfl, ?_, hb2.grown hgrow3 hwz2 (fun j hj => (hown'.lt j hj).1)⟩
          rw [HCUT.out]
          have e1 : (l.take k ++ x :: (l.drop k)).length = (l.take k).length + 1 + (l.drop k).length := by simp; omega
          have e2 : (l.take k ++ x :: (l.drop k)).map (Value.int .i64) = (l.take k).map (Value.int .i64) ++ [.int .i64 x] ++ (l.drop k).map (Value.int .i64) := by simp
          rw [e1, e2]
          simpa using hown3
      · obtain rfl : k = l.length := by omega
        have hkz : ¬ ((l.length : Int) < (l.length : Int)) := by omega
        rw [List.getElem?_eq_none (Nat.le_refl _), if_neg (by simp), List.drop_length] at hcut
        have HCUT := Lib.hid hcut
        clear hcut hstop
        have hkl : (l.take l.length).length ≤ 1000000 := by omega
        have hlk2 : (l.take l.length).length ≤ l.length := by omega
        clear hlk hk
        have hm0 : l.length - l.length = 0 := Nat.sub_self _
        rcases hA0 with ⟨rfl, rfl⟩ | ⟨b, off, rfl⟩
        · have hl0 : l.length = 0 := by omega
          go_wp2_with (first | (at_builtin; refine wpList_append_own _ rfl (.tmp 42) (.tmp 44) 35 rfl w.heap.size 3 i0 (.int .i64 0) 1 8 Tryd.underlying35 hi hz0 hz1 hz2 rfl (by decide) _ _ _ rfl (hown.alloc _) ⟨wr.heap.size, 0, none⟩ 1 1 [.int .i64 x] rfl rfl (cell_news _ _ _) (by simp [Value.oneCell']) (by unfold maxLen; omega) (by omega) (by rw [World.size_alloc]; omega) ?_; intro v' w2 hown' hgrow _; have hb2 := (hb.alloc hwz _).grown hgrow (by rw [World.size_alloc]; omega) (fun j hj => (hown.lt j hj).1); have hwz2 := hb2.size) | (at_builtin; refine wpList_append_own_none rfl (.tmp 46) (.tmp 49) 35 rfl w.heap.size 3 i0 1 Tryd.underlying35 hi _ _ _ rfl hown' rfl ?_))
          go_ret
          refine ⟨_, rfl, ?_, hb2⟩
          rw [HCUT.out]
          have e1 : (l.take l.length ++ [x]).length = (l.take l.length).length + 1 := by simp
          have e2 : (l.take l.length ++ [x]).map (Value.int .i64) = (l.take l.length).map (Value.int .i64) ++ [.int .i64 x] := by simp
          rw [e1, e2]
          exact hown'
        · by_cases hck : c = l.length
          · have hck2 : c - l.length = 0 := by omega
            go_wp2_with (first | (at_builtin; refine wpList_append_own _ rfl (.tmp 42) (.tmp 44) 35 rfl w.heap.size 3 i0 (.int .i64 0) 1 8 Tryd.underlying35 hi hz0 hz1 hz2 rfl (by decide) _ _ _ rfl (hown.alloc _) ⟨wr.heap.size, 0, none⟩ 1 1 [.int .i64 x] rfl rfl (cell_news _ _ _) (by simp [Value.oneCell']) (by unfold maxLen; omega) (by omega) (by rw [World.size_alloc]; omega) ?_; intro v' w2 hown' hgrow _; have hb2 := (hb.alloc hwz _).grown hgrow (by rw [World.size_alloc]; omega) (fun j hj => (hown.lt j hj).1); have hwz2 := hb2.size) | (at_builtin; refine wpList_append_own _ rfl (.tmp 46) (.tmp 49) 35 rfl w.heap.size 3 i0 (.int .i64 0) 1 8 Tryd.underlying35 hi hz0 hz1 hz2 rfl (by decide) _ _ _ rfl hown' ⟨b, off, none⟩ 0 0 [] rfl rfl (fun j u hj => by simp at hj) (by simp) (by unfold maxLen; omega) (by omega) hwz2 ?_; intro v3 w3 hown3 hgrow3 _))
            go_ret
            refine ⟨_, rfl, ?_, hb2.grown hgrow3 hwz2 (fun j hj => (hown'.lt j hj).1)⟩
            rw [HCUT.out]
            have e1 : (l.take l.length ++ [x]).length = (l.take l.length).length + 1 := by simp
            have e2 : (l.take l.length ++ [x]).map (Value.int .i64) = (l.take l.length).map (Value.int .i64) ++ [.int .i64 x] := by simp
            rw [e1, e2]
            simpa using hown3
          · go_wp2_with (first | (at_builtin; refine wpList_append_own _ rfl (.tmp 42) (.tmp 44) 35 rfl w.heap.size 3 i0 (.int .i64 0) 1 8 Tryd.underlying35 hi hz0 hz1 hz2 rfl (by decide) _ _ _ rfl (hown.alloc _) ⟨wr.heap.size, 0, none⟩ 1 1 [.int .i64 x] rfl rfl (cell_news _ _ _) (by simp [Value.oneCell']) (by unfold maxLen; omega) (by omega) (by rw [World.size_alloc]; omega) ?_; intro v' w2 hown' hgrow _; have hb2 := (hb.alloc hwz _).grown hgrow (by rw [World.size_alloc]; omega) (fun j hj => (hown.lt j hj).1); have hwz2 := hb2.size) | (at_builtin; refine wpList_append_own _ rfl (.tmp 46) (.tmp 49) 35 rfl w.heap.size 3 i0 (.int .i64 0) 1 8 Tryd.underlying35 hi hz0 hz1 hz2 rfl (by decide) _ _ _ rfl hown' ⟨b, off + l.length, none⟩ 0 (c - l.length) [] rfl rfl (fun j u hj => by simp at hj) (by simp) (by unfold maxLen; omega) (by omega) hwz2 ?_; intro v3 w3 hown3 hgrow3 _))
            go_ret
            refine ⟨_, rfl, ?_, hb2.grown hgrow3 hwz2 (fun j hj => (hown'.lt j hj).1)⟩
            rw [HCUT.out]
            have e1 : (l.take l.length ++ [x]).length = (l.take l.length).length + 1 := by simp
            have e2 : (l.take l.length ++ [x]).map (Value.int .i64) = (l.take l.length).map (Value.int .i64) ++ [.int .i64 x] := by simp
            rw [e1, e2]
            simpa using hown3
end Go.Proofs.YtkphbjppmiefkaaDoor
