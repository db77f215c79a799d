/- SetShort: heavy, short and the walk. -/
import Derived.Test.YtnhkbafjjngomaaDoorSteps
import Derived.Deep.QuietTactic
import Derived.BigQuiet
namespace Go.Proofs.YtnhkbafjjngomaaDoor
open Go.RowKit Go.Shelf SetM

set_option maxRecDepth 100000 in
set_option maxHeartbeats 1000000 in
theorem heavy_any (A : Option Addr) (ca : Nat) (ls : List (List Sp)) (hl : ls.length ≤ 1000000) (ht : total ls ≤ 9223372036854775807) (w : World) (hR : RowsAt w.heap.size w A ls) :
    Calls Tryd.prog 17 #[.slice A ls.length ca] w fun e w' => e = .returned (.bool (decide (80 < total ls))) ∧ w = w' := by
  have HR := Lib.hid hR
  clear hR
  go_enter Tryd.func17, Tryd.ntmps17
  go_wp2
  go_loopg [3, 4] ls.length (fun g s3 s4 wx => ∃ k : Nat, k + g = ls.length ∧ s4 = .int .i64 k ∧ s3 = .int .i64 ((flat (ls.take k)).length : Nat) ∧ w = wx)
  case atStart => exact ⟨0, by omega, rfl, by simp [flat], rfl⟩
  case round =>
    obtain ⟨k, hkg, rfl, rfl, rfl⟩ := hrel
    have hle := total_le ls k
    cases gk with
    | succ g =>
      have hk : k < ls.length := by omega
      have hkz : (k : Int) < (ls.length : Int) := by omega
      have hle2 := total_le ls (k + 1)
      obtain ⟨b, off, rfl, hb, hc⟩ := HR.out (by intro h; rw [h] at hk; simp at hk)
      obtain ⟨P, c, hcell, _, _⟩ := hc k hk
      have htk := total_take ls k hk
      have hlk : (flat (ls.take (k + 1))).length = (flat (ls.take k)).length + ls[k].length := by rw [htk, List.length_append]
      have HLK := Lib.hid hlk
      rw [hlk] at hle2
      clear htk hlk hc
      generalize (flat (ls.take k)).length = n at *
      generalize ls[k].length = m at *
      go_wp2
      go_roundg g
      case measure => omega
      case rel => exact ⟨k + 1, by omega, by go_num, by rw [HLK.out]; go_num, rfl⟩
    | zero =>
      have hkz : ¬ ((k : Int) < (ls.length : Int)) := by omega
      have htk : (flat (ls.take k)).length = total ls := by rw [List.take_of_length_le (by omega)]; rfl
      rw [htk]
      clear hle htk
      go_wp2
      go_ret
      have hd : decide ((80 : Int) < (total ls : Int)) = decide (80 < total ls) := decide_eq_decide.2 (by omega)
      refine ⟨?_, rfl⟩
      rw [← hd]; rfl
/-- What short asks of a list. -/
def ShortL (l : List Sp) : Prop := ∀ i (h : i < l.length), l[i].1 ≤ l[i].2 ∧ ((0 ≤ l[i].1 ∧ l[i].2 < 55296) ∨ (57343 < l[i].1 ∧ l[i].2 ≤ 1114111)) ∧ ∀ j (hj : j < l.length), j + 1 = i → l[j].2 + 1 < l[i].1
theorem nf_step : ∀ {l : List Sp}, Nf l → ∀ j (h : j + 1 < l.length), (l[j]'(by omega)).2 + 1 < l[j + 1].1
  | [], _, j, h => by simp at h
  | s :: t, hn, 0, h => by
    have := hn.2.1 (t[0]'(by simpa using h)) (List.getElem_mem _)
    simpa using this
  | s :: t, hn, j + 1, h => by
    have := nf_step hn.2.2 j (by simpa using h)
    simpa using this
theorem short_of {l : List Sp} {K : Int → Prop} (h : IsSet l K) (hs : ∀ r, K r → Sc r) : ShortL l := fun i hi => by
  have hle := nf_le h.1 l[i] (List.getElem_mem hi)
  have hin : ∀ r, l[i].1 ≤ r → r ≤ l[i].2 → Sc r := fun r h1 h2 => hs r ((h.2 r).1 ⟨l[i], List.getElem_mem hi, h1, h2⟩)
  have ha := hin l[i].1 (Int.le_refl _) hle
  have hb := hin l[i].2 hle (Int.le_refl _)
  have hc : ¬ (l[i].1 ≤ 55296 ∧ 55296 ≤ l[i].2) := fun hh => by have := hin 55296 hh.1 hh.2; unfold Sc at this; omega
  unfold Sc at ha hb
  refine ⟨hle, by omega, fun j hj he => ?_⟩
  subst he
  exact nf_step h.1 j hi

set_option maxRecDepth 100000 in
set_option maxHeartbeats 2000000 in
theorem short_c {W : World} {P : Option Addr} {c : Nat} {l : List Sp} (hs : Sl W P l) (hl : l.length ≤ 1000000) (hS : ShortL l) : Calls Tryd.prog 32 #[.slice P l.length c] W fun e W' => e = .returned (.bool true) ∧ Below W.heap.size W W' := by
  have HS := Lib.hid hS
  clear hS
  obtain ⟨w, hw⟩ : ∃ w, w = W := ⟨_, rfl⟩
  rw [← hw] at hs ⊢
  clear hw
  go_enter Tryd.func32, Tryd.ntmps32
  go_wp2
  go_loopg [3] l.length (fun g s3 wx => ∃ k : Nat, k + g = l.length ∧ s3 = .int .i64 k ∧ Below w.heap.size w wx)
  case atStart => exact ⟨0, by omega, rfl, Below.refl _ _⟩
  case round =>
    obtain ⟨k, hkg, rfl, hb⟩ := hrel
    cases gk with
    | zero =>
      have hkz : ¬ ((k : Int) < (l.length : Int)) := by omega
      go_wp2
      go_ret
      exact ⟨rfl, hb⟩
    | succ g =>
      have hk : k < l.length := by omega
      have hkz : (k : Int) < (l.length : Int) := by omega
      obtain ⟨b, off, rfl, hbb, hc⟩ := hs (by intro h; rw [h] at hk; simp at hk)
      obtain ⟨h1, h2, h3⟩ := HS.out k hk
      obtain ⟨c0, c1⟩ := hc k hk
      have c0' := (hb.cell (p := ⟨b, off + k * 2, none⟩) hbb).trans c0
      have c1' := (hb.cell (p := ⟨b, off + k * 2 + 1, none⟩) hbb).trans c1
      clear c0 c1
      have hwz := hb.size
      cases k with
      | zero =>
        clear hc h3
        simp only [Nat.zero_mul, Nat.add_zero] at c0' c1'
        generalize l[0] = s at *
        obtain ⟨lo, hi⟩ := s
        dsimp only at *
        have d1 : decide (hi < lo) = false := decide_eq_false (by omega)
        have hb1 : Below w.heap.size w (wr.alloc (.cells #[.int .i64 lo, .int .i64 hi] 27)) := hb.alloc hwz _
        rcases h2 with ⟨h2, h4⟩ | ⟨h2, h4⟩
        · have d2 : decide (0 ≤ lo) = true := decide_eq_true h2
          have d3 : decide (hi < 55296) = true := decide_eq_true h4
          have d4 : decide (57343 < lo) = false := decide_eq_false (by omega)
          go_wp2
          go_quiet (fail)
          go_wp2
          go_roundg g
          case measure => omega
          case rel => exact ⟨0 + 1, by omega, by first | rfl | go_num, ⟨hb1.os, hb1.tape, hb1.output, hb1.size, hb1.block⟩⟩
        · have d2 : decide (0 ≤ lo) = true := decide_eq_true (by omega)
          have e2 : 0 ≤ lo := by omega
          have d3 : decide (hi < 55296) = false := decide_eq_false (by omega)
          have d4 : decide (57343 < lo) = true := decide_eq_true h2
          have d5 : decide (hi ≤ 1114111) = true := decide_eq_true h4
          go_wp2
          go_quiet (fail)
          go_wp2
          go_roundg g
          case measure => omega
          case rel => exact ⟨0 + 1, by omega, by first | rfl | go_num, ⟨hb1.os, hb1.tape, hb1.output, hb1.size, hb1.block⟩⟩
      | succ j =>
        have h5 := h3 j (by omega) rfl
        obtain ⟨p0, p1⟩ := hc j (by omega)
        have p1' := (hb.cell (p := ⟨b, off + j * 2 + 1, none⟩) hbb).trans p1
        clear hc h3 p0 p1
        have hin := HS.out j (by omega)
        have hp1 : 0 ≤ (l[j]'(by omega)).2 ∧ (l[j]'(by omega)).2 ≤ 1114111 := by omega
        clear hin
        generalize l[j + 1] = s at *
        generalize (l[j]'(by omega)).2 = ph at *
        obtain ⟨lo, hi⟩ := s
        dsimp only at *
        have d1 : decide (hi < lo) = false := decide_eq_false (by omega)
        have hb1 : Below w.heap.size w (wr.alloc (.cells #[.int .i64 lo, .int .i64 hi] 27)) := hb.alloc hwz _
        have q1 : (wr.alloc (.cells #[.int .i64 lo, .int .i64 hi] 27)).cell? ⟨b, off + j * 2 + 1, none⟩ = some (.int .i64 ph) := (World.cell?_alloc_lt _ _ _ (show b < wr.heap.size by omega)).trans p1'
        have d6 : decide (lo ≤ ph + 1) = false := decide_eq_false (by omega)
        have hj0 : (0 : Int) < (j : Int) + 1 := by omega
        have d7 : decide ((0 : Int) < (j : Int) + 1) = true := decide_eq_true hj0
        have hj1 : (j : Int) < (l.length : Int) := by omega
        obtain ⟨hp2, hp3⟩ := hp1
        rcases h2 with ⟨h2, h4⟩ | ⟨h2, h4⟩
        · have d2 : decide (0 ≤ lo) = true := decide_eq_true h2
          have d3 : decide (hi < 55296) = true := decide_eq_true h4
          have d4 : decide (57343 < lo) = false := decide_eq_false (by omega)
          go_wp2
          go_quiet (fail)
          go_wp2
          go_roundg g
          case measure => omega
          case rel => exact ⟨j + 1 + 1, by omega, by first | rfl | go_num, ⟨hb1.os, hb1.tape, hb1.output, hb1.size, hb1.block⟩⟩
        · have d2 : decide (0 ≤ lo) = true := decide_eq_true (by omega)
          have e2 : 0 ≤ lo := by omega
          have d3 : decide (hi < 55296) = false := decide_eq_false (by omega)
          have d4 : decide (57343 < lo) = true := decide_eq_true h2
          have d5 : decide (hi ≤ 1114111) = true := decide_eq_true h4
          go_wp2
          go_quiet (fail)
          go_wp2
          go_roundg g
          case measure => omega
          case rel => exact ⟨j + 1 + 1, by omega, by first | rfl | go_num, ⟨hb1.os, hb1.tape, hb1.output, hb1.size, hb1.block⟩⟩

/-- One list, laid alone in a slice of slices. -/
theorem rows_one {W : World} {P : Option Addr} {c : Nat} {l : List Sp} (hs : Sl W P l) (hc : P = none → c = 0) :
    RowsAt (W.alloc (.cells #[.slice P l.length c] 24)).heap.size (W.alloc (.cells #[.slice P l.length c] 24)) (some ⟨W.heap.size, 0, none⟩) [l] := fun _ => by
  have hb : Below W.heap.size W (W.alloc (.cells #[.slice P l.length c] 24)) := (Below.refl _ _).alloc (Nat.le_refl _) _
  have hz : (W.alloc (.cells #[.slice P l.length c] 24)).heap.size = W.heap.size + 1 := World.size_alloc _ _
  refine ⟨_, 0, rfl, by omega, fun j hj => ?_⟩
  match j, hj with
  | 0, _ => exact ⟨P, c, by rw [cell_of_row _ W.heap.size _ _ _ _ (heap_alloc_new W _)]; rfl, hs.step hb, hc⟩
theorem total_one (l : List Sp) : total [l] = l.length := by simp [total, flat]

set_option maxRecDepth 100000 in
set_option maxHeartbeats 4000000 in
theorem setShort_any (A B : Option Addr) (ca cb : Nat) (cs : List Int) (l : List Sp) (w : World) (hU : U16s w.heap.size w A cs) (SL : Sl w B l) (ZL : B = none → cb = 0) (hlb : l.length ≤ 9223372036854775807) (hC : Ctx w w) :
    Calls Tryd.prog 10 #[.slice A cs.length ca, .slice B l.length cb] w fun e w' => e = .returned (.bool true) ∧ Below w.heap.size w w' := by
  have hR := rows_one (c := cb) SL ZL
  have hb0 : Below w.heap.size w (w.alloc (.cells #[.slice B l.length cb] 24)) := (Below.refl _ _).alloc (Nat.le_refl _) _
  have hh := heavy_any (some ⟨w.heap.size, 0, none⟩) 1 [l] (by simp) (by rw [total_one]; exact hlb) _ hR
  have hC0 := hC.step hb0
  replace SL := SL.step hb0
  have HH := Lib.hid hh
  clear hh hR hb0
  by_cases h80 : 80 < l.length
  · have hd : decide (80 < total [l]) = true := by rw [total_one]; exact decide_eq_true h80
    have HD := Lib.hid hd
    clear hd
    go_enter Tryd.func10, Tryd.ntmps10
    go_wp2_with fail
    refine HH.out.mono ?_
    rintro e W1 ⟨rfl, rfl⟩
    rw [HD.out]
    go_wp2_with fail
    refine (known_c hC0).mono ?_
    rintro e W2 ⟨rfl, b2⟩
    have hC2 := hC0.step b2
    go_wp2
    go_ret
    exact ⟨rfl, hC2.below⟩
  · have hd : decide (80 < total [l]) = false := by rw [total_one]; exact decide_eq_false h80
    have HD := Lib.hid hd
    clear hd
    have hl80 : l.length ≤ 80 := by omega
    clear h80
    go_enter Tryd.func10, Tryd.ntmps10
    go_wp2_with fail
    refine HH.out.mono ?_
    rintro e W1 ⟨rfl, rfl⟩
    rw [HD.out]
    generalize w.alloc (.cells #[.slice B l.length cb] 24) = W1 at *
    go_wp2_with fail
    refine (known_c hC0).mono ?_
    rintro e W2 ⟨rfl, b2⟩
    have hC2 := hC0.step b2
    replace SL := SL.step b2
    clear b2
    go_wp2_with fail
    refine (make_c hU hC2).mono ?_
    rintro e W3 ⟨Pm, cm, rfl, Sm, Zm, b3⟩
    have hC3 := hC2.step b3
    replace SL := SL.step b3
    clear b3
    have lm := makeF_len cs
    go_wp2_with fail
    refine (norm_c hC3 Sm (by omega)).mono ?_
    rintro e W4 ⟨PN1, cN1, oN1, rfl, IN1, LN1, SN1, ZN1, b4⟩
    have hC4 := hC3.step b4
    replace SL := SL.step b4
    replace Sm := Sm.step b4
    clear b4
    have qN1 : ShortL oN1 := short_of IN1 (fun r h => h.1)
    go_wp2_with fail
    refine (short_c SN1 (by omega) qN1).mono ?_
    rintro e W5 ⟨rfl, b5⟩
    have hC5 := hC4.step b5
    replace SL := SL.step b5
    replace Sm := Sm.step b5
    replace SN1 := SN1.step b5
    clear b5
    go_wp2_with fail
    refine (norm_c hC5 SL (by omega)).mono ?_
    rintro e W6 ⟨PN2, cN2, oN2, rfl, IN2, LN2, SN2, ZN2, b6⟩
    have hC6 := hC5.step b6
    replace SL := SL.step b6
    replace Sm := Sm.step b6
    replace SN1 := SN1.step b6
    clear b6
    have qN2 : ShortL oN2 := short_of IN2 (fun r h => h.1)
    go_wp2_with fail
    refine (short_c SN2 (by omega) qN2).mono ?_
    rintro e W7 ⟨rfl, b7⟩
    have hC7 := hC6.step b7
    replace SL := SL.step b7
    replace Sm := Sm.step b7
    replace SN1 := SN1.step b7
    replace SN2 := SN2.step b7
    clear b7
    go_wp2_with fail
    refine (not_c hC7 SL (by omega)).mono ?_
    rintro e W8 ⟨PN3, cN3, oN3, rfl, IN3, LN3, SN3, ZN3, b8⟩
    have hC8 := hC7.step b8
    replace SL := SL.step b8
    replace Sm := Sm.step b8
    replace SN1 := SN1.step b8
    replace SN2 := SN2.step b8
    clear b8
    have qN3 : ShortL oN3 := short_of IN3 (fun r h => h.1)
    go_wp2_with fail
    refine (short_c SN3 (by omega) qN3).mono ?_
    rintro e W9 ⟨rfl, b9⟩
    have hC9 := hC8.step b9
    replace SL := SL.step b9
    replace Sm := Sm.step b9
    replace SN1 := SN1.step b9
    replace SN2 := SN2.step b9
    replace SN3 := SN3.step b9
    clear b9
    go_wp2
    go_ret
    exact ⟨rfl, hC9.below⟩
end Go.Proofs.YtnhkbafjjngomaaDoor
