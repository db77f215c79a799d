/- seqs.Count and seqs.Match. -/
import Derived.Test.YtgaalkcociifmaaDoorSRange
namespace Go.Proofs.YtgaalkcociifmaaDoor
open Go.RowKit Go.Shelf SeqM

theorem Rws.isRg {W : World} {A : Option Addr} {rs : List (List Rg)} (h : Rws W A rs) : ∀ r ∈ rs, ∀ x ∈ r, IsRg x := fun r hr => by
  obtain ⟨j, hj, rfl⟩ := List.mem_iff_getElem.1 hr
  obtain ⟨_, _, _, _, hc⟩ := h (by intro h0; rw [h0] at hj; simp at hj)
  obtain ⟨_, _, _, h2⟩ := hc j hj
  exact h2.1
/-- What bounds the numbers of a count. -/
structure Few (rs : List (List Rg)) : Prop where
  rows : ∀ k, 0 ≤ countR (rs.take k) ∧ countR (rs.take k) ≤ 9223372036854775807
  row : ∀ r ∈ rs, ∀ k, 0 ≤ prodR (r.take k) ∧ prodR (r.take k) ≤ 9223372036854775807
  len : rs.length ≤ 9223372036854775807
  lens : ∀ r ∈ rs, r.length ≤ 100
theorem few_of (m : Nat) {rs : List (List Rg)} (hm : m ≤ 100) (hl : ∀ r ∈ rs, r.length ≤ m) (hi : ∀ r ∈ rs, ∀ x ∈ r, IsRg x) (hb : (rs.length : Int) * Bd m ≤ 9223372036854775807) : Few rs := by
  have hp := Bd_pos m
  refine ⟨fun k => ?_, fun r hr k => ?_, ?_, fun r hr => Nat.le_trans (hl r hr) hm⟩
  · obtain ⟨h1, h2⟩ := countR_in m (rs.take k) (fun r hr => ⟨hl r (List.mem_of_mem_take hr), hi r (List.mem_of_mem_take hr)⟩)
    have h3 : ((rs.take k).length : Int) ≤ rs.length := by have := List.length_take_le' k rs; omega
    have h4 := Int.mul_le_mul_of_nonneg_right h3 (show 0 ≤ Bd m by omega)
    exact ⟨h1, by omega⟩
  · obtain ⟨h1, h2⟩ := prodR_in (r.take k) (fun x hx => hi r hr x (List.mem_of_mem_take hx))
    have h3 : (r.take k).length ≤ m := by have := List.length_take_le' k r; have := hl r hr; omega
    have h4 := Bd_mono h3
    have h5 : (1 : Int) ≤ rs.length := by have := List.length_pos_of_mem hr; omega
    have h6 := Int.mul_le_mul_of_nonneg_right h5 (show 0 ≤ Bd m by omega)
    exact ⟨h1, by omega⟩
  · have h6 := Int.mul_le_mul_of_nonneg_left hp (show (0 : Int) ≤ rs.length by omega)
    omega

set_option maxRecDepth 100000 in
set_option maxHeartbeats 1000000 in
theorem count_any (A : Option Addr) (ca : Nat) (rs : List (List Rg)) (hf : Few rs) (w : World) (hR : Rws w A rs) :
    Calls Tryd.prog 16 #[.slice A rs.length ca] w fun e w' => e = .returned (.int .i64 (countR rs)) ∧ Below w.heap.size w w' := by
  have HR := Lib.hid hR
  have HF := Lib.hid hf
  have hlen := hf.len
  clear hR hf
  go_enter Tryd.func16, Tryd.ntmps16
  go_wp2
  go_loopg [3, 11] rs.length (fun g s3 s11 wx => ∃ k : Nat, k + g = rs.length ∧ s11 = .int .i64 k ∧ s3 = .int .i64 (countR (rs.take k)) ∧ Below w.heap.size w wx)
  case atStart => exact ⟨0, by omega, rfl, rfl, Below.refl _ _⟩
  case round =>
    obtain ⟨k, hkg, rfl, rfl, hb⟩ := hrel
    cases gk with
    | zero =>
      have hkz : ¬ ((k : Int) < (rs.length : Int)) := by omega
      rw [List.take_of_length_le (by omega)]
      go_wp2
      go_ret
      exact ⟨rfl, hb⟩
    | succ g =>
      have hk : k < rs.length := by omega
      have hkz : (k : Int) < (rs.length : Int) := by omega
      obtain ⟨b, off, rfl, hbb, hrow⟩ := HR.out (by intro h; rw [h] at hk; simp at hk)
      obtain ⟨Q, d, h1, h2⟩ := hrow k hk
      have c0 := (hb.cell (p := ⟨b, off + k, none⟩) hbb).trans h1
      have HQ := Lib.hid h2
      obtain ⟨n0, n1⟩ := HF.out.rows k
      obtain ⟨m0, m1⟩ := HF.out.rows (k + 1)
      have HCT := Lib.hid (countR_take hk)
      rw [HCT.out] at m0 m1
      have HP := Lib.hid (HF.out.row rs[k] (List.getElem_mem hk))
      have hl100 := HF.out.lens rs[k] (List.getElem_mem hk)
      clear hrow h1 h2
      generalize hn : countR (rs.take k) = n at *
      generalize rs[k] = r at *
      have HN := Lib.hid hn
      clear hn
      obtain ⟨w1, rfl⟩ : ∃ w1 : World, w1 = wr := ⟨_, rfl⟩
      go_wp2
      go_loopg [6, 17] r.length (fun g2 s6 s17 wx => ∃ j : Nat, j + g2 = r.length ∧ s17 = .int .i64 j ∧ s6 = .int .i64 (prodR (r.take j)) ∧ Below w.heap.size w wx)
      case atStart => exact ⟨0, by omega, rfl, rfl, hb⟩
      case round =>
        clear hb c0
        obtain ⟨j, hjg, rfl, rfl, hb⟩ := hrel
        cases gk with
        | zero =>
          have hjz : ¬ ((j : Int) < (r.length : Int)) := by omega
          have hp := HP.out r.length
          rw [List.take_of_length_le (Nat.le_refl _)] at hp
          obtain ⟨p0, p1⟩ := hp
          rw [List.take_of_length_le (by omega)]
          generalize prodR r = p at *
          go_wp2
          go_roundg g
          case measure => omega
          case rel => exact ⟨k + 1, by omega, by go_num, by rw [HCT.out], hb⟩
        | succ g2 =>
          have hj : j < r.length := by omega
          have hjz : (j : Int) < (r.length : Int) := by omega
          obtain ⟨b2, off2, rfl, hbb2, hcell⟩ := HQ.out.2 (by intro h; rw [h] at hj; simp at hj)
          obtain ⟨e0, e1⟩ := hcell j hj
          have d0 := (hb.cell (p := ⟨b2, off2 + j * 2, none⟩) hbb2).trans e0
          have d1 := (hb.cell (p := ⟨b2, off2 + j * 2 + 1, none⟩) hbb2).trans e1
          have hx := HQ.out.1 r[j] (List.getElem_mem hj)
          obtain ⟨p0, p1⟩ := HP.out j
          obtain ⟨q0, q1⟩ := HP.out (j + 1)
          have HPT := Lib.hid (prodR_take hj)
          rw [HPT.out] at q0 q1
          obtain ⟨w0, w1'⟩ := wd_in hx
          clear hcell e0 e1
          generalize r[j] = x at *
          have HW := Lib.hid (fun W => width_c x hx W)
          clear hx
          generalize prodR (r.take j) = p at *
          have hz := hb.size
          have hb1 : Below w.heap.size w (wr.alloc (.cells #[.int .u8 x.1, .int .u8 x.2] 64)) := hb.alloc hz _
          go_wp2_with fail
          refine (HW.out _).mono ?_
          rintro e w2 ⟨rfl, b2'⟩
          have hb2 := hb1.trans (b2'.mono hb1.size)
          clear b2' hb1 d0 d1
          generalize wd x = v at *
          go_wp2
          go_roundg g2
          case measure => omega
          case rel => exact ⟨j + 1, by omega, by go_num, by rw [HPT.out], hb2⟩

set_option maxRecDepth 100000 in
set_option maxHeartbeats 1000000 in
theorem takes_c (A B : Option Addr) (ca cb : Nat) (r : List Rg) (b : List Int) (hlr : r.length ≤ 9223372036854775807) (w : World) (hR : Rgs w A r) (hB : U.By w B b) :
    Calls Tryd.prog 40 #[.slice A r.length ca, .slice B b.length cb] w fun e w' => e = .returned (.bool (fits r b)) ∧ Below w.heap.size w w' := by
  by_cases hl : r.length = b.length
  rotate_left
  · have hf := fits_len hl
    have hn : ((r.length : Int) == (b.length : Int)) = false := by rw [beq_eq_false_iff_ne]; omega
    have HF := Lib.hid hf
    clear hl hf hR hB
    go_enter Tryd.func40, Tryd.ntmps40
    go_wp2
    go_ret
    exact ⟨by rw [HF.out]; rfl, Below.refl _ _⟩
  have HR := Lib.hid hR
  have HB := Lib.hid hB
  have HL := Lib.hid hl
  have hn : ((r.length : Int) == (b.length : Int)) = true := by rw [beq_iff_eq]; omega
  have hne : ((r.length : Int) != (b.length : Int)) = false := by rw [bne, hn]; rfl
  clear hR hB hl
  go_enter Tryd.func40, Tryd.ntmps40
  go_wp2
  go_loopg [14] r.length (fun g s14 wx => ∃ k : Nat, k + g = r.length ∧ s14 = .int .i64 k ∧ Hid (∀ j (h : j < r.length) (h' : j < b.length), j < k → r[j].1 ≤ b[j] ∧ b[j] ≤ r[j].2) ∧ Below w.heap.size w wx)
  case atStart => exact ⟨0, by omega, rfl, Lib.hid (fun _ _ _ h => by omega), Below.refl _ _⟩
  case round =>
    obtain ⟨k, hkg, rfl, HI, hb⟩ := hrel
    clear hn hne
    cases gk with
    | zero =>
      have hkz : ¬ ((k : Int) < (r.length : Int)) := by omega
      have HF := Lib.hid (fits_in HL.out (fun j h h' => HI.out j h h' (by omega)))
      go_wp2
      go_ret
      exact ⟨by rw [HF.out]; rfl, hb⟩
    | succ g =>
      have hk : k < r.length := by omega
      have hkz : (k : Int) < (r.length : Int) := by omega
      have hkb : k < b.length := by have := HL.out; omega
      have hkbz : (k : Int) < (b.length : Int) := by omega
      obtain ⟨b1, off1, rfl, hbb1, hc1⟩ := HR.out.2 (by intro h; rw [h] at hk; simp at hk)
      obtain ⟨b2, off2, rfl, hbb2, hc2⟩ := HB.out.2 (by intro h; rw [h] at hkb; simp at hkb)
      obtain ⟨e0, e1⟩ := hc1 k hk
      have e2 := hc2 k hkb
      have d0 := (hb.cell (p := ⟨b1, off1 + k * 2, none⟩) hbb1).trans e0
      have d1 := (hb.cell (p := ⟨b1, off1 + k * 2 + 1, none⟩) hbb1).trans e1
      have hbn := hb.alloc hb.size (.cells #[.int .u8 r[k].1, .int .u8 r[k].2] 64)
      have d2 := (hbn.cell (p := ⟨b2, off2 + k, none⟩) hbb2).trans e2
      have HOUT := Lib.hid (fun ho => fits_out (r := r) (b := b) hk hkb ho)
      have HIN : Hid (r[k].1 ≤ b[k] ∧ b[k] ≤ r[k].2 → ∀ j (h : j < r.length) (h' : j < b.length), j < k + 1 → r[j].1 ≤ b[j] ∧ b[j] ≤ r[j].2) := Lib.hid (fun hx j h h' hj => by
        by_cases hjk : j = k
        · subst hjk; exact hx
        · exact HI.out j h h' (by omega))
      clear hc1 hc2 e0 e1 e2
      generalize hrk : r[k] = x at *
      generalize hbk : b[k] = c at *
      clear hrk hbk
      go_wp2
      have bx := BoxR.new wr x
      generalize wr.alloc (.cells #[.int .u8 x.1, .int .u8 x.2] 64) = w1 at *
      have f0 := bx.c0
      have f1 := bx.c1
      clear d0 d1 bx
      by_cases hlo : c < x.1
      · have HF := Lib.hid (HOUT.out (by omega))
        go_quiet (fail)
        go_wp2
        go_ret
        exact ⟨by rw [HF.out]; rfl, ⟨hbn.os, hbn.tape, hbn.output, hbn.size, hbn.block⟩⟩
      · have hlod : decide (c < x.1) = false := decide_eq_false hlo
        by_cases hhi : x.2 < c
        · have HF := Lib.hid (HOUT.out (by omega))
          go_quiet (fail)
          go_wp2
          go_ret
          exact ⟨by rw [HF.out]; rfl, ⟨hbn.os, hbn.tape, hbn.output, hbn.size, hbn.block⟩⟩
        · have HF := Lib.hid (HIN.out ⟨by omega, by omega⟩)
          go_quiet (fail)
          go_wp2
          go_roundg g
          case measure => omega
          case rel => exact ⟨k + 1, by omega, by go_num, HF, ⟨hbn.os, hbn.tape, hbn.output, hbn.size, hbn.block⟩⟩

def MatchPost (w : World) (rs : List (List Rg)) (b : List Int) (e : Ending) (w' : World) : Prop := e = .returned (.bool (anyFits rs b)) ∧ Below w.heap.size w w'
/-- The closure: does a row take what was captured? -/
theorem match1_c (A B : Option Addr) (ca cb : Nat) (r : List Rg) (b : List Int) (hlr : r.length ≤ 9223372036854775807) (Bx : Nat) (w : World) (hx : w.cell? ⟨Bx, 0, none⟩ = some (.slice B b.length cb)) (hR : Rgs w A r) (hB : U.By w B b) :
    Calls Tryd.prog 39 #[.slice A r.length ca, .pointer (some ⟨Bx, 0, none⟩)] w fun e w' => e = .returned (.bool (fits r b)) ∧ Below w.heap.size w w' := by
  have HT := Lib.hid (takes_c A B ca cb r b hlr w hR hB)
  clear hR hB
  go_enter Tryd.func39, Tryd.ntmps39
  go_wp2_with fail
  refine HT.out.mono ?_
  rintro e w1 ⟨rfl, b1⟩
  go_wp2
  go_ret
  exact ⟨rfl, b1⟩

set_option maxRecDepth 100000 in
set_option maxHeartbeats 1000000 in
theorem index_c (A B : Option Addr) (ca cb : Nat) (rs : List (List Rg)) (b : List Int) (hl : rs.length ≤ 9223372036854775807) (hlr : ∀ r ∈ rs, r.length ≤ 9223372036854775807) (Bx : Nat) (w : World) (hxl : Bx < w.heap.size) (hx : w.cell? ⟨Bx, 0, none⟩ = some (.slice B b.length cb)) (hR : Rws w A rs) (hB : U.By w B b) :
    Calls Tryd.prog 61 #[.slice A rs.length ca, .func (.func 39) #[] #[.pointer (some ⟨Bx, 0, none⟩)]] w fun e w' => (∃ n : Int, e = .returned (.int .i64 n) ∧ -1 ≤ n ∧ (0 ≤ n ↔ anyFits rs b = true)) ∧ Below w.heap.size w w' := by
  have HR := Lib.hid hR
  have HB := Lib.hid hB
  have HX := Lib.hid hx
  have HLR := Lib.hid hlr
  have hent := enters_of Tryd.func39 (by kernel_rfl) rfl
  clear hR hB hx hlr
  go_enter Tryd.func61, Tryd.ntmps61
  go_wp2
  go_loopg [8] rs.length (fun g s8 wx => ∃ k : Nat, k + g = rs.length ∧ s8 = .int .i64 k ∧ Hid (anyFits (rs.take k) b = false) ∧ Below w.heap.size w wx)
  case atStart => exact ⟨0, by omega, rfl, Lib.hid rfl, Below.refl _ _⟩
  case round =>
    obtain ⟨k, hkg, rfl, HI, hb⟩ := hrel
    cases gk with
    | zero =>
      have hkz : ¬ ((k : Int) < (rs.length : Int)) := by omega
      have hf := HI.out
      rw [List.take_of_length_le (by omega)] at hf
      have HF := Lib.hid hf
      clear hf
      go_wp2
      go_ret
      exact ⟨⟨-1, rfl, by omega, by rw [HF.out]; simp⟩, hb⟩
    | succ g =>
      have hk : k < rs.length := by omega
      have hkz : (k : Int) < (rs.length : Int) := by omega
      obtain ⟨b1, off, rfl, hbb, hrow⟩ := HR.out (by intro h; rw [h] at hk; simp at hk)
      obtain ⟨Q, d, h1, h2⟩ := hrow k hk
      have c0 := (hb.cell (p := ⟨b1, off + k, none⟩) hbb).trans h1
      have HC := Lib.hid (match1_c Q B d cb rs[k] b (HLR.out _ (List.getElem_mem hk)) Bx wr ((hb.cell (p := ⟨Bx, 0, none⟩) hxl).trans HX.out) (h2.step hb) (HB.out.step hb))
      have HT := Lib.hid (anyFits_take (b := b) hk)
      have HY := Lib.hid (fun h => anyFits_at (b := b) hk h)
      clear hrow h1 h2
      generalize rs[k] = r at *
      go_wp2_with fail
      refine HC.out.mono ?_
      rintro e w1 ⟨rfl, b1'⟩
      have hb1 := hb.trans (b1'.mono hb.size)
      clear b1' c0 hb HC
      cases hfit : fits r b
      · have HN : Hid (anyFits (rs.take (k + 1)) b = false) := Lib.hid (by rw [HT.out, HI.out, hfit]; rfl)
        clear hfit
        go_wp2
        go_roundg g
        case measure => omega
        case rel => exact ⟨k + 1, by omega, by go_num, HN, hb1⟩
      · have HN := Lib.hid (HY.out hfit)
        clear hfit
        go_wp2
        go_ret
        exact ⟨⟨k, rfl, by omega, by rw [HN.out]; simp⟩, hb1⟩

set_option maxHeartbeats 1000000 in
theorem contains_c (A B : Option Addr) (ca cb : Nat) (rs : List (List Rg)) (b : List Int) (hl : rs.length ≤ 9223372036854775807) (hlr : ∀ r ∈ rs, r.length ≤ 9223372036854775807) (Bx : Nat) (w : World) (hxl : Bx < w.heap.size) (hx : w.cell? ⟨Bx, 0, none⟩ = some (.slice B b.length cb)) (hR : Rws w A rs) (hB : U.By w B b) :
    Calls Tryd.prog 38 #[.slice A rs.length ca, .func (.func 39) #[] #[.pointer (some ⟨Bx, 0, none⟩)]] w (MatchPost w rs b) := by
  have HC := Lib.hid (index_c A B ca cb rs b hl hlr Bx w hxl hx hR hB)
  clear hR hB hl hlr hx
  go_enter Tryd.func38, Tryd.ntmps38
  go_wp2_with fail
  refine HC.out.mono ?_
  rintro e w1 ⟨⟨n, rfl, hn1, hn⟩, hb⟩
  have HN := Lib.hid hn
  clear hn
  by_cases h0 : 0 ≤ n
  · have HF := Lib.hid (HN.out.1 h0)
    have hd : decide (0 ≤ n) = true := decide_eq_true h0
    go_wp2
    go_ret
    exact ⟨by rw [HF.out]; rfl, hb⟩
  · have hf : anyFits rs b = false := by rw [Bool.eq_false_iff]; exact fun h => h0 (HN.out.2 h)
    have HF := Lib.hid hf
    have hd : decide (0 ≤ n) = false := decide_eq_false h0
    clear hf
    go_wp2
    go_ret
    exact ⟨by rw [HF.out]; rfl, hb⟩

set_option maxHeartbeats 1000000 in
theorem match_any (A B : Option Addr) (ca cb : Nat) (rs : List (List Rg)) (b : List Int) (hl : rs.length ≤ 9223372036854775807) (hlr : ∀ r ∈ rs, r.length ≤ 9223372036854775807) (w : World) (hR : Rws w A rs) (hB : U.By w B b) :
    Calls Tryd.prog 17 #[.slice A rs.length ca, .slice B b.length cb] w (MatchPost w rs b) := by
  have hb0 : Below w.heap.size w (w.alloc (.cells #[.slice B b.length cb] 30)) := (Below.refl _ w).alloc (Nat.le_refl _) _
  have HC := Lib.hid (contains_c A B ca cb rs b hl hlr w.heap.size (w.alloc (.cells #[.slice B b.length cb] 30)) (by simp only [World.size_alloc]; omega) (Boxed.new w 30 (.slice B b.length cb)).cell (hR.step hb0) (hB.step hb0))
  have HM := Lib.hid (fun w1 (h : Below (w.alloc (.cells #[.slice B b.length cb] 30)).heap.size (w.alloc (.cells #[.slice B b.length cb] 30)) w1) => hb0.trans (h.mono hb0.size))
  clear hR hB hl hlr hb0
  go_enter Tryd.func17, Tryd.ntmps17
  go_wp2_with fail
  refine HC.out.mono ?_
  rintro e w1 ⟨rfl, b1⟩
  have hb := HM.out w1 b1
  go_wp2
  go_ret
  exact ⟨rfl, hb⟩
end Go.Proofs.YtgaalkcociifmaaDoor
