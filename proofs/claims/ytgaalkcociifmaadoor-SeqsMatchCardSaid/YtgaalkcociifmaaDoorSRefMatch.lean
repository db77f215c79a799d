/- The document's own Match and Count. -/
import Derived.Test.YtgaalkcociifmaaDoorSCount
import Derived.IntWalk
namespace Go.Proofs.YtgaalkcociifmaaDoor
open Go.RowKit Go.Shelf SeqM

set_option maxRecDepth 100000 in
set_option maxHeartbeats 1000000 in
theorem rone_c (A B : Option Addr) (ca cb : Nat) (r : List Rg) (b : List Int) (hlr : r.length ≤ 9223372036854775807) (w : World) (hR : Rgs w A r) (hB : U.By w B b) :
    Calls Tryd.prog 43 #[.slice A r.length ca, .slice B b.length cb] w fun e w' => e = .returned (.bool (fits r b)) ∧ Below w.heap.size w w' := by
  by_cases hl : r.length = b.length
  rotate_left
  · have hf := fits_len hl
    have hn : ((r.length : Int) == (b.length : Int)) = false := by rw [beq_eq_false_iff_ne]; omega
    have HF := Lib.hid hf
    clear hl hf hR hB
    go_enter Tryd.func43, Tryd.ntmps43
    go_wp2
    go_ret
    exact ⟨by rw [HF.out]; rfl, Below.refl _ _⟩
  have HR := Lib.hid hR
  have HB := Lib.hid hB
  have HL := Lib.hid hl
  have hn : ((r.length : Int) == (b.length : Int)) = true := by rw [beq_iff_eq]; omega
  have hne : ((r.length : Int) != (b.length : Int)) = false := by rw [bne, hn]; rfl
  clear hR hB hl
  go_enter Tryd.func43, Tryd.ntmps43
  go_wp2
  go_loopg [5] r.length (fun g s5 wx => ∃ k : Nat, k + g = r.length ∧ s5 = .int .i64 k ∧ Hid (∀ j (h : j < r.length) (h' : j < b.length), j < k → r[j].1 ≤ b[j] ∧ b[j] ≤ r[j].2) ∧ Below w.heap.size w wx)
  case atStart => exact ⟨0, by omega, rfl, Lib.hid (fun _ _ _ h => by omega), Below.refl _ _⟩
  case round =>
    obtain ⟨k, hkg, rfl, HI, hb⟩ := hrel
    clear hn hne
    cases gk with
    | zero =>
      have hkz : ¬ ((k : Int) < (r.length : Int)) := by omega
      have HF := Lib.hid (fits_in HL.out (fun j h h' => HI.out j h h' (by omega)))
      go_wp2
      go_ret
      exact ⟨by rw [HF.out]; rfl, hb⟩
    | succ g =>
      have hk : k < r.length := by omega
      have hkz : (k : Int) < (r.length : Int) := by omega
      have hkb : k < b.length := by have := HL.out; omega
      have hkbz : (k : Int) < (b.length : Int) := by omega
      obtain ⟨b1, off1, rfl, hbb1, hc1⟩ := HR.out.2 (by intro h; rw [h] at hk; simp at hk)
      obtain ⟨b2, off2, rfl, hbb2, hc2⟩ := HB.out.2 (by intro h; rw [h] at hkb; simp at hkb)
      obtain ⟨e0, e1⟩ := hc1 k hk
      have e2 := hc2 k hkb
      have d0 := (hb.cell (p := ⟨b1, off1 + k * 2, none⟩) hbb1).trans e0
      have d1 := (hb.cell (p := ⟨b1, off1 + k * 2 + 1, none⟩) hbb1).trans e1
      have d2 := (hb.cell (p := ⟨b2, off2 + k, none⟩) hbb2).trans e2
      have HOUT := Lib.hid (fun ho => fits_out (r := r) (b := b) hk hkb ho)
      have HIN : Hid (r[k].1 ≤ b[k] ∧ b[k] ≤ r[k].2 → ∀ j (h : j < r.length) (h' : j < b.length), j < k + 1 → r[j].1 ≤ b[j] ∧ b[j] ≤ r[j].2) := Lib.hid (fun hx j h h' hj => by
        by_cases hjk : j = k
        · subst hjk; exact hx
        · exact HI.out j h h' (by omega))
      clear hc1 hc2 e0 e1 e2
      generalize hrk : r[k] = x at *
      generalize hbk : b[k] = c at *
      clear hrk hbk
      go_wp2
      by_cases hlo : c < x.1
      · have HF := Lib.hid (HOUT.out (by omega))
        go_quiet (fail)
        go_wp2
        go_ret
        exact ⟨by rw [HF.out]; rfl, ⟨hb.os, hb.tape, hb.output, hb.size, hb.block⟩⟩
      · have hlod : decide (c < x.1) = false := decide_eq_false hlo
        by_cases hhi : x.2 < c
        · have HF := Lib.hid (HOUT.out (by omega))
          go_quiet (fail)
          go_wp2
          go_ret
          exact ⟨by rw [HF.out]; rfl, ⟨hb.os, hb.tape, hb.output, hb.size, hb.block⟩⟩
        · have HF := Lib.hid (HIN.out ⟨by omega, by omega⟩)
          go_quiet (fail)
          go_wp2
          go_roundg g
          case measure => omega
          case rel => exact ⟨k + 1, by omega, by go_num, HF, ⟨hb.os, hb.tape, hb.output, hb.size, hb.block⟩⟩

set_option maxRecDepth 100000 in
set_option maxHeartbeats 1000000 in
theorem rmatch_c (A B : Option Addr) (ca cb : Nat) (rs : List (List Rg)) (b : List Int) (hl : rs.length ≤ 9223372036854775807) (hlr : ∀ r ∈ rs, r.length ≤ 9223372036854775807) (w : World) (hR : Rws w A rs) (hB : U.By w B b) :
    Calls Tryd.prog 23 #[.slice A rs.length ca, .slice B b.length cb] w (MatchPost w rs b) := by
  have HR := Lib.hid hR
  have HB := Lib.hid hB
  have HLR := Lib.hid hlr
  clear hR hB hlr
  go_enter Tryd.func23, Tryd.ntmps23
  go_wp2
  go_loopg [5] rs.length (fun g s5 wx => ∃ k : Nat, k + g = rs.length ∧ s5 = .int .i64 k ∧ Hid (anyFits (rs.take k) b = false) ∧ Below w.heap.size w wx)
  case atStart => exact ⟨0, by omega, rfl, Lib.hid rfl, Below.refl _ _⟩
  case round =>
    obtain ⟨k, hkg, rfl, HI, hb⟩ := hrel
    cases gk with
    | zero =>
      have hkz : ¬ ((k : Int) < (rs.length : Int)) := by omega
      have hf := HI.out
      rw [List.take_of_length_le (by omega)] at hf
      have HF := Lib.hid hf
      clear hf
      go_wp2
      go_ret
      exact ⟨by rw [HF.out]; rfl, hb⟩
    | succ g =>
      have hk : k < rs.length := by omega
      have hkz : (k : Int) < (rs.length : Int) := by omega
      obtain ⟨b1, off, rfl, hbb, hrow⟩ := HR.out (by intro h; rw [h] at hk; simp at hk)
      obtain ⟨Q, d, h1, h2⟩ := hrow k hk
      have c0 := (hb.cell (p := ⟨b1, off + k, none⟩) hbb).trans h1
      have HC := Lib.hid (rone_c Q B d cb rs[k] b (HLR.out _ (List.getElem_mem hk)) wr (h2.step hb) (HB.out.step hb))
      have HT := Lib.hid (anyFits_take (b := b) hk)
      have HY := Lib.hid (fun h => anyFits_at (b := b) hk h)
      clear hrow h1 h2
      generalize rs[k] = r at *
      go_wp2_with fail
      refine HC.out.mono ?_
      rintro e w1 ⟨rfl, b1'⟩
      have hb1 := hb.trans (b1'.mono hb.size)
      clear b1' c0 hb HC
      cases hfit : fits r b
      · have HN : Hid (anyFits (rs.take (k + 1)) b = false) := Lib.hid (by rw [HT.out, HI.out, hfit]; rfl)
        clear hfit
        go_wp2
        go_roundg g
        case measure => omega
        case rel => exact ⟨k + 1, by omega, by go_num, HN, hb1⟩
      · have HN := Lib.hid (HY.out hfit)
        clear hfit
        go_wp2
        go_ret
        exact ⟨by rw [HN.out]; rfl, hb1⟩

set_option maxRecDepth 100000 in
set_option maxHeartbeats 2000000 in
theorem rcount_c (A : Option Addr) (ca : Nat) (rs : List (List Rg)) (hf : Few rs) (w : World) (hR : Rws w A rs) :
    Calls Tryd.prog 24 #[.slice A rs.length ca] w fun e w' => e = .returned (.int .i64 (countR rs)) ∧ Below w.heap.size w w' := by
  have HR := Lib.hid hR
  have HF := Lib.hid hf
  have hlen := hf.len
  clear hR hf
  go_enter Tryd.func24, Tryd.ntmps24
  go_wp2
  go_loopg [3, 4] rs.length (fun g s3 s4 wx => ∃ k : Nat, k + g = rs.length ∧ s4 = .int .i64 k ∧ s3 = .int .i64 (countR (rs.take k)) ∧ Below w.heap.size w wx)
  case atStart => exact ⟨0, by omega, rfl, rfl, Below.refl _ _⟩
  case round =>
    obtain ⟨k, hkg, rfl, rfl, hb⟩ := hrel
    cases gk with
    | zero =>
      have hkz : ¬ ((k : Int) < (rs.length : Int)) := by omega
      rw [List.take_of_length_le (by omega)]
      go_wp2
      go_ret
      exact ⟨rfl, hb⟩
    | succ g =>
      have hk : k < rs.length := by omega
      have hkz : (k : Int) < (rs.length : Int) := by omega
      obtain ⟨b, off, rfl, hbb, hrow⟩ := HR.out (by intro h; rw [h] at hk; simp at hk)
      obtain ⟨Q, d, h1, h2⟩ := hrow k hk
      have HC0 := Lib.hid h1
      have HQ := Lib.hid h2
      obtain ⟨n0, n1⟩ := HF.out.rows k
      obtain ⟨m0, m1⟩ := HF.out.rows (k + 1)
      have HCT := Lib.hid (countR_take hk)
      rw [HCT.out] at m0 m1
      have HP := Lib.hid (HF.out.row rs[k] (List.getElem_mem hk))
      have hl100 := HF.out.lens rs[k] (List.getElem_mem hk)
      clear hrow h1 h2
      generalize hn : countR (rs.take k) = n at *
      generalize rs[k] = r at *
      have HN := Lib.hid hn
      clear hn
      obtain ⟨w1, rfl⟩ : ∃ w1 : World, w1 = wr := ⟨_, rfl⟩
      go_wp2
      go_loopg [5, 6] r.length (fun g2 s5 s6 wx => ∃ j : Nat, j + g2 = r.length ∧ s6 = .int .i64 j ∧ s5 = .int .i64 (prodR (r.take j)) ∧ Below w.heap.size w wx)
      case atStart => exact ⟨0, by omega, rfl, rfl, hb⟩
      case round =>
        clear hb
        obtain ⟨j, hjg, rfl, rfl, hb⟩ := hrel
        have c0 := (hb.cell (p := ⟨b, off + k, none⟩) hbb).trans HC0.out
        cases gk with
        | zero =>
          have hjz : ¬ ((j : Int) < (r.length : Int)) := by omega
          have hp := HP.out r.length
          rw [List.take_of_length_le (Nat.le_refl _)] at hp
          obtain ⟨p0, p1⟩ := hp
          rw [List.take_of_length_le (by omega)]
          generalize prodR r = p at *
          go_wp2
          go_roundg g
          case measure => omega
          case rel => exact ⟨k + 1, by omega, by go_num, by rw [HCT.out], hb⟩
        | succ g2 =>
          have hj : j < r.length := by omega
          have hjz : (j : Int) < (r.length : Int) := by omega
          obtain ⟨b2, off2, rfl, hbb2, hcell⟩ := HQ.out.2 (by intro h; rw [h] at hj; simp at hj)
          obtain ⟨e0, e1⟩ := hcell j hj
          have d0 := (hb.cell (p := ⟨b2, off2 + j * 2, none⟩) hbb2).trans e0
          have d1 := (hb.cell (p := ⟨b2, off2 + j * 2 + 1, none⟩) hbb2).trans e1
          have hx := HQ.out.1 r[j] (List.getElem_mem hj)
          obtain ⟨p0, p1⟩ := HP.out j
          obtain ⟨q0, q1⟩ := HP.out (j + 1)
          have HPT := Lib.hid (prodR_take hj)
          rw [HPT.out] at q0 q1
          obtain ⟨x0, x1, x2, x3⟩ := hx
          have HWD : Hid (wd r[j] = if r[j].2 - r[j].1 + 1 < 0 then 0 else r[j].2 - r[j].1 + 1) := Lib.hid (by unfold wd; split <;> omega)
          clear hcell e0 e1
          generalize r[j] = x at *
          obtain ⟨lo, hi⟩ := x
          dsimp only at *
          generalize prodR (r.take j) = p at *
          have i1 : IntKind.i64.wrap (hi - lo) = hi - lo := IntWalk.i64_in _ (by omega)
          have i2 : IntKind.i64.wrap (hi - lo + 1) = hi - lo + 1 := IntWalk.i64_in _ (by omega)
          go_wp2
          go_quiet (fail)
          rw [← HWD.out, IntWalk.wrap64_in (p * wd (lo, hi)) ⟨by omega, by omega⟩]
          have hbq : Below w.heap.size w (wr.drewN nq) := ⟨hb.os, hb.tape, hb.output, hb.size, hb.block⟩
          clear i1 i2 HWD d0 d1 c0 hb
          generalize wd (lo, hi) = v at *
          generalize wr.drewN nq = w2 at *
          go_wp2
          go_roundg g2
          case measure => omega
          case rel => exact ⟨j + 1, by omega, by go_num, by rw [HPT.out], hbq⟩
end Go.Proofs.YtgaalkcociifmaaDoor
