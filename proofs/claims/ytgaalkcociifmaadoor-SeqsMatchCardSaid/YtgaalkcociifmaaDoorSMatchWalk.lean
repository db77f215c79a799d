/- SeqsMatch: the walk. -/
import Derived.Test.YtgaalkcociifmaaDoorSKnown
import Derived.Test.YtgaalkcociifmaaDoorSRefMatch
namespace Go.Proofs.YtgaalkcociifmaaDoor
open Go.RowKit Go.Shelf SeqM

set_option maxRecDepth 100000 in
set_option maxHeartbeats 4000000 in
theorem seqsMatch_any (A B : Option Addr) (ca cb : Nat) (rs : List (List Rg)) (b : List Int) (w : World) (hR : Rws w A rs) (hB : U.By w B b) (hrl : rs.length ≤ 9223372036854775807) (hll : ∀ r ∈ rs, r.length ≤ 9223372036854775807) (hbl : b.length ≤ 9223372036854775807) (hC : Ctl w w) :
    Calls Tryd.prog 6 #[.slice A rs.length ca, .slice B b.length cb] w fun e w' => e = .returned (.bool true) ∧ Below w.heap.size w w' := by
  by_cases h50 : 50 < rs.length
  · have hz : (50 : Int) < (rs.length : Int) := by omega
    go_enter Tryd.func6, Tryd.ntmps6
    go_wp2_with fail
    refine (known3_c hC).mono ?_
    rintro e W2 ⟨rfl, b2⟩
    go_wp2
    go_ret
    exact ⟨rfl, (hC.step b2).below⟩
  have hz : ¬ ((50 : Int) < (rs.length : Int)) := by omega
  by_cases h20 : 20 < b.length
  · have hy : (20 : Int) < (b.length : Int) := by omega
    go_enter Tryd.func6, Tryd.ntmps6
    go_wp2_with fail
    refine (known3_c hC).mono ?_
    rintro e W2 ⟨rfl, b2⟩
    go_wp2
    go_ret
    exact ⟨rfl, (hC.step b2).below⟩
  have hy : ¬ ((20 : Int) < (b.length : Int)) := by omega
  have HR := Lib.hid hR
  have HB := Lib.hid hB
  have HLL := Lib.hid hll
  clear hR hB hll
  go_enter Tryd.func6, Tryd.ntmps6
  go_wp2_with fail
  refine (known3_c hC).mono ?_
  rintro e W2 ⟨rfl, b2⟩
  have hC2 := hC.step b2
  have HR2 := Lib.hid (HR.out.step b2)
  have HB2 := Lib.hid (HB.out.step b2)
  clear b2 HR HB hC
  go_wp2
  go_loopg [5] rs.length (fun g s5 wx => ∃ k : Nat, k + g = rs.length ∧ s5 = .int .i64 k ∧ Hid (∀ r ∈ rs.take k, r.length ≤ 7) ∧ W2 = wx)
  case atStart => exact ⟨0, by omega, rfl, Lib.hid (fun r hr => by simp at hr), rfl⟩
  case round =>
    obtain ⟨k, hkg, rfl, HI, rfl⟩ := hrel
    cases gk with
    | succ g =>
      have hk : k < rs.length := by omega
      have hkz : (k : Int) < (rs.length : Int) := by omega
      obtain ⟨b1, off, rfl, hbb, hrow⟩ := HR2.out (by intro h; rw [h] at hk; simp at hk)
      obtain ⟨Q, d, c0, _⟩ := hrow k hk
      have hlm := HLL.out rs[k] (List.getElem_mem hk)
      by_cases h7 : 7 < rs[k].length
      · have h7z : (7 : Int) < (rs[k].length : Int) := by omega
        clear hrow
        generalize rs[k] = r at *
        go_wp2
        go_ret
        exact ⟨rfl, hC2.below⟩
      · have h7z : ¬ ((7 : Int) < (rs[k].length : Int)) := by omega
        have HN : Hid (∀ r ∈ rs.take (k + 1), r.length ≤ 7) := Lib.hid (fun r hr => by
          rw [List.take_succ_eq_append_getElem hk, List.mem_append, List.mem_singleton] at hr
          rcases hr with hr | rfl
          · exact HI.out r hr
          · omega)
        clear hrow
        generalize rs[k] = r at *
        go_wp2
        go_roundg g
        case measure => omega
        case rel => exact ⟨k + 1, by omega, by go_num, HN, rfl⟩
    | zero =>
      have hkz : ¬ ((k : Int) < (rs.length : Int)) := by omega
      have h7 : ∀ r ∈ rs, r.length ≤ 7 := by have := HI.out; rwa [List.take_of_length_le (by omega)] at this
      have hfew := few_of 7 (by omega) h7 HR2.out.isRg (by
        have e : Bd 7 = 72057594037927936 := by decide
        rw [e]; omega)
      have HF := Lib.hid hfew
      clear h7 hfew
      go_wp2_with fail
      refine (match_any A B ca cb rs b hrl HLL.out W2 HR2.out HB2.out).mono ?_
      rintro e W3 ⟨rfl, b3⟩
      have hC3 := hC2.step b3
      have HR3 := Lib.hid (HR2.out.step b3)
      have HB3 := Lib.hid (HB2.out.step b3)
      clear b3 HR2 HB2
      go_wp2_with fail
      refine (rmatch_c A B ca cb rs b hrl HLL.out W3 HR3.out HB3.out).mono ?_
      rintro e W4 ⟨rfl, b4⟩
      have hC4 := hC3.step b4
      have HR4 := Lib.hid (HR3.out.step b4)
      clear b4 HR3 HB3
      cases anyFits rs b
      all_goals
        go_wp2_with fail
        refine (count_any A ca rs HF.out W4 HR4.out).mono ?_
        rintro e W5 ⟨rfl, b5⟩
        have hC5 := hC4.step b5
        have HR5 := Lib.hid (HR4.out.step b5)
        clear b5
        go_wp2_with fail
        refine (rcount_c A ca rs HF.out W5 HR5.out).mono ?_
        rintro e W6 ⟨rfl, b6⟩
        have hC6 := hC5.step b6
        have te : (countR rs == countR rs) = true := by rw [beq_self_eq_true]
        clear b6
        generalize countR rs = n at *
        go_wp2
        go_ret
        exact ⟨rfl, hC6.below⟩
end Go.Proofs.YtgaalkcociifmaaDoor
