/- The document's own Same, at what is the same. -/
import Derived.Test.YtgaalkcociifmaaDoorSRange
import Derived.Test.YtgaalkcociifmaaDoorEqual
namespace Go.Proofs.YtgaalkcociifmaaDoor
open Go.RowKit Go.Shelf SeqM

theorem gdRg : Tryd.prog.eqGuardType Tryd.prog.depth 64 = false := by kernel_rfl
theorem eqRg (a b : Int) (w : World) : (Op.equalIn 10000 64 (.agg #[.int .u8 a, .int .u8 b]) (.agg #[.int .u8 a, .int .u8 b])).run Tryd.prog w = .ok true w := by
  have u3 := Tryd.underlying5
  have a3 := Tryd.isAgg5
  have z3 := Tryd.sizeOf5
  have hS : Tryd.prog.underlying 64 = some (.struct (Tryd.prog.fieldsOf 64)) := by kernel_rfl
  have hp : Tryd.prog.stoodInHeld 64 = false := by kernel_rfl
  rw [show (10000 : Nat) = 9999 + 1 from rfl, run_equalIn_agg w 9999 64 _ _ hS hp]
  simp only [Program.fieldsOf, Tryd.underlying64]
  go_simp

set_option maxRecDepth 100000 in
set_option maxHeartbeats 2000000 in
theorem rsame_c (A B : Option Addr) (ca cb : Nat) (rs : List (List Rg)) (hl : rs.length ≤ 10000000000) (hlr : ∀ r ∈ rs, r.length ≤ 4) (w : World) (hA : Rws w A rs) (hB : Rws w B rs) :
    Calls Tryd.prog 21 #[.slice A rs.length ca, .slice B rs.length cb] w fun e w' => e = .returned (.bool true) ∧ Below w.heap.size w w' := by
  have HA := Lib.hid hA
  have HB := Lib.hid hB
  have HLR := Lib.hid hlr
  clear hA hB hlr
  go_enter Tryd.func21, Tryd.ntmps21
  go_wp2
  go_loopg [5] rs.length (fun g s5 wx => ∃ k : Nat, k + g = rs.length ∧ s5 = .int .i64 k ∧ Below w.heap.size w wx)
  case atStart => exact ⟨0, by omega, rfl, Below.refl _ _⟩
  case round =>
    obtain ⟨k, hkg, rfl, hb⟩ := hrel
    cases gk with
    | zero =>
      have hkz : ¬ ((k : Int) < (rs.length : Int)) := by omega
      go_wp2
      go_ret
      exact ⟨rfl, hb⟩
    | succ g =>
      have hk : k < rs.length := by omega
      have hkz : (k : Int) < (rs.length : Int) := by omega
      obtain ⟨b1, o1, rfl, hb1, hr1⟩ := HA.out (by intro h; rw [h] at hk; simp at hk)
      obtain ⟨b2, o2, rfl, hb2, hr2⟩ := HB.out (by intro h; rw [h] at hk; simp at hk)
      obtain ⟨Q1, d1, h1, R1⟩ := hr1 k hk
      obtain ⟨Q2, d2, h2, R2⟩ := hr2 k hk
      have hr4 := HLR.out _ (List.getElem_mem hk)
      have HR1 := Lib.hid R1
      have HR2 := Lib.hid R2
      have HH := Lib.hid (And.intro h1 h2)
      have c1 := (hb.cell (p := ⟨b1, o1 + k, none⟩) hb1).trans h1
      have c2 := (hb.cell (p := ⟨b2, o2 + k, none⟩) hb2).trans h2
      clear hr1 hr2 h1 h2 R1 R2
      generalize rs[k] = r at *
      go_wp2
      go_quiet (fail)
      have hb6 : Below w.heap.size w (wr.drewN nq) := ⟨hb.os, hb.tape, hb.output, hb.size, hb.block⟩
      clear c1 c2 hb
      generalize wr.drewN nq = w6 at *
      go_wp2
      go_loopg [6] r.length (fun g2 s6 wx => ∃ j : Nat, j + g2 = r.length ∧ s6 = .int .i64 j ∧ Below w.heap.size w wx)
      case atStart => exact ⟨0, by omega, rfl, hb6⟩
      case round =>
        obtain ⟨j, hjg, rfl, hb⟩ := hrel
        have c1 := (hb.cell (p := ⟨b1, o1 + k, none⟩) hb1).trans HH.out.1
        have c2 := (hb.cell (p := ⟨b2, o2 + k, none⟩) hb2).trans HH.out.2
        cases gk with
        | zero =>
          have hjz : ¬ ((j : Int) < (r.length : Int)) := by omega
          go_wp2
          go_roundg g
          case measure => omega
          case rel => exact ⟨k + 1, by omega, by go_num, hb⟩
        | succ g2 =>
          have hj : j < r.length := by omega
          have hjz : (j : Int) < (r.length : Int) := by omega
          obtain ⟨e1, p1, rfl, hl1, hc1⟩ := HR1.out.2 (by intro h; rw [h] at hj; simp at hj)
          obtain ⟨e2, p2, rfl, hl2, hc2⟩ := HR2.out.2 (by intro h; rw [h] at hj; simp at hj)
          obtain ⟨m0, m1⟩ := hc1 j hj
          obtain ⟨n0, n1⟩ := hc2 j hj
          have m0' := (hb.cell (p := ⟨e1, p1 + j * 2, none⟩) hl1).trans m0
          have m1' := (hb.cell (p := ⟨e1, p1 + j * 2 + 1, none⟩) hl1).trans m1
          have n0' := (hb.cell (p := ⟨e2, p2 + j * 2, none⟩) hl2).trans n0
          have n1' := (hb.cell (p := ⟨e2, p2 + j * 2 + 1, none⟩) hl2).trans n1
          clear m0 m1 n0 n1 hc1 hc2
          generalize r[j] = x at *
          obtain ⟨x1, x2⟩ := x
          dsimp only at m0' m1' n0' n1'
          have g1 := gdRg
          have g3 := fun w => eqRg x1 x2 w
          go_wp2
          go_quiet (fail)
          go_wp2
          go_roundg g2
          case measure => omega
          case rel => exact ⟨j + 1, by omega, by go_num, ⟨hb.os, hb.tape, hb.output, hb.size, hb.block⟩⟩
end Go.Proofs.YtgaalkcociifmaaDoor
