/- fold's table of runs; Fold, and a run's step. -/
import Derived.Test.YtmmghgfkpndokaaDoorWords
import Derived.Test.YtmmghgfkpndokaaDoorFMath
import Derived.RegionTactic
import Derived.ChangeAlike
import Derived.Deep.LoopGhost
import Derived.Deep.QuietTactic
import Derived.BigQuiet
namespace Go.Proofs.YtmmghgfkpndokaaDoor
open Go.RowKit Go.Shelf SetM

def runNums : List Int := [65, 90, 97, 181, 181, 956, 192, 214, 224, 216, 222, 248, 913, 929, 945, 931, 937, 963, 962, 962, 963, 1024, 1039, 1104, 1040, 1071, 1072, 7838, 7838, 223, 8486, 8486, 969, 8490, 8490, 107, 8491, 8491, 229]
/-- What the package's table of runs holds. -/
def Runs (W : World) : Prop := ∀ i, (h : i < 39) → W.cell? ⟨0, i, none⟩ = some (.int .i64 (runNums[i]'(by simpa [runNums] using h)))
theorem Runs.below {n₀ : Nat} {V W : World} (h : Below n₀ V W) (h0 : 0 < n₀) (hs : Runs V) : Runs W := fun i hi =>
  (h.cell (p := ⟨0, i, none⟩) h0).trans (hs i hi)
def runsV : Value := .agg (runNums.map (Value.int .i64)).toArray
theorem infoRuns : (Tryd.prog.info? 47).map (·.size) = some 39 := by kernel_rfl
theorem runs_load {W : World} (h : Runs W) : (Instr.loadAt 47 (.pointer (some ⟨0, 0, none⟩))).run Tryd.prog W = .ok runsV W := by
  have hl : (loadCells ⟨0, 0, none⟩ (runNums.map (Value.int .i64)).length).run Tryd.prog W = .ok (runNums.map (Value.int .i64)).toArray W :=
    run_loadCells_list (P := Tryd.prog) W ⟨0, 0, none⟩ _ (fun j v hv => by
      have hadd : (⟨0, 0, none⟩ : Addr).add j = ⟨0, j, none⟩ := by unfold Addr.add; split <;> simp_all
      have hj : j < 39 := by
        rcases Nat.lt_or_ge j 39 with hj | hj
        · exact hj
        · rw [List.getElem?_eq_none (by simpa [runNums] using hj)] at hv; cases hv
      rw [hadd, h j hj]
      rw [List.getElem?_map, List.getElem?_eq_getElem (by simpa [runNums] using hj)] at hv
      exact hv)
  have hn : (runNums.map (Value.int .i64)).length = 39 := rfl
  rw [hn] at hl
  cases hq : Tryd.prog.info? 47 with
  | none => have := infoRuns; simp [hq] at this
  | some i =>
    have hs : i.size = 39 := by have := infoRuns; simpa [hq] using this
    have hagg : (isAgg 47).run Tryd.prog W = .ok true W := by
      unfold isAgg
      rw [Sem.run_bind, run_underlying Tryd.underlying47 W]
      rfl
    simp [Instr.loadAt, Instr.sureAddr, loadVar, Sem.run_bind, hagg, sizeOf, typeInfo, hq, hs, hl, runsV]
theorem wpList_load_runs {ops : Array Oper} {rest : List Oper} {o : Oper} {a : Act} {w : World} {Q : Exit → Act → World → Prop} (hgd : o.guard = none) (x : Operand) (ho : o.op = .load 47 x)
    (hx : a.eval x = .pointer (some ⟨0, 0, none⟩)) (hR : Runs w) (h : wpList Tryd.prog ops Q rest (a.put o.dst runsV) w) : wpList Tryd.prog ops Q (o :: rest) a w :=
  wpList_plain hgd fun K hK => by
    unfold Oper.wp execOp
    simp only [ho, hx, Sem.run_bind, runs_load hR, Result.andThen_ok]
    exact hK _ _ h
/-- A run as a value; the table as one. -/
def valR (u : Rn) : Value := .agg #[.int .i64 u.1, .int .i64 u.2.1, .int .i64 u.2.2]
def runAt (k : Nat) : Rn := runsL[k]?.getD (0, 0, 0)
theorem runs_ix (k : Nat) (hk : k < 13) (w : World) : (Instr.index 47 runsV (.int .i64 (k : Int))).run Tryd.prog w = .ok (.agg #[.int .i64 (runAt k).1, .int .i64 (runAt k).2.1, .int .i64 (runAt k).2.2]) w := by
  rcases (show k = 0 ∨ k = 1 ∨ k = 2 ∨ k = 3 ∨ k = 4 ∨ k = 5 ∨ k = 6 ∨ k = 7 ∨ k = 8 ∨ k = 9 ∨ k = 10 ∨ k = 11 ∨ k = 12 by omega) with rfl | rfl | rfl | rfl | rfl | rfl | rfl | rfl | rfl | rfl | rfl | rfl | rfl <;> kernel_rfl
theorem runAt_mem (k : Nat) (hk : k < 13) : runAt k ∈ runsL := by
  unfold runAt
  rw [List.getElem?_eq_getElem (by exact hk)]
  exact List.getElem_mem _
theorem runs_drop (k : Nat) (hk : k < 13) : runsL.drop k = runAt k :: runsL.drop (k + 1) := by
  unfold runAt
  rw [List.getElem?_eq_getElem (by exact hk), List.drop_eq_getElem_cons (by exact hk)]; rfl
theorem run_bounds {u : Rn} (hu : u ∈ runsL) : 65 ≤ u.1 ∧ u.1 ≤ u.2.1 ∧ u.2.1 ≤ 8491 ∧ 97 ≤ u.2.2 ∧ u.2.2 ≤ 1104 := by
  simp only [runsL, List.mem_cons, List.not_mem_nil, or_false] at hu
  rcases hu with rfl | rfl | rfl | rfl | rfl | rfl | rfl | rfl | rfl | rfl | rfl | rfl | rfl <;> simp

set_option maxRecDepth 100000 in
set_option maxHeartbeats 1000000 in
theorem step_any (a b c : Int) (ha : 0 ≤ a ∧ a ≤ 10000) (hc : 0 ≤ c ∧ c ≤ 10000) (w : World) :
    Calls Tryd.prog 23 #[.agg #[.int .i64 a, .int .i64 b, .int .i64 c]] w fun e w' => e = .returned (.int .i64 (c - a)) ∧ Below w.heap.size w w' := by
  go_enter Tryd.func23, Tryd.ntmps23
  go_wp2
  go_ret
  exact ⟨by go_num, (Below.refl _ w).alloc (Nat.le_refl _) _⟩

set_option maxRecDepth 100000 in
set_option maxHeartbeats 2000000 in
theorem fold_any (r : Int) (w : World) (hR : Runs w) :
    Calls Tryd.prog 9 #[.int .i64 r] w fun e w' => e = .returned (.int .i64 (foldF r)) ∧ Below w.heap.size w w' := by
  have HR := Lib.hid hR
  clear hR
  go_enter Tryd.func9, Tryd.ntmps9
  go_wp2_with (refine wpList_load_runs rfl _ rfl rfl HR.out ?_)
  have HIX := Lib.hid runs_ix
  generalize runsV = V at *
  go_loopg [6] 13 (fun g s6 wx => ∃ k : Nat, k + g = 13 ∧ s6 = .int .i64 k ∧ Hid (foldFrom (runsL.drop k) r = foldF r) ∧ Below w.heap.size w wx)
  case atStart => exact ⟨0, by omega, rfl, Lib.hid rfl, Below.refl _ _⟩
  case round =>
    obtain ⟨k, hkg, rfl, HF, hb⟩ := hrel
    cases gk with
    | zero =>
      have hkz : ¬ ((k : Int) < 13) := by omega
      obtain rfl : k = 13 := by omega
      have hf : Hid (r = foldF r) := Lib.hid (HF.out)
      clear HF
      go_wp2
      go_ret
      exact ⟨congrArg (fun x => Ending.returned (Value.int .i64 x)) hf.out, hb⟩
    | succ g =>
      have hk : k < 13 := by omega
      have hkz : (k : Int) < 13 := by omega
      have hix := HIX.out k hk
      have hbd := run_bounds (runAt_mem k hk)
      have hfe := HF.out
      rw [runs_drop k hk] at hfe
      unfold foldFrom at hfe
      have HFE := Lib.hid hfe
      clear hfe HF
      generalize runAt k = u at *
      obtain ⟨a, b, c⟩ := u
      dsimp only at hix hbd HFE
      obtain ⟨b1, b2, b3, b4, b5⟩ := hbd
      have hsz := hb.size
      have hb1 := hb.alloc hsz (.cells #[.int .i64 a, .int .i64 b, .int .i64 c] 46)
      by_cases h1 : a ≤ r
      · by_cases h2 : r ≤ b
        · have h3 := HFE.out
          rw [if_pos ⟨h1, h2⟩] at h3
          have H3 := Lib.hid h3
          clear h3 HFE
          go_wp2_with (go_at_call 23; refine (step_any a b c (by omega) (by omega) _).mono ?_; rintro e w' ⟨rfl, hb2⟩)
          go_ret
          refine ⟨?_, hb1.trans (hb2.mono hb1.size)⟩
          rw [← H3.out]
          unfold stepR
          go_num
        · have h3 := HFE.out
          rw [if_neg (fun h => h2 h.2)] at h3
          have H3 := Lib.hid h3
          clear h3 HFE
          go_wp2
          go_roundg g
          case measure => omega
          case rel => exact ⟨k + 1, by omega, by go_num, H3, hb1⟩
      · have h3 := HFE.out
        rw [if_neg (fun h => h1 h.1)] at h3
        have H3 := Lib.hid h3
        clear h3 HFE
        go_wp2
        go_roundg g
        case measure => omega
        case rel => exact ⟨k + 1, by omega, by go_num, H3, hb1⟩
end Go.Proofs.YtmmghgfkpndokaaDoor
