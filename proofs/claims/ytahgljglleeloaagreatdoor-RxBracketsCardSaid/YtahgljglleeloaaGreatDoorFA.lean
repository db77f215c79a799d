/- FRuns, FMove, FWays, in one text. -/
import Derived.Test.YtahgljglleeloaaGreatDoorSA
import Derived.Test.YtahgljglleeloaaGreatDoorMathA
import Derived.RegionTactic
import Derived.ChangeAlike
import Derived.Deep.LoopGhost
import Derived.Deep.QuietTactic
import Derived.BigQuiet
import Derived.Handy
import Derived.Deep.RegionHeld3
import Derived.WalkSmall
import Derived.IntWalk

/- fold's table of runs; Fold, and a run's step. -/
namespace Go.Proofs.YtahgljglleeloaaGreatDoor
open Go.RowKit Go.Shelf SetM

def runNums : List Int := [65, 90, 97, 181, 181, 956, 192, 214, 224, 216, 222, 248, 913, 929, 945, 931, 937, 963, 962, 962, 963, 1024, 1039, 1104, 1040, 1071, 1072, 7838, 7838, 223, 8486, 8486, 969, 8490, 8490, 107, 8491, 8491, 229]
/-- What the package's table of runs holds. -/
def Runs (W : World) : Prop := ∀ i, (h : i < 39) → W.cell? ⟨1, i, none⟩ = some (.int .i64 (runNums[i]'(by simpa [runNums] using h)))
theorem Runs.below {n₀ : Nat} {V W : World} (h : Below n₀ V W) (h0 : 1 < n₀) (hs : Runs V) : Runs W := fun i hi =>
  (h.cell (p := ⟨1, i, none⟩) h0).trans (hs i hi)
def runsV : Value := .agg (runNums.map (Value.int .i64)).toArray
theorem infoRuns : (Tryz.prog.info? 148).map (·.size) = some 39 := by kernel_rfl
theorem runs_load {W : World} (h : Runs W) : (Instr.loadAt 148 (.pointer (some ⟨1, 0, none⟩))).run Tryz.prog W = .ok runsV W := by
  have hl : (loadCells ⟨1, 0, none⟩ (runNums.map (Value.int .i64)).length).run Tryz.prog W = .ok (runNums.map (Value.int .i64)).toArray W :=
    run_loadCells_list (P := Tryz.prog) W ⟨1, 0, none⟩ _ (fun j v hv => by
      have hadd : (⟨1, 0, none⟩ : Addr).add j = ⟨1, j, none⟩ := by unfold Addr.add; split <;> simp_all
      have hj : j < 39 := by
        rcases Nat.lt_or_ge j 39 with hj | hj
        · exact hj
        · rw [List.getElem?_eq_none (by simpa [runNums] using hj)] at hv; cases hv
      rw [hadd, h j hj]
      rw [List.getElem?_map, List.getElem?_eq_getElem (by simpa [runNums] using hj)] at hv
      exact hv)
  have hn : (runNums.map (Value.int .i64)).length = 39 := rfl
  rw [hn] at hl
  cases hq : Tryz.prog.info? 148 with
  | none => have := infoRuns; simp [hq] at this
  | some i =>
    have hs : i.size = 39 := by have := infoRuns; simpa [hq] using this
    have hagg : (isAgg 148).run Tryz.prog W = .ok true W := by
      unfold isAgg
      rw [Sem.run_bind, run_underlying Tryz.underlying148 W]
      rfl
    simp [Instr.loadAt, Instr.sureAddr, loadVar, Sem.run_bind, hagg, sizeOf, typeInfo, hq, hs, hl, runsV]
theorem wpList_load_runs {ops : Array Oper} {rest : List Oper} {o : Oper} {a : Act} {w : World} {Q : Exit → Act → World → Prop} (hgd : o.guard = none) (x : Operand) (ho : o.op = .load 148 x)
    (hx : a.eval x = .pointer (some ⟨1, 0, none⟩)) (hR : Runs w) (h : wpList Tryz.prog ops Q rest (a.put o.dst runsV) w) : wpList Tryz.prog ops Q (o :: rest) a w :=
  wpList_plain hgd fun K hK => by
    unfold Oper.wp execOp
    simp only [ho, hx, Sem.run_bind, runs_load hR, Result.andThen_ok]
    exact hK _ _ h
/-- A run as a value; the table as one. -/
def valR (u : Rn) : Value := .agg #[.int .i64 u.1, .int .i64 u.2.1, .int .i64 u.2.2]
def runAt (k : Nat) : Rn := runsL[k]?.getD (0, 0, 0)
theorem runs_ix (k : Nat) (hk : k < 13) (w : World) : (Instr.index 148 runsV (.int .i64 (k : Int))).run Tryz.prog w = .ok (.agg #[.int .i64 (runAt k).1, .int .i64 (runAt k).2.1, .int .i64 (runAt k).2.2]) w := by
  rcases (show k = 0 ∨ k = 1 ∨ k = 2 ∨ k = 3 ∨ k = 4 ∨ k = 5 ∨ k = 6 ∨ k = 7 ∨ k = 8 ∨ k = 9 ∨ k = 10 ∨ k = 11 ∨ k = 12 by omega) with rfl | rfl | rfl | rfl | rfl | rfl | rfl | rfl | rfl | rfl | rfl | rfl | rfl <;> kernel_rfl
theorem runAt_mem (k : Nat) (hk : k < 13) : runAt k ∈ runsL := by
  unfold runAt
  rw [List.getElem?_eq_getElem (by exact hk)]
  exact List.getElem_mem _
theorem runs_drop (k : Nat) (hk : k < 13) : runsL.drop k = runAt k :: runsL.drop (k + 1) := by
  unfold runAt
  rw [List.getElem?_eq_getElem (by exact hk), List.drop_eq_getElem_cons (by exact hk)]; rfl
theorem run_bounds {u : Rn} (hu : u ∈ runsL) : 65 ≤ u.1 ∧ u.1 ≤ u.2.1 ∧ u.2.1 ≤ 8491 ∧ 97 ≤ u.2.2 ∧ u.2.2 ≤ 1104 := by
  simp only [runsL, List.mem_cons, List.not_mem_nil, or_false] at hu
  rcases hu with rfl | rfl | rfl | rfl | rfl | rfl | rfl | rfl | rfl | rfl | rfl | rfl | rfl <;> simp

set_option maxRecDepth 100000 in
set_option maxHeartbeats 1000000 in
theorem step_any (a b c : Int) (ha : 0 ≤ a ∧ a ≤ 10000) (hc : 0 ≤ c ∧ c ≤ 10000) (w : World) :
    Calls Tryz.prog 130 #[.agg #[.int .i64 a, .int .i64 b, .int .i64 c]] w fun e w' => e = .returned (.int .i64 (c - a)) ∧ Below w.heap.size w w' := by
  go_enter Tryz.func130, Tryz.ntmps130
  go_wp2
  go_ret
  exact ⟨by go_num, (Below.refl _ w).alloc (Nat.le_refl _) _⟩

end Go.Proofs.YtahgljglleeloaaGreatDoor

/- fold's movers: the closure that moves a piece of a span, and how a run makes it. -/
namespace Go.Proofs.YtahgljglleeloaaGreatDoor
open Go.RowKit Go.Shelf SetM

theorem below_grownF {W W' : World} (h : Below W.heap.size W W') : W.grownBy W' none := ⟨h.os, h.tape, h.output, h.size, fun k hk _ => h.block k hk⟩
theorem own_belowF {W W' : World} {base : Nat} {t : TypeId} {size n : Nat} {v : Value} {xs : List Value} (h : W.ownsRow base t size v n xs) (hb : Below W.heap.size W W') : W'.ownsRow base t size v n xs := by
  refine h.kept (below_grownF hb) ?_
  cases v.ownBlock <;> simp
theorem own_rowAtF {W : World} {base : Nat} {e : TypeId} {size k : Nat} {v : Value} {xs : List Value} (h : W.ownsRow base e size v k xs) : ∀ r, v.ownBlock = some r → ∃ cs, W.heap[r]? = some (.cells cs e (0, 0)) := fun r hr => by
  rcases h.2 with ⟨rfl, _⟩ | ⟨g, cap, cur, rfl, _, hg, _⟩
  · cases hr
  · obtain rfl : g = r := by simpa [Value.ownBlock] using hr
    exact ⟨cur, hg⟩
/-- The three variables of the closure that moves what lies from lo to hi by st. -/
structure MovB (W : World) (b1 b2 b3 : Nat) (lo hi st : Int) : Prop where
  lo : W.heap[b1]? = some (.cells #[.int .i64 lo] 3 (0, 0))
  hi : W.heap[b2]? = some (.cells #[.int .i64 hi] 3 (0, 0))
  st : W.heap[b3]? = some (.cells #[.int .i64 st] 3 (0, 0))
theorem heap_kept {W W' : World} {row : Option Nat} {b : Nat} {cs : Array Value} {t : TypeId} (h : W.heap[b]? = some (.cells cs t (0, 0))) (hg : W.grownBy W' row) (hr : ∀ r, row = some r → ∃ cs t', W.heap[r]? = some (.cells cs t' (0, 0)) ∧ t' ≠ t) : W'.heap[b]? = some (.cells cs t (0, 0)) := by
  refine (hg.block b (Array.getElem?_eq_some_iff.1 h).1 (fun e => ?_)).trans h
  obtain ⟨cs', t', h1, h2⟩ := hr b e.symm
  rw [h] at h1
  injection h1 with h1
  injection h1 with _ h3
  exact h2 h3.symm
theorem MovB.kept {W W' : World} {row : Option Nat} {b1 b2 b3 : Nat} {lo hi st : Int} (h : MovB W b1 b2 b3 lo hi st) (hg : W.grownBy W' row) (hr : ∀ r, row = some r → ∃ cs t', W.heap[r]? = some (.cells cs t' (0, 0)) ∧ t' ≠ 3) : MovB W' b1 b2 b3 lo hi st :=
  ⟨heap_kept h.lo hg hr, heap_kept h.hi hg hr, heap_kept h.st hg hr⟩
theorem MovB.below {W W' : World} {b1 b2 b3 : Nat} {lo hi st : Int} (h : MovB W b1 b2 b3 lo hi st) (hb : Below W.heap.size W W') : MovB W' b1 b2 b3 lo hi st := h.kept (below_grownF hb) (fun _ e => by cases e)
theorem MovB.alloc {W : World} {b1 b2 b3 : Nat} {lo hi st : Int} (h : MovB W b1 b2 b3 lo hi st) (o : Obj) : MovB (W.alloc o) b1 b2 b3 lo hi st := h.below ((Below.refl _ W).alloc (Nat.le_refl _) o)
/-- That closure. -/
def MovV (W : World) (lo hi st : Int) (v : Value) : Prop := ∃ b1 b2 b3 : Nat, v = .func (.func 143) #[] #[.pointer (some ⟨b1, 0, none⟩), .pointer (some ⟨b2, 0, none⟩), .pointer (some ⟨b3, 0, none⟩)] ∧ MovB W b1 b2 b3 lo hi st

set_option maxRecDepth 100000 in
set_option maxHeartbeats 1000000 in
theorem shift_any (lo hi st : Int) (w : World) :
    Calls Tryz.prog 129 #[.int .i64 lo, .int .i64 hi, .int .i64 st] w fun e w' => ∃ v, e = .returned v ∧ MovV w' lo hi st v ∧ Below w.heap.size w w' := by
  go_enter Tryz.func129, Tryz.ntmps129
  go_wp2
  go_ret
  have b1 := (Below.refl w.heap.size w).alloc (Nat.le_refl _) (.cells #[.int .i64 lo] 3)
  have b2 := b1.alloc b1.size (.cells #[.int .i64 hi] 3)
  have b3 := b2.alloc b2.size (.cells #[.int .i64 st] 3)
  have z1 : (w.alloc (.cells #[.int .i64 lo] 3)).heap.size = w.heap.size + 1 := World.size_alloc _ _
  have z2 : ((w.alloc (.cells #[.int .i64 lo] 3)).alloc (.cells #[.int .i64 hi] 3)).heap.size = w.heap.size + 1 + 1 := by rw [World.size_alloc, z1]
  have z3 : (((w.alloc (.cells #[.int .i64 lo] 3)).alloc (.cells #[.int .i64 hi] 3)).alloc (.cells #[.int .i64 st] 3)).heap.size = w.heap.size + 1 + 1 + 1 := by rw [World.size_alloc, z2]
  refine ⟨_, rfl, ⟨w.heap.size, w.heap.size + 1, w.heap.size + 1 + 1, rfl, ⟨?_, ?_, ?_⟩⟩, b3⟩
  · rw [heap_alloc_old _ _ _ (by omega), heap_alloc_old _ _ _ (by omega), heap_alloc_new]
  · rw [heap_alloc_old _ _ _ (by omega)]
    have := heap_alloc_new (w.alloc (.cells #[.int .i64 lo] 3)) (.cells #[.int .i64 hi] 3)
    rwa [z1] at this
  · have := heap_alloc_new ((w.alloc (.cells #[.int .i64 lo] 3)).alloc (.cells #[.int .i64 hi] 3)) (.cells #[.int .i64 st] 3)
    rwa [z2] at this

/-- What the closure hands back for a span. -/
def movedV (lo hi st : Int) (s : Sp) : Value := if max s.1 lo ≤ min s.2 hi then .tuple #[.agg #[.int .i64 (max s.1 lo + st), .int .i64 (min s.2 hi + st)], .bool true] else .tuple #[.agg #[.int .i64 0, .int .i64 0], .bool false]
set_option maxRecDepth 100000 in
set_option maxHeartbeats 2000000 in
theorem move_any (lo hi st : Int) (s : Sp) (b1 b2 b3 : Nat) (w : World) (hm : MovB w b1 b2 b3 lo hi st)
    (h1 : 0 ≤ lo) (h2 : hi ≤ 20000) (h3 : -20000 ≤ st) (h4 : st ≤ 20000) :
    Calls Tryz.prog 143 #[.agg #[.int .i64 s.1, .int .i64 s.2], .pointer (some ⟨b1, 0, none⟩), .pointer (some ⟨b2, 0, none⟩), .pointer (some ⟨b3, 0, none⟩)] w fun e w' => e = .returned (movedV lo hi st s) ∧ Below w.heap.size w w' := by
  obtain ⟨x, y⟩ := s
  dsimp only
  have z1 := (Array.getElem?_eq_some_iff.1 hm.lo).1
  have z2 := (Array.getElem?_eq_some_iff.1 hm.hi).1
  have z3 := (Array.getElem?_eq_some_iff.1 hm.st).1
  have c1 : w.cell? ⟨b1, 0, none⟩ = some (.int .i64 lo) := by rw [cell_of_row w b1 0 _ _ _ hm.lo]; rfl
  have c2 : w.cell? ⟨b2, 0, none⟩ = some (.int .i64 hi) := by rw [cell_of_row w b2 0 _ _ _ hm.hi]; rfl
  have c3 : w.cell? ⟨b3, 0, none⟩ = some (.int .i64 st) := by rw [cell_of_row w b3 0 _ _ _ hm.st]; rfl
  clear hm
  have hb1 := (Below.refl w.heap.size w).alloc (Nat.le_refl _) (.cells #[.int .i64 x, .int .i64 y] 53)
  have hb2 := hb1.alloc hb1.size (.cells #[.int .i64 0, .int .i64 0] 53)
  have d1 := (hb2.cell (p := ⟨b1, 0, none⟩) z1).trans c1
  have d2 := (hb2.cell (p := ⟨b2, 0, none⟩) z2).trans c2
  have d3 : ∀ o, (((w.alloc (.cells #[.int .i64 x, .int .i64 y] 53)).alloc (.cells #[.int .i64 0, .int .i64 0] 53)).alloc o).cell? ⟨b3, 0, none⟩ = some (.int .i64 st) := fun o => ((hb2.alloc hb2.size o).cell (p := ⟨b3, 0, none⟩) z3).trans c3
  clear c1 c2 c3
  unfold movedV
  dsimp only
  by_cases h : max x lo ≤ min y hi
  · rw [if_pos h]
    have hn : ¬ (min y hi < max x lo) := by omega
    go_enter Tryz.func143, Tryz.ntmps143
    go_wp2
    all_goals
      go_returns
      refine ⟨?_, ?_⟩
      · first | rfl | (simp; omega) | (simp_all; omega) | simp_all
      · repeat (first | exact Below.refl _ _ | exact hb1 | (refine Below.alloc ?_ (by simp only [World.size_alloc]; omega) _))
  · rw [if_neg h]
    have hn : min y hi < max x lo := by omega
    go_enter Tryz.func143, Tryz.ntmps143
    go_wp2
    all_goals
      go_returns
      refine ⟨?_, ?_⟩
      · first | rfl | (simp; omega) | (simp_all; omega) | simp_all
      · repeat (first | exact Below.refl _ _ | exact hb1 | (refine Below.alloc ?_ (by simp only [World.size_alloc]; omega) _))
end Go.Proofs.YtahgljglleeloaaGreatDoor

/- A run makes its movers: ahead, and back. -/
namespace Go.Proofs.YtahgljglleeloaaGreatDoor
open Go.RowKit Go.Shelf SetM

set_option maxRecDepth 100000 in
set_option maxHeartbeats 2000000 in
theorem ahead_any (u : Rn) (hu : 65 ≤ u.1 ∧ u.1 ≤ u.2.1 ∧ u.2.1 ≤ 8491 ∧ 97 ≤ u.2.2 ∧ u.2.2 ≤ 1104) (w : World) :
    Calls Tryz.prog 111 #[.agg #[.int .i64 u.1, .int .i64 u.2.1, .int .i64 u.2.2]] w fun e w' => ∃ v, e = .returned v ∧ MovV w' u.1 u.2.1 (stepR u) v ∧ Below w.heap.size w w' := by
  obtain ⟨a, b, c⟩ := u
  unfold stepR
  dsimp only at *
  obtain ⟨h1, h2, h3, h4, h5⟩ := hu
  have hb1 := (Below.refl w.heap.size w).alloc (Nat.le_refl _) (.cells #[.int .i64 a, .int .i64 b, .int .i64 c] 133)
  have hs1 : (w.alloc (.cells #[.int .i64 a, .int .i64 b, .int .i64 c] 133)).heap.size = w.heap.size + 1 := World.size_alloc _ _
  have k0 : ∀ U, Below (w.heap.size + 1) (w.alloc (.cells #[.int .i64 a, .int .i64 b, .int .i64 c] 133)) U → U.cell? ⟨w.heap.size, 0, none⟩ = some (.int .i64 a) := fun U h => by
    rw [h.cell (p := ⟨w.heap.size, 0, none⟩) (by show w.heap.size < _; omega), cell_of_row _ w.heap.size 0 _ _ _ (heap_alloc_new w _)]; rfl
  have k1 : ∀ U, Below (w.heap.size + 1) (w.alloc (.cells #[.int .i64 a, .int .i64 b, .int .i64 c] 133)) U → U.cell? ⟨w.heap.size, 1, none⟩ = some (.int .i64 b) := fun U h => by
    rw [h.cell (p := ⟨w.heap.size, 1, none⟩) (by show w.heap.size < _; omega), cell_of_row _ w.heap.size 1 _ _ _ (heap_alloc_new w _)]; rfl
  have k2 : ∀ U, Below (w.heap.size + 1) (w.alloc (.cells #[.int .i64 a, .int .i64 b, .int .i64 c] 133)) U → U.cell? ⟨w.heap.size, 1 + 1, none⟩ = some (.int .i64 c) := fun U h => by
    rw [h.cell (p := ⟨w.heap.size, 1 + 1, none⟩) (by show w.heap.size < _; omega), cell_of_row _ w.heap.size 2 _ _ _ (heap_alloc_new w _)]; rfl

  go_enter Tryz.func111, Tryz.ntmps111
  go_wp2_with fail
  have hr : Below (w.heap.size + 1) (w.alloc (.cells #[.int .i64 a, .int .i64 b, .int .i64 c] 133)) (w.alloc (.cells #[.int .i64 a, .int .i64 b, .int .i64 c] 133)) := Below.refl _ _
  generalize w.alloc (.cells #[.int .i64 a, .int .i64 b, .int .i64 c] 133) = W at *
  go_region_held3 (fun w' => w'.cell? ⟨w.heap.size, 0, none⟩ = some (.int .i64 a) ∧ w'.cell? ⟨w.heap.size, 1, none⟩ = some (.int .i64 b) ∧ w'.cell? ⟨w.heap.size, 1 + 1, none⟩ = some (.int .i64 c))
    (first | exact ⟨k0 _ hr, k1 _ hr, k2 _ hr⟩ | exact ⟨k0 _ (below_drewN hr 1), k1 _ (below_drewN hr 1), k2 _ (below_drewN hr 1)⟩)
    (first
      | (go_at_call 130; (with_reducible refine (step_any a b c ⟨by omega, by omega⟩ ⟨by omega, by omega⟩ _).mono ?_); rintro e w2 ⟨rfl, hb2⟩; have hr := (show Below (w.heap.size + 1) W _ by first | exact hr | exact below_drewN hr 1).trans (hb2.mono (by have := hr.size; (try simp only [World.size_drew]); omega)))
      | (go_at_call 129; (with_reducible refine (shift_any _ _ _ _).mono ?_); rintro e w3 ⟨v3, rfl, hm3, hb3⟩; have hr := (show Below (w.heap.size + 1) W _ by first | exact hr | exact below_drewN hr 1).trans (hb3.mono (by have := hr.size; (try simp only [World.size_drew]); omega))))
  all_goals
    go_wp2
    go_ret
    exact ⟨v3, rfl, hm3, hb1.trans (hr.mono (by omega))⟩

set_option maxRecDepth 100000 in
set_option maxHeartbeats 2000000 in
theorem back_any (u : Rn) (hu : 65 ≤ u.1 ∧ u.1 ≤ u.2.1 ∧ u.2.1 ≤ 8491 ∧ 97 ≤ u.2.2 ∧ u.2.2 ≤ 1104) (w : World) :
    Calls Tryz.prog 112 #[.agg #[.int .i64 u.1, .int .i64 u.2.1, .int .i64 u.2.2]] w fun e w' => ∃ v, e = .returned v ∧ MovV w' (u.1 + stepR u) (u.2.1 + stepR u) (-stepR u) v ∧ Below w.heap.size w w' := by
  obtain ⟨a, b, c⟩ := u
  unfold stepR
  dsimp only at *
  obtain ⟨h1, h2, h3, h4, h5⟩ := hu
  have hb1 := (Below.refl w.heap.size w).alloc (Nat.le_refl _) (.cells #[.int .i64 a, .int .i64 b, .int .i64 c] 133)
  have hs1 : (w.alloc (.cells #[.int .i64 a, .int .i64 b, .int .i64 c] 133)).heap.size = w.heap.size + 1 := World.size_alloc _ _
  have k0 : ∀ U, Below (w.heap.size + 1) (w.alloc (.cells #[.int .i64 a, .int .i64 b, .int .i64 c] 133)) U → U.cell? ⟨w.heap.size, 0, none⟩ = some (.int .i64 a) := fun U h => by
    rw [h.cell (p := ⟨w.heap.size, 0, none⟩) (by show w.heap.size < _; omega), cell_of_row _ w.heap.size 0 _ _ _ (heap_alloc_new w _)]; rfl
  have k1 : ∀ U, Below (w.heap.size + 1) (w.alloc (.cells #[.int .i64 a, .int .i64 b, .int .i64 c] 133)) U → U.cell? ⟨w.heap.size, 1, none⟩ = some (.int .i64 b) := fun U h => by
    rw [h.cell (p := ⟨w.heap.size, 1, none⟩) (by show w.heap.size < _; omega), cell_of_row _ w.heap.size 1 _ _ _ (heap_alloc_new w _)]; rfl
  have k2 : ∀ U, Below (w.heap.size + 1) (w.alloc (.cells #[.int .i64 a, .int .i64 b, .int .i64 c] 133)) U → U.cell? ⟨w.heap.size, 1 + 1, none⟩ = some (.int .i64 c) := fun U h => by
    rw [h.cell (p := ⟨w.heap.size, 1 + 1, none⟩) (by show w.heap.size < _; omega), cell_of_row _ w.heap.size 2 _ _ _ (heap_alloc_new w _)]; rfl

  have e1 : IntKind.i64.wrap (a + (c - a)) = a + (c - a) := IntWalk.i64_in _ (by omega)
  have e2 : IntKind.i64.wrap (b + (c - a)) = b + (c - a) := IntWalk.i64_in _ (by omega)
  have e3 : IntKind.i64.wrap (-(c - a)) = -(c - a) := IntWalk.i64_in _ (by omega)
  go_enter Tryz.func112, Tryz.ntmps112
  go_wp2_with fail
  have hr : Below (w.heap.size + 1) (w.alloc (.cells #[.int .i64 a, .int .i64 b, .int .i64 c] 133)) (w.alloc (.cells #[.int .i64 a, .int .i64 b, .int .i64 c] 133)) := Below.refl _ _
  generalize w.alloc (.cells #[.int .i64 a, .int .i64 b, .int .i64 c] 133) = W at *
  go_region_held3 (fun w' => w'.cell? ⟨w.heap.size, 0, none⟩ = some (.int .i64 a) ∧ w'.cell? ⟨w.heap.size, 1, none⟩ = some (.int .i64 b) ∧ w'.cell? ⟨w.heap.size, 1 + 1, none⟩ = some (.int .i64 c))
    (first | exact ⟨k0 _ hr, k1 _ hr, k2 _ hr⟩ | exact ⟨k0 _ (below_drewN hr 1), k1 _ (below_drewN hr 1), k2 _ (below_drewN hr 1)⟩)
    (first
      | (go_at_call 130; (with_reducible refine (step_any a b c ⟨by omega, by omega⟩ ⟨by omega, by omega⟩ _).mono ?_); rintro e w2 ⟨rfl, hb2⟩; have hr := (show Below (w.heap.size + 1) W _ by first | exact hr | exact below_drewN hr 1).trans (hb2.mono (by have := hr.size; (try simp only [World.size_drew]); omega)))
      | (go_at_call 129; (with_reducible refine (shift_any _ _ _ _).mono ?_); rintro e w3 ⟨v3, rfl, hm3, hb3⟩; have hr := (show Below (w.heap.size + 1) W _ by first | exact hr | exact below_drewN hr 1).trans (hb3.mono (by have := hr.size; (try simp only [World.size_drew]); omega))))
  all_goals
    go_wp2
    go_ret
    exact ⟨v3, rfl, hm3, hb1.trans (hr.mono (by omega))⟩
end Go.Proofs.YtahgljglleeloaaGreatDoor
