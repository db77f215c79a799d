/- slices.Chunk, of so many at a time: its contract. -/
import Derived.Test.YtkphbjppmiefkaaDoorTIt
import Derived.Test.YtkphbjppmiefkaaDoorEnds
import Derived.Sort.LoopGhostIn
import Derived.Stop.RegionWithIn
namespace Go.Proofs.YtkphbjppmiefkaaDoor
open Go.RowKit Go.Shelf SetM
attribute [local go_sem] Oper.semAt_some
/-- How many stand in the k-th chunk. -/
def chM (n k : Nat) : Nat := min 64 (n - 64 * k)
/-- The k-th chunk's value. -/
def chV (b off n k : Nat) : Value := .slice (some ⟨b, off + 64 * k, none⟩) (chM n k) (chM n k)
/-- How many chunks. -/
def chK (n : Nat) : Nat := (n + 63) / 64
def chVs (b off n : Nat) : List (Array Value) := (List.range (chK n)).map (fun k => #[chV b off n k])
theorem chVs_len (b off n : Nat) : (chVs b off n).length = chK n := by unfold chVs; simp
theorem chVs_get (b off n : Nat) {k : Nat} (h : k < (chVs b off n).length) : (chVs b off n)[k] = #[chV b off n k] := by simp [chVs]
set_option maxRecDepth 100000 in
set_option maxHeartbeats 2000000 in
theorem chunk_any (A : Option Addr) (n c : Nat) (w : World) : Calls Tryd.prog 46 #[.slice A n c, .int .i64 64] w fun e w' => e = .returned (.func (.func 61) #[] #[.pointer (some ⟨w.heap.size, 0, none⟩), .pointer (some ⟨w.heap.size + 1, 0, none⟩)]) ∧ w' = (w.alloc (.cells #[.slice A n c] 24)).alloc (.cells #[.int .i64 64] 3) := by
  go_enter Tryd.func46, Tryd.ntmps46
  go_wp2
  go_ret
  exact ⟨by simp, rfl⟩
/-- What the iterator reads. -/
def ChNeed (B1 B2 b off n cap : Nat) (W : World) : Prop := W.cell? ⟨B1, 0, none⟩ = some (.slice (some ⟨b, off, none⟩) n cap) ∧ W.cell? ⟨B2, 0, none⟩ = some (.int .i64 64)
set_option maxRecDepth 100000 in
set_option maxHeartbeats 2000000 in
theorem chunk_in {F : Fence} (hFw : Hid (F = Fence.wide)) {n : Nat} (hn : 2 ≤ n) {B1 B2 b off m cap : Nat} (hm : m ≤ cap) (hcap : cap ≤ 1000000) : SeqN F n Tryd.prog 61 #[.pointer (some ⟨B1, 0, none⟩), .pointer (some ⟨B2, 0, none⟩)] (chVs b off m) (ChNeed B1 B2 b off m cap) := by
  intro l J W hN hJ hY h0
  have hro : F.round = none := by rw [hFw.out]; rfl
  have hf : F.fn 61 := by rw [hFw.out]; trivial
  have HY := Lib.hid hY
  have HN := Lib.hid hN
  have HJ := Lib.hid hJ
  clear hY hN hJ
  refine callsIn_of_wp Tryd.func61 rfl hf ?_ hro
  simp only [Tryd.ntmps61, List.size_toArray, List.length_cons, List.length_nil, Nat.reduceAdd, Nat.reduceSub, Array.replicate_succ, Array.replicate_zero, List.push_toArray, List.append_toArray, List.nil_append, List.cons_append]
  gi_wp2
  gi_loopg [4] (chK m) (fun g s4 X => ∃ k i : Nat, k + g = chK m ∧ i = 64 * k ∧ s4 = .int .i64 (i : Int) ∧ J k X)
  case atStart => exact ⟨0, 0, by omega, rfl, rfl, h0⟩
  case round =>
    clear h0
    obtain ⟨k, i, hkg, hi, rfl, hj⟩ := hrel
    obtain ⟨c1, c2⟩ := HN.out k wr hj
    have HI := Lib.hid hi
    cases gk with
    | zero =>
      have hlt : ¬ ((i : Nat) : Int) < (m : Int) := by unfold chK at hkg; omega
      have HJE : Hid (J (chVs b off m).length wr) := Lib.hid (by rw [chVs_len]; obtain rfl : k = chK m := by omega
                                                                 exact hj)
      clear hi hkg
      gi_wp2
      go_end0
      exact ⟨⟨_, rfl⟩, HJE.out⟩
    | succ g =>
      have hlt : ((i : Nat) : Int) < (m : Int) := by unfold chK at hkg; omega
      have him : i < m := by omega
      have h0i : (0 : Int) ≤ (i : Int) := by omega
      have hkl : k < (chVs b off m).length := by rw [chVs_len]; omega
      have d1 : wr.drew.cell? ⟨B1, 0, none⟩ = some (.slice (some ⟨b, off, none⟩) m cap) := c1
      have d2 : wr.drew.cell? ⟨B2, 0, none⟩ = some (.int .i64 64) := c2
      have hci : ¬ cap = i := by omega
      obtain ⟨q, hq⟩ : ∃ q, q = chM m k := ⟨_, rfl⟩
      have hqe : q = min 64 (m - i) := by rw [hq, hi]; rfl
      have hite : (if ((m - i : Nat) : Int) < 64 then ((m - i : Nat) : Int) else 64) = (q : Int) := by split <;> omega
      have hq1 : 1 ≤ q ∧ q ≤ 64 ∧ i + q ≤ m := by omega
      have HQ := Lib.hid hq
      have HYK := Lib.hid (HY.out k hkl wr.drew (HJ.out k wr wr.drew hj ⟨rfl, rfl, rfl, Nat.le_refl _, fun _ _ _ => rfl⟩))
      have hyk := HYK.out
      rw [chVs_get] at hyk
      unfold chV at hyk
      rw [← HQ.out, ← HI.out] at hyk
      obtain ⟨fn, tmps, assign, body, hy, hR⟩ := hyk
      have HR := Lib.hid hR
      have hnat : ((i : Int) + (q : Int)).toNat = i + q := by omega
      clear hi hq hqe hR hj HYK
      gi_wp2
      gi_region
      all_goals
        clear hite
        gi_wp2
        refine ⟨fun _ => by omega, HR.out.mono ?_⟩
        rintro e W3 ⟨rfl, hj3⟩
        clear d1 d2 c1 c2 hy
        obtain ⟨c1, c2⟩ := HN.out _ _ hj3
        gi_wp2
        gi_roundg g
        case measure => omega
        case rel => exact ⟨k + 1, i + 64, by omega, by have := HI.out; omega, by go_num, hj3⟩
end Go.Proofs.YtkphbjppmiefkaaDoor
