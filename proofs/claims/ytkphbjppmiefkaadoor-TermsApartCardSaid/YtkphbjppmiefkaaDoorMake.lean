/- The law's Make: spans as choices say. -/
import Derived.Test.YtkphbjppmiefkaaDoorOne
namespace Go.Proofs.YtkphbjppmiefkaaDoor
open Go.RowKit Go.Shelf SetM

/-- A slice of uint16 holds the numbers cs. -/
def U16s (n₀ : Nat) (W : World) (A : Option Addr) (cs : List Int) : Prop :=
  (∀ c ∈ cs, 0 ≤ c ∧ c ≤ 65535) ∧ (cs ≠ [] → ∃ b off, A = some ⟨b, off, none⟩ ∧ b < n₀ ∧ ∀ j (h : j < cs.length), W.cell? ⟨b, off + j, none⟩ = some (.int .u16 cs[j]))
theorem U16s.below {n₀ : Nat} {V W : World} (h : Below n₀ V W) {A : Option Addr} {cs : List Int} (hs : U16s n₀ V A cs) : U16s n₀ W A cs :=
  ⟨hs.1, fun hl => by
    obtain ⟨b, off, e, hb, hc⟩ := hs.2 hl
    exact ⟨b, off, e, hb, fun j hj => (h.cell (p := ⟨b, off + j, none⟩) hb).trans (hc j hj)⟩⟩
theorem U16s.mono {n₀ n₁ : Nat} {W : World} {A : Option Addr} {cs : List Int} (hs : U16s n₀ W A cs) (h : n₀ ≤ n₁) : U16s n₁ W A cs :=
  ⟨hs.1, fun hl => by
    obtain ⟨b, off, e, hb, hc⟩ := hs.2 hl
    exact ⟨b, off, e, by omega, hc⟩⟩
/-- The span of the j-th pair of choices; those of the first m pairs; all. -/
def pairF (cs : List Int) (j : Nat) : Sp := (placeF (cs[2 * j]?.getD 0), placeF (cs[2 * j]?.getD 0) + cs[2 * j + 1]?.getD 0 % 40)
def mkTo (cs : List Int) (m : Nat) : List Sp := (List.range m).map (pairF cs)
def mkN (cs : List Int) : Nat := min (cs.length / 2) 30
def makeF (cs : List Int) : List Sp := mkTo cs (mkN cs)
theorem mkTo_succ (cs : List Int) (m : Nat) : mkTo cs (m + 1) = mkTo cs m ++ [pairF cs m] := by simp [mkTo, List.range_succ]
theorem mkTo_len (cs : List Int) (m : Nat) : (mkTo cs m).length = m := by simp [mkTo]
theorem makeF_len (cs : List Int) : (makeF cs).length ≤ 30 := by unfold makeF; rw [mkTo_len]; unfold mkN; omega

set_option maxRecDepth 100000 in
set_option maxHeartbeats 1000000 in
theorem make_any (A : Option Addr) (ca : Nat) (cs : List Int) (w : World) (hU : U16s w.heap.size w A cs) :
    Calls Tryd.prog 14 #[.slice A cs.length ca] w fun e w' => ∃ v, e = .returned v ∧ w'.ownsRow w.heap.size 42 2 v (makeF cs).length (cellsS (makeF cs)) ∧ Below w.heap.size w w' := by
  obtain ⟨i0, hi, hz0, hz1, hz2⟩ := info_parts infoS
  have HU := Lib.hid hU
  clear hU
  go_enter Tryd.func14, Tryd.ntmps14
  go_wp2
  go_loopg [3, 4] (mkN cs) (fun g s3 s4 wx => ∃ m i : Nat, m + g = mkN cs ∧ Hid (i = 2 * m) ∧ i ≤ 60 ∧ s4 = .int .i64 i ∧ wx.ownsRow w.heap.size 42 2 s3 (mkTo cs m).length (cellsS (mkTo cs m)) ∧ Below w.heap.size w wx)
  case atStart => exact ⟨0, 0, by omega, Lib.hid rfl, by omega, rfl, World.ownsRow_nil _ _ _ _, Below.refl _ _⟩
  case round =>
    obtain ⟨m, i, hmg, HI, hi60, rfl, hown, hb⟩ := hrel
    have hmN : mkN cs = min (cs.length / 2) 30 := rfl
    cases gk with
    | zero =>
      have hend : ¬ (i + 1 < cs.length ∧ i < 60) := by have := HI.out; omega
      have hmk : makeF cs = mkTo cs m := by unfold makeF; rw [show mkN cs = m from by omega]
      rw [← hmk] at hown
      clear hmk hmN
      by_cases h1 : i + 1 < cs.length
      · have h1I : (i : Int) + 1 < (cs.length : Int) := by omega
        have h2 : ¬ ((i : Int) < 60) := by omega
        have h2d : decide ((i : Int) < 60) = false := decide_eq_false h2
        go_wp2
        go_ret
        exact ⟨_, rfl, hown, hb⟩
      · have h1I : ¬ ((i : Int) + 1 < (cs.length : Int)) := by omega
        have h1d : decide ((i : Int) + 1 < (cs.length : Int)) = false := decide_eq_false h1I
        go_wp2
        go_ret
        exact ⟨_, rfl, hown, hb⟩
    | succ g =>
      have h1 : i + 1 < cs.length := by have := HI.out; omega
      have h2 : i < 60 := by have := HI.out; omega
      have h1I : (i : Int) + 1 < (cs.length : Int) := by omega
      have h2I : (i : Int) < 60 := by omega
      have h3I : (i : Int) < (cs.length : Int) := by omega
      obtain ⟨hr, hcell⟩ := HU.out
      obtain ⟨b, off, rfl, hbb, hc⟩ := hcell (by intro h; rw [h] at h1; simp at h1)
      have c0 := hc i (by omega)
      have c1 := hc (i + 1) h1
      obtain ⟨x0, x1⟩ := hr cs[i] (List.getElem_mem _)
      obtain ⟨y0, y1⟩ := hr cs[i + 1] (List.getElem_mem _)
      have hpair : pairF cs m = (placeF cs[i], placeF cs[i] + cs[i + 1] % 40) := by
        have := HI.out
        unfold pairF
        rw [← this, List.getElem?_eq_getElem (by omega), List.getElem?_eq_getElem h1]; rfl
      have HP := Lib.hid hpair
      have hpb := placeF_in cs[i] x0
      have c0' := (hb.cell (p := ⟨b, off + i, none⟩) hbb).trans c0
      have c1' := (hb.cell (p := ⟨b, off + (i + 1), none⟩) hbb).trans c1
      clear hc hcell hr c0 c1 hpair
      generalize cs[i] = x at *
      generalize cs[i + 1] = y at *
      have hy40 : 0 ≤ y % 40 := by omega
      have hy41 : y % 40 ≤ 39 := by omega
      have hsz := hb.size
      have hml := mkTo_len cs m
      have HML := Lib.hid hml
      have hml2 : (mkTo cs m).length ≤ 30 := by rw [hml]; omega
      have hN30 : mkN cs ≤ 30 := by unfold mkN; omega
      clear hml hmN
      go_wp2_with fail
      refine (place_any x x0 x1 _).mono ?_
      rintro e w' ⟨rfl, rfl⟩
      generalize placeF x = px at *
      obtain ⟨hp0, hp1⟩ := hpb
      go_wp2_with (at_builtin; refine wpList_append_own _ rfl _ _ 28 rfl w.heap.size 42 i0 (.agg #[.int .i64 0, .int .i64 0]) 2 16 Tryd.underlying28 hi hz0 hz1 hz2 rfl (by decide) _ _ _ rfl (hown.alloc _) ⟨wr.heap.size, 0, none⟩ 1 1 [.int .i64 px, .int .i64 (px + y % 40)] rfl rfl (cell_news _ _ _) (by simp [Value.oneCell']) (by unfold maxLen; omega) (by omega) (by rw [World.size_alloc]; omega) ?_; intro v' w2 hown' hgrow _)
      go_roundg g
      case measure => omega
      case rel => exact ⟨m + 1, i + 2, by omega, Lib.hid (by have := HI.out; omega), by have := HI.out; omega, by go_num, by rw [mkTo_succ, HP.out, cellsS_append, List.length_append]; exact hown', (hb.alloc hsz _).grown hgrow (by rw [World.size_alloc]; omega) (fun j hj => (hown.lt j hj).1)⟩
end Go.Proofs.YtkphbjppmiefkaaDoor
