/- seqs.rowOf: the row of a piece. -/
import Derived.Test.YtgaalkcociifmaaDoorSRange
import Derived.Test.YtgaalkcociifmaaDoorUEnc
import Derived.Deep.RegionWith
import Derived.BigRegion
namespace Go.Proofs.YtgaalkcociifmaaDoor
open Go.RowKit Go.Shelf SeqM
open U.UtfM (enc)

def RowNew (w : World) (s : Sp) (e : Ending) (w' : World) : Prop :=
  ∃ g c, e = .returned (.slice (some ⟨g, 0, none⟩) (rowOf s).length c) ∧ w'.heap[g]? = some (.cells (cellsR (rowOf s)).toArray 64 (0, 0)) ∧ w.heap.size ≤ g ∧ Below w.heap.size w w'
theorem by_cells {W : World} {A : Option Addr} {l : List Int} (h : U.By W A l) (hne : l ≠ []) : ∃ b off, A = some ⟨b, off, none⟩ ∧ b < W.heap.size ∧ ∀ j (h : j < l.length), W.cell? ⟨b, off + j, none⟩ = some (.int .u8 l[j]) := h.2 hne
/-- Encode, the bytes written out. -/
theorem enc_lit (r : Int) (l : List Int) (n : Nat) (h : enc r = l) (hn : l.length = n) (w : World) : Calls Tryd.prog 71 #[.int .i64 r] w fun e w' => ∃ P c, e = .returned (.slice P n c) ∧ U.By w' P l ∧ Below w.heap.size w w' := by
  refine (U.enc_n r w).mono ?_
  rintro e w' ⟨P, c, h1, h2, _, _, _, _, _, h3⟩
  rw [h] at h1 h2
  rw [hn] at h1
  exact ⟨P, c, h1, h2, h3⟩
theorem row_shut (w : World) (s : Sp) (l : List Rg) (n : Nat) (h : rowOf s = l) (hn : l.length = n) {w' : World} (g : Nat) (C : Array Value) (hC : C = (cellsR l).toArray) (hg : w'.heap[g]? = some (.cells C 64 (0, 0))) (hl : w.heap.size ≤ g) (hb : Below w.heap.size w w') :
    RowNew w s (.returned (.slice (some ⟨g, 0, none⟩) n n)) w' := ⟨g, n, by rw [h, hn], by rw [h, hg, hC], hl, hb⟩

set_option maxRecDepth 100000 in
set_option maxHeartbeats 4000000 in
theorem row1 (a b : Int) (x0 y0 : Int) (hx : enc a = [x0]) (hy : enc b = [y0]) (w : World) :
    Calls Tryd.prog 58 #[.agg #[.int .i64 a, .int .i64 b]] w (RowNew w (a, b)) := by
  have hmk : ∀ w, (Instr.makeSlice 37 (.int .i64 1) (.int .i64 1)).run Tryd.prog w = .ok (.slice (some ⟨w.heap.size, 0, none⟩) 1 1) (w.alloc (.cells #[.int .u8 0, .int .u8 0] 64)) := fun _ => by kernel_rfl
  have hrow : rowOf (a, b) = [(x0, y0)] := by unfold rowOf; rw [hx, hy]; rfl
  have HROW := Lib.hid hrow
  have HA := Lib.hid (fun w => enc_lit a _ 1 hx rfl w)
  have HB := Lib.hid (fun w => enc_lit b _ 1 hy rfl w)
  clear hx hy hrow
  go_enter Tryd.func58, Tryd.ntmps58
  go_wp2
  have bw : Below w.heap.size w (w.alloc (.cells #[.int .i64 a, .int .i64 b] 43)) := (Below.refl _ _).alloc (Nat.le_refl _) _
  have q0 : (w.alloc (.cells #[.int .i64 a, .int .i64 b] 43)).cell? ⟨w.heap.size, 0, none⟩ = some (.int .i64 a) := by rw [cell_of_row _ w.heap.size 0 _ _ _ (heap_alloc_new w _)]; rfl
  have q1 : (w.alloc (.cells #[.int .i64 a, .int .i64 b] 43)).cell? ⟨w.heap.size, 1, none⟩ = some (.int .i64 b) := by rw [cell_of_row _ w.heap.size 1 _ _ _ (heap_alloc_new w _)]; rfl
  have hsz : w.heap.size < (w.alloc (.cells #[.int .i64 a, .int .i64 b] 43)).heap.size := by rw [World.size_alloc]; omega
  have HBW := Lib.hid bw
  clear bw
  generalize w.alloc (.cells #[.int .i64 a, .int .i64 b] 43) = V at *
  generalize hn6 : w.heap.size = n6 at *
  have HN6 := Lib.hid hn6
  clear hn6
  have hrf : Below V.heap.size V V.drew := ⟨rfl, rfl, rfl, Nat.le_refl _, fun _ _ => rfl⟩
  have hq0 : ∀ U, Below V.heap.size V U → U.cell? ⟨n6, 0, none⟩ = some (.int .i64 a) := fun U hU => (hU.cell (p := ⟨n6, 0, none⟩) hsz).trans q0
  have hq1 : ∀ U, Below V.heap.size V U → U.cell? ⟨n6, 1, none⟩ = some (.int .i64 b) := fun U hU => (hU.cell (p := ⟨n6, 1, none⟩) hsz).trans q1
  have tok : True := trivial
  first | (go_region_with (first | (go_at_call 71; (with_reducible refine (HA.out _).mono ?_); have _t := tok; clear tok; rintro e w1 ⟨P1, c1, rfl, h1, b1⟩; have r1 : Below V.heap.size V w1 := hrf.trans (b1.mono hrf.size); have HB1 := Lib.hid h1; clear h1 b1) | (go_at_call 71; (with_reducible refine (HB.out _).mono ?_); rintro e w2 ⟨P2, c2, rfl, h2, b2⟩; have r2 : Below V.heap.size V w2 := r1.trans (b2.mono r1.size); have HB1' := Lib.hid (HB1.out.step b2); clear b2))) | fail
  all_goals
    obtain ⟨g1, o1, rfl, l1, hc1⟩ := by_cells HB1'.out (by simp)
    obtain ⟨g2, o2, rfl, l2, hc2⟩ := by_cells h2 (by simp)
    have e0 := hc1 0 (by simp)
    have f0 := hc2 0 (by simp)
    simp only [List.getElem_cons_zero, Nat.add_zero] at e0 f0
    have hbl := HBW.out.trans (r2.mono (by rw [← HN6.out]; exact HBW.out.size))
    rw [← HN6.out] at hbl
    have HBL := Lib.hid hbl
    clear hq0 hq1 hc1 hc2 HB1 HB1' h2 r1 r2 hbl q0 q1 hsz hrf
    go_wp2
    refine wp_loop_rounds 2 ?_
    rw [rounds_succ]
    go_wp2
    go_region
    go_wp2
    rw [rounds_succ]
    go_wp2
    go_ret
    refine row_shut w (a, b) _ 1 HROW.out rfl w2.heap.size _ ?_ (heap_alloc_new _ _) HBL.out.size ?_
    · rfl
    · exact (HBL.out.alloc HBL.out.size _).drew

set_option maxRecDepth 100000 in
set_option maxHeartbeats 4000000 in
theorem row2 (a b : Int) (x0 x1 y0 y1 : Int) (hx : enc a = [x0, x1]) (hy : enc b = [y0, y1]) (w : World) :
    Calls Tryd.prog 58 #[.agg #[.int .i64 a, .int .i64 b]] w (RowNew w (a, b)) := by
  have hmk : ∀ w, (Instr.makeSlice 37 (.int .i64 2) (.int .i64 2)).run Tryd.prog w = .ok (.slice (some ⟨w.heap.size, 0, none⟩) 2 2) (w.alloc (.cells #[.int .u8 0, .int .u8 0, .int .u8 0, .int .u8 0] 64)) := fun _ => by kernel_rfl
  have hrow : rowOf (a, b) = [(x0, y0), (x1, y1)] := by unfold rowOf; rw [hx, hy]; rfl
  have HROW := Lib.hid hrow
  have HA := Lib.hid (fun w => enc_lit a _ 2 hx rfl w)
  have HB := Lib.hid (fun w => enc_lit b _ 2 hy rfl w)
  clear hx hy hrow
  go_enter Tryd.func58, Tryd.ntmps58
  go_wp2
  have bw : Below w.heap.size w (w.alloc (.cells #[.int .i64 a, .int .i64 b] 43)) := (Below.refl _ _).alloc (Nat.le_refl _) _
  have q0 : (w.alloc (.cells #[.int .i64 a, .int .i64 b] 43)).cell? ⟨w.heap.size, 0, none⟩ = some (.int .i64 a) := by rw [cell_of_row _ w.heap.size 0 _ _ _ (heap_alloc_new w _)]; rfl
  have q1 : (w.alloc (.cells #[.int .i64 a, .int .i64 b] 43)).cell? ⟨w.heap.size, 1, none⟩ = some (.int .i64 b) := by rw [cell_of_row _ w.heap.size 1 _ _ _ (heap_alloc_new w _)]; rfl
  have hsz : w.heap.size < (w.alloc (.cells #[.int .i64 a, .int .i64 b] 43)).heap.size := by rw [World.size_alloc]; omega
  have HBW := Lib.hid bw
  clear bw
  generalize w.alloc (.cells #[.int .i64 a, .int .i64 b] 43) = V at *
  generalize hn6 : w.heap.size = n6 at *
  have HN6 := Lib.hid hn6
  clear hn6
  have hrf : Below V.heap.size V V.drew := ⟨rfl, rfl, rfl, Nat.le_refl _, fun _ _ => rfl⟩
  have hq0 : ∀ U, Below V.heap.size V U → U.cell? ⟨n6, 0, none⟩ = some (.int .i64 a) := fun U hU => (hU.cell (p := ⟨n6, 0, none⟩) hsz).trans q0
  have hq1 : ∀ U, Below V.heap.size V U → U.cell? ⟨n6, 1, none⟩ = some (.int .i64 b) := fun U hU => (hU.cell (p := ⟨n6, 1, none⟩) hsz).trans q1
  have tok : True := trivial
  first | (go_region_with (first | (go_at_call 71; (with_reducible refine (HA.out _).mono ?_); have _t := tok; clear tok; rintro e w1 ⟨P1, c1, rfl, h1, b1⟩; have r1 : Below V.heap.size V w1 := hrf.trans (b1.mono hrf.size); have HB1 := Lib.hid h1; clear h1 b1) | (go_at_call 71; (with_reducible refine (HB.out _).mono ?_); rintro e w2 ⟨P2, c2, rfl, h2, b2⟩; have r2 : Below V.heap.size V w2 := r1.trans (b2.mono r1.size); have HB1' := Lib.hid (HB1.out.step b2); clear b2))) | fail
  all_goals
    obtain ⟨g1, o1, rfl, l1, hc1⟩ := by_cells HB1'.out (by simp)
    obtain ⟨g2, o2, rfl, l2, hc2⟩ := by_cells h2 (by simp)
    have e0 := hc1 0 (by simp)
    have f0 := hc2 0 (by simp)
    simp only [List.getElem_cons_zero, Nat.add_zero] at e0 f0
    have e1 := hc1 1 (by simp)
    have f1 := hc2 1 (by simp)
    simp only [List.getElem_cons_zero, List.getElem_cons_succ] at e1 f1
    have hbl := HBW.out.trans (r2.mono (by rw [← HN6.out]; exact HBW.out.size))
    rw [← HN6.out] at hbl
    have HBL := Lib.hid hbl
    clear hq0 hq1 hc1 hc2 HB1 HB1' h2 r1 r2 hbl q0 q1 hsz hrf
    go_wp2
    refine wp_loop_rounds 3 ?_
    rw [rounds_succ]
    go_wp2
    go_region
    go_wp2
    rw [rounds_succ]
    go_wp2
    go_region
    go_wp2
    rw [rounds_succ]
    go_wp2
    go_ret
    refine row_shut w (a, b) _ 2 HROW.out rfl w2.heap.size _ ?_ (heap_alloc_new _ _) HBL.out.size ?_
    · rfl
    · exact (HBL.out.alloc HBL.out.size _).drew.drew

set_option maxRecDepth 100000 in
set_option maxHeartbeats 4000000 in
theorem row3 (a b : Int) (x0 x1 x2 y0 y1 y2 : Int) (hx : enc a = [x0, x1, x2]) (hy : enc b = [y0, y1, y2]) (w : World) :
    Calls Tryd.prog 58 #[.agg #[.int .i64 a, .int .i64 b]] w (RowNew w (a, b)) := by
  have hmk : ∀ w, (Instr.makeSlice 37 (.int .i64 3) (.int .i64 3)).run Tryd.prog w = .ok (.slice (some ⟨w.heap.size, 0, none⟩) 3 3) (w.alloc (.cells #[.int .u8 0, .int .u8 0, .int .u8 0, .int .u8 0, .int .u8 0, .int .u8 0] 64)) := fun _ => by kernel_rfl
  have hrow : rowOf (a, b) = [(x0, y0), (x1, y1), (x2, y2)] := by unfold rowOf; rw [hx, hy]; rfl
  have HROW := Lib.hid hrow
  have HA := Lib.hid (fun w => enc_lit a _ 3 hx rfl w)
  have HB := Lib.hid (fun w => enc_lit b _ 3 hy rfl w)
  clear hx hy hrow
  go_enter Tryd.func58, Tryd.ntmps58
  go_wp2
  have bw : Below w.heap.size w (w.alloc (.cells #[.int .i64 a, .int .i64 b] 43)) := (Below.refl _ _).alloc (Nat.le_refl _) _
  have q0 : (w.alloc (.cells #[.int .i64 a, .int .i64 b] 43)).cell? ⟨w.heap.size, 0, none⟩ = some (.int .i64 a) := by rw [cell_of_row _ w.heap.size 0 _ _ _ (heap_alloc_new w _)]; rfl
  have q1 : (w.alloc (.cells #[.int .i64 a, .int .i64 b] 43)).cell? ⟨w.heap.size, 1, none⟩ = some (.int .i64 b) := by rw [cell_of_row _ w.heap.size 1 _ _ _ (heap_alloc_new w _)]; rfl
  have hsz : w.heap.size < (w.alloc (.cells #[.int .i64 a, .int .i64 b] 43)).heap.size := by rw [World.size_alloc]; omega
  have HBW := Lib.hid bw
  clear bw
  generalize w.alloc (.cells #[.int .i64 a, .int .i64 b] 43) = V at *
  generalize hn6 : w.heap.size = n6 at *
  have HN6 := Lib.hid hn6
  clear hn6
  have hrf : Below V.heap.size V V.drew := ⟨rfl, rfl, rfl, Nat.le_refl _, fun _ _ => rfl⟩
  have hq0 : ∀ U, Below V.heap.size V U → U.cell? ⟨n6, 0, none⟩ = some (.int .i64 a) := fun U hU => (hU.cell (p := ⟨n6, 0, none⟩) hsz).trans q0
  have hq1 : ∀ U, Below V.heap.size V U → U.cell? ⟨n6, 1, none⟩ = some (.int .i64 b) := fun U hU => (hU.cell (p := ⟨n6, 1, none⟩) hsz).trans q1
  have tok : True := trivial
  first | (go_region_with (first | (go_at_call 71; (with_reducible refine (HA.out _).mono ?_); have _t := tok; clear tok; rintro e w1 ⟨P1, c1, rfl, h1, b1⟩; have r1 : Below V.heap.size V w1 := hrf.trans (b1.mono hrf.size); have HB1 := Lib.hid h1; clear h1 b1) | (go_at_call 71; (with_reducible refine (HB.out _).mono ?_); rintro e w2 ⟨P2, c2, rfl, h2, b2⟩; have r2 : Below V.heap.size V w2 := r1.trans (b2.mono r1.size); have HB1' := Lib.hid (HB1.out.step b2); clear b2))) | fail
  all_goals
    obtain ⟨g1, o1, rfl, l1, hc1⟩ := by_cells HB1'.out (by simp)
    obtain ⟨g2, o2, rfl, l2, hc2⟩ := by_cells h2 (by simp)
    have e0 := hc1 0 (by simp)
    have f0 := hc2 0 (by simp)
    simp only [List.getElem_cons_zero, Nat.add_zero] at e0 f0
    have e1 := hc1 1 (by simp)
    have f1 := hc2 1 (by simp)
    simp only [List.getElem_cons_zero, List.getElem_cons_succ] at e1 f1
    have e2 := hc1 2 (by simp)
    have f2 := hc2 2 (by simp)
    simp only [List.getElem_cons_zero, List.getElem_cons_succ] at e2 f2
    have hbl := HBW.out.trans (r2.mono (by rw [← HN6.out]; exact HBW.out.size))
    rw [← HN6.out] at hbl
    have HBL := Lib.hid hbl
    clear hq0 hq1 hc1 hc2 HB1 HB1' h2 r1 r2 hbl q0 q1 hsz hrf
    go_wp2
    refine wp_loop_rounds 4 ?_
    rw [rounds_succ]
    go_wp2
    go_region
    go_wp2
    rw [rounds_succ]
    go_wp2
    go_region
    go_wp2
    rw [rounds_succ]
    go_wp2
    go_region
    go_wp2
    rw [rounds_succ]
    go_wp2
    go_ret
    refine row_shut w (a, b) _ 3 HROW.out rfl w2.heap.size _ ?_ (heap_alloc_new _ _) HBL.out.size ?_
    · rfl
    · exact (HBL.out.alloc HBL.out.size _).drew.drew.drew

set_option maxRecDepth 100000 in
set_option maxHeartbeats 4000000 in
theorem row4 (a b : Int) (x0 x1 x2 x3 y0 y1 y2 y3 : Int) (hx : enc a = [x0, x1, x2, x3]) (hy : enc b = [y0, y1, y2, y3]) (w : World) :
    Calls Tryd.prog 58 #[.agg #[.int .i64 a, .int .i64 b]] w (RowNew w (a, b)) := by
  have hmk : ∀ w, (Instr.makeSlice 37 (.int .i64 4) (.int .i64 4)).run Tryd.prog w = .ok (.slice (some ⟨w.heap.size, 0, none⟩) 4 4) (w.alloc (.cells #[.int .u8 0, .int .u8 0, .int .u8 0, .int .u8 0, .int .u8 0, .int .u8 0, .int .u8 0, .int .u8 0] 64)) := fun _ => by kernel_rfl
  have hrow : rowOf (a, b) = [(x0, y0), (x1, y1), (x2, y2), (x3, y3)] := by unfold rowOf; rw [hx, hy]; rfl
  have HROW := Lib.hid hrow
  have HA := Lib.hid (fun w => enc_lit a _ 4 hx rfl w)
  have HB := Lib.hid (fun w => enc_lit b _ 4 hy rfl w)
  clear hx hy hrow
  go_enter Tryd.func58, Tryd.ntmps58
  go_wp2
  have bw : Below w.heap.size w (w.alloc (.cells #[.int .i64 a, .int .i64 b] 43)) := (Below.refl _ _).alloc (Nat.le_refl _) _
  have q0 : (w.alloc (.cells #[.int .i64 a, .int .i64 b] 43)).cell? ⟨w.heap.size, 0, none⟩ = some (.int .i64 a) := by rw [cell_of_row _ w.heap.size 0 _ _ _ (heap_alloc_new w _)]; rfl
  have q1 : (w.alloc (.cells #[.int .i64 a, .int .i64 b] 43)).cell? ⟨w.heap.size, 1, none⟩ = some (.int .i64 b) := by rw [cell_of_row _ w.heap.size 1 _ _ _ (heap_alloc_new w _)]; rfl
  have hsz : w.heap.size < (w.alloc (.cells #[.int .i64 a, .int .i64 b] 43)).heap.size := by rw [World.size_alloc]; omega
  have HBW := Lib.hid bw
  clear bw
  generalize w.alloc (.cells #[.int .i64 a, .int .i64 b] 43) = V at *
  generalize hn6 : w.heap.size = n6 at *
  have HN6 := Lib.hid hn6
  clear hn6
  have hrf : Below V.heap.size V V.drew := ⟨rfl, rfl, rfl, Nat.le_refl _, fun _ _ => rfl⟩
  have hq0 : ∀ U, Below V.heap.size V U → U.cell? ⟨n6, 0, none⟩ = some (.int .i64 a) := fun U hU => (hU.cell (p := ⟨n6, 0, none⟩) hsz).trans q0
  have hq1 : ∀ U, Below V.heap.size V U → U.cell? ⟨n6, 1, none⟩ = some (.int .i64 b) := fun U hU => (hU.cell (p := ⟨n6, 1, none⟩) hsz).trans q1
  have tok : True := trivial
  first | (go_region_with (first | (go_at_call 71; (with_reducible refine (HA.out _).mono ?_); have _t := tok; clear tok; rintro e w1 ⟨P1, c1, rfl, h1, b1⟩; have r1 : Below V.heap.size V w1 := hrf.trans (b1.mono hrf.size); have HB1 := Lib.hid h1; clear h1 b1) | (go_at_call 71; (with_reducible refine (HB.out _).mono ?_); rintro e w2 ⟨P2, c2, rfl, h2, b2⟩; have r2 : Below V.heap.size V w2 := r1.trans (b2.mono r1.size); have HB1' := Lib.hid (HB1.out.step b2); clear b2))) | fail
  all_goals
    obtain ⟨g1, o1, rfl, l1, hc1⟩ := by_cells HB1'.out (by simp)
    obtain ⟨g2, o2, rfl, l2, hc2⟩ := by_cells h2 (by simp)
    have e0 := hc1 0 (by simp)
    have f0 := hc2 0 (by simp)
    simp only [List.getElem_cons_zero, Nat.add_zero] at e0 f0
    have e1 := hc1 1 (by simp)
    have f1 := hc2 1 (by simp)
    simp only [List.getElem_cons_zero, List.getElem_cons_succ] at e1 f1
    have e2 := hc1 2 (by simp)
    have f2 := hc2 2 (by simp)
    simp only [List.getElem_cons_zero, List.getElem_cons_succ] at e2 f2
    have e3 := hc1 3 (by simp)
    have f3 := hc2 3 (by simp)
    simp only [List.getElem_cons_zero, List.getElem_cons_succ] at e3 f3
    have hbl := HBW.out.trans (r2.mono (by rw [← HN6.out]; exact HBW.out.size))
    rw [← HN6.out] at hbl
    have HBL := Lib.hid hbl
    clear hq0 hq1 hc1 hc2 HB1 HB1' h2 r1 r2 hbl q0 q1 hsz hrf
    go_wp2
    refine wp_loop_rounds 5 ?_
    rw [rounds_succ]
    go_wp2
    go_region
    go_wp2
    rw [rounds_succ]
    go_wp2
    go_region
    go_wp2
    rw [rounds_succ]
    go_wp2
    go_region
    go_wp2
    rw [rounds_succ]
    go_wp2
    go_region
    go_wp2
    rw [rounds_succ]
    go_wp2
    go_ret
    refine row_shut w (a, b) _ 4 HROW.out rfl w2.heap.size _ ?_ (heap_alloc_new _ _) HBL.out.size ?_
    · rfl
    · exact (HBL.out.alloc HBL.out.size _).drew.drew.drew.drew
end Go.Proofs.YtgaalkcociifmaaDoor
