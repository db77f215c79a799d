/- A definition's node as it is, but that what lies behind its lists is not handed out. -/
import Derived.Test.YtahgljglleeloaaGreatDoorRDefs
import Derived.StillTailTactics
namespace Go.Proofs.YtahgljglleeloaaGreatDoor
open Go.RowKit Go.Shelf Go.Maps SetM PropsM RxM

set_option maxRecDepth 100000 in
theorem clipN_c (P : Option Addr) (n c : Nat) (W : World) (hn : n ≤ c) :
    Calls Tryz.prog 109 #[.slice P n c] W fun e W' => e = .returned (.slice P n n) ∧ W' = W := by
  go_enter Tryz.func109, Tryz.ntmps109
  go_wp2
  go_ret
  exact ⟨rfl, rfl⟩
theorem drew_set (w : World) (a : Addr) (v : Value) : (w.setCell a v).drew = w.drew.setCell a v := rfl
set_option maxRecDepth 100000 in
set_option maxHeartbeats 2000000 in
theorem clipped_c (k : Int) (sp : Option Addr) (sn sc : Nat) (kp : Option Addr) (kn kc : Nat) (mn mx : Int) (hsn : sn ≤ sc) (hkn : kn ≤ kc) (W : World) :
    Calls Tryz.prog 90 #[.agg #[.int .u8 k, .slice sp sn sc, .slice kp kn kc, .int .i64 mn, .int .i64 mx]] W fun e W' => e = .returned (.agg #[.int .u8 k, .slice sp sn sn, .slice kp kn kn, .int .i64 mn, .int .i64 mx]) ∧ Below W.heap.size W W' := by
  obtain ⟨U, hU⟩ : ∃ U, U = (W.alloc (.cells #[.int .u8 k, .slice sp sn sc, .slice kp kn kc, .int .i64 mn, .int .i64 mx] 27)).alloc (.cells #[.int .u8 0, .slice none 0 0, .slice none 0 0, .int .i64 0, .int .i64 0] 27) := ⟨_, rfl⟩
  have hb1 := (Below.refl W.heap.size W).alloc (Nat.le_refl _) (.cells #[.int .u8 k, .slice sp sn sc, .slice kp kn kc, .int .i64 mn, .int .i64 mx] 27)
  have hz1 := World.size_alloc W (.cells #[.int .u8 k, .slice sp sn sc, .slice kp kn kc, .int .i64 mn, .int .i64 mx] 27)
  have hk1 : U.heap[W.heap.size]? = some (.cells #[.int .u8 k, .slice sp sn sc, .slice kp kn kc, .int .i64 mn, .int .i64 mx] 27 (0, 0)) := by
    rw [hU]
    exact ((((Below.refl _ _).alloc (Nat.le_refl _) _).block _ (by omega)) : _).trans (heap_alloc_new W _)
  have HB : Hid (Below W.heap.size W U) := Lib.hid (by rw [hU]; exact hb1.alloc hb1.size _)
  have h5 : B5 U (W.heap.size + 1) := by
    rw [hU, ← hz1]
    exact B5.new _ _ _ _ _ _
  have hc : ∀ i, U.cell? ⟨W.heap.size, i, none⟩ = (#[.int .u8 k, .slice sp sn sc, .slice kp kn kc, .int .i64 mn, .int .i64 mx] : Array Value)[i]? := fun i => cell_of_row U _ i _ _ _ hk1
  have hf : ∀ i, U.frozen? ⟨W.heap.size, i, none⟩ = false := fun i => by simp [World.frozen?, hk1]
  have c0 := hc 0
  have c1 := hc 1
  have c2 := hc 2
  have c3 := hc 3
  have c4 := hc 4
  have f1 := hf 1
  have f2 := hf 2
  obtain ⟨⟨x0, x1, x2, x3, x4, k0, k1, k2, k3, k4⟩, z0, z1, z2, z3, z4⟩ := h5.cells
  have H5 := Lib.hid h5
  have hs0 := clipS_c sp sn sc U.drew hsn
  have hs1 := clipN_c kp kn kc U.drew hkn
  clear hb1 hk1 h5 hc hf
  simp only [List.getElem?_toArray, List.getElem?_cons_zero, List.getElem?_cons_succ] at c0 c1 c2 c3 c4
  go_enter Tryz.func90, Tryz.ntmps90
  go_wp2_with fail
  rw [← hU]
  clear hU
  go_still_tail 7, (by kernel_rfl)
  still_call hs0
  still_step
  still_step
  still_call hs1
  still_step
  refine wpStill_nil ?_
  change wpList _ _ _ _ _ U.drew
  go_wp2
  obtain ⟨y0, y1, y2, y3, y4, h5⟩ := H5.out
  have h5' : B5 ((U.setCell ⟨W.heap.size, 1, none⟩ (.slice sp sn sn)).setCell ⟨W.heap.size, 2, none⟩ (.slice kp kn kn)).drew (W.heap.size + 1) :=
    ⟨y0, y1, y2, y3, y4, (Below.heap_setCell _ _ _ _ (by show W.heap.size + 1 ≠ W.heap.size; omega)).trans ((Below.heap_setCell _ _ _ _ (by show W.heap.size + 1 ≠ W.heap.size; omega)).trans h5)⟩
  rw [drew_set, drew_set, drew_set, drew_set, drew_set]
  exact ret_node rfl rfl h5' ⟨rfl, put5_below _ _ _ _ _ ((HB.out.setCell (p := ⟨W.heap.size, 1, none⟩) (Nat.le_refl _) _).setCell (p := ⟨W.heap.size, 2, none⟩) (Nat.le_refl _) _).drew (Nat.le_succ _)⟩
end Go.Proofs.YtahgljglleeloaaGreatDoor
