/- rx.closed at the law's definition. -/
import Derived.Test.YtahgljglleeloaaGreatDoorRCR
import Derived.Deep.DeepCutAuto
import Derived.Deep.RegionWith
namespace Go.Proofs.YtahgljglleeloaaGreatDoor
open Go.RowKit Go.Shelf Go.Maps SetM PropsM RxM

set_option maxRecDepth 100000 in
set_option maxHeartbeats 8000000 in
theorem closed8 {W : World} {v : Value} {g1 g2 kc kc1 : Nat} {sp sp1 l2p pa pb : Option Addr} {sc sc1 l2c ca cb : Nat} {G1 G2 : Array Value} (h8 : In8 W v g1 g2 kc kc1 sp sp1 l2p pa pb sc sc1 l2c ca cb G1 G2) (hC : Cf W W) :
    Calls Tryz.prog 89 #[v] W fun e W' => ∃ u, e = .returned u ∧ NV W' (fun b => W.heap.size ≤ b) u c8 ∧ Below W.heap.size W W' := by
  obtain rfl := h8.v
  obtain ⟨B0, hB0⟩ : ∃ B, B = W.heap.size := ⟨_, rfl⟩
  obtain ⟨B1, hB1⟩ : ∃ B, B = W.heap.size + 1 := ⟨_, rfl⟩
  obtain ⟨M, hMe⟩ : ∃ B, B = W.heap.size + 1 + 1 := ⟨_, rfl⟩
  obtain ⟨C, hCe⟩ : ∃ B, B = W.heap.size + 1 + 1 + 1 := ⟨_, rfl⟩
  obtain ⟨V, hV⟩ : ∃ V, V = (((W.alloc (.cells #[.int .u8 3, .slice sp 0 sc, .slice (some ⟨g1, 0, none⟩) 2 kc, .int .i64 0, .int .i64 0] 27)).alloc (.cells #[.int .u8 0, .slice none 0 0, .slice none 0 0, .int .i64 0, .int .i64 0] 27)).alloc (.map #[] 0)).alloc (.cells #[.map (some M), .slice none 0 0] 125) := ⟨_, rfl⟩
  have hmk : ∀ w, (Instr.makeMap 122 none).run Tryz.prog w = .ok (.map (some w.heap.size)) (w.alloc (.map #[] 0)) := fun _ => by kernel_rfl
  have z1 := World.size_alloc W (.cells #[.int .u8 3, .slice sp 0 sc, .slice (some ⟨g1, 0, none⟩) 2 kc, .int .i64 0, .int .i64 0] 27)
  have z2 := World.size_alloc (W.alloc (.cells #[.int .u8 3, .slice sp 0 sc, .slice (some ⟨g1, 0, none⟩) 2 kc, .int .i64 0, .int .i64 0] 27)) (.cells #[.int .u8 0, .slice none 0 0, .slice none 0 0, .int .i64 0, .int .i64 0] 27)
  have z3 := World.size_alloc ((W.alloc (.cells #[.int .u8 3, .slice sp 0 sc, .slice (some ⟨g1, 0, none⟩) 2 kc, .int .i64 0, .int .i64 0] 27)).alloc (.cells #[.int .u8 0, .slice none 0 0, .slice none 0 0, .int .i64 0, .int .i64 0] 27)) (.map #[] 0)
  have hb : Below W.heap.size W V := by
    rw [hV]
    exact ((((Below.refl W.heap.size W).alloc (Nat.le_refl _) _).alloc (by omega) _).alloc (by omega) _).alloc (by omega) _
  have hVz : V.heap.size = W.heap.size + 4 := by rw [hV, World.size_alloc, z3, z2, z1]
  have hN : V.heap[B0]? = some (.cells #[.int .u8 3, .slice sp 0 sc, .slice (some ⟨g1, 0, none⟩) 2 kc, .int .i64 0, .int .i64 0] 27 (0, 0)) := by
    rw [hV, heap_alloc_old _ _ _ (by omega), heap_alloc_old _ _ _ (by omega), heap_alloc_old _ _ _ (by omega), hB0]; exact heap_alloc_new W _
  have hR : V.heap[B1]? = some (.cells #[.int .u8 0, .slice none 0 0, .slice none 0 0, .int .i64 0, .int .i64 0] 27 (0, 0)) := by
    rw [hV, heap_alloc_old _ _ _ (by omega), heap_alloc_old _ _ _ (by omega), hB1, ← z1]; exact heap_alloc_new _ _
  have hM : V.heap[M]? = some (.map #[] 0) := by
    rw [hV, heap_alloc_old _ _ _ (by omega), hMe, ← z1, ← z2]; exact heap_alloc_new _ _
  have hCC : V.heap[C]? = some (.cells #[.map (some M), .slice none 0 0] 125 (0, 0)) := by
    have := heap_alloc_new (((W.alloc (.cells #[.int .u8 3, .slice sp 0 sc, .slice (some ⟨g1, 0, none⟩) 2 kc, .int .i64 0, .int .i64 0] 27)).alloc (.cells #[.int .u8 0, .slice none 0 0, .slice none 0 0, .int .i64 0, .int .i64 0] 27)).alloc (.map #[] 0)) (.cells #[.map (some M), .slice none 0 0] 125)
    rw [z3, z2, z1, ← hV, ← hCe] at this
    exact this
  have hcs : Cs V (C) (M) (W.heap.size + 4) #[] 0 (.slice none 0 0) 0 [] := ⟨hCC, hM, ⟨rfl, .inl ⟨rfl, rfl⟩⟩, by omega, by omega, by omega, by omega⟩
  have HNODE := row_c (C := C) (k := 3) (mn := 0) (mx := 0) (P := sp) (c := sc) (g := g1) (qc := kc) (l := []) (K := none0) (hC.step hb) (fun h => absurd rfl h) (by simp) (fun r => ⟨fun h => (mem_nil r h.2).elim, fun h => h.elim⟩) hcs (fun W' _ => miss0 g1 W') (by omega)
  simp only [List.length_nil] at HNODE
  have a0 : V.cell? ⟨B0, 0, none⟩ = some (.int .u8 3) := cell_of_row V B0 0 _ _ _ hN
  have a1 : V.cell? ⟨B0, 1, none⟩ = some (.slice sp 0 sc) := cell_of_row V B0 1 _ _ _ hN
  have a2 : V.cell? ⟨B0, 2, none⟩ = some (.slice (some ⟨g1, 0, none⟩) 2 kc) := cell_of_row V B0 2 _ _ _ hN
  have a3 : V.cell? ⟨B0, 3, none⟩ = some (.int .i64 0) := cell_of_row V B0 3 _ _ _ hN
  have a4 : V.cell? ⟨B0, 4, none⟩ = some (.int .i64 0) := cell_of_row V B0 4 _ _ _ hN
  have HNOD := Lib.hid HNODE
  have HB := Lib.hid hb
  have HVZ := Lib.hid hVz
  have HNN := Lib.hid hN
  have HRR := Lib.hid hR
  have H8 := Lib.hid h8
  have HCF := Lib.hid hC
  have HCM : Hid (C = M + 1) := Lib.hid (by omega)
  have HMe := Lib.hid hMe
  have HB1e := Lib.hid hB1
  have HB0e := Lib.hid hB0
  clear hCe hMe hB1 hB0 hb hVz hN hR hM hCC hcs z1 z2 z3 h8 hC HNODE
  go_enter Tryz.func89, Tryz.ntmps89
  go_wp2_with fail
  rw [← HMe.out, ← hV, ← HCM.out, ← HB1e.out, ← HB0e.out]
  clear hV
  go_wp2_with fail
  refine HNOD.out.mono ?_
  rintro e w1 ⟨P0, c0, o0, T1, J1, cap1, rfl, i0, n0, s0, y0, f0, ⟨t1a, t1b, t1c⟩, hT1, hcs1, fr1⟩
  have hlt : ∀ k, k < V.heap.size → k ≠ C → k ≠ M → w1.heap[k]? = V.heap[k]? := fun k hk h1 h2 => fr1.block k hk (fun h => by
    rcases h with h | h | h
    · exact h1 h
    · exact h2 h
    · cases h)
  have hsV := HVZ.out
  have hCM := HCM.out
  have hMe := HMe.out
  have hB0 := HB0e.out
  have hB1 := HB1e.out
  have hJ1 : V.heap.size ≤ J1 := t1c.resolve_left (fun e => by cases e)
  have hN1 := (hlt B0 (by omega) (by omega) (by omega)).trans HNN.out
  obtain ⟨⟨x0, x1, x2, x3, x4, k0, k1, k2, k3, k4⟩, g0, g1', g2', g3, g4⟩ := B5.cells (W := w1) (B := B0) ⟨_, _, _, _, _, hN1⟩
  obtain ⟨V2, hV2⟩ : ∃ V2, V2 = put5 w1 B0 (.int .u8 3) (.slice P0 o0.length c0) (.slice (some ⟨T1, 0, none⟩) 2 2) (.int .i64 0) (.int .i64 0) := ⟨_, rfl⟩
  have hk2 : ∀ k, k ≠ B0 → V2.heap[k]? = w1.heap[k]? := fun k hk => by rw [hV2]; exact put5_block _ _ _ _ _ _ _ k hk
  have hz2 : V2.heap.size = w1.heap.size := by rw [hV2]; exact put5_size _ _ _ _ _ _ _
  have hz1 := fr1.size
  have hzB := HB.out.size
  have HB2 : Hid (Below W.heap.size W V2) := Lib.hid (by
    have h1 : Below W.heap.size W w1 := ⟨fr1.os.trans HB.out.os, fr1.tape.trans HB.out.tape, fr1.output.trans HB.out.output, Nat.le_trans hzB hz1, fun k hk => (hlt k (by omega) (by omega) (by omega)).trans (HB.out.block k hk)⟩
    rw [hV2]
    exact put5_below _ _ _ _ _ h1 (by omega))
  have HN2 : Hid (V2.heap[B0]? = some (.cells #[.int .u8 3, .slice P0 o0.length c0, .slice (some ⟨T1, 0, none⟩) 2 2, .int .i64 0, .int .i64 0] 27 (0, 0))) := Lib.hid (by rw [hV2]; exact put5_b5 _ _ _ _ _ ⟨_, _, _, _, _, hN1⟩)
  have HR2 : Hid (B5 V2 B1) := Lib.hid ⟨_, _, _, _, _, (hk2 B1 (by omega)).trans ((hlt B1 (by omega) (by omega) (by omega)).trans HRR.out)⟩
  have HT2 : Hid (V2.heap[T1]? = some (.cells z10 27 (0, 0))) := Lib.hid ((hk2 T1 (by omega)).trans hT1)
  have HCS2 : Hid (Cs V2 C M (W.heap.size + 4) (#[].push { key := keyV g1, val := .slice (some ⟨T1, 0, none⟩) 2 2, born := 0 }) 1 (.slice (some ⟨J1, 0, none⟩) 1 cap1) 1 [.slice (some ⟨g1, 0, none⟩) 2 kc, .slice (some ⟨T1, 0, none⟩) 2 2]) := Lib.hid ⟨(hk2 C (by omega)).trans hcs1.c, (hk2 M (by omega)).trans hcs1.m, row_at hcs1.row (fun k hk => hk2 k (by have := row_lt hcs1.row hk; omega)), hcs1.cb, hcs1.mb, hcs1.ne, by rw [hz2]; exact hcs1.le⟩
  have HS0 : Hid (SetOk V2 (W.heap.size + 4) P0 c0 o0 (ClosedK none0) [C, M, T1, J1]) := Lib.hid ⟨i0, n0, s0.at (fun a ha hne _ => hk2 _ (by have := f0 a ha hne; omega)) (Nat.le_of_eq hz2.symm), y0, fun a ha hne => by
    have := f0 a ha hne
    refine ⟨by omega, fun hm => ?_⟩
    simp at hm
    omega⟩
  have HNB : Hid (W.heap.size + 4 ≤ T1 ∧ W.heap.size + 4 ≤ J1 ∧ T1 ≠ J1 ∧ T1 < V2.heap.size) := Lib.hid ⟨by omega, by omega, t1b, by rw [hz2]; exact (Array.getElem?_eq_some_iff.1 hT1).1⟩
  clear hsV hCM hMe hB0 hB1 hz2 hz1 hzB
  go_wp2_with fail
  rw [show ((((w1.setCell ⟨B0, 0, none⟩ (.int .u8 3)).setCell ⟨B0, 1, none⟩ (.slice P0 o0.length c0)).setCell ⟨B0, 2, none⟩ (.slice (some ⟨T1, 0, none⟩) 2 2)).setCell ⟨B0, 3, none⟩ (.int .i64 0)).setCell ⟨B0, 4, none⟩ (.int .i64 0) = V2 from hV2.symm]
  clear hV2 hk2 k0 k1 k2 k3 k4 g0 g1' g2' g3 g4 hN1 hJ1 hlt hT1 hcs1 fr1 t1a t1b t1c i0 n0 s0 y0 f0 HNN HRR HNOD HB hmk a0 a1 a2 a3 a4 HVZ
  have HNUM : Hid (C = W.heap.size + 1 + 1 + 1 ∧ M = W.heap.size + 1 + 1 ∧ B1 = W.heap.size + 1 ∧ B0 = W.heap.size) := Lib.hid (by have := HCM.out; have := HMe.out; have := HB1e.out; have := HB0e.out; omega)
  have HNUM : Hid (C = W.heap.size + 1 + 1 + 1 ∧ M = W.heap.size + 1 + 1 ∧ B1 = W.heap.size + 1 ∧ B0 = W.heap.size) := Lib.hid (by have := HCM.out; have := HMe.out; have := HB1e.out; have := HB0e.out; omega)
  have HNUM : Hid (C = W.heap.size + 1 + 1 + 1 ∧ M = W.heap.size + 1 + 1 ∧ B1 = W.heap.size + 1 ∧ B0 = W.heap.size) := Lib.hid (by have := HCM.out; have := HMe.out; have := HB1e.out; have := HB0e.out; omega)
  have HNUM : Hid (C = W.heap.size + 1 + 1 + 1 ∧ M = W.heap.size + 1 + 1 ∧ B1 = W.heap.size + 1 ∧ B0 = W.heap.size) := Lib.hid (by have := HCM.out; have := HMe.out; have := HB1e.out; have := HB0e.out; omega)
  have HNUM : Hid (C = W.heap.size + 1 + 1 + 1 ∧ M = W.heap.size + 1 + 1 ∧ B1 = W.heap.size + 1 ∧ B0 = W.heap.size) := Lib.hid (by have := HCM.out; have := HMe.out; have := HB1e.out; have := HB0e.out; omega)
  have HNUM : Hid (C = W.heap.size + 1 + 1 + 1 ∧ M = W.heap.size + 1 + 1 ∧ B1 = W.heap.size + 1 ∧ B0 = W.heap.size) := Lib.hid (by have := HCM.out; have := HMe.out; have := HB1e.out; have := HB0e.out; omega)
  have HNUM : Hid (C = W.heap.size + 1 + 1 + 1 ∧ M = W.heap.size + 1 + 1 ∧ B1 = W.heap.size + 1 ∧ B0 = W.heap.size) := Lib.hid (by have := HCM.out; have := HMe.out; have := HB1e.out; have := HB0e.out; omega)
  have HNUM : Hid (C = W.heap.size + 1 + 1 + 1 ∧ M = W.heap.size + 1 + 1 ∧ B1 = W.heap.size + 1 ∧ B0 = W.heap.size) := Lib.hid (by have := HCM.out; have := HMe.out; have := HB1e.out; have := HB0e.out; omega)
  have HNUM : Hid (C = W.heap.size + 1 + 1 + 1 ∧ M = W.heap.size + 1 + 1 ∧ B1 = W.heap.size + 1 ∧ B0 = W.heap.size) := Lib.hid (by have := HCM.out; have := HMe.out; have := HB1e.out; have := HB0e.out; omega)
  have HNUM : Hid (C = W.heap.size + 1 + 1 + 1 ∧ M = W.heap.size + 1 + 1 ∧ B1 = W.heap.size + 1 ∧ B0 = W.heap.size) := Lib.hid (by have := HCM.out; have := HMe.out; have := HB1e.out; have := HB0e.out; omega)
  have HNUM : Hid (C = W.heap.size + 1 + 1 + 1 ∧ M = W.heap.size + 1 + 1 ∧ B1 = W.heap.size + 1 ∧ B0 = W.heap.size) := Lib.hid (by have := HCM.out; have := HMe.out; have := HB1e.out; have := HB0e.out; omega)
  have HNUM : Hid (C = W.heap.size + 1 + 1 + 1 ∧ M = W.heap.size + 1 + 1 ∧ B1 = W.heap.size + 1 ∧ B0 = W.heap.size) := Lib.hid (by have := HCM.out; have := HMe.out; have := HB1e.out; have := HB0e.out; omega)
  refine wp_loop_rounds 3 ?_
  rw [rounds_succ]
  have HB_X1 := HB2
  have HN_X1 := HN2
  have HR_X1 := HR2
  have HT1_X1 := HT2
  have HC_X1 := HCS2
  have HS0_X1 := HS0
  clear HB2 HN2 HR2 HT2 HCS2 HS0 HCM HMe HB1e HB0e
  obtain ⟨X1, hX1⟩ : ∃ X, X = V2 := ⟨_, rfl⟩
  rw [← hX1] at HB_X1 HN_X1 HR_X1 HT1_X1 HC_X1 HS0_X1 HNB ⊢
  clear hX1 V2
  have HJ1 : Hid (J1 < X1.heap.size) := Lib.hid (row_lt HC_X1.out.row rfl).2
  -- outer round 1
  obtain ⟨⟨cur, hj1, hj2, hj3⟩, hcap⟩ := row_cells HC_X1.out.row
  have c1 : X1.cell? ⟨C, 1, none⟩ = some (.slice (some ⟨J1, 0, none⟩) 1 cap1) := cell_of_row X1 C 1 _ _ _ HC_X1.out.c
  obtain ⟨D1, hD⟩ : ∃ D, D = X1.heap.size := ⟨_, rfl⟩
  obtain ⟨V3, hV3⟩ : ∃ V3, V3 = X1.alloc (.cells #[.slice (some ⟨g1, 0, none⟩) 2 kc, .slice (some ⟨T1, 0, none⟩) 2 2] 127) := ⟨_, rfl⟩
  have hb3 : Below X1.heap.size X1 V3 := by rw [hV3]; exact (Below.refl _ X1).alloc (Nat.le_refl _) _
  have HD_V3 : Hid (V3.heap[D1]? = some (.cells #[.slice (some ⟨g1, 0, none⟩) 2 kc, .slice (some ⟨T1, 0, none⟩) 2 2] 127 (0, 0))) := Lib.hid (by rw [hD, hV3]; exact heap_alloc_new X1 _)
  have hz3 : V3.heap.size = X1.heap.size + 1 := by rw [hV3]; exact World.size_alloc _ _
  have HC_V3 := Lib.hid (HC_X1.out.kept hb3)
  have c3 : V3.cell? ⟨C, 1, none⟩ = some (.slice (some ⟨J1, 0, none⟩) 1 cap1) := cell_of_row V3 C 1 _ _ _ HC_V3.out.c
  have cz : V3.frozen? ⟨C, 1, none⟩ = false := by have := HC_V3.out.c; simp [World.frozen?, this]
  obtain ⟨Y10, hY⟩ : ∃ Y, Y = V3.setCell ⟨C, 1, none⟩ (.slice (some ⟨J1, 0, none⟩) 0 cap1) := ⟨_, rfl⟩
  have HF_Y10 : Hid (Fr (fun k => k ∈ [C]) X1 Y10) := Lib.hid ((Fr.of hb3).trans (Fr.set hY (by simp)))
  have HDE1 : Hid (D1 = X1.heap.size ∧ Y10.heap.size = X1.heap.size + 1) := Lib.hid ⟨hD, by rw [hY, World.size_setCell, hz3]⟩
  have HC_Y10 : Hid (Cs Y10 C M (W.heap.size + 4) (#[].push { key := keyV g1, val := .slice (some ⟨T1, 0, none⟩) 2 2, born := 0 }) 1 (.slice (some ⟨J1, 0, none⟩) 0 cap1) 0 []) := Lib.hid (HC_V3.out.pop hY)
  have HD_Y10 : Hid (Y10.heap[D1]? = some (.cells #[.slice (some ⟨g1, 0, none⟩) 2 kc, .slice (some ⟨T1, 0, none⟩) 2 2] 127 (0, 0))) := Lib.hid (by rw [hY]; exact (Below.heap_setCell _ _ _ D1 (by show D1 ≠ C; have := HC_X1.out.cb; have := HC_X1.out.le; omega)).trans HD_V3.out)
  have d0 : Y10.cell? ⟨D1, 0, none⟩ = some (.slice (some ⟨g1, 0, none⟩) 2 kc) := cell_of_row Y10 D1 0 _ _ _ HD_Y10.out
  have HB_Y10 := Lib.hid (HF_Y10.out.below HB_X1.out (fun k hm => by (try simp only [List.mem_cons, List.not_mem_nil, or_false] at hm); have := HNUM.out; have := HNB.out; have := HJ1.out; have := HDE1.out; omega) HB_X1.out.size)
  have HN_Y10 := Lib.hid ((HF_Y10.out.block B0 (Array.getElem?_eq_some_iff.1 HN_X1.out).1 (fun hm => by (try simp only [List.mem_cons, List.not_mem_nil, or_false] at hm); have := HNUM.out; have := HNB.out; have := HJ1.out; have := HDE1.out; omega)).trans HN_X1.out)
  have HT1_Y10 := Lib.hid ((HF_Y10.out.block T1 (Array.getElem?_eq_some_iff.1 HT1_X1.out).1 (fun hm => by (try simp only [List.mem_cons, List.not_mem_nil, or_false] at hm); have := HNUM.out; have := HNB.out; have := HJ1.out; have := HDE1.out; omega)).trans HT1_X1.out)
  have HR_Y10 : Hid (B5 Y10 B1) := Lib.hid (by obtain ⟨x0, x1, x2, x3, x4, hx⟩ := HR_X1.out; exact ⟨x0, x1, x2, x3, x4, (HF_Y10.out.block B1 (Array.getElem?_eq_some_iff.1 hx).1 (fun hm => by (try simp only [List.mem_cons, List.not_mem_nil, or_false] at hm); have := HNUM.out; have := HNB.out; have := HJ1.out; have := HDE1.out; omega)).trans hx⟩)
  have HZ_Y10 := Lib.hid HF_Y10.out.size
  have HS0_Y10 := Lib.hid (HS0_X1.out.fr (HF_Y10.out.imp (fun k hk => by simp at hk; subst hk; simp)))
  have e0 := hD
  have e1 := hV3
  have e2 := hY
  clear hb3 hj1 hD hz3 HD_V3 HC_V3 hV3 hY hcap
  go_upto_region 6 with fail
  rw [← e0, ← e1]
  clear e0 e1 c1 hj2 hj3
  go_upto_region 7 with fail
  rw [← e2]
  clear e2 c3 cz V3
  go_wp2_with fail
  clear d0
  refine wp_loop_rounds 3 ?_
  rw [rounds_succ]
  -- round 1, node 0
  have h8y := H8.out.kept HB_Y10.out
  have q0 : Y10.cell? ⟨g1, 0, none⟩ = some (Value.int .u8 2) := cell10 h8y.b1 h8y.t1 0 (by omega)
  have q1 : Y10.cell? ⟨g1, 1, none⟩ = some (Value.slice sp1 0 sc1) := cell10 h8y.b1 h8y.t1 1 (by omega)
  have q2 : Y10.cell? ⟨g1, 2, none⟩ = some (Value.slice (some ⟨g2, 0, none⟩) 2 kc1) := cell10 h8y.b1 h8y.t1 2 (by omega)
  have q3 : Y10.cell? ⟨g1, 3, none⟩ = some (Value.int .i64 0) := cell10 h8y.b1 h8y.t1 3 (by omega)
  have q4 : Y10.cell? ⟨g1, 4, none⟩ = some (Value.int .i64 0) := cell10 h8y.b1 h8y.t1 4 (by omega)
  obtain ⟨E, hE⟩ : ∃ E, E = Y10.heap.size := ⟨_, rfl⟩
  obtain ⟨Z, hZ⟩ : ∃ Z, Z = Y10.alloc (.cells #[Value.int .u8 2, Value.slice sp1 0 sc1, Value.slice (some ⟨g2, 0, none⟩) 2 kc1, Value.int .i64 0, Value.int .i64 0] 27) := ⟨_, rfl⟩
  have hbz : Below Y10.heap.size Y10 Z := by rw [hZ]; exact (Below.refl _ Y10).alloc (Nat.le_refl _) _
  have hez : Z.heap[E]? = some (.cells #[Value.int .u8 2, Value.slice sp1 0 sc1, Value.slice (some ⟨g2, 0, none⟩) 2 kc1, Value.int .i64 0, Value.int .i64 0] 27 (0, 0)) := by rw [hE, hZ]; exact heap_alloc_new Y10 _
  have z0 : Z.cell? ⟨E, 0, none⟩ = some (Value.int .u8 2) := cell_of_row Z E 0 _ _ _ hez
  have z1 : Z.cell? ⟨E, 1, none⟩ = some (Value.slice sp1 0 sc1) := cell_of_row Z E 1 _ _ _ hez
  have z2 : Z.cell? ⟨E, 2, none⟩ = some (Value.slice (some ⟨g2, 0, none⟩) 2 kc1) := cell_of_row Z E 2 _ _ _ hez
  have z3 : Z.cell? ⟨E, 3, none⟩ = some (Value.int .i64 0) := cell_of_row Z E 3 _ _ _ hez
  have z4 : Z.cell? ⟨E, 4, none⟩ = some (Value.int .i64 0) := cell_of_row Z E 4 _ _ _ hez
  have HDZ := Lib.hid ((hbz.block D1 (Array.getElem?_eq_some_iff.1 HD_Y10.out).1).trans HD_Y10.out)
  have HTZ := Lib.hid ((hbz.block T1 (Array.getElem?_eq_some_iff.1 HT1_Y10.out).1).trans HT1_Y10.out)
  have dz : Z.cell? ⟨D1, 1, none⟩ = some (.slice (some ⟨T1, 0, none⟩) 2 2) := cell_of_row Z D1 1 _ _ _ HDZ.out
  have hbd : Below W.heap.size W Z.drew := by have h := HB_Y10.out.trans (hbz.mono HB_Y10.out.size); exact ⟨h.os, h.tape, h.output, h.size, h.block⟩
  have hbyd : Below Y10.heap.size Y10 Z.drew := ⟨hbz.os, hbz.tape, hbz.output, hbz.size, hbz.block⟩
  have HNODE := row_c (C := C) (M := M) (k := 2) (mn := 0) (mx := 0) (P := sp1) (c := sc1) (g := g2) (qc := kc1) (l := []) (K := none0) (HCF.out.step hbd) (fun h => absurd rfl h) (by simp) (fun r => ⟨fun h => (mem_nil r h.2).elim, fun h => h.elim⟩) (HC_Y10.out.kept hbyd) (fun W' hb => miss1 _ _ h8y.ne ((H8.out.kept (hbd.trans (hb.mono hbd.size))).b2) ((H8.out.kept (hbd.trans (hb.mono hbd.size))).b1)) (by omega)
  simp only [List.length_nil] at HNODE
  have HND := Lib.hid HNODE
  have HBZ := Lib.hid hbz
  have e0 := hE
  have e1 := hZ
  clear h8y hbd hbyd hE hZ hez hbz HNODE
  go_upto_region 10 with fail
  rw [← e0, ← e1]
  clear e0 e1 q0 q1 q2 q3 q4
  refine wp_cutR (fun wc => Hid (RelRow (W.heap.size + 4) Y10 wc C M (W.heap.size + 4) T1 J1 g2 0 (z10) (#[].push { key := keyV g1, val := .slice (some ⟨T1, 0, none⟩) 2 2, born := 0 }) 1 kc1 2 (ClosedK none0))) ?_ ?_
  · have htriv : True := trivial
    have HLT : Hid (∀ b, (b = D1 ∨ b = T1) → ¬ (b = C ∨ b = M ∨ (Value.slice (some ⟨J1, 0, none⟩) 0 cap1).ownBlock = some b)) := Lib.hid (fun b hb h => by
      have h2 : b = C ∨ b = M ∨ b = J1 := h.imp id (fun h => h.imp id (fun h => by cases h; rfl))
      have := HNUM.out; have := HNB.out; have := HJ1.out; have := HDE1.out
      omega)
    go_region_with (go_at_call 107; (with_reducible refine HND.out.mono ?_); rintro e w5 ⟨P1, c1, o1, T2, J2, cap2, rfl, i1, n1, s1, y1, f1, htj, hT2, hcs, fr⟩; have hdw := (fr.block D1 (Array.getElem?_eq_some_iff.1 HDZ.out).1 (HLT.out _ (Or.inl rfl))).trans HDZ.out; have htw := (fr.block T1 (Array.getElem?_eq_some_iff.1 HTZ.out).1 (HLT.out _ (Or.inr rfl))).trans HTZ.out; have dw : w5.cell? ⟨D1, 1, none⟩ = some (.slice (some ⟨T1, 0, none⟩) 2 2) := cell_of_row w5 D1 1 _ _ _ hdw; have t0 : w5.cell? ⟨T1, 0, none⟩ = some (Value.int .u8 0) := cell_of_row w5 T1 0 _ _ _ htw; have t1 : w5.cell? ⟨T1, 1, none⟩ = some (Value.slice none 0 0) := cell_of_row w5 T1 1 _ _ _ htw; have t2 : w5.cell? ⟨T1, 2, none⟩ = some (Value.slice none 0 0) := cell_of_row w5 T1 2 _ _ _ htw; have t3 : w5.cell? ⟨T1, 3, none⟩ = some (Value.int .i64 0) := cell_of_row w5 T1 3 _ _ _ htw; have t4 : w5.cell? ⟨T1, 4, none⟩ = some (Value.int .i64 0) := cell_of_row w5 T1 4 _ _ _ htw; have tz : ∀ i, w5.frozen? ⟨T1, i, none⟩ = false := (fun i => by simp [World.frozen?, htw]); have HREL := Lib.hid (rel_row (n := (W.heap.size + 4)) (o := 0) (k := 2) (kg := kc1) (g := g2) (T := T1) HBZ.out HC_Y10.out (by have := HNUM.out; have := HNB.out; have := HJ1.out; have := HDE1.out; omega) HT1_Y10.out (by have := HNUM.out; have := HNB.out; have := HJ1.out; have := HDE1.out; omega) (by have := HNUM.out; have := HNB.out; have := HJ1.out; have := HDE1.out; omega) (by have := HNUM.out; have := HNB.out; have := HJ1.out; have := HDE1.out; omega) i1 n1 s1 y1 f1 htj hT2 hcs fr); clear hdw htw i1 n1 s1 y1 f1 htj hT2 hcs fr z0 z1 z2 z3 z4)
    all_goals (refine ⟨?_, HREL⟩; unfold Frame6; simp only [Act.put, List.setIfInBounds_toArray, List.set_cons_zero, List.set_cons_succ]; exact ⟨_, _, _, _, _, _, rfl⟩)
  rintro a' Y11 ⟨u38, u39, u40, u41, u42, u43, rfl⟩ hcut
  simp only [Act.put, List.setIfInBounds_toArray, List.set_cons_zero, List.set_cons_succ]
  clear HDZ HTZ dz z0 z1 z2 z3 z4 HND HBZ
  obtain ⟨P1, c1, o1, T2, J2, cap2, hf, hs, hn, ht2, ht, hc⟩ := hcut.out
  have HF_Y11 := Lib.hid hf
  have HNB2 := Lib.hid hn
  have HT2_Y11 := Lib.hid ht2
  have HT1_Y11 := Lib.hid ht
  have HC_Y11 := Lib.hid hc
  have HS1_Y11 := Lib.hid hs
  clear hf hn ht2 ht hc hs hcut
  have HB_Y11 := Lib.hid (HF_Y11.out.below HB_Y10.out (fun k hm => by (try simp only [List.mem_cons, List.not_mem_nil, or_false] at hm); have := HNUM.out; have := HNB.out; have := HJ1.out; have := HDE1.out; omega) HB_Y10.out.size)
  have HN_Y11 := Lib.hid ((HF_Y11.out.block B0 (Array.getElem?_eq_some_iff.1 HN_Y10.out).1 (fun hm => by (try simp only [List.mem_cons, List.not_mem_nil, or_false] at hm); have := HNUM.out; have := HNB.out; have := HJ1.out; have := HDE1.out; omega)).trans HN_Y10.out)
  have HD_Y11 := Lib.hid ((HF_Y11.out.block D1 (Array.getElem?_eq_some_iff.1 HD_Y10.out).1 (fun hm => by (try simp only [List.mem_cons, List.not_mem_nil, or_false] at hm); have := HNUM.out; have := HNB.out; have := HJ1.out; have := HDE1.out; omega)).trans HD_Y10.out)
  have HR_Y11 : Hid (B5 Y11 B1) := Lib.hid (by obtain ⟨x0, x1, x2, x3, x4, hx⟩ := HR_Y10.out; exact ⟨x0, x1, x2, x3, x4, (HF_Y11.out.block B1 (Array.getElem?_eq_some_iff.1 hx).1 (fun hm => by (try simp only [List.mem_cons, List.not_mem_nil, or_false] at hm); have := HNUM.out; have := HNB.out; have := HJ1.out; have := HDE1.out; omega)).trans hx⟩)
  have HZ_Y11 := Lib.hid HF_Y11.out.size
  have HS0_Y11 : Hid (SetOk Y11 (W.heap.size + 4) P0 c0 o0 (ClosedK none0) [C, M, T1, J1, T2, J2]) := Lib.hid (((HS0_Y10.out.ext (L' := [C, M, T1, J1, T2, J2]) (fun x hx => by simp only [List.mem_cons, List.not_mem_nil, or_false] at hx; (rcases hx with h | h | h | h | h | h) <;> (subst h; first | (left; simp; done) | (right; have := HNUM.out; have := HNB.out; have := HJ1.out; have := HDE1.out; have := HNB2.out; omega) | (exact HNB2.out.2.2.2.elim (fun e => Or.inl (by rw [e]; simp)) Or.inr))))).fr (HF_Y11.out.imp (fun k hk => by simp at hk ⊢; omega)))
  have HJ2 : Hid (J2 < Y11.heap.size) := Lib.hid (row_lt HC_Y11.out.row rfl).2
  go_wp2_with fail
  rw [rounds_succ]
  -- round 1, node 1
  have h8y := H8.out.kept HB_Y11.out
  have q0 : Y11.cell? ⟨g1, 5, none⟩ = some (Value.int .u8 1) := cell10 h8y.b1 h8y.t1 5 (by omega)
  have q1 : Y11.cell? ⟨g1, 6, none⟩ = some (Value.slice l2p 1 l2c) := cell10 h8y.b1 h8y.t1 6 (by omega)
  have q2 : Y11.cell? ⟨g1, 7, none⟩ = some (Value.slice none 0 0) := cell10 h8y.b1 h8y.t1 7 (by omega)
  have q3 : Y11.cell? ⟨g1, 8, none⟩ = some (Value.int .i64 0) := cell10 h8y.b1 h8y.t1 8 (by omega)
  have q4 : Y11.cell? ⟨g1, 9, none⟩ = some (Value.int .i64 0) := cell10 h8y.b1 h8y.t1 9 (by omega)
  obtain ⟨E, hE⟩ : ∃ E, E = Y11.heap.size := ⟨_, rfl⟩
  obtain ⟨Z, hZ⟩ : ∃ Z, Z = Y11.alloc (.cells #[Value.int .u8 1, Value.slice l2p 1 l2c, Value.slice none 0 0, Value.int .i64 0, Value.int .i64 0] 27) := ⟨_, rfl⟩
  have hbz : Below Y11.heap.size Y11 Z := by rw [hZ]; exact (Below.refl _ Y11).alloc (Nat.le_refl _) _
  have hez : Z.heap[E]? = some (.cells #[Value.int .u8 1, Value.slice l2p 1 l2c, Value.slice none 0 0, Value.int .i64 0, Value.int .i64 0] 27 (0, 0)) := by rw [hE, hZ]; exact heap_alloc_new Y11 _
  have z0 : Z.cell? ⟨E, 0, none⟩ = some (Value.int .u8 1) := cell_of_row Z E 0 _ _ _ hez
  have z1 : Z.cell? ⟨E, 1, none⟩ = some (Value.slice l2p 1 l2c) := cell_of_row Z E 1 _ _ _ hez
  have z2 : Z.cell? ⟨E, 2, none⟩ = some (Value.slice none 0 0) := cell_of_row Z E 2 _ _ _ hez
  have z3 : Z.cell? ⟨E, 3, none⟩ = some (Value.int .i64 0) := cell_of_row Z E 3 _ _ _ hez
  have z4 : Z.cell? ⟨E, 4, none⟩ = some (Value.int .i64 0) := cell_of_row Z E 4 _ _ _ hez
  have HDZ := Lib.hid ((hbz.block D1 (Array.getElem?_eq_some_iff.1 HD_Y11.out).1).trans HD_Y11.out)
  have HTZ := Lib.hid ((hbz.block T1 (Array.getElem?_eq_some_iff.1 HT1_Y11.out).1).trans HT1_Y11.out)
  have dz : Z.cell? ⟨D1, 1, none⟩ = some (.slice (some ⟨T1, 0, none⟩) 2 2) := cell_of_row Z D1 1 _ _ _ HDZ.out
  have hbd : Below W.heap.size W Z.drew := by have h := HB_Y11.out.trans (hbz.mono HB_Y11.out.size); exact ⟨h.os, h.tape, h.output, h.size, h.block⟩
  have hbyd : Below Y11.heap.size Y11 Z.drew := ⟨hbz.os, hbz.tape, hbz.output, hbz.size, hbz.block⟩
  have HNODE := leaf_c (C := C) (k := 1) (mn := 0) (mx := 0) (P := l2p) (c := l2c) (q := none) (qc := 0) (l := [(75, 77)]) (K := Tells [(75, 77)]) (HCF.out.step hbd) ((H8.out.kept hbd).s2) (by simp) (fun _ => Iff.rfl)
  simp only [List.length_cons, List.length_nil, Nat.zero_add] at HNODE
  have HND := Lib.hid HNODE
  have HBZ := Lib.hid hbz
  have e0 := hE
  have e1 := hZ
  clear h8y hbd hbyd hE hZ hez hbz HNODE
  go_upto_region 10 with fail
  rw [← e0, ← e1]
  clear e0 e1 q0 q1 q2 q3 q4
  refine wp_cutR (fun wc => Hid (RelLeaf (W.heap.size + 4) Y11 wc T1 5 (upd5 z10 0 (.int .u8 2) (.slice P1 (List.length o1) c1) (.slice (some ⟨T2, 0, none⟩) 2 2) (.int .i64 0) (.int .i64 0)) 1 (ClosedK (Tells [(75, 77)])) [C, M, T1, J1, T2, J2])) ?_ ?_
  · have htriv : True := trivial
    go_region_with (go_at_call 107; (with_reducible refine HND.out.mono ?_); rintro e w5 ⟨P1, c1, o1, rfl, i1, n1, s1, y1, f1, b1⟩; have hdw := (b1.block D1 (Array.getElem?_eq_some_iff.1 HDZ.out).1).trans HDZ.out; have htw := (b1.block T1 (Array.getElem?_eq_some_iff.1 HTZ.out).1).trans HTZ.out; have dw : w5.cell? ⟨D1, 1, none⟩ = some (.slice (some ⟨T1, 0, none⟩) 2 2) := cell_of_row w5 D1 1 _ _ _ hdw; have t0 : w5.cell? ⟨T1, 5, none⟩ = some (Value.int .u8 0) := cell_of_row w5 T1 5 _ _ _ htw; have t1 : w5.cell? ⟨T1, 6, none⟩ = some (Value.slice none 0 0) := cell_of_row w5 T1 6 _ _ _ htw; have t2 : w5.cell? ⟨T1, 7, none⟩ = some (Value.slice none 0 0) := cell_of_row w5 T1 7 _ _ _ htw; have t3 : w5.cell? ⟨T1, 8, none⟩ = some (Value.int .i64 0) := cell_of_row w5 T1 8 _ _ _ htw; have t4 : w5.cell? ⟨T1, 9, none⟩ = some (Value.int .i64 0) := cell_of_row w5 T1 9 _ _ _ htw; have tz : ∀ i, w5.frozen? ⟨T1, i, none⟩ = false := (fun i => by simp [World.frozen?, htw]); have HREL := Lib.hid (rel_leaf (n := (W.heap.size + 4)) (o := 5) (k := 1) (T := T1) (L := [C, M, T1, J1, T2, J2]) HBZ.out HT1_Y11.out (by have := HNUM.out; have := HNB.out; have := HJ1.out; have := HDE1.out; have := HNB2.out; have := HZ_Y11.out; have := HJ2.out; omega) (fun x hx => by simp only [List.mem_cons, List.not_mem_nil, or_false] at hx; have := HNUM.out; have := HNB.out; have := HJ1.out; have := HDE1.out; have := HNB2.out; have := HZ_Y11.out; have := HJ2.out; omega) i1 n1 s1 y1 f1 b1); clear hdw htw i1 n1 s1 y1 f1 b1 z0 z1 z2 z3 z4)
    all_goals (refine ⟨?_, HREL⟩; unfold Frame6; simp only [Act.put, List.setIfInBounds_toArray, List.set_cons_zero, List.set_cons_succ]; exact ⟨_, _, _, _, _, _, rfl⟩)
  rintro a' Y12 ⟨u38, u39, u40, u41, u42, u43, rfl⟩ hcut
  simp only [Act.put, List.setIfInBounds_toArray, List.set_cons_zero, List.set_cons_succ]
  clear HDZ HTZ dz z0 z1 z2 z3 z4 HND HBZ
  obtain ⟨P2, c2, o2, hf, hs, ht⟩ := hcut.out
  have HF_Y12 := Lib.hid hf
  have HT1_Y12 := Lib.hid ht
  have HS2_Y12 := Lib.hid hs
  clear hf ht hs hcut
  have HB_Y12 := Lib.hid (HF_Y12.out.below HB_Y11.out (fun k hm => by (try simp only [List.mem_cons, List.not_mem_nil, or_false] at hm); have := HNUM.out; have := HNB.out; have := HJ1.out; have := HDE1.out; have := HNB2.out; have := HZ_Y11.out; have := HJ2.out; omega) HB_Y11.out.size)
  have HN_Y12 := Lib.hid ((HF_Y12.out.block B0 (Array.getElem?_eq_some_iff.1 HN_Y11.out).1 (fun hm => by (try simp only [List.mem_cons, List.not_mem_nil, or_false] at hm); have := HNUM.out; have := HNB.out; have := HJ1.out; have := HDE1.out; have := HNB2.out; have := HZ_Y11.out; have := HJ2.out; omega)).trans HN_Y11.out)
  have HT2_Y12 := Lib.hid ((HF_Y12.out.block T2 (Array.getElem?_eq_some_iff.1 HT2_Y11.out).1 (fun hm => by (try simp only [List.mem_cons, List.not_mem_nil, or_false] at hm); have := HNUM.out; have := HNB.out; have := HJ1.out; have := HDE1.out; have := HNB2.out; have := HZ_Y11.out; have := HJ2.out; omega)).trans HT2_Y11.out)
  have HR_Y12 : Hid (B5 Y12 B1) := Lib.hid (by obtain ⟨x0, x1, x2, x3, x4, hx⟩ := HR_Y11.out; exact ⟨x0, x1, x2, x3, x4, (HF_Y12.out.block B1 (Array.getElem?_eq_some_iff.1 hx).1 (fun hm => by (try simp only [List.mem_cons, List.not_mem_nil, or_false] at hm); have := HNUM.out; have := HNB.out; have := HJ1.out; have := HDE1.out; have := HNB2.out; have := HZ_Y11.out; have := HJ2.out; omega)).trans hx⟩)
  have HZ_Y12 := Lib.hid HF_Y12.out.size
  have HS0_Y12 := Lib.hid (HS0_Y11.out.fr (HF_Y12.out.imp (fun k hk => by subst hk; simp)))
  have HS1_Y12 := Lib.hid (HS1_Y11.out.fr (HF_Y12.out.imp (fun k hk => by subst hk; simp)))
  have HC_Y12 : Hid (Cs Y12 C M (W.heap.size + 4) ((#[].push { key := keyV g1, val := .slice (some ⟨T1, 0, none⟩) 2 2, born := 0 }).push { key := keyV g2, val := .slice (some ⟨T2, 0, none⟩) 2 2, born := 1 }) 2 (.slice (some ⟨J2, 0, none⟩) 1 cap2) 1 [.slice (some ⟨g2, 0, none⟩) 2 kc1, .slice (some ⟨T2, 0, none⟩) 2 2]) := Lib.hid (HC_Y11.out.fr HF_Y12.out (by have := HNUM.out; have := HNB.out; have := HJ1.out; have := HDE1.out; have := HNB2.out; have := HZ_Y11.out; have := HJ2.out; have := HZ_Y12.out; omega) (by have := HNUM.out; have := HNB.out; have := HJ1.out; have := HDE1.out; have := HNB2.out; have := HZ_Y11.out; have := HJ2.out; have := HZ_Y12.out; omega) (fun k hk => by have e : J2 = k := (by cases hk; rfl); subst e; have := HNUM.out; have := HNB.out; have := HJ1.out; have := HDE1.out; have := HNB2.out; have := HZ_Y11.out; have := HJ2.out; have := HZ_Y12.out; omega))
  clear HC_Y11 HT1_Y11 HF_Y12 HF_Y11 HF_Y10
  go_wp2_with fail
  rw [rounds_succ]
  go_wp2_with fail
  rw [rounds_succ]
  -- outer round 2
  obtain ⟨⟨cur, hj1, hj2, hj3⟩, hcap⟩ := row_cells HC_Y12.out.row
  have c1 : Y12.cell? ⟨C, 1, none⟩ = some (.slice (some ⟨J2, 0, none⟩) 1 cap2) := cell_of_row Y12 C 1 _ _ _ HC_Y12.out.c
  obtain ⟨D2, hD⟩ : ∃ D, D = Y12.heap.size := ⟨_, rfl⟩
  obtain ⟨V3, hV3⟩ : ∃ V3, V3 = Y12.alloc (.cells #[.slice (some ⟨g2, 0, none⟩) 2 kc1, .slice (some ⟨T2, 0, none⟩) 2 2] 127) := ⟨_, rfl⟩
  have hb3 : Below Y12.heap.size Y12 V3 := by rw [hV3]; exact (Below.refl _ Y12).alloc (Nat.le_refl _) _
  have HD_V3 : Hid (V3.heap[D2]? = some (.cells #[.slice (some ⟨g2, 0, none⟩) 2 kc1, .slice (some ⟨T2, 0, none⟩) 2 2] 127 (0, 0))) := Lib.hid (by rw [hD, hV3]; exact heap_alloc_new Y12 _)
  have hz3 : V3.heap.size = Y12.heap.size + 1 := by rw [hV3]; exact World.size_alloc _ _
  have HC_V3 := Lib.hid (HC_Y12.out.kept hb3)
  have c3 : V3.cell? ⟨C, 1, none⟩ = some (.slice (some ⟨J2, 0, none⟩) 1 cap2) := cell_of_row V3 C 1 _ _ _ HC_V3.out.c
  have cz : V3.frozen? ⟨C, 1, none⟩ = false := by have := HC_V3.out.c; simp [World.frozen?, this]
  obtain ⟨Y20, hY⟩ : ∃ Y, Y = V3.setCell ⟨C, 1, none⟩ (.slice (some ⟨J2, 0, none⟩) 0 cap2) := ⟨_, rfl⟩
  have HF_Y20 : Hid (Fr (fun k => k ∈ [C]) Y12 Y20) := Lib.hid ((Fr.of hb3).trans (Fr.set hY (by simp)))
  have HDE2 : Hid (D2 = Y12.heap.size ∧ Y20.heap.size = Y12.heap.size + 1) := Lib.hid ⟨hD, by rw [hY, World.size_setCell, hz3]⟩
  have HC_Y20 : Hid (Cs Y20 C M (W.heap.size + 4) ((#[].push { key := keyV g1, val := .slice (some ⟨T1, 0, none⟩) 2 2, born := 0 }).push { key := keyV g2, val := .slice (some ⟨T2, 0, none⟩) 2 2, born := 1 }) 2 (.slice (some ⟨J2, 0, none⟩) 0 cap2) 0 []) := Lib.hid (HC_V3.out.pop hY)
  have HD_Y20 : Hid (Y20.heap[D2]? = some (.cells #[.slice (some ⟨g2, 0, none⟩) 2 kc1, .slice (some ⟨T2, 0, none⟩) 2 2] 127 (0, 0))) := Lib.hid (by rw [hY]; exact (Below.heap_setCell _ _ _ D2 (by show D2 ≠ C; have := HC_Y12.out.cb; have := HC_Y12.out.le; omega)).trans HD_V3.out)
  have d0 : Y20.cell? ⟨D2, 0, none⟩ = some (.slice (some ⟨g2, 0, none⟩) 2 kc1) := cell_of_row Y20 D2 0 _ _ _ HD_Y20.out
  have HB_Y20 := Lib.hid (HF_Y20.out.below HB_Y12.out (fun k hm => by (try simp only [List.mem_cons, List.not_mem_nil, or_false] at hm); have := HNUM.out; have := HNB.out; have := HJ1.out; have := HDE1.out; have := HNB2.out; have := HZ_Y11.out; have := HJ2.out; have := HZ_Y12.out; have := HDE2.out; omega) HB_Y12.out.size)
  have HN_Y20 := Lib.hid ((HF_Y20.out.block B0 (Array.getElem?_eq_some_iff.1 HN_Y12.out).1 (fun hm => by (try simp only [List.mem_cons, List.not_mem_nil, or_false] at hm); have := HNUM.out; have := HNB.out; have := HJ1.out; have := HDE1.out; have := HNB2.out; have := HZ_Y11.out; have := HJ2.out; have := HZ_Y12.out; have := HDE2.out; omega)).trans HN_Y12.out)
  have HT2_Y20 := Lib.hid ((HF_Y20.out.block T2 (Array.getElem?_eq_some_iff.1 HT2_Y12.out).1 (fun hm => by (try simp only [List.mem_cons, List.not_mem_nil, or_false] at hm); have := HNUM.out; have := HNB.out; have := HJ1.out; have := HDE1.out; have := HNB2.out; have := HZ_Y11.out; have := HJ2.out; have := HZ_Y12.out; have := HDE2.out; omega)).trans HT2_Y12.out)
  have HT1_Y20 := Lib.hid ((HF_Y20.out.block T1 (Array.getElem?_eq_some_iff.1 HT1_Y12.out).1 (fun hm => by (try simp only [List.mem_cons, List.not_mem_nil, or_false] at hm); have := HNUM.out; have := HNB.out; have := HJ1.out; have := HDE1.out; have := HNB2.out; have := HZ_Y11.out; have := HJ2.out; have := HZ_Y12.out; have := HDE2.out; omega)).trans HT1_Y12.out)
  have HR_Y20 : Hid (B5 Y20 B1) := Lib.hid (by obtain ⟨x0, x1, x2, x3, x4, hx⟩ := HR_Y12.out; exact ⟨x0, x1, x2, x3, x4, (HF_Y20.out.block B1 (Array.getElem?_eq_some_iff.1 hx).1 (fun hm => by (try simp only [List.mem_cons, List.not_mem_nil, or_false] at hm); have := HNUM.out; have := HNB.out; have := HJ1.out; have := HDE1.out; have := HNB2.out; have := HZ_Y11.out; have := HJ2.out; have := HZ_Y12.out; have := HDE2.out; omega)).trans hx⟩)
  have HZ_Y20 := Lib.hid HF_Y20.out.size
  have HS0_Y20 := Lib.hid (HS0_Y12.out.fr (HF_Y20.out.imp (fun k hk => by simp at hk; subst hk; simp)))
  have HS1_Y20 := Lib.hid (HS1_Y12.out.fr (HF_Y20.out.imp (fun k hk => by simp at hk; subst hk; simp)))
  have HS2_Y20 := Lib.hid (HS2_Y12.out.fr (HF_Y20.out.imp (fun k hk => by simp at hk; subst hk; simp)))
  have e0 := hD
  have e1 := hV3
  have e2 := hY
  clear hb3 hj1 hD hz3 HD_V3 HC_V3 hV3 hY hcap
  go_upto_region 6 with fail
  rw [← e0, ← e1]
  clear e0 e1 c1 hj2 hj3
  go_upto_region 7 with fail
  rw [← e2]
  clear e2 c3 cz V3
  go_wp2_with fail
  clear d0
  refine wp_loop_rounds 3 ?_
  rw [rounds_succ]
  -- round 2, node 0
  have h8y := H8.out.kept HB_Y20.out
  have q0 : Y20.cell? ⟨g2, 0, none⟩ = some (Value.int .u8 1) := cell10 h8y.b2 h8y.t2 0 (by omega)
  have q1 : Y20.cell? ⟨g2, 1, none⟩ = some (Value.slice pa 1 ca) := cell10 h8y.b2 h8y.t2 1 (by omega)
  have q2 : Y20.cell? ⟨g2, 2, none⟩ = some (Value.slice none 0 0) := cell10 h8y.b2 h8y.t2 2 (by omega)
  have q3 : Y20.cell? ⟨g2, 3, none⟩ = some (Value.int .i64 0) := cell10 h8y.b2 h8y.t2 3 (by omega)
  have q4 : Y20.cell? ⟨g2, 4, none⟩ = some (Value.int .i64 0) := cell10 h8y.b2 h8y.t2 4 (by omega)
  obtain ⟨E, hE⟩ : ∃ E, E = Y20.heap.size := ⟨_, rfl⟩
  obtain ⟨Z, hZ⟩ : ∃ Z, Z = Y20.alloc (.cells #[Value.int .u8 1, Value.slice pa 1 ca, Value.slice none 0 0, Value.int .i64 0, Value.int .i64 0] 27) := ⟨_, rfl⟩
  have hbz : Below Y20.heap.size Y20 Z := by rw [hZ]; exact (Below.refl _ Y20).alloc (Nat.le_refl _) _
  have hez : Z.heap[E]? = some (.cells #[Value.int .u8 1, Value.slice pa 1 ca, Value.slice none 0 0, Value.int .i64 0, Value.int .i64 0] 27 (0, 0)) := by rw [hE, hZ]; exact heap_alloc_new Y20 _
  have z0 : Z.cell? ⟨E, 0, none⟩ = some (Value.int .u8 1) := cell_of_row Z E 0 _ _ _ hez
  have z1 : Z.cell? ⟨E, 1, none⟩ = some (Value.slice pa 1 ca) := cell_of_row Z E 1 _ _ _ hez
  have z2 : Z.cell? ⟨E, 2, none⟩ = some (Value.slice none 0 0) := cell_of_row Z E 2 _ _ _ hez
  have z3 : Z.cell? ⟨E, 3, none⟩ = some (Value.int .i64 0) := cell_of_row Z E 3 _ _ _ hez
  have z4 : Z.cell? ⟨E, 4, none⟩ = some (Value.int .i64 0) := cell_of_row Z E 4 _ _ _ hez
  have HDZ := Lib.hid ((hbz.block D2 (Array.getElem?_eq_some_iff.1 HD_Y20.out).1).trans HD_Y20.out)
  have HTZ := Lib.hid ((hbz.block T2 (Array.getElem?_eq_some_iff.1 HT2_Y20.out).1).trans HT2_Y20.out)
  have dz : Z.cell? ⟨D2, 1, none⟩ = some (.slice (some ⟨T2, 0, none⟩) 2 2) := cell_of_row Z D2 1 _ _ _ HDZ.out
  have hbd : Below W.heap.size W Z.drew := by have h := HB_Y20.out.trans (hbz.mono HB_Y20.out.size); exact ⟨h.os, h.tape, h.output, h.size, h.block⟩
  have hbyd : Below Y20.heap.size Y20 Z.drew := ⟨hbz.os, hbz.tape, hbz.output, hbz.size, hbz.block⟩
  have HNODE := leaf_c (C := C) (k := 1) (mn := 0) (mx := 0) (P := pa) (c := ca) (q := none) (qc := 0) (l := [(97, 97)]) (K := Tells [(97, 97)]) (HCF.out.step hbd) ((H8.out.kept hbd).sa) (by simp) (fun _ => Iff.rfl)
  simp only [List.length_cons, List.length_nil, Nat.zero_add] at HNODE
  have HND := Lib.hid HNODE
  have HBZ := Lib.hid hbz
  have e0 := hE
  have e1 := hZ
  clear h8y hbd hbyd hE hZ hez hbz HNODE
  go_upto_region 10 with fail
  rw [← e0, ← e1]
  clear e0 e1 q0 q1 q2 q3 q4
  refine wp_cutR (fun wc => Hid (RelLeaf (W.heap.size + 4) Y20 wc T2 0 (z10) 1 (ClosedK (Tells [(97, 97)])) [C, M, T1, J1, T2, J2])) ?_ ?_
  · have htriv : True := trivial
    go_region_with (go_at_call 107; (with_reducible refine HND.out.mono ?_); rintro e w5 ⟨P1, c1, o1, rfl, i1, n1, s1, y1, f1, b1⟩; have hdw := (b1.block D2 (Array.getElem?_eq_some_iff.1 HDZ.out).1).trans HDZ.out; have htw := (b1.block T2 (Array.getElem?_eq_some_iff.1 HTZ.out).1).trans HTZ.out; have dw : w5.cell? ⟨D2, 1, none⟩ = some (.slice (some ⟨T2, 0, none⟩) 2 2) := cell_of_row w5 D2 1 _ _ _ hdw; have t0 : w5.cell? ⟨T2, 0, none⟩ = some (Value.int .u8 0) := cell_of_row w5 T2 0 _ _ _ htw; have t1 : w5.cell? ⟨T2, 1, none⟩ = some (Value.slice none 0 0) := cell_of_row w5 T2 1 _ _ _ htw; have t2 : w5.cell? ⟨T2, 2, none⟩ = some (Value.slice none 0 0) := cell_of_row w5 T2 2 _ _ _ htw; have t3 : w5.cell? ⟨T2, 3, none⟩ = some (Value.int .i64 0) := cell_of_row w5 T2 3 _ _ _ htw; have t4 : w5.cell? ⟨T2, 4, none⟩ = some (Value.int .i64 0) := cell_of_row w5 T2 4 _ _ _ htw; have tz : ∀ i, w5.frozen? ⟨T2, i, none⟩ = false := (fun i => by simp [World.frozen?, htw]); have HREL := Lib.hid (rel_leaf (n := (W.heap.size + 4)) (o := 0) (k := 1) (T := T2) (L := [C, M, T1, J1, T2, J2]) HBZ.out HT2_Y20.out (by have := HNUM.out; have := HNB.out; have := HJ1.out; have := HDE1.out; have := HNB2.out; have := HZ_Y11.out; have := HJ2.out; have := HZ_Y12.out; have := HDE2.out; omega) (fun x hx => by simp only [List.mem_cons, List.not_mem_nil, or_false] at hx; have := HNUM.out; have := HNB.out; have := HJ1.out; have := HDE1.out; have := HNB2.out; have := HZ_Y11.out; have := HJ2.out; have := HZ_Y12.out; have := HDE2.out; omega) i1 n1 s1 y1 f1 b1); clear hdw htw i1 n1 s1 y1 f1 b1 z0 z1 z2 z3 z4)
    all_goals (refine ⟨?_, HREL⟩; unfold Frame6; simp only [Act.put, List.setIfInBounds_toArray, List.set_cons_zero, List.set_cons_succ]; exact ⟨_, _, _, _, _, _, rfl⟩)
  rintro a' Y21 ⟨u38, u39, u40, u41, u42, u43, rfl⟩ hcut
  simp only [Act.put, List.setIfInBounds_toArray, List.set_cons_zero, List.set_cons_succ]
  clear HDZ HTZ dz z0 z1 z2 z3 z4 HND HBZ
  obtain ⟨P3, c3, o3, hf, hs, ht⟩ := hcut.out
  have HF_Y21 := Lib.hid hf
  have HT2_Y21 := Lib.hid ht
  have HS3_Y21 := Lib.hid hs
  clear hf ht hs hcut
  have HB_Y21 := Lib.hid (HF_Y21.out.below HB_Y20.out (fun k hm => by (try simp only [List.mem_cons, List.not_mem_nil, or_false] at hm); have := HNUM.out; have := HNB.out; have := HJ1.out; have := HDE1.out; have := HNB2.out; have := HZ_Y11.out; have := HJ2.out; have := HZ_Y12.out; have := HDE2.out; omega) HB_Y20.out.size)
  have HN_Y21 := Lib.hid ((HF_Y21.out.block B0 (Array.getElem?_eq_some_iff.1 HN_Y20.out).1 (fun hm => by (try simp only [List.mem_cons, List.not_mem_nil, or_false] at hm); have := HNUM.out; have := HNB.out; have := HJ1.out; have := HDE1.out; have := HNB2.out; have := HZ_Y11.out; have := HJ2.out; have := HZ_Y12.out; have := HDE2.out; omega)).trans HN_Y20.out)
  have HD_Y21 := Lib.hid ((HF_Y21.out.block D2 (Array.getElem?_eq_some_iff.1 HD_Y20.out).1 (fun hm => by (try simp only [List.mem_cons, List.not_mem_nil, or_false] at hm); have := HNUM.out; have := HNB.out; have := HJ1.out; have := HDE1.out; have := HNB2.out; have := HZ_Y11.out; have := HJ2.out; have := HZ_Y12.out; have := HDE2.out; omega)).trans HD_Y20.out)
  have HT1_Y21 := Lib.hid ((HF_Y21.out.block T1 (Array.getElem?_eq_some_iff.1 HT1_Y20.out).1 (fun hm => by (try simp only [List.mem_cons, List.not_mem_nil, or_false] at hm); have := HNUM.out; have := HNB.out; have := HJ1.out; have := HDE1.out; have := HNB2.out; have := HZ_Y11.out; have := HJ2.out; have := HZ_Y12.out; have := HDE2.out; omega)).trans HT1_Y20.out)
  have HR_Y21 : Hid (B5 Y21 B1) := Lib.hid (by obtain ⟨x0, x1, x2, x3, x4, hx⟩ := HR_Y20.out; exact ⟨x0, x1, x2, x3, x4, (HF_Y21.out.block B1 (Array.getElem?_eq_some_iff.1 hx).1 (fun hm => by (try simp only [List.mem_cons, List.not_mem_nil, or_false] at hm); have := HNUM.out; have := HNB.out; have := HJ1.out; have := HDE1.out; have := HNB2.out; have := HZ_Y11.out; have := HJ2.out; have := HZ_Y12.out; have := HDE2.out; omega)).trans hx⟩)
  have HZ_Y21 := Lib.hid HF_Y21.out.size
  have HS0_Y21 := Lib.hid (HS0_Y20.out.fr (HF_Y21.out.imp (fun k hk => by subst hk; simp)))
  have HS1_Y21 := Lib.hid (HS1_Y20.out.fr (HF_Y21.out.imp (fun k hk => by subst hk; simp)))
  have HS2_Y21 := Lib.hid (HS2_Y20.out.fr (HF_Y21.out.imp (fun k hk => by subst hk; simp)))
  have HC_Y21 : Hid (Cs Y21 C M (W.heap.size + 4) ((#[].push { key := keyV g1, val := .slice (some ⟨T1, 0, none⟩) 2 2, born := 0 }).push { key := keyV g2, val := .slice (some ⟨T2, 0, none⟩) 2 2, born := 1 }) 2 (.slice (some ⟨J2, 0, none⟩) 0 cap2) 0 []) := Lib.hid (HC_Y20.out.fr HF_Y21.out (by have := HNUM.out; have := HNB.out; have := HJ1.out; have := HDE1.out; have := HNB2.out; have := HZ_Y11.out; have := HJ2.out; have := HZ_Y12.out; have := HDE2.out; have := HZ_Y21.out; omega) (by have := HNUM.out; have := HNB.out; have := HJ1.out; have := HDE1.out; have := HNB2.out; have := HZ_Y11.out; have := HJ2.out; have := HZ_Y12.out; have := HDE2.out; have := HZ_Y21.out; omega) (fun k hk => by have e : J2 = k := (by cases hk; rfl); subst e; have := HNUM.out; have := HNB.out; have := HJ1.out; have := HDE1.out; have := HNB2.out; have := HZ_Y11.out; have := HJ2.out; have := HZ_Y12.out; have := HDE2.out; have := HZ_Y21.out; omega))
  go_wp2_with fail
  rw [rounds_succ]
  -- round 2, node 1
  have h8y := H8.out.kept HB_Y21.out
  have q0 : Y21.cell? ⟨g2, 5, none⟩ = some (Value.int .u8 1) := cell10 h8y.b2 h8y.t2 5 (by omega)
  have q1 : Y21.cell? ⟨g2, 6, none⟩ = some (Value.slice pb 1 cb) := cell10 h8y.b2 h8y.t2 6 (by omega)
  have q2 : Y21.cell? ⟨g2, 7, none⟩ = some (Value.slice none 0 0) := cell10 h8y.b2 h8y.t2 7 (by omega)
  have q3 : Y21.cell? ⟨g2, 8, none⟩ = some (Value.int .i64 0) := cell10 h8y.b2 h8y.t2 8 (by omega)
  have q4 : Y21.cell? ⟨g2, 9, none⟩ = some (Value.int .i64 0) := cell10 h8y.b2 h8y.t2 9 (by omega)
  obtain ⟨E, hE⟩ : ∃ E, E = Y21.heap.size := ⟨_, rfl⟩
  obtain ⟨Z, hZ⟩ : ∃ Z, Z = Y21.alloc (.cells #[Value.int .u8 1, Value.slice pb 1 cb, Value.slice none 0 0, Value.int .i64 0, Value.int .i64 0] 27) := ⟨_, rfl⟩
  have hbz : Below Y21.heap.size Y21 Z := by rw [hZ]; exact (Below.refl _ Y21).alloc (Nat.le_refl _) _
  have hez : Z.heap[E]? = some (.cells #[Value.int .u8 1, Value.slice pb 1 cb, Value.slice none 0 0, Value.int .i64 0, Value.int .i64 0] 27 (0, 0)) := by rw [hE, hZ]; exact heap_alloc_new Y21 _
  have z0 : Z.cell? ⟨E, 0, none⟩ = some (Value.int .u8 1) := cell_of_row Z E 0 _ _ _ hez
  have z1 : Z.cell? ⟨E, 1, none⟩ = some (Value.slice pb 1 cb) := cell_of_row Z E 1 _ _ _ hez
  have z2 : Z.cell? ⟨E, 2, none⟩ = some (Value.slice none 0 0) := cell_of_row Z E 2 _ _ _ hez
  have z3 : Z.cell? ⟨E, 3, none⟩ = some (Value.int .i64 0) := cell_of_row Z E 3 _ _ _ hez
  have z4 : Z.cell? ⟨E, 4, none⟩ = some (Value.int .i64 0) := cell_of_row Z E 4 _ _ _ hez
  have HDZ := Lib.hid ((hbz.block D2 (Array.getElem?_eq_some_iff.1 HD_Y21.out).1).trans HD_Y21.out)
  have HTZ := Lib.hid ((hbz.block T2 (Array.getElem?_eq_some_iff.1 HT2_Y21.out).1).trans HT2_Y21.out)
  have dz : Z.cell? ⟨D2, 1, none⟩ = some (.slice (some ⟨T2, 0, none⟩) 2 2) := cell_of_row Z D2 1 _ _ _ HDZ.out
  have hbd : Below W.heap.size W Z.drew := by have h := HB_Y21.out.trans (hbz.mono HB_Y21.out.size); exact ⟨h.os, h.tape, h.output, h.size, h.block⟩
  have hbyd : Below Y21.heap.size Y21 Z.drew := ⟨hbz.os, hbz.tape, hbz.output, hbz.size, hbz.block⟩
  have HNODE := leaf_c (C := C) (k := 1) (mn := 0) (mx := 0) (P := pb) (c := cb) (q := none) (qc := 0) (l := [(98, 98)]) (K := Tells [(98, 98)]) (HCF.out.step hbd) ((H8.out.kept hbd).sb) (by simp) (fun _ => Iff.rfl)
  simp only [List.length_cons, List.length_nil, Nat.zero_add] at HNODE
  have HND := Lib.hid HNODE
  have HBZ := Lib.hid hbz
  have e0 := hE
  have e1 := hZ
  clear h8y hbd hbyd hE hZ hez hbz HNODE
  go_upto_region 10 with fail
  rw [← e0, ← e1]
  clear e0 e1 q0 q1 q2 q3 q4
  refine wp_cutR (fun wc => Hid (RelLeaf (W.heap.size + 4) Y21 wc T2 5 (upd5 z10 0 (.int .u8 1) (.slice P3 (List.length o3) c3) (.slice none 0 0) (.int .i64 0) (.int .i64 0)) 1 (ClosedK (Tells [(98, 98)])) [C, M, T1, J1, T2, J2])) ?_ ?_
  · have htriv : True := trivial
    go_region_with (go_at_call 107; (with_reducible refine HND.out.mono ?_); rintro e w5 ⟨P1, c1, o1, rfl, i1, n1, s1, y1, f1, b1⟩; have hdw := (b1.block D2 (Array.getElem?_eq_some_iff.1 HDZ.out).1).trans HDZ.out; have htw := (b1.block T2 (Array.getElem?_eq_some_iff.1 HTZ.out).1).trans HTZ.out; have dw : w5.cell? ⟨D2, 1, none⟩ = some (.slice (some ⟨T2, 0, none⟩) 2 2) := cell_of_row w5 D2 1 _ _ _ hdw; have t0 : w5.cell? ⟨T2, 5, none⟩ = some (Value.int .u8 0) := cell_of_row w5 T2 5 _ _ _ htw; have t1 : w5.cell? ⟨T2, 6, none⟩ = some (Value.slice none 0 0) := cell_of_row w5 T2 6 _ _ _ htw; have t2 : w5.cell? ⟨T2, 7, none⟩ = some (Value.slice none 0 0) := cell_of_row w5 T2 7 _ _ _ htw; have t3 : w5.cell? ⟨T2, 8, none⟩ = some (Value.int .i64 0) := cell_of_row w5 T2 8 _ _ _ htw; have t4 : w5.cell? ⟨T2, 9, none⟩ = some (Value.int .i64 0) := cell_of_row w5 T2 9 _ _ _ htw; have tz : ∀ i, w5.frozen? ⟨T2, i, none⟩ = false := (fun i => by simp [World.frozen?, htw]); have HREL := Lib.hid (rel_leaf (n := (W.heap.size + 4)) (o := 5) (k := 1) (T := T2) (L := [C, M, T1, J1, T2, J2]) HBZ.out HT2_Y21.out (by have := HNUM.out; have := HNB.out; have := HJ1.out; have := HDE1.out; have := HNB2.out; have := HZ_Y11.out; have := HJ2.out; have := HZ_Y12.out; have := HDE2.out; have := HZ_Y21.out; omega) (fun x hx => by simp only [List.mem_cons, List.not_mem_nil, or_false] at hx; have := HNUM.out; have := HNB.out; have := HJ1.out; have := HDE1.out; have := HNB2.out; have := HZ_Y11.out; have := HJ2.out; have := HZ_Y12.out; have := HDE2.out; have := HZ_Y21.out; omega) i1 n1 s1 y1 f1 b1); clear hdw htw i1 n1 s1 y1 f1 b1 z0 z1 z2 z3 z4)
    all_goals (refine ⟨?_, HREL⟩; unfold Frame6; simp only [Act.put, List.setIfInBounds_toArray, List.set_cons_zero, List.set_cons_succ]; exact ⟨_, _, _, _, _, _, rfl⟩)
  rintro a' Y22 ⟨u38, u39, u40, u41, u42, u43, rfl⟩ hcut
  simp only [Act.put, List.setIfInBounds_toArray, List.set_cons_zero, List.set_cons_succ]
  clear HDZ HTZ dz z0 z1 z2 z3 z4 HND HBZ
  obtain ⟨P4, c4, o4, hf, hs, ht⟩ := hcut.out
  have HF_Y22 := Lib.hid hf
  have HT2_Y22 := Lib.hid ht
  have HS4_Y22 := Lib.hid hs
  clear hf ht hs hcut
  have HB_Y22 := Lib.hid (HF_Y22.out.below HB_Y21.out (fun k hm => by (try simp only [List.mem_cons, List.not_mem_nil, or_false] at hm); have := HNUM.out; have := HNB.out; have := HJ1.out; have := HDE1.out; have := HNB2.out; have := HZ_Y11.out; have := HJ2.out; have := HZ_Y12.out; have := HDE2.out; have := HZ_Y21.out; omega) HB_Y21.out.size)
  have HN_Y22 := Lib.hid ((HF_Y22.out.block B0 (Array.getElem?_eq_some_iff.1 HN_Y21.out).1 (fun hm => by (try simp only [List.mem_cons, List.not_mem_nil, or_false] at hm); have := HNUM.out; have := HNB.out; have := HJ1.out; have := HDE1.out; have := HNB2.out; have := HZ_Y11.out; have := HJ2.out; have := HZ_Y12.out; have := HDE2.out; have := HZ_Y21.out; omega)).trans HN_Y21.out)
  have HT1_Y22 := Lib.hid ((HF_Y22.out.block T1 (Array.getElem?_eq_some_iff.1 HT1_Y21.out).1 (fun hm => by (try simp only [List.mem_cons, List.not_mem_nil, or_false] at hm); have := HNUM.out; have := HNB.out; have := HJ1.out; have := HDE1.out; have := HNB2.out; have := HZ_Y11.out; have := HJ2.out; have := HZ_Y12.out; have := HDE2.out; have := HZ_Y21.out; omega)).trans HT1_Y21.out)
  have HR_Y22 : Hid (B5 Y22 B1) := Lib.hid (by obtain ⟨x0, x1, x2, x3, x4, hx⟩ := HR_Y21.out; exact ⟨x0, x1, x2, x3, x4, (HF_Y22.out.block B1 (Array.getElem?_eq_some_iff.1 hx).1 (fun hm => by (try simp only [List.mem_cons, List.not_mem_nil, or_false] at hm); have := HNUM.out; have := HNB.out; have := HJ1.out; have := HDE1.out; have := HNB2.out; have := HZ_Y11.out; have := HJ2.out; have := HZ_Y12.out; have := HDE2.out; have := HZ_Y21.out; omega)).trans hx⟩)
  have HZ_Y22 := Lib.hid HF_Y22.out.size
  have HS0_Y22 := Lib.hid (HS0_Y21.out.fr (HF_Y22.out.imp (fun k hk => by subst hk; simp)))
  have HS1_Y22 := Lib.hid (HS1_Y21.out.fr (HF_Y22.out.imp (fun k hk => by subst hk; simp)))
  have HS2_Y22 := Lib.hid (HS2_Y21.out.fr (HF_Y22.out.imp (fun k hk => by subst hk; simp)))
  have HS3_Y22 := Lib.hid (HS3_Y21.out.fr (HF_Y22.out.imp (fun k hk => by subst hk; simp)))
  have HC_Y22 : Hid (Cs Y22 C M (W.heap.size + 4) ((#[].push { key := keyV g1, val := .slice (some ⟨T1, 0, none⟩) 2 2, born := 0 }).push { key := keyV g2, val := .slice (some ⟨T2, 0, none⟩) 2 2, born := 1 }) 2 (.slice (some ⟨J2, 0, none⟩) 0 cap2) 0 []) := Lib.hid (HC_Y21.out.fr HF_Y22.out (by have := HNUM.out; have := HNB.out; have := HJ1.out; have := HDE1.out; have := HNB2.out; have := HZ_Y11.out; have := HJ2.out; have := HZ_Y12.out; have := HDE2.out; have := HZ_Y21.out; omega) (by have := HNUM.out; have := HNB.out; have := HJ1.out; have := HDE1.out; have := HNB2.out; have := HZ_Y11.out; have := HJ2.out; have := HZ_Y12.out; have := HDE2.out; have := HZ_Y21.out; omega) (fun k hk => by have e : J2 = k := (by cases hk; rfl); subst e; have := HNUM.out; have := HNB.out; have := HJ1.out; have := HDE1.out; have := HNB2.out; have := HZ_Y11.out; have := HJ2.out; have := HZ_Y12.out; have := HDE2.out; have := HZ_Y21.out; omega))
  go_wp2_with fail
  rw [rounds_succ]
  go_wp2_with fail
  rw [rounds_succ]
  have c1e : Y22.cell? ⟨C, 1, none⟩ = some (.slice (some ⟨J2, 0, none⟩) 0 cap2) := cell_of_row Y22 C 1 _ _ _ HC_Y22.out.c
  have b0 : Y22.cell? ⟨B0, 0, none⟩ = some (Value.int .u8 3) := cell_of_row Y22 B0 0 _ _ _ HN_Y22.out
  have b1 : Y22.cell? ⟨B0, 1, none⟩ = some (Value.slice P0 o0.length c0) := cell_of_row Y22 B0 1 _ _ _ HN_Y22.out
  have b2 : Y22.cell? ⟨B0, 2, none⟩ = some (Value.slice (some ⟨T1, 0, none⟩) 2 2) := cell_of_row Y22 B0 2 _ _ _ HN_Y22.out
  have b3 : Y22.cell? ⟨B0, 3, none⟩ = some (Value.int .i64 0) := cell_of_row Y22 B0 3 _ _ _ HN_Y22.out
  have b4 : Y22.cell? ⟨B0, 4, none⟩ = some (Value.int .i64 0) := cell_of_row Y22 B0 4 _ _ _ HN_Y22.out
  obtain ⟨⟨x0, x1, x2, x3, x4, k0, k1, k2, k3, k4⟩, v0, v1, v2, v3, v4⟩ := HR_Y22.out.cells
  go_wp2
  refine ret_node rfl rfl HR_Y22.out ⟨_, rfl, ?_, put5_below _ _ _ _ _ HB_Y22.out (by have := HNUM.out; have := HNB.out; have := HJ1.out; have := HDE1.out; have := HNB2.out; have := HZ_Y11.out; have := HJ2.out; have := HZ_Y12.out; have := HDE2.out; have := HZ_Y21.out; omega)⟩
  refine NV.imp (A := fun b => W.heap.size + 4 ≤ b) ⟨3, ?_⟩ (fun b hA _ => ⟨by omega, put5_block _ _ _ _ _ _ _ b (by have := HNUM.out; have := HNB.out; have := HJ1.out; have := HDE1.out; have := HNB2.out; have := HZ_Y11.out; have := HJ2.out; have := HZ_Y12.out; have := HDE2.out; have := HZ_Y21.out; omega)⟩) (by rw [put5_size]; exact Nat.le_refl _)
  have n2 : NIs Y22 (fun b => W.heap.size + 4 ≤ b) 2 (.agg #[.int .u8 2, .slice P1 (List.length o1) c1, .slice (some ⟨T2, 0, none⟩) 2 2, .int .i64 0, .int .i64 0]) cx8 := HS1_Y22.out.row (fun b hb => hb) (by have := HNUM.out; have := HNB.out; have := HJ1.out; have := HDE1.out; have := HNB2.out; have := HZ_Y11.out; have := HJ2.out; have := HZ_Y12.out; have := HDE2.out; have := HZ_Y21.out; omega) HT2_Y22.out (u1 := .agg #[.int .u8 1, .slice P3 (List.length o3) c3, .slice none 0 0, .int .i64 0, .int .i64 0]) (u2 := .agg #[.int .u8 1, .slice P4 (List.length o4) c4, .slice none 0 0, .int .i64 0, .int .i64 0]) (by kernel_rfl) (HS3_Y22.out.leaf (fun b hb => hb)) (HS4_Y22.out.leaf (fun b hb => hb))
  exact HS0_Y22.out.row (fun b hb => hb) (by have := HNUM.out; have := HNB.out; have := HJ1.out; have := HDE1.out; have := HNB2.out; have := HZ_Y11.out; have := HJ2.out; have := HZ_Y12.out; have := HDE2.out; have := HZ_Y21.out; omega) HT1_Y22.out (u1 := .agg #[.int .u8 2, .slice P1 (List.length o1) c1, .slice (some ⟨T2, 0, none⟩) 2 2, .int .i64 0, .int .i64 0]) (u2 := .agg #[.int .u8 1, .slice P2 (List.length o2) c2, .slice none 0 0, .int .i64 0, .int .i64 0]) (by kernel_rfl) n2 ((HS2_Y22.out.leaf (fun b hb => hb)).up _ _ _ _ (by omega))
end Go.Proofs.YtahgljglleeloaaGreatDoor
