/- The document's reader: what stands in brackets. -/
import Derived.Test.YtdcnfflleaplnaaGreatDoorQAlt
namespace Go.Proofs.YtdcnfflleaplnaaGreatDoor
open Go.RowKit Go.Shelf Go.Maps SetM PropsM RxM
section
variable {R : Nat} {W W' W0 : World} {s : ByteArray} {dv : Value} {rest r : List Int} {N : Nat × Nat} {d f n : Nat} {z c : Int} {σ : Out Unit}
theorem Rs.c3 (h : Rs R W s dv d f σ) : W.cell? ⟨R, 3, none⟩ = some (.int .i64 d) := by
  obtain ⟨i, n, z, _, _, hc, _⟩ := h.cells
  exact (hc W (Below.refl _ _)).2.2.2.1
theorem Rs.fz (h : Rs R W s dv d f σ) (j : Nat) : W.frozen? ⟨R, j, none⟩ = false := by
  obtain ⟨i, n, z, _, _, hc, _⟩ := h.cells
  exact (hc W (Below.refl _ _)).2.2.2.2.2.2.2 j
theorem inner_q (F : Bool → List Int → Out Nd) (cl : Bool) (σ1 : Out Unit) (o : Out Nd) (ho : o = bindS σ1 (innerF F cl)) {x : Nd} (hx : ∀ y r, bindS σ1 (F cl) = .ok y r → x = y) : Out.u o = mustO 41 (Out.u (bindS σ1 (F cl))) ∧ ∀ y r, o = .ok y r → x = y := by
  subst ho
  cases σ1 with
  | err n y => exact ⟨rfl, fun y r h => by cases h⟩
  | ok u r =>
    have hx' : ∀ y r1, F cl r = .ok y r1 → x = y := hx
    show Out.u (innerF F cl r) = mustO 41 (Out.u (F cl r)) ∧ ∀ y r1, innerF F cl r = .ok y r1 → x = y
    unfold innerF
    cases hF : F cl r with
    | err e y => exact ⟨rfl, fun y r h => by cases h⟩
    | ok y r1 =>
      dsimp only
      show _ = Out.u (needF 41 r1) ∧ _
      cases needF 41 r1 with
      | err e z => exact ⟨rfl, fun y r h => by cases h⟩
      | ok u r2 => exact ⟨rfl, fun z r h => by cases h; exact hx' y r1 hF⟩
theorem group_yes (F : Bool → List Int → Out Nd) (cl : Bool) (r : List Int) (h : at1 63 r = true) : groupF F cl r = bindS (mustS [105, 58] (.ok () r.tail)) (innerF F true) := by
  unfold groupF
  rw [if_pos h]
  show _ = bindS (if [105, 58] <+: r.tail then _ else _) _
  by_cases hh : ([105, 58] : List Int) <+: r.tail
  · rw [if_pos hh]
    obtain ⟨t, ht⟩ := hh
    rw [← ht]
    rfl
  · rw [if_neg hh, if_neg (fun h2 => hh (by
      have h3 := at1_true h2.1
      rw [h3]
      exact (two_pre 105 58 105 _).2 ⟨rfl, h2.2⟩))]
    rfl
theorem group_no (F : Bool → List Int → Out Nd) (cl : Bool) (r : List Int) (h : at1 63 r = false) : groupF F cl r = bindS (.ok () r) (innerF F cl) := by
  unfold groupF
  rw [if_neg (by rw [h]; simp)]
  rfl
set_option maxRecDepth 100000 in
set_option maxHeartbeats 4000000 in
theorem bracket_q (hN : N.2 ≤ R) (hd : d < 20) (hf : f ≤ 100) {F : Bool → List Int → Out Nd} (HA : ∀ f1, f1 = f ∨ f1 = f + 1 → FQs 24 N R s dv (d + 1) f1 W0 (F (decide (0 < f1)))) (zp : Int) (hC : Gr R W0 W) (h : Rr R W s dv rest d f) :
    Calls Tryz.prog 69 #[.pointer (some ⟨R, 0, none⟩), .int .i64 zp] W (NodeQ N R s dv d f (groupF F (decide (0 < f)) rest) W) := by
  have hRW := h.lt
  obtain ⟨o, ho⟩ : ∃ o, o = groupF F (decide (0 < f)) rest := ⟨_, rfl⟩
  rw [← ho]
  obtain ⟨d1, hd1⟩ : ∃ d1, d1 = d + 1 := ⟨_, rfl⟩
  have ew : IntKind.i64.wrap ((d : Int) + 1) = (d1 : Int) := by rw [IntWalk.i64_in _ (by omega)]; omega
  have ew2 : IntKind.i64.wrap ((d1 : Int) - 1) = (d : Int) := by rw [IntWalk.i64_in _ (by omega)]; omega
  rw [← hd1] at HA
  have hdi : (d : Int) < 20 := by omega
  have hd20 : ¬ (d : Int) ≥ 20 := by omega
  have HA0 := Lib.hid HA
  have hW1 := Rs.deeper (σ := .ok () rest) h d1
  have gW1 := Gr.set (R := R) W 3 (.int .i64 (d1 : Int))
  have hz1 : (W.setCell ⟨R, 3, none⟩ (.int .i64 (d1 : Int))).heap.size = W.heap.size := World.size_setCell _ _ _
  obtain ⟨V, hV⟩ : ∃ V, V = (W.setCell ⟨R, 3, none⟩ (.int .i64 (d1 : Int))).alloc (.cells #[.int .u8 0, .slice none 0 0, .slice none 0 0, .int .i64 0, .int .i64 0] 26) := ⟨_, rfl⟩
  have hb0 : Below (W.setCell ⟨R, 3, none⟩ (.int .i64 (d1 : Int))).heap.size (W.setCell ⟨R, 3, none⟩ (.int .i64 (d1 : Int))) V := by rw [hV]; exact (Below.refl _ _).alloc (Nat.le_refl _) _
  have HZ : Hid (V.heap.size = W.heap.size + 1) := Lib.hid (by rw [hV, World.size_alloc, hz1])
  have HB5 : Hid (B5 V W.heap.size) := Lib.hid (by rw [hV]; have := B5.new (W.setCell ⟨R, 3, none⟩ (.int .i64 (d1 : Int))) (.int .u8 0) (.slice none 0 0) (.slice none 0 0) (.int .i64 0) (.int .i64 0); rw [hz1] at this; exact this)
  have HR1 := Lib.hid (hW1.kept hb0)
  have HG0 := Lib.hid (gW1.trans (Gr.of hb0))
  have HC0 := Lib.hid (hC.trans HG0.out)
  have HG1 : Hid (Gr R V V) := Lib.hid (Gr.refl _ _)
  have hzv := HZ.out
  have c3 := h.c3
  have kz3 := h.fz 3
  clear h hb0 hC HA hd1 hW1 gW1 hz1
  cases h63 : at1 63 rest with
  | true =>
    have HO : Hid (o = bindS (mustS [105, 58] (.ok () rest.tail)) (innerF F true)) := Lib.hid (by rw [ho]; exact group_yes _ _ _ h63)
    have HT := Lib.hid (tk_yes 63 (by decide) (show Rr R _ s dv rest d1 f from HR1.out) h63)
    obtain ⟨f1, hf1⟩ : ∃ f1, f1 = f + 1 := ⟨_, rfl⟩
    have ef : IntKind.i64.wrap ((f : Int) + 1) = (f1 : Int) := by rw [IntWalk.i64_in _ (by omega)]; omega
    have ef2 : IntKind.i64.wrap ((f1 : Int) - 1) = (f : Int) := by rw [IntWalk.i64_in _ (by omega)]; omega
    have HA1 := Lib.hid (HA0.out f1 (.inr hf1))
    have hdec : decide (0 < f1) = true := decide_eq_true (by omega)
    rw [hdec] at HA1
    clear h63 ho hf1 hdec
    go_enter Tryz.func69, Tryz.ntmps69
    go_wp2_with fail
    rw [← hV]
    clear hV
    refine HT.out.mono ?_
    rintro e w1 ⟨rfl, h1, g1⟩
    have HR : Hid (Rs R w1 s dv d1 f (.ok () rest.tail)) := Lib.hid h1
    have HG := Lib.hid (HG1.out.trans g1)
    have HMU := Lib.hid (must_c ⟨#[105, 58]⟩ (lowq2 105 58 (by decide) (by decide)) (by decide) HR.out)
    clear h1 g1 HT c3 kz3 HR1
    go_wp2_with fail
    refine HMU.out.mono ?_
    rintro e w2 ⟨rfl, h1, g1⟩
    obtain ⟨σ1, hσ1⟩ : ∃ x, x = mustS [105, 58] (.ok () rest.tail) := ⟨_, rfl⟩
    replace h1 : Rs R w2 s dv d1 f (mustS [105, 58] (.ok () rest.tail)) := h1
    rw [← hσ1] at h1 HO
    have HR := Lib.hid h1
    have HG := Lib.hid (HG.out.trans g1)
    clear h1 g1 HMU hσ1
    have c4 := HR.out.c4
    have kz4 := HR.out.fz 4
    have HR4 := Lib.hid (HR.out.folded f1)
    have HG4 := Lib.hid (HG.out.trans (Gr.set (R := R) w2 4 (.int .i64 (f1 : Int))))
    have HRP := Lib.hid (HA1.out _ σ1 (HC0.out.trans HG4.out) HR4.out)
    have hz2 := HG4.out.size
    go_wp2_with fail
    refine HRP.out.mono ?_
    rintro e w3 ⟨v, x, rfl, hv, hx, hr, g3⟩
    have hIN := inner_q F true σ1 o HO.out hx
    obtain ⟨k, sp, sn, sc, kp, kn, kc, mn, mx, rfl⟩ := NV.form5 hv
    have hz3 := g3.size
    obtain ⟨B, hB⟩ : ∃ B, B = w3.heap.size := ⟨_, rfl⟩
    have c4 := hr.c4
    have kz4 := hr.fz 4
    have hRw3 := hr.lt
    have g36 := Gr.set (R := R) w3 4 (.int .i64 (f : Int))
    have hz36 : (w3.setCell ⟨R, 4, none⟩ (.int .i64 (f : Int))).heap.size = w3.heap.size := World.size_setCell _ _ _
    obtain ⟨w4, hw4⟩ : ∃ w4, w4 = (w3.setCell ⟨R, 4, none⟩ (.int .i64 (f : Int))).alloc (.cells #[.int .u8 k, .slice sp sn sc, .slice kp kn kc, .int .i64 mn, .int .i64 mx] 26) := ⟨_, rfl⟩
    have hal : Below (w3.setCell ⟨R, 4, none⟩ (.int .i64 (f : Int))).heap.size (w3.setCell ⟨R, 4, none⟩ (.int .i64 (f : Int))) w4 := by rw [hw4]; exact (Below.refl _ _).alloc (Nat.le_refl _) _
    have hv2 := NV.gr hv g36 (by omega) (Nat.le_refl _) hN
    have HVN6 : Hid (VarN w4 (Old N (W.heap.size + 1)) B x) := Lib.hid (by
      rw [hw4, hB, ← hz36]
      refine ⟨k, sp, sn, sc, kp, kn, kc, mn, mx, heap_alloc_new _ _, ?_⟩
      exact NV.imp hv2 (fun b hA hlt => ⟨⟨hA.imp id (fun h => by omega), by omega⟩, ((Below.refl _ _).alloc (Nat.le_refl _) _).block b hlt⟩) (by rw [World.size_alloc]; omega))
    have HIN := Lib.hid hIN
    have hBR : B ≠ R := by omega
    have hBW : W.heap.size < B := by omega
    obtain ⟨σ2, hσ2⟩ : ∃ σ2, σ2 = Out.u (bindS σ1 (F true)) := ⟨_, rfl⟩
    rw [← hσ2] at hr HIN
    have HR6 := Lib.hid ((hr.folded f).kept hal)
    have HG6 := Lib.hid (HG4.out.trans (g3.trans (g36.trans (Gr.of hal))))
    have HMU := Lib.hid (must1_all (R := R) (s := s) (dv := dv) (d := d1) (f := f) 41 (by decide) σ2)
    clear hv hv2 hx hr hal hIN g3 g36 hσ2 HRP hz36
    go_wp2_with fail
    rw [← hw4]
    clear hw4
    rw [← hB]
    clear hB
    refine (HMU.out _ HR6.out).mono ?_
    rintro e w5 ⟨rfl, h5, g5⟩
    replace h5 : Rs R w5 s dv d1 f (mustO 41 σ2) := h5
    have HR7 := Lib.hid h5
    have HG7 := Lib.hid (HG6.out.trans g5)
    have HVN7 := Lib.hid (HVN6.out.gr g5 (by omega) hBR)
    have c3 := HR7.out.c3
    have kz3 := HR7.out.fz 3
    have HR8 := Lib.hid (HR7.out.deeper d)
    have g8 := Gr.set (R := R) w5 3 (.int .i64 (d : Int))
    have HG8 := Lib.hid (HG7.out.trans g8)
    have HVN8 := Lib.hid (HVN7.out.gr g8 (by omega) hBR)
    clear h5 g5 g8 HMU
    obtain ⟨k, sp, sn, sc, kp, kn, kc, mn, mx, hb, hn⟩ := HVN7.out
    obtain ⟨q0, q1, q2, q3, q4⟩ : w5.cell? ⟨B, 0, none⟩ = some (.int .u8 k) ∧ w5.cell? ⟨B, 1, none⟩ = some (.slice sp sn sc) ∧ w5.cell? ⟨B, 2, none⟩ = some (.slice kp kn kc) ∧ w5.cell? ⟨B, 3, none⟩ = some (.int .i64 mn) ∧ w5.cell? ⟨B, 4, none⟩ = some (.int .i64 mx) :=
      ⟨cell_of_row w5 B 0 _ _ _ hb, cell_of_row w5 B 1 _ _ _ hb, cell_of_row w5 B 2 _ _ _ hb, cell_of_row w5 B 3 _ _ _ hb, cell_of_row w5 B 4 _ _ _ hb⟩
    have HNN : Hid (NV (w5.setCell ⟨R, 3, none⟩ (.int .i64 (d : Int))) (Old N (W.heap.size + 1)) (.agg #[.int .u8 k, .slice sp sn sc, .slice kp kn kc, .int .i64 mn, .int .i64 mx]) x) := Lib.hid (NV.gr (NV.imp hn (fun b hA hlt => ⟨hA.1, rfl⟩) (Nat.le_refl _)) (Gr.set (R := R) w5 3 (.int .i64 (d : Int))) (by omega) (Nat.le_refl _) hN)
    have h5 := HB5.out.gr HG8.out (by omega)
    have h5' := HB5.out.gr HG7.out (by omega)
    obtain ⟨⟨x0, x1, x2, x3, x4, k0, k1, k2, k3, k4⟩, f0, f1, f2, f3, f4⟩ := h5'.cells
    have H5 := Lib.hid h5
    clear h5 h5' hb hn
    go_wp2
    exact ret_node rfl rfl H5.out ⟨_, x, rfl, put5_nv (R := R) _ _ _ _ _ HNN.out (by omega) hRW (by omega), HIN.out.2, by rw [HIN.out.1]; exact Rs.put5 HR8.out (by omega) _ _ _ _ _, put5_grR _ _ _ _ _ (HG0.out.trans HG8.out) (Nat.le_refl _)⟩
  | false =>
    have HO : Hid (o = bindS (.ok () rest) (innerF F (decide (0 < f)))) := Lib.hid (by rw [ho]; exact group_no _ _ _ h63)
    have HT := Lib.hid (tk_no 63 (by decide) (show Rr R _ s dv rest d1 f from HR1.out) h63)
    obtain ⟨f1, hf1⟩ : ∃ f1, f1 = f := ⟨_, rfl⟩
    have ef : IntKind.i64.wrap (f : Int) = (f1 : Int) := by rw [IntWalk.i64_in _ (by omega)]; omega
    have ef2 : IntKind.i64.wrap (f1 : Int) = (f : Int) := by rw [IntWalk.i64_in _ (by omega)]; omega
    have HA1 := Lib.hid (HA0.out f1 (.inl hf1))
    rw [hf1] at HA1
    rw [← hf1] at HA1
    obtain ⟨cl, hcl⟩ : ∃ cl, cl = decide (0 < f) := ⟨_, rfl⟩
    have hcl1 : decide (0 < f1) = cl := by rw [hf1, hcl]
    rw [hcl1] at HA1
    rw [← hcl] at HO
    clear h63 ho hf1 hcl hcl1
    go_enter Tryz.func69, Tryz.ntmps69
    go_wp2_with fail
    rw [← hV]
    clear hV
    refine HT.out.mono ?_
    rintro e w2 ⟨rfl, h1, g1⟩
    obtain ⟨σ1, hσ1⟩ : ∃ x : Out Unit, x = .ok () rest := ⟨_, rfl⟩
    replace h1 : Rs R w2 s dv d1 f (.ok () rest) := h1
    rw [← hσ1] at h1 HO
    have HR := Lib.hid h1
    have HG := Lib.hid (HG1.out.trans g1)
    clear h1 g1 HT c3 kz3 HR1 hσ1
    have c4 := HR.out.c4
    have kz4 := HR.out.fz 4
    have HR4 := Lib.hid (HR.out.folded f1)
    have HG4 := Lib.hid (HG.out.trans (Gr.set (R := R) w2 4 (.int .i64 (f1 : Int))))
    have HRP := Lib.hid (HA1.out _ σ1 (HC0.out.trans HG4.out) HR4.out)
    have hz2 := HG4.out.size
    go_wp2_with fail
    refine HRP.out.mono ?_
    rintro e w3 ⟨v, x, rfl, hv, hx, hr, g3⟩
    have hIN := inner_q F cl σ1 o HO.out hx
    obtain ⟨k, sp, sn, sc, kp, kn, kc, mn, mx, rfl⟩ := NV.form5 hv
    have hz3 := g3.size
    obtain ⟨B, hB⟩ : ∃ B, B = w3.heap.size := ⟨_, rfl⟩
    have c4 := hr.c4
    have kz4 := hr.fz 4
    have hRw3 := hr.lt
    have g36 := Gr.set (R := R) w3 4 (.int .i64 (f : Int))
    have hz36 : (w3.setCell ⟨R, 4, none⟩ (.int .i64 (f : Int))).heap.size = w3.heap.size := World.size_setCell _ _ _
    obtain ⟨w4, hw4⟩ : ∃ w4, w4 = (w3.setCell ⟨R, 4, none⟩ (.int .i64 (f : Int))).alloc (.cells #[.int .u8 k, .slice sp sn sc, .slice kp kn kc, .int .i64 mn, .int .i64 mx] 26) := ⟨_, rfl⟩
    have hal : Below (w3.setCell ⟨R, 4, none⟩ (.int .i64 (f : Int))).heap.size (w3.setCell ⟨R, 4, none⟩ (.int .i64 (f : Int))) w4 := by rw [hw4]; exact (Below.refl _ _).alloc (Nat.le_refl _) _
    have hv2 := NV.gr hv g36 (by omega) (Nat.le_refl _) hN
    have HVN6 : Hid (VarN w4 (Old N (W.heap.size + 1)) B x) := Lib.hid (by
      rw [hw4, hB, ← hz36]
      refine ⟨k, sp, sn, sc, kp, kn, kc, mn, mx, heap_alloc_new _ _, ?_⟩
      exact NV.imp hv2 (fun b hA hlt => ⟨⟨hA.imp id (fun h => by omega), by omega⟩, ((Below.refl _ _).alloc (Nat.le_refl _) _).block b hlt⟩) (by rw [World.size_alloc]; omega))
    have HIN := Lib.hid hIN
    have hBR : B ≠ R := by omega
    have hBW : W.heap.size < B := by omega
    obtain ⟨σ2, hσ2⟩ : ∃ σ2, σ2 = Out.u (bindS σ1 (F cl)) := ⟨_, rfl⟩
    rw [← hσ2] at hr HIN
    have HR6 := Lib.hid ((hr.folded f).kept hal)
    have HG6 := Lib.hid (HG4.out.trans (g3.trans (g36.trans (Gr.of hal))))
    have HMU := Lib.hid (must1_all (R := R) (s := s) (dv := dv) (d := d1) (f := f) 41 (by decide) σ2)
    clear hv hv2 hx hr hal hIN g3 g36 hσ2 HRP hz36
    go_wp2_with fail
    rw [← hw4]
    clear hw4
    rw [← hB]
    clear hB
    refine (HMU.out _ HR6.out).mono ?_
    rintro e w5 ⟨rfl, h5, g5⟩
    replace h5 : Rs R w5 s dv d1 f (mustO 41 σ2) := h5
    have HR7 := Lib.hid h5
    have HG7 := Lib.hid (HG6.out.trans g5)
    have HVN7 := Lib.hid (HVN6.out.gr g5 (by omega) hBR)
    have c3 := HR7.out.c3
    have kz3 := HR7.out.fz 3
    have HR8 := Lib.hid (HR7.out.deeper d)
    have g8 := Gr.set (R := R) w5 3 (.int .i64 (d : Int))
    have HG8 := Lib.hid (HG7.out.trans g8)
    have HVN8 := Lib.hid (HVN7.out.gr g8 (by omega) hBR)
    clear h5 g5 g8 HMU
    obtain ⟨k, sp, sn, sc, kp, kn, kc, mn, mx, hb, hn⟩ := HVN7.out
    obtain ⟨q0, q1, q2, q3, q4⟩ : w5.cell? ⟨B, 0, none⟩ = some (.int .u8 k) ∧ w5.cell? ⟨B, 1, none⟩ = some (.slice sp sn sc) ∧ w5.cell? ⟨B, 2, none⟩ = some (.slice kp kn kc) ∧ w5.cell? ⟨B, 3, none⟩ = some (.int .i64 mn) ∧ w5.cell? ⟨B, 4, none⟩ = some (.int .i64 mx) :=
      ⟨cell_of_row w5 B 0 _ _ _ hb, cell_of_row w5 B 1 _ _ _ hb, cell_of_row w5 B 2 _ _ _ hb, cell_of_row w5 B 3 _ _ _ hb, cell_of_row w5 B 4 _ _ _ hb⟩
    have HNN : Hid (NV (w5.setCell ⟨R, 3, none⟩ (.int .i64 (d : Int))) (Old N (W.heap.size + 1)) (.agg #[.int .u8 k, .slice sp sn sc, .slice kp kn kc, .int .i64 mn, .int .i64 mx]) x) := Lib.hid (NV.gr (NV.imp hn (fun b hA hlt => ⟨hA.1, rfl⟩) (Nat.le_refl _)) (Gr.set (R := R) w5 3 (.int .i64 (d : Int))) (by omega) (Nat.le_refl _) hN)
    have h5 := HB5.out.gr HG8.out (by omega)
    have h5' := HB5.out.gr HG7.out (by omega)
    obtain ⟨⟨x0, x1, x2, x3, x4, k0, k1, k2, k3, k4⟩, f0, f1, f2, f3, f4⟩ := h5'.cells
    have H5 := Lib.hid h5
    clear h5 h5' hb hn
    go_wp2
    exact ret_node rfl rfl H5.out ⟨_, x, rfl, put5_nv (R := R) _ _ _ _ _ HNN.out (by omega) hRW (by omega), HIN.out.2, by rw [HIN.out.1]; exact Rs.put5 HR8.out (by omega) _ _ _ _ _, put5_grR _ _ _ _ _ (HG0.out.trans HG8.out) (Nat.le_refl _)⟩
end
end Go.Proofs.YtdcnfflleaplnaaGreatDoor
