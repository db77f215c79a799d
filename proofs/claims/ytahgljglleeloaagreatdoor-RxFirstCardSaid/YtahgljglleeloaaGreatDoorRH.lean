/- RGroup, RAtom, in one text. -/
import Derived.Test.YtahgljglleeloaaGreatDoorRG
/- The reader reads a pattern in brackets. -/
namespace Go.Proofs.YtahgljglleeloaaGreatDoor
open Go.RowKit Go.Shelf Go.Maps SetM PropsM RxM
variable {R : Nat} {W W0 : World} {s : ByteArray} {dv : Value} {rest : List Int} {d : Nat} {cl : Bool}

theorem pre2 (r : List Int) : [105, 58] <+: r ↔ (at1 105 r = true ∧ at1 58 r.tail = true) := by
  match r with
  | [] => simp [at1]
  | [a] => simp [at1]
  | a :: b :: r => simp [at1, eq_comm]
set_option maxRecDepth 100000 in
set_option maxHeartbeats 2000000 in
theorem group_deep {t : List Int} (h : Rd R W s dv (40 :: t) 20 cl) :
    Calls Tryz.prog 61 #[.pointer (some ⟨R, 0, none⟩)] W (Post R s dv 20 cl W (nodeV W0.heap.size W.heap.size) (.err 61 (40 :: t))) := by
  have hb := (Below.refl W.heap.size W).alloc (Nat.le_refl _) (.cells #[.int .u8 0, .slice none 0 0, .slice none 0 0, .int .i64 0, .int .i64 0] 27)
  have HB := Lib.hid hb
  have d3 : (W.alloc (.cells #[.int .u8 0, .slice none 0 0, .slice none 0 0, .int .i64 0, .int .i64 0] 27)).cell? ⟨R, 3, none⟩ = some (.int .i64 20) := (h.kept hb).c3
  have d1 := (h.kept hb).c1
  clear h hb
  go_enter Tryz.func61, Tryz.ntmps61
  go_wp2
  exact ⟨rfl, Post.bad rfl (Gr.of HB.out)⟩
set_option maxRecDepth 100000 in
set_option maxHeartbeats 4000000 in
theorem group_c {f : Bool → List Int → Out Nd} (hd : d < 20) (HALT : ∀ c, NodeOk 26 R s dv (d + 1) c W0 (fun _ => True) (f c)) (hC : Cy R W0 W) {t : List Int} (h : Rd R W s dv (40 :: t) d cl) :
    Calls Tryz.prog 61 #[.pointer (some ⟨R, 0, none⟩)] W (Post R s dv d cl W (nodeV W0.heap.size W.heap.size) (groupF f cl t)) := by
  obtain ⟨o, ho⟩ : ∃ o, o = groupF f cl t := ⟨_, rfl⟩
  rw [← ho]
  have HO := Lib.hid ho
  unfold groupF at HO
  have hRl := h.lt
  have hLR := hC.le
  obtain ⟨V, hV⟩ : ∃ V, V = W.alloc (.cells #[.int .u8 0, .slice none 0 0, .slice none 0 0, .int .i64 0, .int .i64 0] 27) := ⟨_, rfl⟩
  have hb0 : Below W.heap.size W V := by rw [hV]; exact (Below.refl W.heap.size W).alloc (Nat.le_refl _) _
  have HZ : Hid (V.heap.size = W.heap.size + 1) := Lib.hid (by rw [hV]; exact World.size_alloc _ _)
  have HB5 : Hid (B5 V W.heap.size) := Lib.hid (by rw [hV]; exact B5.new W _ _ _ _ _)
  have HG0 := Lib.hid (Gr.of (R := R) hb0)
  have HC0 := Lib.hid hC
  have hr0 := h.kept hb0
  have HN := Lib.hid (need1_c 40 40 rfl (by decide) hr0)
  rw [show needF 40 (40 :: t) = .ok () t from rfl] at HN
  have HALT := Lib.hid HALT
  have d3 : (W.alloc (.cells #[.int .u8 0, .slice none 0 0, .slice none 0 0, .int .i64 0, .int .i64 0] 27)).cell? ⟨R, 3, none⟩ = some (.int .i64 d) := by rw [← hV]; exact hr0.c3
  have hd20 : ((d : Int) == 20) = false := by rw [beq_eq_false_iff_ne]; omega
  have ew : IntKind.i64.wrap ((d : Int) + 1) = (d : Int) + 1 := IntWalk.i64_in _ (by omega)
  have ew2 : IntKind.i64.wrap (d : Int) = (d : Int) := IntWalk.i64_in _ (by omega)
  have ew3 : IntKind.i64.wrap ((d : Int) + 1 - 1) = (d : Int) := by rw [Int.add_sub_cancel]; exact ew2
  clear h ho hb0 hC hr0
  go_enter Tryz.func61, Tryz.ntmps61
  go_wp2_with fail
  rw [← hV]
  refine HN.out.mono ?_
  rintro e w1 ⟨g1, v, rfl, rfl, hr⟩
  have HR := Lib.hid hr
  have G1 := Lib.hid g1
  have d4 := hr.c4
  have HT := Lib.hid (take1_c 63 63 rfl (by decide) HR.out _ rfl)
  clear g1 hV hr HN d3
  go_wp2_with fail
  refine HT.out.mono ?_
  rintro e w2 ⟨rfl, hr, g2⟩
  have HR := Lib.hid hr
  have G2 := Lib.hid (G1.out.trans g2)
  clear hr g2 HT d4
  cases hq : at1 63 t with
  | false =>
    simp only [hq, Bool.false_eq_true, if_false] at HO HR
    clear hq
    have d3 := HR.out.c3
    have d3z := HR.out.z 3
    have d4 := HR.out.c4
    have d4z := HR.out.z 4
    have HRD := Lib.hid (HR.out.deeper (d + 1))
    have GD := Lib.hid (G2.out.trans (Gr.set w2 3 (.int .i64 ((d + 1 : Nat) : Int))))
    have HSZ : Hid ((w2.setCell ⟨R, 3, none⟩ (.int .i64 ((d + 1 : Nat) : Int))).heap.size = w2.heap.size) := Lib.hid (World.size_setCell ..)
    have HAL := Lib.hid (HALT.out cl _ t trivial (HC0.out.gr (HG0.out.trans GD.out)) HRD.out)
    go_wp2_with fail
    refine HAL.out.mono ?_
    rintro e w5 ⟨g5, h5⟩
    have G5 := Lib.hid (GD.out.trans g5)
    have GWW := Lib.hid (HG0.out.trans G5.out)
    have hz5 := g5.size
    have hVs := GD.out.size
    clear g5 HAL
    unfold innerF at HO
    cases hn : f cl t with
    | err e x =>
      rw [hn] at h5 HO
      dsimp only at HO
      obtain rfl := h5
      clear hn
      go_wp2
      exact ⟨rfl, Post.bad HO.out GWW.out⟩
    | ok x r1 =>
      rw [hn] at h5 HO
      dsimp only at HO
      obtain ⟨v, rfl, hv, hr⟩ := h5
      obtain ⟨k, sp, sn, sc, kp, kn, kc, mn, mx, rfl⟩ := NV.form5 hv
      have hR5 : R < w5.heap.size := hr.lt
      obtain ⟨V1, hV1⟩ : ∃ V1, V1 = w5.alloc (.cells #[.int .u8 k, .slice sp sn sc, .slice kp kn kc, .int .i64 mn, .int .i64 mx] 27) := ⟨_, rfl⟩
      have hb1 : Below w5.heap.size w5 V1 := by rw [hV1]; exact (Below.refl _ _).alloc (Nat.le_refl _) _
      have HVN : Hid (VarN V1 (Old W0.heap.size (W.heap.size + 1)) w5.heap.size x) := Lib.hid (by
        rw [hV1]
        refine ⟨k, sp, sn, sc, kp, kn, kc, mn, mx, heap_alloc_new w5 _, ?_⟩
        refine NV.imp hv (fun b hA hlt => ⟨⟨?_, by omega⟩, ((Below.refl w5.heap.size w5).alloc (Nat.le_refl _) _).block b hlt⟩) (by rw [World.size_alloc]; omega)
        have hz := HZ.out
        have hs2 := HSZ.out
        exact hA.imp id (fun h => by omega))
      have HR := Lib.hid (hr.kept hb1)
      have G5 := Lib.hid (G5.out.trans (Gr.of hb1))
      have GWW := Lib.hid (HG0.out.trans G5.out)
      clear hv hr hb1 hn
      go_wp2_with fail
      rw [← hV1]
      clear hV1
      obtain ⟨B, hB⟩ : ∃ B, B = w5.heap.size := ⟨_, rfl⟩
      rw [← hB] at HVN hR5 ⊢
      have HBZ : Hid (W.heap.size < B) := Lib.hid (by have := HZ.out; omega)
      clear hB
      refine (need1_c 41 41 rfl (by decide) HR.out).mono ?_
      rintro e w6 ⟨g6, h6⟩
      have G6 := Lib.hid (G5.out.trans g6)
      have GW6 := Lib.hid (HG0.out.trans G6.out)
      have hvn6 := HVN.out.gr g6 (by omega) (by omega)
      clear g6
      cases h9 : needF 41 r1 with
      | err e x =>
        rw [h9] at h6 HO
        dsimp only at HO
        obtain rfl := h6
        clear h9
        go_wp2
        exact ⟨rfl, Post.bad HO.out GW6.out⟩
      | ok uu r2 =>
        rw [h9] at h6 HO
        dsimp only at HO
        obtain ⟨v, rfl, rfl, hr6⟩ := h6
        have d3 : w6.cell? ⟨R, 3, none⟩ = some (.int .i64 ((d : Int) + 1)) := hr6.c3
        have d3z := hr6.z 3
        have d4 := hr6.c4
        have d4z := hr6.z 4
        have HRF := Lib.hid ((hr6.deeper d).cased cl)
        have GF := Lib.hid ((G6.out.trans (Gr.set w6 3 (.int .i64 d))).trans (Gr.set (w6.setCell ⟨R, 3, none⟩ (.int .i64 d)) 4 (.bool cl)))
        have GWF := Lib.hid (HG0.out.trans GF.out)
        have hvnF := hvn6.gr ((Gr.set w6 3 (.int .i64 d)).trans (Gr.set (w6.setCell ⟨R, 3, none⟩ (.int .i64 d)) 4 (.bool cl))) (by omega) (by omega)
        have h5 := HB5.out.gr GF.out (by omega)
        obtain ⟨wF, hwF⟩ : ∃ wF, wF = (w6.setCell ⟨R, 3, none⟩ (.int .i64 d)).setCell ⟨R, 4, none⟩ (.bool cl) := ⟨_, rfl⟩
        rw [← hwF] at HRF GF GWF hvnF h5
        obtain ⟨k, sp, sn, sc, kp, kn, kc, mn, mx, hb, hnF⟩ := hvnF
        have HNF := Lib.hid hnF
        have hq : wF.cell? ⟨B, 0, none⟩ = some (.int .u8 k) ∧ wF.cell? ⟨B, 1, none⟩ = some (.slice sp sn sc) ∧ wF.cell? ⟨B, 2, none⟩ = some (.slice kp kn kc) ∧ wF.cell? ⟨B, 3, none⟩ = some (.int .i64 mn) ∧ wF.cell? ⟨B, 4, none⟩ = some (.int .i64 mx) :=
          ⟨cell_of_row wF B 0 _ _ _ hb, cell_of_row wF B 1 _ _ _ hb, cell_of_row wF B 2 _ _ _ hb, cell_of_row wF B 3 _ _ _ hb, cell_of_row wF B 4 _ _ _ hb⟩
        have hc5 := h5.cells
        have H5 := Lib.hid h5
        rw [hwF] at hq hc5
        obtain ⟨q0, q1, q2, q3, q4⟩ := hq
        obtain ⟨⟨x0, x1, x2, x3, x4, k0, k1, k2, k3, k4⟩, f0, f1, f2, f3, f4⟩ := hc5
        have hww := Lib.hid hwF
        clear h9 hr6 hvn6 hb hnF h5 HVN hwF
        go_wp2
        have hwF := hww.out
        rw [← hwF]
        exact ret_node rfl rfl H5.out (Post.good HO.out (put5_grR _ _ _ _ _ GWF.out (Nat.le_refl _)) (put5_nv _ _ _ _ _ (HNF.out.imp (fun b hA hlt => ⟨hA.1, rfl⟩) (Nat.le_refl _)) (Nat.lt_succ_self _) hRl (Nat.le_succ _)) (put5_rd _ _ _ _ _ HRF.out (by omega)))
  | true =>
    simp only [hq, if_true] at HO HR
    clear hq
    obtain ⟨r, hr⟩ : ∃ r, r = t.tail := ⟨_, rfl⟩
    rw [← hr] at HO HR
    clear hr
    have hbs : bs ⟨#[105, 58]⟩ = [105, 58] := rfl
    have hlow : Low (bs ⟨#[105, 58]⟩) := by rw [hbs]; intro c hc; simp at hc; omega
    by_cases hp : [105, 58] <+: r
    · obtain ⟨r2, rfl⟩ := hp
      have HO : Hid (o = innerF f true r2) := HO
      have HNY := Lib.hid (need_yes ⟨#[105, 58]⟩ hlow r2 HR.out)
      clear hlow hbs
      go_wp2_with fail
      refine HNY.out.mono ?_
      rintro e w3 ⟨rfl, hr, g3⟩
      have HR := Lib.hid hr
      have G3 := Lib.hid (G2.out.trans g3)
      clear hr g3 HNY
      have d3 := HR.out.c3
      have d3z := HR.out.z 3
      have d4 := HR.out.c4
      have d4z := HR.out.z 4
      have HRD := Lib.hid ((HR.out.cased true).deeper (d + 1))
      have GD := Lib.hid ((G3.out.trans (Gr.set w3 4 (.bool true))).trans (Gr.set (w3.setCell ⟨R, 4, none⟩ (.bool true)) 3 (.int .i64 ((d + 1 : Nat) : Int))))
      have HSZ : Hid (((w3.setCell ⟨R, 4, none⟩ (.bool true)).setCell ⟨R, 3, none⟩ (.int .i64 ((d + 1 : Nat) : Int))).heap.size = w3.heap.size) := Lib.hid (by rw [World.size_setCell, World.size_setCell])
      have HAL := Lib.hid (HALT.out true _ r2 trivial (HC0.out.gr (HG0.out.trans GD.out)) HRD.out)
      go_wp2_with fail
      refine HAL.out.mono ?_
      rintro e w5 ⟨g5, h5⟩
      have G5 := Lib.hid (GD.out.trans g5)
      have GWW := Lib.hid (HG0.out.trans G5.out)
      have hz5 := g5.size
      have hVs := GD.out.size
      clear g5 HAL
      unfold innerF at HO
      cases hn : f true r2 with
      | err e x =>
        rw [hn] at h5 HO
        dsimp only at HO
        obtain rfl := h5
        clear hn
        go_wp2
        exact ⟨rfl, Post.bad HO.out GWW.out⟩
      | ok x r1 =>
        rw [hn] at h5 HO
        dsimp only at HO
        obtain ⟨v, rfl, hv, hr⟩ := h5
        obtain ⟨k, sp, sn, sc, kp, kn, kc, mn, mx, rfl⟩ := NV.form5 hv
        have hR5 : R < w5.heap.size := hr.lt
        obtain ⟨V1, hV1⟩ : ∃ V1, V1 = w5.alloc (.cells #[.int .u8 k, .slice sp sn sc, .slice kp kn kc, .int .i64 mn, .int .i64 mx] 27) := ⟨_, rfl⟩
        have hb1 : Below w5.heap.size w5 V1 := by rw [hV1]; exact (Below.refl _ _).alloc (Nat.le_refl _) _
        have HVN : Hid (VarN V1 (Old W0.heap.size (W.heap.size + 1)) w5.heap.size x) := Lib.hid (by
          rw [hV1]
          refine ⟨k, sp, sn, sc, kp, kn, kc, mn, mx, heap_alloc_new w5 _, ?_⟩
          refine NV.imp hv (fun b hA hlt => ⟨⟨?_, by omega⟩, ((Below.refl w5.heap.size w5).alloc (Nat.le_refl _) _).block b hlt⟩) (by rw [World.size_alloc]; omega)
          have hz := HZ.out
          have hs2 := HSZ.out
          exact hA.imp id (fun h => by omega))
        have HR := Lib.hid (hr.kept hb1)
        have G5 := Lib.hid (G5.out.trans (Gr.of hb1))
        have GWW := Lib.hid (HG0.out.trans G5.out)
        clear hv hr hb1 hn
        go_wp2_with fail
        rw [← hV1]
        clear hV1
        obtain ⟨B, hB⟩ : ∃ B, B = w5.heap.size := ⟨_, rfl⟩
        rw [← hB] at HVN hR5 ⊢
        have HBZ : Hid (W.heap.size < B) := Lib.hid (by have := HZ.out; omega)
        clear hB
        refine (need1_c 41 41 rfl (by decide) HR.out).mono ?_
        rintro e w6 ⟨g6, h6⟩
        have G6 := Lib.hid (G5.out.trans g6)
        have GW6 := Lib.hid (HG0.out.trans G6.out)
        have hvn6 := HVN.out.gr g6 (by omega) (by omega)
        clear g6
        cases h9 : needF 41 r1 with
        | err e x =>
          rw [h9] at h6 HO
          dsimp only at HO
          obtain rfl := h6
          clear h9
          go_wp2
          exact ⟨rfl, Post.bad HO.out GW6.out⟩
        | ok uu r2 =>
          rw [h9] at h6 HO
          dsimp only at HO
          obtain ⟨v, rfl, rfl, hr6⟩ := h6
          have d3 : w6.cell? ⟨R, 3, none⟩ = some (.int .i64 ((d : Int) + 1)) := hr6.c3
          have d3z := hr6.z 3
          have d4 := hr6.c4
          have d4z := hr6.z 4
          have HRF := Lib.hid ((hr6.deeper d).cased cl)
          have GF := Lib.hid ((G6.out.trans (Gr.set w6 3 (.int .i64 d))).trans (Gr.set (w6.setCell ⟨R, 3, none⟩ (.int .i64 d)) 4 (.bool cl)))
          have GWF := Lib.hid (HG0.out.trans GF.out)
          have hvnF := hvn6.gr ((Gr.set w6 3 (.int .i64 d)).trans (Gr.set (w6.setCell ⟨R, 3, none⟩ (.int .i64 d)) 4 (.bool cl))) (by omega) (by omega)
          have h5 := HB5.out.gr GF.out (by omega)
          obtain ⟨wF, hwF⟩ : ∃ wF, wF = (w6.setCell ⟨R, 3, none⟩ (.int .i64 d)).setCell ⟨R, 4, none⟩ (.bool cl) := ⟨_, rfl⟩
          rw [← hwF] at HRF GF GWF hvnF h5
          obtain ⟨k, sp, sn, sc, kp, kn, kc, mn, mx, hb, hnF⟩ := hvnF
          have HNF := Lib.hid hnF
          have hq : wF.cell? ⟨B, 0, none⟩ = some (.int .u8 k) ∧ wF.cell? ⟨B, 1, none⟩ = some (.slice sp sn sc) ∧ wF.cell? ⟨B, 2, none⟩ = some (.slice kp kn kc) ∧ wF.cell? ⟨B, 3, none⟩ = some (.int .i64 mn) ∧ wF.cell? ⟨B, 4, none⟩ = some (.int .i64 mx) :=
            ⟨cell_of_row wF B 0 _ _ _ hb, cell_of_row wF B 1 _ _ _ hb, cell_of_row wF B 2 _ _ _ hb, cell_of_row wF B 3 _ _ _ hb, cell_of_row wF B 4 _ _ _ hb⟩
          have hc5 := h5.cells
          have H5 := Lib.hid h5
          rw [hwF] at hq hc5
          obtain ⟨q0, q1, q2, q3, q4⟩ := hq
          obtain ⟨⟨x0, x1, x2, x3, x4, k0, k1, k2, k3, k4⟩, f0, f1, f2, f3, f4⟩ := hc5
          have hww := Lib.hid hwF
          clear h9 hr6 hvn6 hb hnF h5 HVN hwF
          go_wp2
          have hwF := hww.out
          rw [← hwF]
          exact ret_node rfl rfl H5.out (Post.good HO.out (put5_grR _ _ _ _ _ GWF.out (Nat.le_refl _)) (put5_nv _ _ _ _ _ (HNF.out.imp (fun b hA hlt => ⟨hA.1, rfl⟩) (Nat.le_refl _)) (Nat.lt_succ_self _) hRl (Nat.le_succ _)) (put5_rd _ _ _ _ _ HRF.out (by omega)))
    · have hn : ¬ (at1 105 r = true ∧ at1 58 r.tail = true) := fun h => hp ((pre2 r).2 h)
      rw [if_neg hn] at HO
      have HNN := Lib.hid (need_no ⟨#[105, 58]⟩ hlow (by rw [hbs]; exact hp) HR.out)
      clear hn hp hlow hbs
      go_wp2_with fail
      refine HNN.out.mono ?_
      rintro e w3 ⟨rfl, b3⟩
      go_wp2
      exact ⟨rfl, Post.bad HO.out (HG0.out.trans (G2.out.trans (Gr.of b3)))⟩
end Go.Proofs.YtahgljglleeloaaGreatDoor

/- The reader reads an atom. -/
namespace Go.Proofs.YtahgljglleeloaaGreatDoor
open Go.RowKit Go.Shelf Go.Maps SetM PropsM RxM
variable {R : Nat} {W W0 : World} {s : ByteArray} {dv : Value} {rest : List Int} {d : Nat} {cl : Bool}

theorem fld_spans (a b : Value) : ∀ w, (Instr.field 101 (.agg #[a, b]) 0).run Tryz.prog w = .ok a w := by
  intro w
  simp [Instr.field, run_underlying Tryz.underlying101, go_sem, asAgg]
theorem atomF_eq (D : List Df) (f : Option (Bool → List Int → Out Nd)) (cl : Bool) (r : List Int) (h : r ≠ []) : atomF D f cl r =
    if at1 40 r then (match f with
      | none => .err 61 r
      | some f => groupF f cl r.tail)
    else if at1 123 r then namedF D cl r r.tail
    else if at1 91 r then (match classF r.tail with
      | .err e x => .err e x
      | .ok K r1 => .ok (chN cl K) r1)
    else if at1 92 r then (match escF r r.tail with
      | .err e x => .err e x
      | .ok p r1 => .ok (chN cl (Tells (pcS p))) r1)
    else if at1 46 r then .ok (chN cl (notK (Tells [(10, 10)]))) r.tail
    else .ok (chN cl (Tells [(r.headD 0, r.headD 0)])) r.tail := by
  cases r with
  | nil => exact absurd rfl h
  | cons c t =>
    by_cases h1 : c = 40
    · subst h1; rfl
    by_cases h2 : c = 123
    · subst h2; rfl
    by_cases h3 : c = 91
    · subst h3; rfl
    by_cases h4 : c = 92
    · subst h4; rfl
    by_cases h5 : c = 46
    · subst h5; rfl
    simp [atomF, at1, h1, h2, h3, h4, h5]
set_option maxRecDepth 100000 in
set_option maxHeartbeats 8000000 in
theorem atom_c {D : List Df} {f : Option (Bool → List Int → Out Nd)}
    (HGR : ∀ W t, Cy R W0 W → Rd R W s dv (40 :: t) d cl → Calls Tryz.prog 61 #[.pointer (some ⟨R, 0, none⟩)] W (Post R s dv d cl W (nodeV W0.heap.size W.heap.size) (match f with
      | none => .err 61 (40 :: t)
      | some f => groupF f cl t)))
    (HNM : ∀ W t, Cy R W0 W → Rd R W s dv (123 :: t) d cl → Calls Tryz.prog 62 #[.pointer (some ⟨R, 0, none⟩)] W (Post R s dv d cl W (nodeV W0.heap.size W.heap.size) (namedF D cl (123 :: t) t))) :
    NodeOk 53 R s dv d cl W0 Begins (atomF D f cl) := by
  intro W rest hP hC h
  obtain ⟨o, ho⟩ : ∃ o, o = atomF D f cl rest := ⟨_, rfl⟩
  rw [← ho]
  have HO := Lib.hid ho
  rw [atomF_eq D f cl rest hP.1] at HO
  have HNE := Lib.hid hP.1
  have hRl := h.lt
  have hLR := hC.le
  obtain ⟨V, hV⟩ : ∃ V, V = W.alloc (.cells #[.int .u8 0, .slice none 0 0, .slice none 0 0, .int .i64 0, .int .i64 0] 27) := ⟨_, rfl⟩
  have hb0 : Below W.heap.size W V := by rw [hV]; exact (Below.refl W.heap.size W).alloc (Nat.le_refl _) _
  have HZ : Hid (V.heap.size = W.heap.size + 1) := Lib.hid (by rw [hV]; exact World.size_alloc _ _)
  have HB5 : Hid (B5 V W.heap.size) := Lib.hid (by rw [hV]; exact B5.new W _ _ _ _ _)
  have HG0 := Lib.hid (Gr.of (R := R) hb0)
  have HC0 := Lib.hid hC
  have HR := Lib.hid (h.kept hb0)
  have G := Lib.hid (Gr.refl R V)
  have HGR := Lib.hid HGR
  have HNM := Lib.hid HNM
  have hfl := fld_spans
  clear h ho hb0 hC hP
  go_enter Tryz.func53, Tryz.ntmps53
  go_wp2_with fail
  rw [← hV]
  refine (one1_c 40 40 rfl HR.out.lt).mono ?_
  rintro e w3 ⟨v, rfl, hv, b3⟩
  obtain ⟨g0, lb0, rfl⟩ := hv.form
  have HVV := Lib.hid hv
  have HR := Lib.hid (HR.out.kept b3)
  have G := Lib.hid (G.out.trans (Gr.of b3))
  clear hv b3 hV
  go_wp2_with fail
  refine (sees1_c R _ 40 (by decide) HVV.out HR.out).mono ?_
  rintro e w4 ⟨rfl, b4⟩
  have HR := Lib.hid (HR.out.kept b4)
  have G := Lib.hid (G.out.trans (Gr.of b4))
  clear b4 HVV
  cases hq : at1 40 rest with
  | true =>
    simp only [hq, if_true] at HO
    have he := at1_true hq
    obtain ⟨t, ht⟩ : ∃ t, t = rest.tail := ⟨_, rfl⟩
    rw [← ht] at he HO
    clear hq ht
    subst he
    have HCY := Lib.hid (HC0.out.gr (HG0.out.trans G.out))
    go_wp2_with fail
    refine (HGR.out _ _ HCY.out HR.out).mono ?_
    rintro e w7 ⟨g7, h7⟩
    have G7 := Lib.hid (G.out.trans g7)
    have hGz := G.out.size
    clear g7
    rw [← HO.out] at h7
    cases o with
    | err e x =>
      obtain rfl := h7
      go_wp2
      exact ⟨rfl, Post.bad rfl (HG0.out.trans G7.out)⟩
    | ok p x =>
      obtain ⟨v, rfl, hv, hr⟩ := h7
      have HR7 := Lib.hid hr
      unfold nodeV at hv
      clear hr
      have GWz := Lib.hid (HG0.out.trans G7.out)
      have h5 := HB5.out.gr G7.out (by omega)
      obtain ⟨⟨x0, x1, x2, x3, x4, k0, k1, k2, k3, k4⟩, f0, f1, f2, f3, f4⟩ := h5.cells
      have HMZ : Hid (W.heap.size < w4.heap.size) := Lib.hid (by have := HZ.out; omega)
      have HU := Lib.hid hv
      have H5 := Lib.hid h5
      obtain ⟨k, sp, sn, sc, kp, kn, kc, mn, mx, rfl⟩ := NV.form5 hv
      clear hv h5
      go_wp2
      exact ret_node rfl rfl H5.out (Post.good rfl (put5_grR _ _ _ _ _ GWz.out (Nat.le_refl _)) (put5_nv _ _ _ _ _ HU.out HMZ.out hRl (Nat.le_of_lt HMZ.out)) (put5_rd _ _ _ _ _ HR7.out (by omega)))
  | false =>
  simp only [hq, Bool.false_eq_true, if_false] at HO
  clear hq
  go_wp2_with fail
  refine (one1_c 123 123 rfl HR.out.lt).mono ?_
  rintro e w3 ⟨v, rfl, hv, b3⟩
  obtain ⟨g0, lb0, rfl⟩ := hv.form
  have HVV := Lib.hid hv
  have HR := Lib.hid (HR.out.kept b3)
  have G := Lib.hid (G.out.trans (Gr.of b3))
  clear hv b3
  go_wp2_with fail
  refine (sees1_c R _ 123 (by decide) HVV.out HR.out).mono ?_
  rintro e w4 ⟨rfl, b4⟩
  have HR := Lib.hid (HR.out.kept b4)
  have G := Lib.hid (G.out.trans (Gr.of b4))
  clear b4 HVV
  cases hq : at1 123 rest with
  | true =>
    simp only [hq, if_true] at HO
    have he := at1_true hq
    obtain ⟨t, ht⟩ : ∃ t, t = rest.tail := ⟨_, rfl⟩
    rw [← ht] at he HO
    clear hq ht
    subst he
    have HCY := Lib.hid (HC0.out.gr (HG0.out.trans G.out))
    go_wp2_with fail
    refine (HNM.out _ _ HCY.out HR.out).mono ?_
    rintro e w7 ⟨g7, h7⟩
    have G7 := Lib.hid (G.out.trans g7)
    have hGz := G.out.size
    clear g7
    rw [← HO.out] at h7
    cases o with
    | err e x =>
      obtain rfl := h7
      go_wp2
      exact ⟨rfl, Post.bad rfl (HG0.out.trans G7.out)⟩
    | ok p x =>
      obtain ⟨v, rfl, hv, hr⟩ := h7
      have HR7 := Lib.hid hr
      unfold nodeV at hv
      clear hr
      have GWz := Lib.hid (HG0.out.trans G7.out)
      have h5 := HB5.out.gr G7.out (by omega)
      obtain ⟨⟨x0, x1, x2, x3, x4, k0, k1, k2, k3, k4⟩, f0, f1, f2, f3, f4⟩ := h5.cells
      have HMZ : Hid (W.heap.size < w4.heap.size) := Lib.hid (by have := HZ.out; omega)
      have HU := Lib.hid hv
      have H5 := Lib.hid h5
      obtain ⟨k, sp, sn, sc, kp, kn, kc, mn, mx, rfl⟩ := NV.form5 hv
      clear hv h5
      go_wp2
      exact ret_node rfl rfl H5.out (Post.good rfl (put5_grR _ _ _ _ _ GWz.out (Nat.le_refl _)) (put5_nv _ _ _ _ _ HU.out HMZ.out hRl (Nat.le_of_lt HMZ.out)) (put5_rd _ _ _ _ _ HR7.out (by omega)))
  | false =>
  simp only [hq, Bool.false_eq_true, if_false] at HO
  clear hq
  go_wp2_with fail
  refine (one1_c 91 91 rfl HR.out.lt).mono ?_
  rintro e w3 ⟨v, rfl, hv, b3⟩
  obtain ⟨g0, lb0, rfl⟩ := hv.form
  have HVV := Lib.hid hv
  have HR := Lib.hid (HR.out.kept b3)
  have G := Lib.hid (G.out.trans (Gr.of b3))
  clear hv b3
  go_wp2_with fail
  refine (sees1_c R _ 91 (by decide) HVV.out HR.out).mono ?_
  rintro e w4 ⟨rfl, b4⟩
  have HR := Lib.hid (HR.out.kept b4)
  have G := Lib.hid (G.out.trans (Gr.of b4))
  clear b4 HVV
  cases hq : at1 91 rest with
  | true =>
    simp only [hq, if_true] at HO
    have he := at1_true hq
    obtain ⟨t, ht⟩ : ∃ t, t = rest.tail := ⟨_, rfl⟩
    rw [← ht] at he HO
    clear hq ht
    subst he
    have HCY := Lib.hid (HC0.out.gr (HG0.out.trans G.out))
    go_wp2_with fail
    refine (class_c HCY.out.cx HR.out).mono ?_
    rintro e w7 ⟨g7, h7⟩
    have G := Lib.hid (G.out.trans g7)
    have hGW := (HG0.out.trans G.out).size
    clear g7
    cases hi : classF t with
    | err e x =>
      rw [hi] at h7 HO
      dsimp only at HO
      obtain rfl := h7
      clear hi
      go_wp2
      exact ⟨rfl, Post.bad HO.out (HG0.out.trans G.out)⟩
    | ok K r1 =>
      rw [hi] at h7 HO
      dsimp only at HO
      obtain ⟨v, rfl, ⟨P4, c4, l4, rfl, hs4, hz4, ha4, ht4, hn4⟩, hr⟩ := h7
      have HRc := Lib.hid hr
      clear hi hr
      have hGz := G.out.size
      have HCH := Lib.hid (chars_c (N := W0.heap.size) (c := c4) (K := K) (HC0.out.gr (HG0.out.trans G.out)).cx HRc.out hs4 hn4 ht4)
      go_wp2_with fail
      refine HCH.out.mono ?_
      rintro e w8 ⟨v, rfl, hv, b8⟩
      have HR8 := Lib.hid (HRc.out.kept b8)
      have G8 := Lib.hid (G.out.trans (Gr.of b8))
      clear b8 HCH
      have GWz := Lib.hid (HG0.out.trans G8.out)
      have h5 := HB5.out.gr G8.out (by omega)
      obtain ⟨⟨x0, x1, x2, x3, x4, k0, k1, k2, k3, k4⟩, f0, f1, f2, f3, f4⟩ := h5.cells
      have HMZ : Hid (W.heap.size < w7.heap.size) := Lib.hid (by have := HZ.out; omega)
      have HU := Lib.hid hv
      have H5 := Lib.hid h5
      obtain ⟨k, sp, sn, sc, kp, kn, kc, mn, mx, rfl⟩ := NV.form5 hv
      clear hv h5
      go_wp2
      exact ret_node rfl rfl H5.out (Post.good HO.out (put5_grR _ _ _ _ _ GWz.out (Nat.le_refl _)) (put5_nv _ _ _ _ _ HU.out HMZ.out hRl (Nat.le_of_lt HMZ.out)) (put5_rd _ _ _ _ _ HR8.out (by omega)))
  | false =>
  simp only [hq, Bool.false_eq_true, if_false] at HO
  clear hq
  go_wp2_with fail
  refine (one1_c 92 92 rfl HR.out.lt).mono ?_
  rintro e w3 ⟨v, rfl, hv, b3⟩
  obtain ⟨g0, lb0, rfl⟩ := hv.form
  have HVV := Lib.hid hv
  have HR := Lib.hid (HR.out.kept b3)
  have G := Lib.hid (G.out.trans (Gr.of b3))
  clear hv b3
  go_wp2_with fail
  refine (sees1_c R _ 92 (by decide) HVV.out HR.out).mono ?_
  rintro e w4 ⟨rfl, b4⟩
  have HR := Lib.hid (HR.out.kept b4)
  have G := Lib.hid (G.out.trans (Gr.of b4))
  clear b4 HVV
  cases hq : at1 92 rest with
  | true =>
    simp only [hq, if_true] at HO
    have he := at1_true hq
    obtain ⟨t, ht⟩ : ∃ t, t = rest.tail := ⟨_, rfl⟩
    rw [← ht] at he HO
    clear hq ht
    subst he
    have HCY := Lib.hid (HC0.out.gr (HG0.out.trans G.out))
    go_wp2_with fail
    refine (escape_c HCY.out.cx HR.out).mono ?_
    rintro e w7 ⟨g7, h7⟩
    have G := Lib.hid (G.out.trans g7)
    clear g7
    cases hi : escF (92 :: t) t with
    | err e x =>
      rw [hi] at h7 HO
      dsimp only at HO
      obtain rfl := h7
      clear hi
      go_wp2
      exact ⟨rfl, Post.bad HO.out (HG0.out.trans G.out)⟩
    | ok p r1 =>
      rw [hi] at h7 HO
      dsimp only at HO
      obtain ⟨v, rfl, ⟨P4, c4, l4, rfl, hs4, hz4, ha4, hk4⟩, hr⟩ := h7
      have HRc := Lib.hid hr
      have hn4 := hk4.len
      have ht4 := hk4.tells
      clear hi hr
      have hGz := G.out.size
      have HCH := Lib.hid (chars_c (N := W0.heap.size) (c := c4) (K := (Tells (pcS p))) (HC0.out.gr (HG0.out.trans G.out)).cx HRc.out hs4 (by omega) ht4)
      go_wp2_with fail
      refine HCH.out.mono ?_
      rintro e w8 ⟨v, rfl, hv, b8⟩
      have HR8 := Lib.hid (HRc.out.kept b8)
      have G8 := Lib.hid (G.out.trans (Gr.of b8))
      clear b8 HCH
      have GWz := Lib.hid (HG0.out.trans G8.out)
      have h5 := HB5.out.gr G8.out (by omega)
      obtain ⟨⟨x0, x1, x2, x3, x4, k0, k1, k2, k3, k4⟩, f0, f1, f2, f3, f4⟩ := h5.cells
      have HMZ : Hid (W.heap.size < w7.heap.size) := Lib.hid (by have := HZ.out; omega)
      have HU := Lib.hid hv
      have H5 := Lib.hid h5
      obtain ⟨k, sp, sn, sc, kp, kn, kc, mn, mx, rfl⟩ := NV.form5 hv
      clear hv h5
      go_wp2
      exact ret_node rfl rfl H5.out (Post.good HO.out (put5_grR _ _ _ _ _ GWz.out (Nat.le_refl _)) (put5_nv _ _ _ _ _ HU.out HMZ.out hRl (Nat.le_of_lt HMZ.out)) (put5_rd _ _ _ _ _ HR8.out (by omega)))
  | false =>
  simp only [hq, Bool.false_eq_true, if_false] at HO
  clear hq
  have HT := Lib.hid (take1_c 46 46 rfl (by decide) HR.out _ rfl)
  go_wp2_with fail
  refine HT.out.mono ?_
  rintro e w5 ⟨rfl, hr, g5⟩
  have HR := Lib.hid hr
  have G := Lib.hid (G.out.trans g5)
  clear hr g5 HT
  cases hq : at1 46 rest with
  | true =>
    simp only [hq, if_true] at HO HR
    clear hq
    go_wp2_with fail
    refine (single_c 10 _).mono ?_
    rintro e w6 ⟨v, rfl, ⟨P3, c3, l3, rfl, hs3, hz3, ha3, hk3⟩, b6⟩
    have HR6 := Lib.hid (HR.out.kept b6)
    have G := Lib.hid (G.out.trans (Gr.of b6))
    have hk3 : l3 = [(10, 10)] := hk3
    subst hk3
    have HNOT := Lib.hid (not_n (c := c3) (HC0.out.gr (HG0.out.trans G.out)).cx.cf hs3 (by simp))
    clear b6 hs3
    go_wp2_with fail
    refine HNOT.out.mono ?_
    rintro e w7 ⟨P4, c4, l4, rfl, i4, n4, hs4, z4, a4, b7⟩
    have HRc := Lib.hid (HR6.out.kept b7)
    have G := Lib.hid (G.out.trans (Gr.of b7))
    have ht4 : ∀ r, Tells l4 r ↔ notK (Tells [(10, 10)]) r := i4.tells (fun r h => h.1)
    have hn4 : l4.length ≤ 30000 := by simp at n4; omega
    clear b7 HNOT i4
    have hGz := G.out.size
    have HCH := Lib.hid (chars_c (N := W0.heap.size) (c := c4) (K := (notK (Tells [(10, 10)]))) (HC0.out.gr (HG0.out.trans G.out)).cx HRc.out hs4 hn4 ht4)
    go_wp2_with fail
    refine HCH.out.mono ?_
    rintro e w8 ⟨v, rfl, hv, b8⟩
    have HR8 := Lib.hid (HRc.out.kept b8)
    have G8 := Lib.hid (G.out.trans (Gr.of b8))
    clear b8 HCH
    have GWz := Lib.hid (HG0.out.trans G8.out)
    have h5 := HB5.out.gr G8.out (by omega)
    obtain ⟨⟨x0, x1, x2, x3, x4, k0, k1, k2, k3, k4⟩, f0, f1, f2, f3, f4⟩ := h5.cells
    have HMZ : Hid (W.heap.size < w7.heap.size) := Lib.hid (by have := HZ.out; omega)
    have HU := Lib.hid hv
    have H5 := Lib.hid h5
    obtain ⟨k, sp, sn, sc, kp, kn, kc, mn, mx, rfl⟩ := NV.form5 hv
    clear hv h5
    go_wp2
    exact ret_node rfl rfl H5.out (Post.good HO.out (put5_grR _ _ _ _ _ GWz.out (Nat.le_refl _)) (put5_nv _ _ _ _ _ HU.out HMZ.out hRl (Nat.le_of_lt HMZ.out)) (put5_rd _ _ _ _ _ HR8.out (by omega)))
  | false =>
    simp only [hq, Bool.false_eq_true, if_false] at HO HR
    clear hq
    obtain ⟨c, t, hct⟩ : ∃ c t, rest = c :: t := by
      cases hre : rest with
      | nil => exact absurd hre HNE.out
      | cons c t => exact ⟨c, t, rfl⟩
    subst hct
    rw [show (c :: t).headD 0 = c from rfl, show (c :: t).tail = t from rfl] at HO
    go_wp2_with fail
    refine (scalar_c HR.out).mono ?_
    rintro e w6 ⟨rfl, hr, g6⟩
    have HR6 := Lib.hid hr
    have G := Lib.hid (G.out.trans g6)
    clear hr g6
    go_wp2_with fail
    refine (single_c c _).mono ?_
    rintro e w7 ⟨v, rfl, ⟨P4, c4, l4, rfl, hs4, hz4, ha4, hk4⟩, b7⟩
    have HRc := Lib.hid (HR6.out.kept b7)
    have G := Lib.hid (G.out.trans (Gr.of b7))
    have hk4 : l4 = [(c, c)] := hk4
    subst hk4
    clear b7
    have hGz := G.out.size
    have HCH := Lib.hid (chars_c (N := W0.heap.size) (c := c4) (K := (Tells [(c, c)])) (HC0.out.gr (HG0.out.trans G.out)).cx HRc.out hs4 (by simp) (fun _ => Iff.rfl))
    go_wp2_with fail
    refine HCH.out.mono ?_
    rintro e w8 ⟨v, rfl, hv, b8⟩
    have HR8 := Lib.hid (HRc.out.kept b8)
    have G8 := Lib.hid (G.out.trans (Gr.of b8))
    clear b8 HCH
    have GWz := Lib.hid (HG0.out.trans G8.out)
    have h5 := HB5.out.gr G8.out (by omega)
    obtain ⟨⟨x0, x1, x2, x3, x4, k0, k1, k2, k3, k4⟩, f0, f1, f2, f3, f4⟩ := h5.cells
    have HMZ : Hid (W.heap.size < w7.heap.size) := Lib.hid (by have := HZ.out; omega)
    have HU := Lib.hid hv
    have H5 := Lib.hid h5
    obtain ⟨k, sp, sn, sc, kp, kn, kc, mn, mx, rfl⟩ := NV.form5 hv
    clear hv h5
    go_wp2
    exact ret_node rfl rfl H5.out (Post.good HO.out (put5_grR _ _ _ _ _ GWz.out (Nat.le_refl _)) (put5_nv _ _ _ _ _ HU.out HMZ.out hRl (Nat.le_of_lt HMZ.out)) (put5_rd _ _ _ _ _ HR8.out (by omega)))
end Go.Proofs.YtahgljglleeloaaGreatDoor
