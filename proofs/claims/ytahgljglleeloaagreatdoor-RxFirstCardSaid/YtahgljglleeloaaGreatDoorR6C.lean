/- RR6f, RR6g, RR6h, in one text. -/
import Derived.Test.YtahgljglleeloaaGreatDoorR6B
import Derived.Test.YtahgljglleeloaaGreatDoorRG
import Derived.Test.YtahgljglleeloaaGreatDoorRCR
import Derived.Test.YtahgljglleeloaaGreatDoorUC
import Derived.Test.YtahgljglleeloaaGreatDoorRParse
import Derived.Deep.DeepCutAuto
/- The document's reader at the definition's text: rows. -/
namespace Go.Proofs.YtahgljglleeloaaGreatDoor
open Go.RowKit Go.Shelf Go.Maps SetM PropsM RxM
variable {R : Nat} {W : World} {i j : Nat}

/-- A row of two nodes as one node. -/
theorem row_two {W : World} {base : Nat} {A : Nat → Prop} {v : Value} {t1 t2 : Nd} (k : Nat) (hown : RowN W base A v [t1, t2]) (hA : ∀ b, base ≤ b → A b) :
    ∃ g cap, v = .slice (some ⟨g, 0, none⟩) 2 cap ∧ NV W A (.agg #[.int .u8 k, .slice none 0 0, .slice (some ⟨g, 0, none⟩) 2 cap, .int .i64 0, .int .i64 0]) (.mk k none0 [t1, t2] 0 0) ∧ 2 ≤ cap := by
  obtain ⟨us, h1, h2⟩ := hown
  obtain ⟨m, hm, hi⟩ := h2
  obtain ⟨g, cap, rfl, hbg, hg⟩ := h1.form (by simp)
  refine ⟨g, cap, rfl, ?_⟩
  rcases h1.2 with h | ⟨g', cap', cur, e1, e2, e3, e4, e5, e6, e7⟩
  · cases h.1
  · cases e1
    refine ⟨⟨m + 1, none, [], 0, some ⟨g, 0, none⟩, cap, rfl, none_set, ⟨by simp, by simp⟩, fun h => absurd rfl h, fun _ => rfl, fun a h => (by cases h), fun h => (by cases h), fun _ => ⟨g, cur, us, rfl, hA g hbg, e3, hm, by rw [hm]; exact e7, fun i hlt u hu => (hi i hlt u hu).imp (fun x hx hlt => ⟨hx.1, rfl⟩) (Nat.le_refl _)⟩⟩, e4⟩
/-- A row of one node. -/
theorem row_one {W : World} {base : Nat} {A : Nat → Prop} {v : Value} {t : Nd} (hown : RowN W base A v [t]) :
    ∃ (g cap : Nat) (k : Int) (sp : Option Addr) (sn sc : Nat) (kp : Option Addr) (kn kc : Nat) (mn mx : Int), v = .slice (some ⟨g, 0, none⟩) 1 cap ∧ NV W A (.agg #[.int .u8 k, .slice sp sn sc, .slice kp kn kc, .int .i64 mn, .int .i64 mx]) t ∧
      W.cell? ⟨g, 0, none⟩ = some (.int .u8 k) ∧ W.cell? ⟨g, 1, none⟩ = some (.slice sp sn sc) ∧ W.cell? ⟨g, 2, none⟩ = some (.slice kp kn kc) ∧ W.cell? ⟨g, 3, none⟩ = some (.int .i64 mn) ∧ W.cell? ⟨g, 4, none⟩ = some (.int .i64 mx) := by
  obtain ⟨us, h1, h2⟩ := hown
  obtain ⟨m, hm, hi⟩ := h2
  match us, hm with
  | [u], _ =>
    have hu := hi 0 (by simp) u rfl
    obtain ⟨uk, sp, sn, sc, kp, kn, kc, mn, mx, rfl⟩ := hu.form5
    obtain ⟨g, cap, rfl, hbg, hg⟩ := h1.form (by simp)
    have hc := h1.cells (g := g) rfl
    have e0 : ∀ j, (⟨g, 0, none⟩ : Addr).add j = ⟨g, j, none⟩ := fun j => by unfold Addr.add; split <;> simp_all
    refine ⟨g, cap, uk, sp, sn, sc, kp, kn, kc, mn, mx, rfl, NV.imp ⟨m, hu⟩ (fun x hx hlt => ⟨hx.1, rfl⟩) (Nat.le_refl _), ?_, ?_, ?_, ?_, ?_⟩
    · have := hc 0 _ rfl; rwa [e0] at this
    · have := hc 1 _ rfl; rwa [e0] at this
    · have := hc 2 _ rfl; rwa [e0] at this
    · have := hc 3 _ rfl; rwa [e0] at this
    · have := hc 4 _ rfl; rwa [e0] at this
theorem len_two {α : Type} {l : List α} (h : l.length = 2) : ∃ a b, l = [a, b] := by
  match l, h with
  | [a, b], _ => exact ⟨a, b, rfl⟩
/-- Nodes one behind the other, up to the end or a stroke. -/
structure CatAt (R : Nat) (p : Nat → Nat) (ts : List Nd) : Prop where
  rep : ∀ k (hk : k < ts.length), NodeAt 49 R (p k) (p (k + 1)) ts[k]
  see : ∀ k, k < ts.length → p k < 8 ∧ (0 ≤ b8 (p k)) ∧ (b8 (p k) != 124) = true ∧ (b8 (p k) != 41) = true
  fin : p ts.length = 8 ∨ (p ts.length < 8 ∧ b8 (p ts.length) = 124)
set_option maxRecDepth 100000 in
set_option maxHeartbeats 4000000 in
theorem cat6_c {p : Nat → Nat} {ts : List Nd} (hC : CatAt R p ts) (hl : ts.length = 1 ∨ ts.length = 2) : NodeAt 41 R (p 0) (p ts.length) (joinF 2 ts) := by
  intro W h
  have hRW := h.lt
  obtain ⟨V, hV⟩ : ∃ V, V = W.alloc (.cells #[.int .u8 0, .slice none 0 0, .slice none 0 0, .int .i64 0, .int .i64 0] 27) := ⟨_, rfl⟩
  have hb0 : Below W.heap.size W V := by rw [hV]; exact (Below.refl W.heap.size W).alloc (Nat.le_refl _) _
  have HZ : Hid (V.heap.size = W.heap.size + 1) := Lib.hid (by rw [hV]; exact World.size_alloc _ _)
  have HB5 : Hid (B5 V W.heap.size) := Lib.hid (by rw [hV]; exact B5.new W _ _ _ _ _)
  have HR := Lib.hid (h.kept hb0)
  have HB := Lib.hid (Below.refl V.heap.size V)
  have HB0 := Lib.hid hb0
  clear h hb0
  have HCA := Lib.hid hC
  have hzv := HZ.out
  clear hC
  obtain ⟨n, hn⟩ : ∃ n, n = ts.length := ⟨_, rfl⟩
  rw [← hn] at hl ⊢
  go_enter Tryz.func41, Tryz.ntmps41
  go_wp2_with fail
  rw [← hV]
  clear hV
  go_loopg [3] n (fun g s3 wx => ∃ k, k + g = n ∧ RowN wx V.heap.size (Old 0 (W.heap.size + 1)) s3 (ts.take k) ∧ Hid (R6 R wx (p k)) ∧ Hid (Gr R V wx))
  case atStart => exact ⟨0, by omega, RowN.nil, HR, Lib.hid (Gr.refl _ _)⟩
  case round =>
    obtain ⟨k, hkg, hrow, hr, hg⟩ := hrel
    have hRV : R < V.heap.size := by omega
    have hVx := hg.out.size
    cases gk with
    | zero =>
      have : k = n := by omega
      subst this
      rw [hn, List.take_length] at hrow
      have hend : (∃ z : Int, (z ≥ 0 → z = 124) ∧ ∀ U, R6 R U (p k) → Calls Tryz.prog 48 #[.pointer (some ⟨R, 0, none⟩)] U fun e W' => e = .returned (.int .i64 z) ∧ Below U.heap.size U W') := by
        rcases HCA.out.fin with e | ⟨e1, e2⟩
        · exact ⟨-1, by omega, fun U hU => by rw [hn, e] at hU; exact see6_end hU⟩
        · exact ⟨124, by omega, fun U hU => by rw [← e2, ← hn]; exact see6_c hU (by rw [hn]; exact e1)⟩
      obtain ⟨z, hz, hsee⟩ := hend
      have HR := hr
      have HG := hg
      clear hr hg
      by_cases hz0 : z ≥ 0
      · obtain rfl := hz hz0
        go_wp2_with fail
        refine (hsee _ HR.out).mono ?_
        rintro e w1 ⟨rfl, b1⟩
        have HR := Lib.hid (HR.out.kept b1)
        have HG := Lib.hid (HG.out.trans (Gr.of b1))
        have hrow := hrow.gr (Gr.of (R := R) b1) (by omega) (by omega)
        clear b1
        go_wp2_with fail
        refine (hsee _ HR.out).mono ?_
        rintro e w1 ⟨rfl, b1⟩
        have HR := Lib.hid (HR.out.kept b1)
        have HG := Lib.hid (HG.out.trans (Gr.of b1))
        have hrow := hrow.gr (Gr.of (R := R) b1) (by omega) (by omega)
        clear b1
        rcases hl with hl | hl
        · obtain ⟨t, rfl⟩ := List.length_eq_one_iff.1 (hn.symm.trans hl)
          obtain ⟨g, cap, kk, sp, sn, sc, kp, kn, kc, mn, mx, rfl, hv, q0, q1, q2, q3, q4⟩ := row_one hrow
          have h5 := HB5.out.gr HG.out (by omega)
          obtain ⟨⟨x0, x1, x2, x3, x4, k0, k1, k2, k3, k4⟩, f0, f1, f2, f3, f4⟩ := h5.cells
          have H5 := Lib.hid h5
          have HV := Lib.hid hv
          clear hrow hv h5 hn HCA hsee hz
          subst hl
          go_wp2
          exact ret_node rfl rfl H5.out ⟨_, rfl, put5_nv (R := R) _ _ _ _ _ HV.out (by omega) hRW (by omega), HR.out.put5 (by omega) _ _ _ _ _, put5_grR _ _ _ _ _ ((Gr.of HB0.out).trans HG.out) (Nat.le_refl _)⟩
        · obtain ⟨t1, t2, rfl⟩ := len_two (hn.symm.trans hl)
          obtain ⟨g, cap, rfl, hv, _⟩ := row_two 2 hrow (fun b hb => .inr (by omega))
          have h5 := HB5.out.gr HG.out (by omega)
          obtain ⟨⟨x0, x1, x2, x3, x4, k0, k1, k2, k3, k4⟩, f0, f1, f2, f3, f4⟩ := h5.cells
          have H5 := Lib.hid h5
          have HV := Lib.hid hv
          clear hrow hv h5 hn HCA hsee hz
          subst hl
          go_wp2
          exact ret_node rfl rfl H5.out ⟨_, rfl, put5_nv (R := R) _ _ _ _ _ HV.out (by omega) hRW (by omega), HR.out.put5 (by omega) _ _ _ _ _, put5_grR _ _ _ _ _ ((Gr.of HB0.out).trans HG.out) (Nat.le_refl _)⟩
      · have hz1 : ¬ 0 ≤ z := hz0
        go_wp2_with fail
        refine (hsee _ HR.out).mono ?_
        rintro e w1 ⟨rfl, b1⟩
        have HR := Lib.hid (HR.out.kept b1)
        have HG := Lib.hid (HG.out.trans (Gr.of b1))
        have hrow := hrow.gr (Gr.of (R := R) b1) (by omega) (by omega)
        clear b1
        rcases hl with hl | hl
        · obtain ⟨t, rfl⟩ := List.length_eq_one_iff.1 (hn.symm.trans hl)
          obtain ⟨g, cap, kk, sp, sn, sc, kp, kn, kc, mn, mx, rfl, hv, q0, q1, q2, q3, q4⟩ := row_one hrow
          have h5 := HB5.out.gr HG.out (by omega)
          obtain ⟨⟨x0, x1, x2, x3, x4, k0, k1, k2, k3, k4⟩, f0, f1, f2, f3, f4⟩ := h5.cells
          have H5 := Lib.hid h5
          have HV := Lib.hid hv
          clear hrow hv h5 hn HCA hsee hz
          subst hl
          go_wp2
          exact ret_node rfl rfl H5.out ⟨_, rfl, put5_nv (R := R) _ _ _ _ _ HV.out (by omega) hRW (by omega), HR.out.put5 (by omega) _ _ _ _ _, put5_grR _ _ _ _ _ ((Gr.of HB0.out).trans HG.out) (Nat.le_refl _)⟩
        · obtain ⟨t1, t2, rfl⟩ := len_two (hn.symm.trans hl)
          obtain ⟨g, cap, rfl, hv, _⟩ := row_two 2 hrow (fun b hb => .inr (by omega))
          have h5 := HB5.out.gr HG.out (by omega)
          obtain ⟨⟨x0, x1, x2, x3, x4, k0, k1, k2, k3, k4⟩, f0, f1, f2, f3, f4⟩ := h5.cells
          have H5 := Lib.hid h5
          have HV := Lib.hid hv
          clear hrow hv h5 hn HCA hsee hz
          subst hl
          go_wp2
          exact ret_node rfl rfl H5.out ⟨_, rfl, put5_nv (R := R) _ _ _ _ _ HV.out (by omega) hRW (by omega), HR.out.put5 (by omega) _ _ _ _ _, put5_grR _ _ _ _ _ ((Gr.of HB0.out).trans HG.out) (Nat.le_refl _)⟩
    | succ gk =>
      obtain ⟨hp, h0, h1, h2⟩ := HCA.out.see k (by omega)
      have hge : b8 (p k) ≥ 0 := h0
      go_wp2_with fail
      refine (see6_c hr.out hp).mono ?_
      rintro e w1 ⟨rfl, b1⟩
      have HR := Lib.hid (hr.out.kept b1)
      have HG := Lib.hid (hg.out.trans (Gr.of b1))
      have hrow := hrow.gr (Gr.of (R := R) b1) (by omega) (by omega)
      clear b1 hr hg
      go_wp2_with fail
      refine (see6_c HR.out hp).mono ?_
      rintro e w1 ⟨rfl, b1⟩
      have HR := Lib.hid (HR.out.kept b1)
      have HG := Lib.hid (HG.out.trans (Gr.of b1))
      have hrow := hrow.gr (Gr.of (R := R) b1) (by omega) (by omega)
      clear b1
      go_wp2_with fail
      refine (see6_c HR.out hp).mono ?_
      rintro e w1 ⟨rfl, b1⟩
      have HR := Lib.hid (HR.out.kept b1)
      have HG := Lib.hid (HG.out.trans (Gr.of b1))
      have hrow := hrow.gr (Gr.of (R := R) b1) (by omega) (by omega)
      clear b1
      have HRP := Lib.hid (HCA.out.rep k (by omega) w1 HR.out)
      have hz1 := HG.out.size
      go_wp2_with fail
      refine HRP.out.mono ?_
      rintro e w5 ⟨v, rfl, hv, hr, g5⟩
      have G5 := Lib.hid (HG.out.trans g5)
      have hrow5 := hrow.gr g5 (by omega) (by omega)
      have h45 := g5.size
      have hNV := fresh_nv (R := R) (n := W.heap.size + 1) hrow (by omega) hv (by omega) rfl
      obtain ⟨kk, sp, sn, sc, kp, kn, kc, mn, mx, rfl⟩ := NV.form5 hv
      have hal := (Below.refl w5.heap.size w5).alloc (Nat.le_refl _) (.cells #[.int .u8 kk, .slice sp sn sc, .slice kp kn kc, .int .i64 mn, .int .i64 mx] 27)
      have hrow6 := hrow5.gr (Gr.of (R := R) hal) (by omega) (by omega)
      have hNV6 := NV.imp hNV (fun b hA hlt => ⟨hA, hal.block b hlt⟩) hal.size
      have HR6 := Lib.hid (hr.kept hal)
      have G6 := Lib.hid (G5.out.trans (Gr.of hal))
      have hnew := heap_alloc_new w5 (.cells #[.int .u8 kk, .slice sp sn sc, .slice kp kn kc, .int .i64 mn, .int .i64 mx] 27)
      have hsz6 := World.size_alloc w5 (.cells #[.int .u8 kk, .slice sp sn sc, .slice kp kn kc, .int .i64 mn, .int .i64 mx] 27)
      have htl : (ts.take k).length ≤ 1000 := by rw [List.length_take]; omega
      clear hv hr hal hrow5 hNV hrow g5 HRP
      go_wp2_with (at_builtin; refine wpList_push rfl _ _ rfl V.heap.size (Old 0 (W.heap.size + 1)) _ _ rfl hrow6 w5.heap.size _ (ts[k]'(by omega)) rfl hNV6 hnew htl (by omega) ?_; intro v7 w7 hrow7 hg7)
      have G7 := Lib.hid (G6.out.rowN (by omega) hrow6 hg7)
      have HR7 : Hid (R6 R w7 (p (k + 1))) := Lib.hid ((hg7.block R (by have := HR6.out.lt; omega) (fun e => by have := hrow6.lt R e.symm; omega)).trans HR6.out)
      have hrow8 : RowN w7 V.heap.size (Old 0 (W.heap.size + 1)) v7 (ts.take (k + 1)) := by rw [List.take_add_one, List.getElem?_eq_getElem (by omega)]; exact hrow7
      clear hrow6 hg7 hNV6 hnew hrow7
      go_roundg gk
      case measure => omega
      case rel => exact ⟨k + 1, by omega, hrow8, HR7, G7⟩
end Go.Proofs.YtahgljglleeloaaGreatDoor

/- The document's reader at the definition's text: rows with strokes between. -/
namespace Go.Proofs.YtahgljglleeloaaGreatDoor
open Go.RowKit Go.Shelf Go.Maps SetM PropsM RxM
variable {R : Nat} {W : World} {i j : Nat}

theorem cat6_0 : NodeAt 41 R 0 2 x8 :=
  cat6_c (p := fun k => k) (ts := [one1 97, one1 98]) ⟨fun k hk => (match k, hk with
    | 0, _ => rep6_1
    | 1, _ => rep6_2
    | k + 2, h => absurd h (by simp)), fun k hk => (match k, hk with
    | 0, _ => by decide
    | 1, _ => by decide
    | k + 2, h => absurd h (by simp)), .inr (by decide)⟩ (.inr rfl)
theorem cat6_3 : NodeAt 41 R 3 8 y8 :=
  cat6_c (p := fun k => if k = 0 then 3 else 8) (ts := [y8]) ⟨fun k hk => (match k, hk with
    | 0, _ => rep6_3
    | k + 1, h => absurd h (by simp)), fun k hk => (match k, hk with
    | 0, _ => by decide
    | k + 1, h => absurd h (by simp)), .inl rfl⟩ (.inl rfl)
/-- The Kids have room for what they hold. -/
def Cap2 (v : Value) : Prop := ∃ k s p n c mn mx, v = .agg #[k, s, .slice p n c, mn, mx] ∧ n ≤ c
set_option maxRecDepth 100000 in
set_option maxHeartbeats 4000000 in
theorem alt6_c (h : R6 R W 0) : Calls Tryz.prog 31 #[.pointer (some ⟨R, 0, none⟩)] W fun e W' => ∃ v, e = .returned v ∧ NV W' (Old 0 W.heap.size) v t8 ∧ R6 R W' 8 ∧ Gr R W W' ∧ Cap2 v := by
  have hRW := h.lt
  obtain ⟨V, hV⟩ : ∃ V, V = W.alloc (.cells #[.int .u8 0, .slice none 0 0, .slice none 0 0, .int .i64 0, .int .i64 0] 27) := ⟨_, rfl⟩
  have hb0 : Below W.heap.size W V := by rw [hV]; exact (Below.refl W.heap.size W).alloc (Nat.le_refl _) _
  have HZ : Hid (V.heap.size = W.heap.size + 1) := Lib.hid (by rw [hV]; exact World.size_alloc _ _)
  have HB5 : Hid (B5 V W.heap.size) := Lib.hid (by rw [hV]; exact B5.new W _ _ _ _ _)
  have HB0 := Lib.hid hb0
  have HCT := Lib.hid (cat6_0 V (h.kept hb0))
  clear h hb0
  go_enter Tryz.func31, Tryz.ntmps31
  go_wp2_with fail
  rw [← hV]
  refine HCT.out.mono ?_
  rintro e w1 ⟨v, rfl, hv, hr, g1⟩
  have G1 := Lib.hid g1
  have hV1 := g1.size
  have hZ := HZ.out
  obtain ⟨kk, sp, sn, sc, kp, kn, kc, mn, mx, rfl⟩ := NV.form5 hv
  rw [HZ.out] at hv
  obtain ⟨V2, hV2⟩ : ∃ V2, V2 = w1.alloc (.cells #[.int .u8 kk, .slice sp sn sc, .slice kp kn kc, .int .i64 mn, .int .i64 mx] 27) := ⟨_, rfl⟩
  have hal : Below w1.heap.size w1 V2 := by rw [hV2]; exact (Below.refl w1.heap.size w1).alloc (Nat.le_refl _) _
  have HROW : Hid (RowN V2 w1.heap.size (Old 0 (W.heap.size + 1)) (.slice (some ⟨w1.heap.size, 0, none⟩) 1 1) [x8]) := Lib.hid (by rw [hV2]; exact RowN.one hv rfl)
  have HR2 := Lib.hid (hr.kept hal)
  have G2 := Lib.hid (G1.out.trans (Gr.of hal))
  have GA2 := Lib.hid (Gr.of (R := R) hal)
  have hRw : R < w1.heap.size := hr.lt
  clear hv hr hal g1 hV HCT
  go_wp2_with fail
  rw [← hV2]
  clear hV2
  go_loopg [3] 1 (fun g s3 wx => ∃ ts i, ((g = 1 ∧ ts = [x8] ∧ i = 2) ∨ (g = 0 ∧ ts = [x8, y8] ∧ i = 8)) ∧ RowN wx w1.heap.size (Old 0 (W.heap.size + 1)) s3 ts ∧ Hid (R6 R wx i) ∧ Hid (Gr R V wx) ∧ Hid (Gr R w1 wx))
  case atStart => exact ⟨[x8], 2, .inl ⟨rfl, rfl, rfl⟩, HROW.out, HR2, G2, GA2⟩
  case round =>
    obtain ⟨ts, i, hcase, hrow, hr, hg, hg1⟩ := hrel
    have hA := hg1.out.size
    rcases hcase with ⟨rfl, rfl, rfl⟩ | ⟨rfl, rfl, rfl⟩
    · have HT := Lib.hid (takes6_yes 124 hr.out (by decide) (by decide))
      go_wp2_with fail
      refine HT.out.mono ?_
      rintro e w3 ⟨rfl, hr3, g3⟩
      have HR3 := Lib.hid hr3
      have G3 := Lib.hid (hg.out.trans g3)
      have GA3 := Lib.hid (hg1.out.trans g3)
      have hrow3 := hrow.gr g3 (by omega) (by omega)
      clear g3 hrow hr HT hr3 hg hg1
      have HRP := Lib.hid (cat6_3 w3 HR3.out)
      go_wp2_with fail
      refine HRP.out.mono ?_
      rintro e w5 ⟨v, rfl, hv, hr, g5⟩
      have G5 := Lib.hid (G3.out.trans g5)
      have GA5 := Lib.hid (GA3.out.trans g5)
      have hrow5 := hrow3.gr g5 (by omega) (by omega)
      have h45 := g5.size
      have hVw := G3.out.size
      have hA4 := GA3.out.size
      have hNV := fresh_nv (R := R) (n := W.heap.size + 1) hrow3 (by omega) hv (by omega) rfl
      obtain ⟨kk, sp, sn, sc, kp, kn, kc, mn, mx, rfl⟩ := NV.form5 hv
      have hal := (Below.refl w5.heap.size w5).alloc (Nat.le_refl _) (.cells #[.int .u8 kk, .slice sp sn sc, .slice kp kn kc, .int .i64 mn, .int .i64 mx] 27)
      have hrow6 := hrow5.gr (Gr.of (R := R) hal) (by omega) (by omega)
      have hNV6 := NV.imp hNV (fun b hA hlt => ⟨hA, hal.block b hlt⟩) hal.size
      have HR6 := Lib.hid (hr.kept hal)
      have G6 := Lib.hid (G5.out.trans (Gr.of hal))
      have GA6 := Lib.hid (GA5.out.trans (Gr.of hal))
      have hnew := heap_alloc_new w5 (.cells #[.int .u8 kk, .slice sp sn sc, .slice kp kn kc, .int .i64 mn, .int .i64 mx] 27)
      have hsz6 := World.size_alloc w5 (.cells #[.int .u8 kk, .slice sp sn sc, .slice kp kn kc, .int .i64 mn, .int .i64 mx] 27)
      clear hv hr hal hrow5 hNV hrow3 g5 HRP
      go_wp2_with (at_builtin; refine wpList_push rfl _ _ rfl w1.heap.size (Old 0 (W.heap.size + 1)) _ _ rfl hrow6 w5.heap.size _ y8 rfl hNV6 hnew (by simp) (by omega) ?_; intro v7 w7 hrow7 hg7)
      have G7 := Lib.hid (G6.out.rowN (by omega) hrow6 hg7)
      have GA7 : Hid (Gr R w1 w7) := Lib.hid (GA6.out.rowN (Nat.le_refl _) hrow6 hg7)
      have HR7 : Hid (R6 R w7 8) := Lib.hid ((hg7.block R (by have := HR6.out.lt; omega) (fun e => by have := hrow6.lt R e.symm; omega)).trans HR6.out)
      clear hrow6 hg7 hNV6 hnew
      go_roundg 0
      case measure => omega
      case rel => exact ⟨[x8, y8], 8, .inr ⟨rfl, rfl, rfl⟩, hrow7, HR7, G7, GA7⟩
    · have HT := Lib.hid (takes6_end 124 hr.out)
      go_wp2_with fail
      refine HT.out.mono ?_
      rintro e w3 ⟨rfl, b3⟩
      have HR3 := Lib.hid (hr.out.kept b3)
      have G3 := Lib.hid (hg.out.trans (Gr.of b3))
      have hrow3 := hrow.gr (Gr.of (R := R) b3) (by omega) (by omega)
      obtain ⟨g, cap, rfl, hv, hc2⟩ := row_two 3 hrow3 (fun b hb => .inr (by omega))
      have h5 := HB5.out.gr G3.out (by omega)
      obtain ⟨⟨x0, x1, x2, x3, x4, k0, k1, k2, k3, k4⟩, f0, f1, f2, f3, f4⟩ := h5.cells
      have H5 := Lib.hid h5
      have HV := Lib.hid hv
      clear hrow hrow3 hv h5 hr hg hg1 HT b3
      go_wp2
      exact ret_node rfl rfl H5.out ⟨_, rfl, put5_nv (R := R) _ _ _ _ _ HV.out (by omega) hRW (by omega), HR3.out.put5 (by omega) _ _ _ _ _, put5_grR _ _ _ _ _ ((Gr.of HB0.out).trans G3.out) (Nat.le_refl _), _, _, _, _, _, _, _, rfl, hc2⟩
end Go.Proofs.YtahgljglleeloaaGreatDoor

/- The document's Parse of the definition's text. -/
namespace Go.Proofs.YtahgljglleeloaaGreatDoor
open Go.RowKit Go.Shelf Go.Maps SetM PropsM RxM

theorem results6 {tmps : Array Value} {w : World} {B : Nat} {a b c d e : Value} {n z : Int} (h1 : tmps.getD 4 undef = .pointer (some ⟨B, 0, none⟩)) (h2 : tmps.getD 5 undef = .int .i64 n) (h3 : tmps.getD 6 undef = .int .i64 z)
    (b1 : w.heap[B]? = some (.cells #[a, b, c, d, e] 27 (0, 0))) :
    (results Tryz.f22 tmps).run Tryz.prog w = .ok (.tuple #[.agg #[a, b, c, d, e], .int .i64 n, .int .i64 z]) w := by
  have h1' : tmps[4]?.getD undef = .pointer (some ⟨B, 0, none⟩) := by simpa using h1
  have h2' : tmps[5]?.getD undef = .int .i64 n := by simpa using h2
  have h3' : tmps[6]?.getD undef = .int .i64 z := by simpa using h3
  have q0 : w.cell? ⟨B, 0, none⟩ = some a := cell_of_row w _ 0 _ _ _ b1
  have q1 : w.cell? ⟨B, 1, none⟩ = some b := cell_of_row w _ 1 _ _ _ b1
  have q2 : w.cell? ⟨B, 2, none⟩ = some c := cell_of_row w _ 2 _ _ _ b1
  have q3 : w.cell? ⟨B, 3, none⟩ = some d := cell_of_row w _ 3 _ _ _ b1
  have q4 : w.cell? ⟨B, 4, none⟩ = some e := cell_of_row w _ 4 _ _ _ b1
  simp [results, Tryz.results22, h1', h2', h3', go_sem, q0, q1, q2, q3, q4]
theorem ret_parse6 {Q : Ending → World → Prop} {tmps : Array Value} {w1 : World} {B : Nat} {a b c d e : Value} {n z : Int} (h1 : tmps.getD 4 undef = .pointer (some ⟨B, 0, none⟩)) (h2 : tmps.getD 5 undef = .int .i64 n) (h3 : tmps.getD 6 undef = .int .i64 z)
    (h5 : B5 w1 B) (hQ : Q (.returned (.tuple #[.agg #[a, b, c, d, e], .int .i64 n, .int .i64 z])) (put5 w1 B a b c d e)) :
    bodyPost Tryz.prog Tryz.f22 Q .ret { tmps := tmps, defers := [] } (((((w1.setCell ⟨B, 0, none⟩ a).setCell ⟨B, 1, none⟩ b).setCell ⟨B, 2, none⟩ c).setCell ⟨B, 3, none⟩ d).setCell ⟨B, 4, none⟩ e) :=
  bodyPost_ret (results6 h1 h2 h3 (put5_b5 a b c d e h5)) rfl hQ
theorem s8_wr : U.UtfM.wr [97, 98, 124, 91, 75, 45, 77, 93] = [97, 98, 124, 91, 75, 45, 77, 93] := wr_low _ (by intro c hc; simp at hc; omega)
abbrev READ6 : Obj := .cells #[.string S8, .int .i64 0, .slice none 0 0, .int .i64 0, .int .i64 0, .int .i64 0, .int .i64 0] 69
set_option maxRecDepth 100000 in
set_option maxHeartbeats 4000000 in
theorem rparse8 (W : World) : Calls Tryz.prog 22 #[.string S8, .slice none 0 0] W fun e W' => ∃ v, e = .returned (.tuple #[v, .int .i64 0, .int .i64 0]) ∧ NV W' (Old 0 W.heap.size) v t8 ∧ Below W.heap.size W W' ∧ Cap2 v := by
  have hlen : (bs S8).length = S8.size := bs_len S8
  obtain ⟨V, hV⟩ : ∃ V, V = W.alloc NODE := ⟨_, rfl⟩
  have hb0 : Below W.heap.size W V := by rw [hV]; exact (Below.refl W.heap.size W).alloc (Nat.le_refl _) _
  have hVz : V.heap.size = W.heap.size + 1 := by rw [hV]; exact World.size_alloc _ _
  have HB5 : Hid (B5 V W.heap.size) := Lib.hid (by rw [hV]; exact B5.new W _ _ _ _ _)
  have hcv := conv_b S8
  have HF : Hid (Calls Tryz.prog 30 #[.slice (some ⟨W.heap.size + 1, 0, none⟩) S8.size (capB V S8)] ((V.alloc (objB V S8)).drew) fun e W' => e = .returned (.int .i64 (-1)) ∧ Below V.heap.size V W') := Lib.hid (by
    have h1 := U.rfirst_c (c := capB V S8) (by_conv S8 V) (by rw [hlen, s8_size]; omega) (by rw [hlen]; unfold capB; exact grownCap_ge _ _ _ _)
    rw [hlen, s8_bs, ← s8_wr, first_wr] at h1
    rw [show (V.alloc (objB V S8)).drew = V.drew.alloc (objB V S8) from rfl, ← hVz]
    exact h1.mono (fun e W' h => ⟨h.1, (below_conv S8 V).trans (h.2.mono (below_conv S8 V).size)⟩))
  have HP : Hid (∀ W1, Below V.heap.size V W1 → Calls Tryz.prog 31 #[.pointer (some ⟨W1.heap.size, 0, none⟩)] (W1.alloc READ6) fun e W' => ∃ v, e = .returned v ∧ NV W' (Old 0 (W1.alloc READ6).heap.size) v t8 ∧ R6 W1.heap.size W' 8 ∧ Gr W1.heap.size (W1.alloc READ6) W' ∧ Cap2 v) := Lib.hid (fun W1 _ => alt6_c (R := W1.heap.size) (heap_alloc_new W1 _))
  have hl1 : ¬ (200 : Int) < (S8.size : Int) := by rw [s8_size]; omega
  have hl2 : ¬ (8 : Int) < (S8.size : Int) := by rw [s8_size]; omega
  have HB0 := Lib.hid hb0
  have HZ := Lib.hid hVz
  clear hb0 hVz hlen
  generalize hS : S8 = s at hcv HF hl1 hl2 ⊢
  have HS := Lib.hid hS
  clear hS
  go_enter Tryz.func22, Tryz.ntmps22
  go_wp2_with fail
  rw [← hV]
  clear hV
  go_wp2_with fail
  refine HF.out.mono ?_
  rintro e w1 ⟨rfl, b1⟩
  have HPA := Lib.hid (HP.out w1 b1)
  have HB1 := Lib.hid b1
  clear b1 HF HP hcv
  unfold READ6 at HPA
  rw [HS.out] at HPA
  go_wp2_with fail
  refine HPA.out.mono ?_
  rintro e w3 ⟨v, rfl, hv, hr, g3, hc2⟩
  have hz1 := World.size_alloc w1 (.cells #[.string s, .int .i64 0, .slice none 0 0, .int .i64 0, .int .i64 0, .int .i64 0, .int .i64 0] 69)
  have hb2 : Below w1.heap.size w1 (w1.alloc (.cells #[.string s, .int .i64 0, .slice none 0 0, .int .i64 0, .int .i64 0, .int .i64 0, .int .i64 0] 69)) := (Below.refl _ _).alloc (Nat.le_refl _) _
  obtain ⟨kk, sp, sn, sc, kp, kn, kc, mn, mx, rfl⟩ := NV.form5 hv
  have hz3 := g3.size
  obtain ⟨R, hR⟩ : ∃ R, R = w1.heap.size := ⟨_, rfl⟩
  rw [hz1, ← hR] at hv
  rw [← hR] at hr g3
  have hal := (Below.refl w3.heap.size w3).alloc (Nat.le_refl _) (.cells #[.int .u8 kk, .slice sp sn sc, .slice kp kn kc, .int .i64 mn, .int .i64 mx] 27)
  have hx3 := heap_alloc_new w3 (.cells #[.int .u8 kk, .slice sp sn sc, .slice kp kn kc, .int .i64 mn, .int .i64 mx] 27)
  obtain ⟨V4, hV4⟩ : ∃ V4, V4 = w3.alloc (.cells #[.int .u8 kk, .slice sp sn sc, .slice kp kn kc, .int .i64 mn, .int .i64 mx] 27) := ⟨_, rfl⟩
  rw [← hV4] at hal hx3
  have hr4 := hr.kept hal
  have c1 := hr4.c1
  have c5 := hr4.c5
  obtain ⟨X, hX⟩ : ∃ X, X = w3.heap.size := ⟨_, rfl⟩
  rw [← hX] at hx3
  have a0 : V4.cell? ⟨X, 0, none⟩ = some (.int .u8 kk) := cell_of_row V4 X 0 _ _ _ hx3
  have a1 : V4.cell? ⟨X, 1, none⟩ = some (.slice sp sn sc) := cell_of_row V4 X 1 _ _ _ hx3
  have a2 : V4.cell? ⟨X, 2, none⟩ = some (.slice kp kn kc) := cell_of_row V4 X 2 _ _ _ hx3
  have a3 : V4.cell? ⟨X, 3, none⟩ = some (.int .i64 mn) := cell_of_row V4 X 3 _ _ _ hx3
  have a4 : V4.cell? ⟨X, 4, none⟩ = some (.int .i64 mx) := cell_of_row V4 X 4 _ _ _ hx3
  have hg4 : Gr R (w1.alloc (.cells #[.string s, .int .i64 0, .slice none 0 0, .int .i64 0, .int .i64 0, .int .i64 0, .int .i64 0] 69)) V4 := g3.trans (Gr.of hal)
  have hWR : W.heap.size < R := by have := HZ.out; have := HB1.out.size; omega
  have hb4 : Below V.heap.size V V4 := HB1.out.trans ((hg4.below hb2 (by omega)).mono HB1.out.size)
  have h5 : B5 V4 W.heap.size := HB5.out.gr (R := V.heap.size + 1) (Gr.of hb4) (by have := HZ.out; omega)
  have HB4 := Lib.hid (HB0.out.trans (hb4.mono HB0.out.size))
  obtain ⟨⟨x0, x1, x2, x3, x4, k0, k1, k2, k3, k4⟩, f0, f1, f2, f3, f4⟩ := h5.cells
  have H5 := Lib.hid h5
  have HV : Hid (NV V4 (Old 0 (R + 1)) (.agg #[.int .u8 kk, .slice sp sn sc, .slice kp kn kc, .int .i64 mn, .int .i64 mx]) t8) := Lib.hid (hv.imp (fun b hA hlt => ⟨hA, hal.block b hlt⟩) hal.size)
  have HWR := Lib.hid hWR
  have HC2 := Lib.hid hc2
  have e0 := hX
  have e1 := hV4
  have e2 := hR
  clear hc2 hz1 hb2 hz3 hR hv hr g3 hal hx3 hV4 hr4 hX hg4 hWR hb4 h5 HPA HB1
  go_upto_region 8 with fail
  rw [← e0, ← e1]
  try rw [← e2]
  clear e0 e1 e2
  go_wp2
  refine ret_parse6 rfl rfl rfl H5.out ⟨_, rfl, ?_, put5_below _ _ _ _ _ HB4.out (Nat.le_refl _), HC2.out⟩
  exact HV.out.imp (fun b hA _ => ⟨hA.imp id (fun h => by have := HWR.out; omega), put5_block _ _ _ _ _ _ _ b (by have := HWR.out; rcases hA with h | h <;> omega)⟩) (by rw [put5_size]; exact Nat.le_refl _)
end Go.Proofs.YtahgljglleeloaaGreatDoor
