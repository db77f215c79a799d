/- The document's reader: an atom. -/
import Derived.Test.YtdcnfflleaplnaaGreatDoorQBracket
namespace Go.Proofs.YtdcnfflleaplnaaGreatDoor
open Go.RowKit Go.Shelf Go.Maps SetM PropsM RxM
section
variable {R : Nat} {W W' W0 : World} {s : ByteArray} {dv : Value} {rest r : List Int} {N : Nat × Nat} {d f n : Nat} {z c : Int} {σ : Out Unit}
def atomQ (br nm : List Int → List Int → Out Nd) (cl : Bool) : List Int → Out Nd
  | [] => .err 60 []
  | c :: t => if c = 40 then br (c :: t) t
    else if c = 123 then nm (c :: t) t
    else if c = 46 then .ok (chN cl (notK (Tells [(10, 10)]))) t
    else if c = 91 then classQ cl t
    else if c = 92 then (match escF (c :: t) t with
      | .err e x => .err e x
      | .ok p r1 => .ok (chN cl (Tells (pcS p))) r1)
    else if inS stopS c then .err 60 (c :: t)
    else .ok (chN cl (Tells [(c, c)])) t
theorem at1_ne {b c : Int} {t : List Int} (h : at1 b (c :: t) = false) : c ≠ b := of_decide_eq_false h
set_option maxRecDepth 100000 in
set_option maxHeartbeats 8000000 in
theorem atom_q (hN : N.2 ≤ R) {br nm : List Int → List Int → Out Nd}
    (HBR : ∀ (W : World) (rest r0 : List Int), Gr R W0 W → Rr R W s dv rest d f → Calls Tryz.prog 69 #[.pointer (some ⟨R, 0, none⟩), .int .i64 ((s.size : Int) - ((U.UtfM.wr r0).length : Nat))] W (NodeQ N R s dv d f (br r0 rest) W))
    (HNM : ∀ (W : World) (rest r0 : List Int), Gr R W0 W → Rr R W s dv rest d f → Calls Tryz.prog 70 #[.pointer (some ⟨R, 0, none⟩), .int .i64 ((s.size : Int) - ((U.UtfM.wr r0).length : Nat))] W (NodeQ N R s dv d f (nm r0 rest) W)) :
    FQ 63 N R s dv d f W0 (fun _ => True) (atomQ br nm (decide (0 < f))) := by
  intro W rest _ hC h
  have hRW := h.lt
  have hsm := h.small
  obtain ⟨cl, hcl⟩ : ∃ cl, cl = decide (0 < f) := ⟨_, rfl⟩
  rw [← hcl]
  have HCL := Lib.hid hcl
  clear hcl
  obtain ⟨o, ho⟩ : ∃ o, o = atomQ br nm cl rest := ⟨_, rfl⟩
  rw [← ho]
  obtain ⟨V, hV⟩ : ∃ V, V = W.alloc (.cells #[.int .u8 0, .slice none 0 0, .slice none 0 0, .int .i64 0, .int .i64 0] 26) := ⟨_, rfl⟩
  have hb0 : Below W.heap.size W V := by rw [hV]; exact (Below.refl W.heap.size W).alloc (Nat.le_refl _) _
  have HZ : Hid (V.heap.size = W.heap.size + 1) := Lib.hid (by rw [hV]; exact World.size_alloc _ _)
  have HB5 : Hid (B5 V W.heap.size) := Lib.hid (by rw [hV]; exact B5.new W _ _ _ _ _)
  have HR : Hid (Rr R V s dv rest d f) := Lib.hid (h.kept hb0)
  have HG : Hid (Gr R V V) := Lib.hid (Gr.refl _ _)
  have HB0 := Lib.hid hb0
  have HC0 := Lib.hid (hC.trans (Gr.of hb0))
  have HBR := Lib.hid HBR
  have HNM := Lib.hid HNM
  have hzv := HZ.out
  have c1 := h.c1
  have HSC := Lib.hid h.sc
  clear h hb0 hC
  cases h40 : at1 40 rest with
  | true =>
    have HO : Hid (o = br rest rest.tail) := Lib.hid (by rw [ho, at1_true h40]; rfl)
    clear ho
    go_enter Tryz.func63, Tryz.ntmps63
    have HT := Lib.hid (tk_yes 40 (by decide) HR.out h40)
    go_wp2_with fail
    rw [← hV]
    clear hV
    refine HT.out.mono ?_
    rintro e w1 ⟨rfl, h1, g1⟩
    have HR : Hid (Rr R w1 s dv rest.tail d f) := Lib.hid h1
    have HG := Lib.hid (HG.out.trans g1)
    clear h1 g1 HT
    have HS := Lib.hid (HBR.out w1 rest.tail rest (HC0.out.trans HG.out) HR.out)
    have hsz := HG.out.size
    go_wp2_with fail
    refine HS.out.mono ?_
    rintro e w2 ⟨v, x, rfl, hv, hx, hr, g2⟩
    have HG := Lib.hid (HG.out.trans g2)
    have HX : Hid (∀ y r, o = .ok y r → x = y) := Lib.hid (by rw [HO.out]; exact hx)
    have HRR : Hid (Rs R w2 s dv d f (Out.u o)) := Lib.hid (by rw [HO.out]; exact hr)
    clear g2 hx hr HS
    have h5 := HB5.out.gr HG.out (by omega)
    obtain ⟨⟨x0, x1, x2, x3, x4, k0, k1, k2, k3, k4⟩, f0, f1, f2, f3, f4⟩ := h5.cells
    have H5 := Lib.hid h5
    have HV := Lib.hid hv
    obtain ⟨k, sp, sn, sc, kp, kn, kc, mn, mx, rfl⟩ := NV.form5 hv
    clear hv h5
    go_wp2
    exact ret_node rfl rfl H5.out ⟨_, _, rfl, put5_nv (R := R) _ _ _ _ _ HV.out (by omega) hRW (by omega), HX.out, Rs.put5 HRR.out (by omega) _ _ _ _ _, put5_grR _ _ _ _ _ ((Gr.of HB0.out).trans HG.out) (Nat.le_refl _)⟩
  | false =>
  cases h123 : at1 123 rest with
  | true =>
    have HO : Hid (o = nm rest rest.tail) := Lib.hid (by rw [ho, at1_true h123]; rfl)
    clear ho
    go_enter Tryz.func63, Tryz.ntmps63
    have HT := Lib.hid (tk_no 40 (by decide) HR.out h40)
    go_wp2_with fail
    rw [← hV]
    clear hV
    refine HT.out.mono ?_
    rintro e w1 ⟨rfl, h1, g1⟩
    have HR : Hid (Rr R w1 s dv rest d f) := Lib.hid h1
    have HG := Lib.hid (HG.out.trans g1)
    clear h1 g1 HT
    have HT := Lib.hid (tk_yes 123 (by decide) HR.out h123)
    go_wp2_with fail
    refine HT.out.mono ?_
    rintro e w1 ⟨rfl, h1, g1⟩
    have HR : Hid (Rr R w1 s dv rest.tail d f) := Lib.hid h1
    have HG := Lib.hid (HG.out.trans g1)
    clear h1 g1 HT
    have HS := Lib.hid (HNM.out w1 rest.tail rest (HC0.out.trans HG.out) HR.out)
    have hsz := HG.out.size
    go_wp2_with fail
    refine HS.out.mono ?_
    rintro e w2 ⟨v, x, rfl, hv, hx, hr, g2⟩
    have HG := Lib.hid (HG.out.trans g2)
    have HX : Hid (∀ y r, o = .ok y r → x = y) := Lib.hid (by rw [HO.out]; exact hx)
    have HRR : Hid (Rs R w2 s dv d f (Out.u o)) := Lib.hid (by rw [HO.out]; exact hr)
    clear g2 hx hr HS
    have h5 := HB5.out.gr HG.out (by omega)
    obtain ⟨⟨x0, x1, x2, x3, x4, k0, k1, k2, k3, k4⟩, f0, f1, f2, f3, f4⟩ := h5.cells
    have H5 := Lib.hid h5
    have HV := Lib.hid hv
    obtain ⟨k, sp, sn, sc, kp, kn, kc, mn, mx, rfl⟩ := NV.form5 hv
    clear hv h5
    go_wp2
    exact ret_node rfl rfl H5.out ⟨_, _, rfl, put5_nv (R := R) _ _ _ _ _ HV.out (by omega) hRW (by omega), HX.out, Rs.put5 HRR.out (by omega) _ _ _ _ _, put5_grR _ _ _ _ _ ((Gr.of HB0.out).trans HG.out) (Nat.le_refl _)⟩
  | false =>
  cases h46 : at1 46 rest with
  | true =>
    have HO : Hid (o = .ok (chN cl (notK (Tells [(10, 10)]))) rest.tail) := Lib.hid (by rw [ho, at1_true h46]; rfl)
    clear ho
    go_enter Tryz.func63, Tryz.ntmps63
    have HT := Lib.hid (tk_no 40 (by decide) HR.out h40)
    go_wp2_with fail
    rw [← hV]
    clear hV
    refine HT.out.mono ?_
    rintro e w1 ⟨rfl, h1, g1⟩
    have HR : Hid (Rr R w1 s dv rest d f) := Lib.hid h1
    have HG := Lib.hid (HG.out.trans g1)
    clear h1 g1 HT
    have HT := Lib.hid (tk_no 123 (by decide) HR.out h123)
    go_wp2_with fail
    refine HT.out.mono ?_
    rintro e w1 ⟨rfl, h1, g1⟩
    have HR : Hid (Rr R w1 s dv rest d f) := Lib.hid h1
    have HG := Lib.hid (HG.out.trans g1)
    clear h1 g1 HT
    have HT := Lib.hid (tk_yes 46 (by decide) HR.out h46)
    go_wp2_with fail
    refine HT.out.mono ?_
    rintro e w1 ⟨rfl, h1, g1⟩
    have HR : Hid (Rr R w1 s dv rest.tail d f) := Lib.hid h1
    have HG := Lib.hid (HG.out.trans g1)
    clear h1 g1 HT
    have hal := (Below.refl w1.heap.size w1).alloc (Nat.le_refl _) (.cells #[.int .i64 10, .int .i64 10] 73)
    have HNT := Lib.hid (rnot_n (c := 1) (sl_new w1 10 10) (by simp) (wide_pt 10 (by omega)))
    have HR := Lib.hid (Rr.kept HR.out hal)
    have HG := Lib.hid (HG.out.trans (Gr.of hal))
    clear hal
    go_wp2_with fail
    refine HNT.out.mono ?_
    rintro e w4 ⟨P4, c4, o4, rfl, i4, n4, s4, z4, a4, b4⟩
    have HR := Lib.hid (Rr.kept HR.out b4)
    have HG := Lib.hid (HG.out.trans (Gr.of b4))
    have HI4 := Lib.hid i4
    have hw4 : Wide o4 := wide_set i4 (fun _ h => h.1)
    have n4' : o4.length ≤ 6 := by simpa using n4
    have HS4 := Lib.hid s4
    clear i4 s4 z4 a4 b4 HNT n4
    have HS := Lib.hid (chars_q (σ := .ok () rest.tail) (c := c4) (K := notK (Tells [(10, 10)])) N hN HR.out HS4.out (by omega) (fun o1 h => by
      have h2 := h.congr (HI4.out.tells (fun _ h => h.1))
      rw [h2.eq HI4.out (fun _ => Iff.rfl)]
      omega) hw4 (fun y => HI4.out.tells (fun _ h => h.1) y))
    have hsz := HG.out.size
    go_wp2_with fail
    refine HS.out.mono ?_
    rintro e w9 ⟨v, rfl, hv, b9⟩
    have HG := Lib.hid (HG.out.trans (Gr.of b9))
    have HX : Hid (∀ y r, o = .ok y r → chN (decide (0 < f)) (notK (Tells [(10, 10)])) = y) := Lib.hid (fun y r h => (by rw [HO.out] at h; cases h; rw [HCL.out]))
    have HRR : Hid (Rs R w9 s dv d f (Out.u o)) := Lib.hid (by rw [HO.out]; exact Rr.kept HR.out b9)
    clear b9 HS
    have h5 := HB5.out.gr HG.out (by omega)
    obtain ⟨⟨x0, x1, x2, x3, x4, k0, k1, k2, k3, k4⟩, f0, f1, f2, f3, f4⟩ := h5.cells
    have H5 := Lib.hid h5
    have HV := Lib.hid hv
    obtain ⟨k, sp, sn, sc, kp, kn, kc, mn, mx, rfl⟩ := NV.form5 hv
    clear hv h5
    go_wp2
    exact ret_node rfl rfl H5.out ⟨_, _, rfl, put5_nv (R := R) _ _ _ _ _ HV.out (by omega) hRW (by omega), HX.out, Rs.put5 HRR.out (by omega) _ _ _ _ _, put5_grR _ _ _ _ _ ((Gr.of HB0.out).trans HG.out) (Nat.le_refl _)⟩
  | false =>
  cases h91 : at1 91 rest with
  | true =>
    have HO : Hid (o = classQ cl rest.tail) := Lib.hid (by rw [ho, at1_true h91]; rfl)
    clear ho
    go_enter Tryz.func63, Tryz.ntmps63
    have HT := Lib.hid (tk_no 40 (by decide) HR.out h40)
    go_wp2_with fail
    rw [← hV]
    clear hV
    refine HT.out.mono ?_
    rintro e w1 ⟨rfl, h1, g1⟩
    have HR : Hid (Rr R w1 s dv rest d f) := Lib.hid h1
    have HG := Lib.hid (HG.out.trans g1)
    clear h1 g1 HT
    have HT := Lib.hid (tk_no 123 (by decide) HR.out h123)
    go_wp2_with fail
    refine HT.out.mono ?_
    rintro e w1 ⟨rfl, h1, g1⟩
    have HR : Hid (Rr R w1 s dv rest d f) := Lib.hid h1
    have HG := Lib.hid (HG.out.trans g1)
    clear h1 g1 HT
    have HT := Lib.hid (tk_no 46 (by decide) HR.out h46)
    go_wp2_with fail
    refine HT.out.mono ?_
    rintro e w1 ⟨rfl, h1, g1⟩
    have HR : Hid (Rr R w1 s dv rest d f) := Lib.hid h1
    have HG := Lib.hid (HG.out.trans g1)
    clear h1 g1 HT
    have HT := Lib.hid (tk_yes 91 (by decide) HR.out h91)
    go_wp2_with fail
    refine HT.out.mono ?_
    rintro e w1 ⟨rfl, h1, g1⟩
    have HR : Hid (Rr R w1 s dv rest.tail d f) := Lib.hid h1
    have HG := Lib.hid (HG.out.trans g1)
    clear h1 g1 HT
    have HS := Lib.hid (class_q N hN HR.out)
    have hsz := HG.out.size
    go_wp2_with fail
    refine HS.out.mono ?_
    rintro e w2 ⟨v, x, rfl, hv, hx, hr, g2⟩
    have HG := Lib.hid (HG.out.trans g2)
    have HX : Hid (∀ y r, o = .ok y r → x = y) := Lib.hid (by rw [HO.out, HCL.out]; exact hx)
    have HRR : Hid (Rs R w2 s dv d f (Out.u o)) := Lib.hid (by rw [HO.out, HCL.out]; exact hr)
    clear g2 hx hr HS
    have h5 := HB5.out.gr HG.out (by omega)
    obtain ⟨⟨x0, x1, x2, x3, x4, k0, k1, k2, k3, k4⟩, f0, f1, f2, f3, f4⟩ := h5.cells
    have H5 := Lib.hid h5
    have HV := Lib.hid hv
    obtain ⟨k, sp, sn, sc, kp, kn, kc, mn, mx, rfl⟩ := NV.form5 hv
    clear hv h5
    go_wp2
    exact ret_node rfl rfl H5.out ⟨_, _, rfl, put5_nv (R := R) _ _ _ _ _ HV.out (by omega) hRW (by omega), HX.out, Rs.put5 HRR.out (by omega) _ _ _ _ _, put5_grR _ _ _ _ _ ((Gr.of HB0.out).trans HG.out) (Nat.le_refl _)⟩
  | false =>
  cases h92 : at1 92 rest with
  | true =>
    have HO : Hid (o = match escF rest rest.tail with
      | .err e x => .err e x
      | .ok p r1 => .ok (chN cl (Tells (pcS p))) r1) := Lib.hid (by rw [ho, at1_true h92]; rfl)
    clear ho
    go_enter Tryz.func63, Tryz.ntmps63
    have HT := Lib.hid (tk_no 40 (by decide) HR.out h40)
    go_wp2_with fail
    rw [← hV]
    clear hV
    refine HT.out.mono ?_
    rintro e w1 ⟨rfl, h1, g1⟩
    have HR : Hid (Rr R w1 s dv rest d f) := Lib.hid h1
    have HG := Lib.hid (HG.out.trans g1)
    clear h1 g1 HT
    have HT := Lib.hid (tk_no 123 (by decide) HR.out h123)
    go_wp2_with fail
    refine HT.out.mono ?_
    rintro e w1 ⟨rfl, h1, g1⟩
    have HR : Hid (Rr R w1 s dv rest d f) := Lib.hid h1
    have HG := Lib.hid (HG.out.trans g1)
    clear h1 g1 HT
    have HT := Lib.hid (tk_no 46 (by decide) HR.out h46)
    go_wp2_with fail
    refine HT.out.mono ?_
    rintro e w1 ⟨rfl, h1, g1⟩
    have HR : Hid (Rr R w1 s dv rest d f) := Lib.hid h1
    have HG := Lib.hid (HG.out.trans g1)
    clear h1 g1 HT
    have HT := Lib.hid (tk_no 91 (by decide) HR.out h91)
    go_wp2_with fail
    refine HT.out.mono ?_
    rintro e w1 ⟨rfl, h1, g1⟩
    have HR : Hid (Rr R w1 s dv rest d f) := Lib.hid h1
    have HG := Lib.hid (HG.out.trans g1)
    clear h1 g1 HT
    have HT := Lib.hid (tk_yes 92 (by decide) HR.out h92)
    go_wp2_with fail
    refine HT.out.mono ?_
    rintro e w1 ⟨rfl, h1, g1⟩
    have HR : Hid (Rr R w1 s dv rest.tail d f) := Lib.hid h1
    have HG := Lib.hid (HG.out.trans g1)
    clear h1 g1 HT
    have HES := Lib.hid (escape_q rest HR.out)
    go_wp2_with fail
    refine HES.out.mono ?_
    rintro e w5 ⟨P5, c5, l5, k5, rfl, l1, l2, l3, l4, l6, l7, l8, l9, hr, g5⟩
    have HR := Lib.hid hr
    have HG := Lib.hid (HG.out.trans g5)
    have HS5 := Lib.hid l3
    have HP5 := Lib.hid l9
    clear g5 hr l3 l4 l6 l7 l8 l9 HES
    have HS := Lib.hid (chars_q (c := c5) (K := Tells l5) N hN HR.out HS5.out (by omega) (fun o1 h => by have := nf_len (l := l5) h.1 h.2; omega) l2 (fun _ => Iff.rfl))
    have hsz := HG.out.size
    go_wp2_with fail
    refine HS.out.mono ?_
    rintro e w9 ⟨v, rfl, hv, b9⟩
    have HG := Lib.hid (HG.out.trans (Gr.of b9))
    have HX : Hid (∀ y r, o = .ok y r → chN (decide (0 < f)) (Tells l5) = y) := Lib.hid (fun y r h => (by
      rw [HO.out] at h
      cases hes : escF rest rest.tail with
      | err e x => rw [hes] at h; cases h
      | ok p r1 =>
        rw [hes] at h
        cases h
        rw [HCL.out, show Tells l5 = Tells (pcS p) from funext fun y => propext (pc_tells (HP5.out p _ hes) y)]))
    have HRR : Hid (Rs R w9 s dv d f (Out.u o)) := Lib.hid (by
      have h2 := HR.out.kept b9
      rw [HO.out]
      cases hes : escF rest rest.tail with
      | err e x => rw [hes] at h2; exact h2
      | ok p r1 => rw [hes] at h2; exact h2)
    clear b9 HS
    have h5 := HB5.out.gr HG.out (by omega)
    obtain ⟨⟨x0, x1, x2, x3, x4, k0, k1, k2, k3, k4⟩, f0, f1, f2, f3, f4⟩ := h5.cells
    have H5 := Lib.hid h5
    have HV := Lib.hid hv
    obtain ⟨k, sp, sn, sc, kp, kn, kc, mn, mx, rfl⟩ := NV.form5 hv
    clear hv h5
    go_wp2
    exact ret_node rfl rfl H5.out ⟨_, _, rfl, put5_nv (R := R) _ _ _ _ _ HV.out (by omega) hRW (by omega), HX.out, Rs.put5 HRR.out (by omega) _ _ _ _ _, put5_grR _ _ _ _ _ ((Gr.of HB0.out).trans HG.out) (Nat.le_refl _)⟩
  | false =>
  obtain ⟨z, hz⟩ : ∃ z, z = lookS (.ok () rest) := ⟨_, rfl⟩
  have hlk := lookq_c HR.out
  rw [← hz] at hlk
  have HSEE := Lib.hid (see_all (R := R) (s := s) (dv := dv) (d := d) (f := f) z hz)
  have HIN := Lib.hid (fun Y => in_c z ⟨#[124, 41, 93, 125, 42, 43, 63]⟩ (by decide) (W := Y))
  have hbl : bs (⟨#[124, 41, 93, 125, 42, 43, 63]⟩ : ByteArray) = stopS := rfl
  rw [hbl] at HIN
  clear hbl hz
  by_cases hbad : z < 0 ∨ inS stopS z = true
  · have HO : Hid (o = .err 60 rest) := Lib.hid (by
      rw [ho]
      rcases hlk with ⟨h1, h2⟩ | ⟨c, t, rfl, ⟨h1, h2, h3⟩ | ⟨h1, h2, h3⟩⟩
      · rw [h1]; rfl
      · subst h1
        have h5 : inS stopS z = true := hbad.elim (fun h => absurd h (by omega)) id
        unfold atomQ
        dsimp only
        rw [if_neg (at1_ne h40), if_neg (at1_ne h123), if_neg (at1_ne h46), if_neg (at1_ne h91), if_neg (at1_ne h92), if_pos h5]
      · have h5 : inS stopS z = true := hbad.elim (fun h => absurd h (by omega)) id
        have hm : z ∈ stopS := List.contains_iff_mem.1 h5
        simp [stopS] at hm
        omega)
    clear ho hlk
    by_cases hz0 : z < 0
    · clear hbad
      go_enter Tryz.func63, Tryz.ntmps63
      have HT := Lib.hid (tk_no 40 (by decide) HR.out h40)
      go_wp2_with fail
      rw [← hV]
      clear hV
      refine HT.out.mono ?_
      rintro e w1 ⟨rfl, h1, g1⟩
      have HR : Hid (Rr R w1 s dv rest d f) := Lib.hid h1
      have HG := Lib.hid (HG.out.trans g1)
      clear h1 g1 HT
      have HT := Lib.hid (tk_no 123 (by decide) HR.out h123)
      go_wp2_with fail
      refine HT.out.mono ?_
      rintro e w1 ⟨rfl, h1, g1⟩
      have HR : Hid (Rr R w1 s dv rest d f) := Lib.hid h1
      have HG := Lib.hid (HG.out.trans g1)
      clear h1 g1 HT
      have HT := Lib.hid (tk_no 46 (by decide) HR.out h46)
      go_wp2_with fail
      refine HT.out.mono ?_
      rintro e w1 ⟨rfl, h1, g1⟩
      have HR : Hid (Rr R w1 s dv rest d f) := Lib.hid h1
      have HG := Lib.hid (HG.out.trans g1)
      clear h1 g1 HT
      have HT := Lib.hid (tk_no 91 (by decide) HR.out h91)
      go_wp2_with fail
      refine HT.out.mono ?_
      rintro e w1 ⟨rfl, h1, g1⟩
      have HR : Hid (Rr R w1 s dv rest d f) := Lib.hid h1
      have HG := Lib.hid (HG.out.trans g1)
      clear h1 g1 HT
      have HT := Lib.hid (tk_no 92 (by decide) HR.out h92)
      go_wp2_with fail
      refine HT.out.mono ?_
      rintro e w1 ⟨rfl, h1, g1⟩
      have HR : Hid (Rr R w1 s dv rest d f) := Lib.hid h1
      have HG := Lib.hid (HG.out.trans g1)
      clear h1 g1 HT
      clear c1
      go_wp2_with fail
      refine (HSEE.out _ HR.out).mono ?_
      rintro e w2 ⟨rfl, b1⟩
      have HG := Lib.hid (HG.out.trans (Gr.of (R := R) b1))
      have HR := Lib.hid (Rr.kept HR.out b1)
      clear b1
      have HF := Lib.hid (fail_c (σ := .ok () rest) 60 ((s.size : Int) - ((U.UtfM.wr rest).length : Nat)) rest (by omega) (fun _ _ _ => rfl) HR.out)
      have c1 := HR.out.c1
      go_wp2_with fail
      refine HF.out.mono ?_
      rintro e w4 ⟨rfl, h1, g1⟩
      have HRR : Hid (Rs R w4 s dv d f (Out.u o)) := Lib.hid (by rw [HO.out]; exact h1)
      have HG := Lib.hid (HG.out.trans g1)
      have hsz := HG.out.size
      have hv : NV w4 (Old N (W.heap.size + 1)) (.agg #[.int .u8 0, .slice none 0 0, .slice none 0 0, .int .i64 0, .int .i64 0]) (.mk 0 none0 [] 0 0) := empty_nv
      have HX : Hid (∀ y r, o = .ok y r → (Nd.mk 0 none0 [] 0 0) = y) := Lib.hid (fun y r h => (by rw [HO.out] at h; cases h))
      clear h1 g1 HF c1
      have h5 := HB5.out.gr HG.out (by omega)
      obtain ⟨⟨x0, x1, x2, x3, x4, k0, k1, k2, k3, k4⟩, f0, f1, f2, f3, f4⟩ := h5.cells
      have H5 := Lib.hid h5
      have HV := Lib.hid hv
      clear hv h5
      go_wp2
      exact ret_node rfl rfl H5.out ⟨_, _, rfl, put5_nv (R := R) _ _ _ _ _ HV.out (by omega) hRW (by omega), HX.out, Rs.put5 HRR.out (by omega) _ _ _ _ _, put5_grR _ _ _ _ _ ((Gr.of HB0.out).trans HG.out) (Nat.le_refl _)⟩
    · have hz0' : ¬ z < 0 := hz0
      have hin : inS stopS z = true := hbad.elim (fun h => absurd h (by omega)) id
      rw [hin] at HIN
      clear hbad
      go_enter Tryz.func63, Tryz.ntmps63
      have HT := Lib.hid (tk_no 40 (by decide) HR.out h40)
      go_wp2_with fail
      rw [← hV]
      clear hV
      refine HT.out.mono ?_
      rintro e w1 ⟨rfl, h1, g1⟩
      have HR : Hid (Rr R w1 s dv rest d f) := Lib.hid h1
      have HG := Lib.hid (HG.out.trans g1)
      clear h1 g1 HT
      have HT := Lib.hid (tk_no 123 (by decide) HR.out h123)
      go_wp2_with fail
      refine HT.out.mono ?_
      rintro e w1 ⟨rfl, h1, g1⟩
      have HR : Hid (Rr R w1 s dv rest d f) := Lib.hid h1
      have HG := Lib.hid (HG.out.trans g1)
      clear h1 g1 HT
      have HT := Lib.hid (tk_no 46 (by decide) HR.out h46)
      go_wp2_with fail
      refine HT.out.mono ?_
      rintro e w1 ⟨rfl, h1, g1⟩
      have HR : Hid (Rr R w1 s dv rest d f) := Lib.hid h1
      have HG := Lib.hid (HG.out.trans g1)
      clear h1 g1 HT
      have HT := Lib.hid (tk_no 91 (by decide) HR.out h91)
      go_wp2_with fail
      refine HT.out.mono ?_
      rintro e w1 ⟨rfl, h1, g1⟩
      have HR : Hid (Rr R w1 s dv rest d f) := Lib.hid h1
      have HG := Lib.hid (HG.out.trans g1)
      clear h1 g1 HT
      have HT := Lib.hid (tk_no 92 (by decide) HR.out h92)
      go_wp2_with fail
      refine HT.out.mono ?_
      rintro e w1 ⟨rfl, h1, g1⟩
      have HR : Hid (Rr R w1 s dv rest d f) := Lib.hid h1
      have HG := Lib.hid (HG.out.trans g1)
      clear h1 g1 HT
      clear c1
      go_wp2_with fail
      refine (HSEE.out _ HR.out).mono ?_
      rintro e w2 ⟨rfl, b1⟩
      have HG := Lib.hid (HG.out.trans (Gr.of (R := R) b1))
      have HR := Lib.hid (Rr.kept HR.out b1)
      clear b1
      go_wp2_with fail
      refine (HSEE.out _ HR.out).mono ?_
      rintro e w2 ⟨rfl, b1⟩
      have HG := Lib.hid (HG.out.trans (Gr.of (R := R) b1))
      have HR := Lib.hid (Rr.kept HR.out b1)
      clear b1
      go_wp2_with fail
      refine (HIN.out _).mono ?_
      rintro e w9 ⟨rfl, rfl⟩
      have HF := Lib.hid (fail_c (σ := .ok () rest) 60 ((s.size : Int) - ((U.UtfM.wr rest).length : Nat)) rest (by omega) (fun _ _ _ => rfl) HR.out)
      have c1 := HR.out.c1
      go_wp2_with fail
      refine HF.out.mono ?_
      rintro e w4 ⟨rfl, h1, g1⟩
      have HRR : Hid (Rs R w4 s dv d f (Out.u o)) := Lib.hid (by rw [HO.out]; exact h1)
      have HG := Lib.hid (HG.out.trans g1)
      have hsz := HG.out.size
      have hv : NV w4 (Old N (W.heap.size + 1)) (.agg #[.int .u8 0, .slice none 0 0, .slice none 0 0, .int .i64 0, .int .i64 0]) (.mk 0 none0 [] 0 0) := empty_nv
      have HX : Hid (∀ y r, o = .ok y r → (Nd.mk 0 none0 [] 0 0) = y) := Lib.hid (fun y r h => (by rw [HO.out] at h; cases h))
      clear h1 g1 HF c1
      have h5 := HB5.out.gr HG.out (by omega)
      obtain ⟨⟨x0, x1, x2, x3, x4, k0, k1, k2, k3, k4⟩, f0, f1, f2, f3, f4⟩ := h5.cells
      have H5 := Lib.hid h5
      have HV := Lib.hid hv
      clear hv h5
      go_wp2
      exact ret_node rfl rfl H5.out ⟨_, _, rfl, put5_nv (R := R) _ _ _ _ _ HV.out (by omega) hRW (by omega), HX.out, Rs.put5 HRR.out (by omega) _ _ _ _ _, put5_grR _ _ _ _ _ ((Gr.of HB0.out).trans HG.out) (Nat.le_refl _)⟩
  · have hz0 : ¬ z < 0 := fun h => hbad (.inl h)
    have hin : inS stopS z = false := by
      cases hh : inS stopS z with
      | true => exact absurd (.inr hh) hbad
      | false => rfl
    rw [hin] at HIN
    obtain ⟨c, t, hr, hc⟩ : ∃ c t, rest = c :: t ∧ inS stopS c = false := by
      rcases hlk with ⟨h1, h2⟩ | ⟨c, t, rfl, ⟨h1, h2, h3⟩ | ⟨h1, h2, h3⟩⟩
      · omega
      · exact ⟨c, t, rfl, by rw [← h1]; exact hin⟩
      · refine ⟨c, t, rfl, ?_⟩
        rw [Bool.eq_false_iff]
        intro h
        have hm : c ∈ stopS := List.contains_iff_mem.1 h
        simp [stopS] at hm
        omega
    have HO : Hid (o = .ok (chN cl (Tells [(c, c)])) t) := Lib.hid (by
      rw [ho, hr]
      rw [hr] at h40 h123 h46 h91 h92
      unfold atomQ
      dsimp only
      rw [if_neg (at1_ne h40), if_neg (at1_ne h123), if_neg (at1_ne h46), if_neg (at1_ne h91), if_neg (at1_ne h92), if_neg (by rw [hc]; simp)])
    have HRE := Lib.hid hr
    have HSN : Hid (-9223372036854775808 ≤ c) := Lib.hid (by have := HSC.out c (by rw [hr]; simp); unfold U.UtfM.Sc at this; omega)
    clear ho hlk hbad hin hr hc
    go_enter Tryz.func63, Tryz.ntmps63
    have HT := Lib.hid (tk_no 40 (by decide) HR.out h40)
    go_wp2_with fail
    rw [← hV]
    clear hV
    refine HT.out.mono ?_
    rintro e w1 ⟨rfl, h1, g1⟩
    have HR : Hid (Rr R w1 s dv rest d f) := Lib.hid h1
    have HG := Lib.hid (HG.out.trans g1)
    clear h1 g1 HT
    have HT := Lib.hid (tk_no 123 (by decide) HR.out h123)
    go_wp2_with fail
    refine HT.out.mono ?_
    rintro e w1 ⟨rfl, h1, g1⟩
    have HR : Hid (Rr R w1 s dv rest d f) := Lib.hid h1
    have HG := Lib.hid (HG.out.trans g1)
    clear h1 g1 HT
    have HT := Lib.hid (tk_no 46 (by decide) HR.out h46)
    go_wp2_with fail
    refine HT.out.mono ?_
    rintro e w1 ⟨rfl, h1, g1⟩
    have HR : Hid (Rr R w1 s dv rest d f) := Lib.hid h1
    have HG := Lib.hid (HG.out.trans g1)
    clear h1 g1 HT
    have HT := Lib.hid (tk_no 91 (by decide) HR.out h91)
    go_wp2_with fail
    refine HT.out.mono ?_
    rintro e w1 ⟨rfl, h1, g1⟩
    have HR : Hid (Rr R w1 s dv rest d f) := Lib.hid h1
    have HG := Lib.hid (HG.out.trans g1)
    clear h1 g1 HT
    have HT := Lib.hid (tk_no 92 (by decide) HR.out h92)
    go_wp2_with fail
    refine HT.out.mono ?_
    rintro e w1 ⟨rfl, h1, g1⟩
    have HR : Hid (Rr R w1 s dv rest d f) := Lib.hid h1
    have HG := Lib.hid (HG.out.trans g1)
    clear h1 g1 HT
    clear c1
    go_wp2_with fail
    refine (HSEE.out _ HR.out).mono ?_
    rintro e w2 ⟨rfl, b1⟩
    have HG := Lib.hid (HG.out.trans (Gr.of (R := R) b1))
    have HR := Lib.hid (Rr.kept HR.out b1)
    clear b1
    go_wp2_with fail
    refine (HSEE.out _ HR.out).mono ?_
    rintro e w2 ⟨rfl, b1⟩
    have HG := Lib.hid (HG.out.trans (Gr.of (R := R) b1))
    have HR := Lib.hid (Rr.kept HR.out b1)
    clear b1
    go_wp2_with fail
    refine (HIN.out _).mono ?_
    rintro e w9 ⟨rfl, rfl⟩
    have HR : Hid (Rr R w2 s dv (c :: t) d f) := Lib.hid (by have := HR.out; rw [HRE.out] at this; exact this)
    have HSL := Lib.hid (scalar_q HR.out)
    go_wp2_with fail
    refine HSL.out.mono ?_
    rintro e w5 ⟨g, rfl, hg, hs, h1, g1⟩
    have HR := Lib.hid h1
    have HS5 := Lib.hid hs
    have HG := Lib.hid (HG.out.trans g1)
    clear h1 g1 hs hg HSL
    have HS := Lib.hid (chars_q (σ := .ok () t) (c := 1) (K := Tells [(c, c)]) N hN HR.out HS5.out (by simp) (fun o1 h => by have := nf_len (l := [(c, c)]) h.1 h.2; simp at this; omega) (wide_pt _ HSN.out) (fun _ => Iff.rfl))
    have hsz := HG.out.size
    go_wp2_with fail
    refine HS.out.mono ?_
    rintro e w9 ⟨v, rfl, hv, b9⟩
    have HG := Lib.hid (HG.out.trans (Gr.of b9))
    have HX : Hid (∀ y r, o = .ok y r → chN (decide (0 < f)) (Tells [(c, c)]) = y) := Lib.hid (fun y r h => (by rw [HO.out] at h; cases h; rw [HCL.out]))
    have HRR : Hid (Rs R w9 s dv d f (Out.u o)) := Lib.hid (by rw [HO.out]; exact Rr.kept HR.out b9)
    clear b9 HS
    have h5 := HB5.out.gr HG.out (by omega)
    obtain ⟨⟨x0, x1, x2, x3, x4, k0, k1, k2, k3, k4⟩, f0, f1, f2, f3, f4⟩ := h5.cells
    have H5 := Lib.hid h5
    have HV := Lib.hid hv
    obtain ⟨k, sp, sn, sc, kp, kn, kc, mn, mx, rfl⟩ := NV.form5 hv
    clear hv h5
    go_wp2
    exact ret_node rfl rfl H5.out ⟨_, _, rfl, put5_nv (R := R) _ _ _ _ _ HV.out (by omega) hRW (by omega), HX.out, Rs.put5 HRR.out (by omega) _ _ _ _ _, put5_grR _ _ _ _ _ ((Gr.of HB0.out).trans HG.out) (Nat.le_refl _)⟩
end
end Go.Proofs.YtdcnfflleaplnaaGreatDoor
