/- The reader reads what stands behind a stroke; a piece of a class. -/
import Derived.Test.YtahgljglleeloaaGreatDoorRE
namespace Go.Proofs.YtahgljglleeloaaGreatDoor
open Go.RowKit Go.Shelf Go.Maps SetM PropsM RxM
variable {R : Nat} {W : World} {s : ByteArray} {dv : Value} {rest : List Int} {d : Nat} {cl : Bool}

theorem escF_eq (r0 t : List Int) : escF r0 t = if at1 110 t then .ok (.one 10) t.tail else if at1 114 t then .ok (.one 13) t.tail else if at1 116 t then .ok (.one 9) t.tail else if at1 120 t then byNumF r0 t.tail else if at1 112 t then byNameF r0 t.tail else if sees (inS escS) t then .ok (.one (t.headD 0)) t.tail else .err 60 t := by
  cases t with
  | nil => rfl
  | cons c t =>
    by_cases h1 : c = 110
    · simp [escF, at1, h1]
    by_cases h2 : c = 114
    · simp [escF, at1, h2]
    by_cases h3 : c = 116
    · simp [escF, at1, h3]
    by_cases h4 : c = 120
    · simp [escF, at1, h4]
    by_cases h5 : c = 112
    · simp [escF, at1, h5]
    by_cases h6 : inS escS c = true
    · simp [escF, at1, sees, h1, h2, h3, h4, h5, h6]
    · simp [escF, at1, sees, h1, h2, h3, h4, h5, h6]
theorem pieceF_eq (t : List Int) : pieceF t = if at1 92 t then escF t t.tail else if t = [] ∨ sees (inS clsS) t then .err 60 t else .ok (.one (t.headD 0)) t.tail := by
  cases t with
  | nil => rfl
  | cons c t =>
    simp only [pieceF, at1, sees, List.headD_cons, List.tail_cons, decide_eq_true_eq]
    simp
/-- Some signs, and whether one of them stands here. -/
theorem oneOf_l (R : Nat) (p : ByteArray) (l : List Int) (h : bs p = l) (hR : R < W.heap.size) :
    Calls Tryz.prog 43 #[.string p] W fun e W' => ∃ v, e = .returned v ∧ Am R W' v (inS l) ∧ Below W.heap.size W W' := by
  have := oneOf_c R p W hR
  rwa [h] at this
theorem asc_esc : Asc (inS escS) := inS_asc (by decide)
theorem asc_cls : Asc (inS clsS) := inS_asc (by decide)
theorem asc_stop : Asc (inS stopS) := inS_asc (by decide)
theorem sees_cons {P : Int → Bool} {t : List Int} (h : sees P t = true) : t = t.headD 0 :: t.tail := by
  cases t with
  | nil => simp [sees] at h
  | cons c t => rfl
set_option maxRecDepth 100000 in
set_option maxHeartbeats 8000000 in
theorem escape_c {t : List Int} (hC : Cx R W) (h : Rd R W s dv (92 :: t) d cl) :
    Calls Tryz.prog 65 #[.pointer (some ⟨R, 0, none⟩)] W (Post R s dv d cl W (pcV W.heap.size) (escF (92 :: t) t)) := by
  obtain ⟨o, ho⟩ : ∃ o, o = escF (92 :: t) t := ⟨_, rfl⟩
  rw [← ho]
  have HO := Lib.hid ho
  rw [escF_eq] at HO
  have hRl := h.lt
  obtain ⟨V, hV⟩ : ∃ V, V = W.alloc (.cells #[.slice none 0 0, .bool false] 101) := ⟨_, rfl⟩
  have hb0 : Below W.heap.size W V := by rw [hV]; exact (Below.refl W.heap.size W).alloc (Nat.le_refl _) _
  have HZ : Hid (V.heap.size = W.heap.size + 1) := Lib.hid (by rw [hV]; exact World.size_alloc _ _)
  have hr0 := h.kept hb0
  have c1 : (W.alloc (.cells #[.slice none 0 0, .bool false] 101)).cell? ⟨R, 1, none⟩ = some (.int .i64 ((s.size : Int) - ((U.UtfM.wr (92 :: t)).length : Nat))) := by rw [← hV]; exact hr0.c1
  have HR0 := Lib.hid hr0
  have HG0 := Lib.hid (Gr.of (R := R) hb0)
  have HB2 : Hid (B2 V W.heap.size) := Lib.hid (by rw [hV]; exact B2.new _ _ _)
  have HC0 := Lib.hid hC
  have HN := Lib.hid (need1_c 92 92 rfl (by decide) hr0)
  rw [show needF 92 (92 :: t) = .ok () t from rfl] at HN
  clear h ho hb0 hC hr0
  go_enter Tryz.func65, Tryz.ntmps65
  go_wp2_with fail
  rw [← hV]
  refine HN.out.mono ?_
  rintro e w1 ⟨g1, v, rfl, rfl, hr⟩
  have HR := Lib.hid hr
  have G := Lib.hid (HG0.out.trans g1)
  have G1 := Lib.hid g1
  clear g1 hV hr HN c1
  have HT := Lib.hid (take1_c 110 110 rfl (by decide) HR.out _ rfl)
  go_wp2_with fail
  refine HT.out.mono ?_
  rintro e w2 ⟨rfl, hr, g2⟩
  have HR2 := Lib.hid hr
  have G := Lib.hid (G.out.trans g2)
  have G1 := Lib.hid (G1.out.trans g2)
  clear hr g2 HT
  cases hq : at1 110 t with
  | true =>
    simp only [hq, if_true] at HO HR2
    have HRz := HR2
    clear hq HR2
    have HS : Hid (W.heap.size < w2.heap.size) := Lib.hid (by have := G1.out.size; have := HZ.out; omega)
    go_wp2_with fail
    refine (single_c 10 _).mono ?_
    rintro e w7 ⟨v, rfl, hv, b7⟩
    have G7 := Lib.hid (G.out.trans (Gr.of b7))
    have h2 := HB2.out.gr (G1.out.trans (Gr.of b7)) (by omega)
    obtain ⟨⟨x0, x1, k0, k1⟩, f0, f1⟩ := h2.cells
    have HV := Lib.hid hv
    have H2 := Lib.hid h2
    have HR := Lib.hid (HRz.out.kept b7)
    obtain ⟨P7, c7, l7, rfl, _⟩ := hv
    clear h2 b7
    go_wp2
    exact ret_piece rfl rfl H2.out (Post.good HO.out (put2_grR _ _ G7.out (Nat.le_refl _)) (put2_pc _ _ HV.out HS.out (Nat.le_of_lt HS.out)) (put2_rd _ _ HR.out (by omega)))
  | false =>
  simp only [hq, Bool.false_eq_true, if_false] at HO HR2
  have HR := HR2
  clear hq HR2
  have HT := Lib.hid (take1_c 114 114 rfl (by decide) HR.out _ rfl)
  go_wp2_with fail
  refine HT.out.mono ?_
  rintro e w2 ⟨rfl, hr, g2⟩
  have HR2 := Lib.hid hr
  have G := Lib.hid (G.out.trans g2)
  have G1 := Lib.hid (G1.out.trans g2)
  clear hr g2 HT
  cases hq : at1 114 t with
  | true =>
    simp only [hq, if_true] at HO HR2
    have HRz := HR2
    clear hq HR2
    have HS : Hid (W.heap.size < w2.heap.size) := Lib.hid (by have := G1.out.size; have := HZ.out; omega)
    go_wp2_with fail
    refine (single_c 13 _).mono ?_
    rintro e w7 ⟨v, rfl, hv, b7⟩
    have G7 := Lib.hid (G.out.trans (Gr.of b7))
    have h2 := HB2.out.gr (G1.out.trans (Gr.of b7)) (by omega)
    obtain ⟨⟨x0, x1, k0, k1⟩, f0, f1⟩ := h2.cells
    have HV := Lib.hid hv
    have H2 := Lib.hid h2
    have HR := Lib.hid (HRz.out.kept b7)
    obtain ⟨P7, c7, l7, rfl, _⟩ := hv
    clear h2 b7
    go_wp2
    exact ret_piece rfl rfl H2.out (Post.good HO.out (put2_grR _ _ G7.out (Nat.le_refl _)) (put2_pc _ _ HV.out HS.out (Nat.le_of_lt HS.out)) (put2_rd _ _ HR.out (by omega)))
  | false =>
  simp only [hq, Bool.false_eq_true, if_false] at HO HR2
  have HR := HR2
  clear hq HR2
  have HT := Lib.hid (take1_c 116 116 rfl (by decide) HR.out _ rfl)
  go_wp2_with fail
  refine HT.out.mono ?_
  rintro e w2 ⟨rfl, hr, g2⟩
  have HR2 := Lib.hid hr
  have G := Lib.hid (G.out.trans g2)
  have G1 := Lib.hid (G1.out.trans g2)
  clear hr g2 HT
  cases hq : at1 116 t with
  | true =>
    simp only [hq, if_true] at HO HR2
    have HRz := HR2
    clear hq HR2
    have HS : Hid (W.heap.size < w2.heap.size) := Lib.hid (by have := G1.out.size; have := HZ.out; omega)
    go_wp2_with fail
    refine (single_c 9 _).mono ?_
    rintro e w7 ⟨v, rfl, hv, b7⟩
    have G7 := Lib.hid (G.out.trans (Gr.of b7))
    have h2 := HB2.out.gr (G1.out.trans (Gr.of b7)) (by omega)
    obtain ⟨⟨x0, x1, k0, k1⟩, f0, f1⟩ := h2.cells
    have HV := Lib.hid hv
    have H2 := Lib.hid h2
    have HR := Lib.hid (HRz.out.kept b7)
    obtain ⟨P7, c7, l7, rfl, _⟩ := hv
    clear h2 b7
    go_wp2
    exact ret_piece rfl rfl H2.out (Post.good HO.out (put2_grR _ _ G7.out (Nat.le_refl _)) (put2_pc _ _ HV.out HS.out (Nat.le_of_lt HS.out)) (put2_rd _ _ HR.out (by omega)))
  | false =>
  simp only [hq, Bool.false_eq_true, if_false] at HO HR2
  have HR := HR2
  clear hq HR2
  have HT := Lib.hid (take1_c 120 120 rfl (by decide) HR.out _ rfl)
  go_wp2_with fail
  refine HT.out.mono ?_
  rintro e w2 ⟨rfl, hr, g2⟩
  have HR2 := Lib.hid hr
  have G := Lib.hid (G.out.trans g2)
  have G1 := Lib.hid (G1.out.trans g2)
  clear hr g2 HT
  cases hq : at1 120 t with
  | true =>
    simp only [hq, if_true] at HO HR2
    clear hq
    have HS : Hid (W.heap.size < w2.heap.size) := Lib.hid (by have := G1.out.size; have := HZ.out; omega)
    go_wp2_with fail
    refine (byNumber_c (r0 := 92 :: t) HR2.out).mono ?_
    rintro e w7 ⟨g7, h7⟩
    have G7 := Lib.hid (G.out.trans g7)
    have h2 := HB2.out.gr (G1.out.trans g7) (by omega)
    obtain ⟨⟨x0, x1, k0, k1⟩, f0, f1⟩ := h2.cells
    have H2 := Lib.hid h2
    clear h2 g7
    rw [← HO.out] at h7
    cases o with
    | err e x =>
      obtain rfl := h7
      go_wp2
      exact ⟨rfl, Post.bad rfl G7.out⟩
    | ok p x =>
      obtain ⟨v, rfl, hv, hr⟩ := h7
      have HV := Lib.hid hv
      have HR := Lib.hid hr
      obtain ⟨P7, c7, l7, rfl, _⟩ := hv
      clear hr
      go_wp2
      exact ret_piece rfl rfl H2.out (Post.good rfl (put2_grR _ _ G7.out (Nat.le_refl _)) (put2_pc _ _ HV.out HS.out (Nat.le_of_lt HS.out)) (put2_rd _ _ HR.out (by omega)))
  | false =>
  simp only [hq, Bool.false_eq_true, if_false] at HO HR2
  have HR := HR2
  clear hq HR2
  have HT := Lib.hid (take1_c 112 112 rfl (by decide) HR.out _ rfl)
  go_wp2_with fail
  refine HT.out.mono ?_
  rintro e w2 ⟨rfl, hr, g2⟩
  have HR2 := Lib.hid hr
  have G := Lib.hid (G.out.trans g2)
  have G1 := Lib.hid (G1.out.trans g2)
  clear hr g2 HT
  cases hq : at1 112 t with
  | true =>
    simp only [hq, if_true] at HO HR2
    clear hq
    have HCX := Lib.hid (HC0.out.gr G.out)
    have HS : Hid (W.heap.size < w2.heap.size) := Lib.hid (by have := G1.out.size; have := HZ.out; omega)
    go_wp2_with fail
    refine (byName_c (r0 := 92 :: t) HCX.out HR2.out).mono ?_
    rintro e w7 ⟨g7, h7⟩
    have G7 := Lib.hid (G.out.trans g7)
    have h2 := HB2.out.gr (G1.out.trans g7) (by omega)
    obtain ⟨⟨x0, x1, k0, k1⟩, f0, f1⟩ := h2.cells
    have H2 := Lib.hid h2
    clear h2 g7
    rw [← HO.out] at h7
    cases o with
    | err e x =>
      obtain rfl := h7
      go_wp2
      exact ⟨rfl, Post.bad rfl G7.out⟩
    | ok p x =>
      obtain ⟨v, rfl, hv, hr⟩ := h7
      have HV := Lib.hid hv
      have HR := Lib.hid hr
      obtain ⟨P7, c7, l7, rfl, _⟩ := hv
      clear hr
      go_wp2
      exact ret_piece rfl rfl H2.out (Post.good rfl (put2_grR _ _ G7.out (Nat.le_refl _)) (put2_pc _ _ HV.out HS.out (Nat.le_of_lt HS.out)) (put2_rd _ _ HR.out (by omega)))
  | false =>
  simp only [hq, Bool.false_eq_true, if_false] at HO HR2
  have HR := HR2
  clear hq HR2
  go_wp2_with fail
  refine (oneOf_l R _ escS rfl HR.out.lt).mono ?_
  rintro e w3 ⟨v, rfl, hv, b3⟩
  obtain ⟨g0, lb0, rfl⟩ := hv.form
  have HVV := Lib.hid hv
  have HR := Lib.hid (HR.out.kept b3)
  have G := Lib.hid (G.out.trans (Gr.of b3))
  have G1 := Lib.hid (G1.out.trans (Gr.of b3))
  clear hv b3
  go_wp2_with fail
  refine (sees_c _ _ asc_esc HVV.out HR.out).mono ?_
  rintro e w4 ⟨rfl, b4⟩
  have HR := Lib.hid (HR.out.kept b4)
  have G := Lib.hid (G.out.trans (Gr.of b4))
  have G1 := Lib.hid (G1.out.trans (Gr.of b4))
  clear b4 HVV
  cases hq : sees (inS escS) t with
  | true =>
    simp only [hq, if_true] at HO
    have he := sees_cons hq
    obtain ⟨c, hc⟩ : ∃ c, c = t.headD 0 := ⟨_, rfl⟩
    obtain ⟨r, hr⟩ : ∃ r, r = t.tail := ⟨_, rfl⟩
    rw [← hc, ← hr] at he HO
    have HSC := Lib.hid (scalar_c (by have := HR.out; rw [he] at this; exact this))
    clear hq he hc hr
    go_wp2_with fail
    refine HSC.out.mono ?_
    rintro e w5 ⟨rfl, hr, g5⟩
    have HRz := Lib.hid hr
    have G := Lib.hid (G.out.trans g5)
    have G1 := Lib.hid (G1.out.trans g5)
    clear hr g5
    have HS : Hid (W.heap.size < w5.heap.size) := Lib.hid (by have := G1.out.size; have := HZ.out; omega)
    go_wp2_with fail
    refine (single_c c _).mono ?_
    rintro e w7 ⟨v, rfl, hv, b7⟩
    have G7 := Lib.hid (G.out.trans (Gr.of b7))
    have h2 := HB2.out.gr (G1.out.trans (Gr.of b7)) (by omega)
    obtain ⟨⟨x0, x1, k0, k1⟩, f0, f1⟩ := h2.cells
    have HV := Lib.hid hv
    have H2 := Lib.hid h2
    have HR := Lib.hid (HRz.out.kept b7)
    obtain ⟨P7, c7, l7, rfl, _⟩ := hv
    clear h2 b7
    go_wp2
    exact ret_piece rfl rfl H2.out (Post.good HO.out (put2_grR _ _ G7.out (Nat.le_refl _)) (put2_pc _ _ HV.out HS.out (Nat.le_of_lt HS.out)) (put2_rd _ _ HR.out (by omega)))
  | false =>
    simp only [hq, Bool.false_eq_true, if_false] at HO
    clear hq
    go_wp2_with fail
    refine (misplaced_c HR.out).mono ?_
    rintro e w5 ⟨rfl, b5⟩
    go_wp2
    exact ⟨rfl, Post.bad HO.out (G.out.trans (Gr.of b5))⟩
set_option maxRecDepth 100000 in
set_option maxHeartbeats 8000000 in
theorem piece_c (hC : Cx R W) (h : Rd R W s dv rest d cl) :
    Calls Tryz.prog 115 #[.pointer (some ⟨R, 0, none⟩)] W (Post R s dv d cl W (pcV W.heap.size) (pieceF rest)) := by
  obtain ⟨o, ho⟩ : ∃ o, o = pieceF rest := ⟨_, rfl⟩
  rw [← ho]
  have HO := Lib.hid ho
  rw [pieceF_eq] at HO
  have hRl := h.lt
  obtain ⟨V, hV⟩ : ∃ V, V = W.alloc (.cells #[.slice none 0 0, .bool false] 101) := ⟨_, rfl⟩
  have hb0 : Below W.heap.size W V := by rw [hV]; exact (Below.refl W.heap.size W).alloc (Nat.le_refl _) _
  have HZ : Hid (V.heap.size = W.heap.size + 1) := Lib.hid (by rw [hV]; exact World.size_alloc _ _)
  have hr0 := h.kept hb0
  have HR0 := Lib.hid hr0
  have G := Lib.hid (Gr.of (R := R) hb0)
  have HB2 : Hid (B2 V W.heap.size) := Lib.hid (by rw [hV]; exact B2.new _ _ _)
  have HC0 := Lib.hid hC
  clear h ho hb0 hC hr0
  go_enter Tryz.func115, Tryz.ntmps115
  go_wp2_with fail
  rw [← hV]
  refine (one1_c 92 92 rfl HR0.out.lt).mono ?_
  rintro e w1 ⟨v, rfl, hv, b1⟩
  obtain ⟨g0, lb0, rfl⟩ := hv.form
  have HVV := Lib.hid hv
  have HR := Lib.hid (HR0.out.kept b1)
  have G := Lib.hid (G.out.trans (Gr.of b1))
  have G1 := Lib.hid (Gr.of (R := R) b1)
  clear hv b1 hV
  go_wp2_with fail
  refine (sees1_c R _ 92 (by decide) HVV.out HR.out).mono ?_
  rintro e w2 ⟨rfl, b2⟩
  have HR := Lib.hid (HR.out.kept b2)
  have G := Lib.hid (G.out.trans (Gr.of b2))
  have G1 := Lib.hid (G1.out.trans (Gr.of b2))
  clear b2 HVV
  cases hq : at1 92 rest with
  | true =>
    simp only [hq, if_true] at HO
    have he := at1_true hq
    obtain ⟨r, hr⟩ : ∃ r, r = rest.tail := ⟨_, rfl⟩
    rw [← hr] at he HO
    clear hq hr
    subst he
    have HCX := Lib.hid (HC0.out.gr G.out)
    have HS : Hid (W.heap.size < w2.heap.size) := Lib.hid (by have := G1.out.size; have := HZ.out; omega)
    go_wp2_with fail
    refine (escape_c HCX.out HR.out).mono ?_
    rintro e w7 ⟨g7, h7⟩
    have G7 := Lib.hid (G.out.trans g7)
    have h2 := HB2.out.gr (G1.out.trans g7) (by omega)
    obtain ⟨⟨x0, x1, k0, k1⟩, f0, f1⟩ := h2.cells
    have H2 := Lib.hid h2
    clear h2 g7
    rw [← HO.out] at h7
    cases o with
    | err e x =>
      obtain rfl := h7
      go_wp2
      exact ⟨rfl, Post.bad rfl G7.out⟩
    | ok p x =>
      obtain ⟨v, rfl, hv, hr⟩ := h7
      have HV := Lib.hid hv
      have HR := Lib.hid hr
      obtain ⟨P7, c7, l7, rfl, _⟩ := hv
      clear hr
      go_wp2
      exact ret_piece rfl rfl H2.out (Post.good rfl (put2_grR _ _ G7.out (Nat.le_refl _)) (put2_pc _ _ HV.out HS.out (Nat.le_of_lt HS.out)) (put2_rd _ _ HR.out (by omega)))
  | false =>
    simp only [hq, Bool.false_eq_true, if_false] at HO
    clear hq
    go_wp2_with fail
    refine (ended_c HR.out).mono ?_
    rintro e w3 ⟨rfl, b3⟩
    have HR := Lib.hid (HR.out.kept b3)
    have G := Lib.hid (G.out.trans (Gr.of b3))
    have G1 := Lib.hid (G1.out.trans (Gr.of b3))
    clear b3
    by_cases he : rest = []
    · have hd : decide (rest = []) = true := decide_eq_true he
      rw [if_pos (.inl he)] at HO
      clear he
      go_wp2_with fail
      refine (misplaced_c HR.out).mono ?_
      rintro e w5 ⟨rfl, b5⟩
      go_wp2
      exact ⟨rfl, Post.bad HO.out (G.out.trans (Gr.of b5))⟩
    · have hd : decide (rest = []) = false := decide_eq_false he
      have HNE := Lib.hid he
      clear he
      go_wp2_with fail
      refine (oneOf_l R _ clsS rfl HR.out.lt).mono ?_
      rintro e w4 ⟨v, rfl, hv, b4⟩
      obtain ⟨g0, lb0, rfl⟩ := hv.form
      have HVV := Lib.hid hv
      have HR := Lib.hid (HR.out.kept b4)
      have G := Lib.hid (G.out.trans (Gr.of b4))
      have G1 := Lib.hid (G1.out.trans (Gr.of b4))
      clear hv b4
      go_wp2_with fail
      refine (sees_c _ _ asc_cls HVV.out HR.out).mono ?_
      rintro e w5 ⟨rfl, b5⟩
      have HR := Lib.hid (HR.out.kept b5)
      have G := Lib.hid (G.out.trans (Gr.of b5))
      have G1 := Lib.hid (G1.out.trans (Gr.of b5))
      clear b5 HVV
      cases hq : sees (inS clsS) rest with
      | true =>
        rw [if_pos (.inr hq)] at HO
        clear hq
        go_wp2_with fail
        refine (misplaced_c HR.out).mono ?_
        rintro e w6 ⟨rfl, b6⟩
        go_wp2
        exact ⟨rfl, Post.bad HO.out (G.out.trans (Gr.of b6))⟩
      | false =>
        rw [if_neg (by rw [hq]; simp; exact HNE.out)] at HO
        obtain ⟨c, r, hcr⟩ : ∃ c r, rest = c :: r := by
          cases hre : rest with
          | nil => exact absurd hre HNE.out
          | cons c r => exact ⟨c, r, rfl⟩
        subst hcr
        rw [show (c :: r).headD 0 = c from rfl, show (c :: r).tail = r from rfl] at HO
        clear hq
        go_wp2_with fail
        refine (scalar_c HR.out).mono ?_
        rintro e w6 ⟨rfl, hr, g6⟩
        have HRz := Lib.hid hr
        have G := Lib.hid (G.out.trans g6)
        have G1 := Lib.hid (G1.out.trans g6)
        clear hr g6
        have HS : Hid (W.heap.size < w6.heap.size) := Lib.hid (by have := G1.out.size; have := HZ.out; omega)
        go_wp2_with fail
        refine (single_c c _).mono ?_
        rintro e w7 ⟨v, rfl, hv, b7⟩
        have G7 := Lib.hid (G.out.trans (Gr.of b7))
        have h2 := HB2.out.gr (G1.out.trans (Gr.of b7)) (by omega)
        obtain ⟨⟨x0, x1, k0, k1⟩, f0, f1⟩ := h2.cells
        have HV := Lib.hid hv
        have H2 := Lib.hid h2
        have HR := Lib.hid (HRz.out.kept b7)
        obtain ⟨P7, c7, l7, rfl, _⟩ := hv
        clear h2 b7
        go_wp2
        exact ret_piece rfl rfl H2.out (Post.good HO.out (put2_grR _ _ G7.out (Nat.le_refl _)) (put2_pc _ _ HV.out HS.out (Nat.le_of_lt HS.out)) (put2_rd _ _ HR.out (by omega)))
end Go.Proofs.YtahgljglleeloaaGreatDoor
