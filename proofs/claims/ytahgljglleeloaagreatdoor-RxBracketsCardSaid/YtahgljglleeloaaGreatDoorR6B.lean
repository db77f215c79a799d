/- RR6d, RR6e, in one text. -/
import Derived.Test.YtahgljglleeloaaGreatDoorR6A
import Derived.Test.YtahgljglleeloaaGreatDoorRLawM
/- The document's reader at the definition's text: a class. -/
namespace Go.Proofs.YtahgljglleeloaaGreatDoor
open Go.RowKit Go.Shelf Go.Maps SetM PropsM RxM
variable {R : Nat} {W : World} {i : Nat}

def signs4 : ByteArray := ⟨#[91, 93, 94, 45]⟩
set_option maxRecDepth 100000 in
set_option maxHeartbeats 2000000 in
theorem one6_c (h : R6 R W i) (hi8 : i < 8) (h92 : hit i 92 = false) (hin : ∀ x ∈ bs signs4, x ≠ b8 i) :
    Calls Tryz.prog 101 #[.pointer (some ⟨R, 0, none⟩)] W fun e W' => ∃ g, e = .returned (.tuple #[.slice (some ⟨g, 0, none⟩) 1 1, .int .i64 0]) ∧ W.heap.size ≤ g ∧ Sl W' (some ⟨g, 0, none⟩) [(b8 i, b8 i)] ∧ R6 R W' (i + 1) ∧ Gr R W W' := by
  have hi : i ≤ 8 := by omega
  have c1 := h.c1
  have HR := Lib.hid h
  have HB := Lib.hid (Below.refl W.heap.size W)
  have hb8 := b8_in i hi8
  have hlt : ¬ b8 i < 0 := by omega
  have hlt2 : decide (b8 i < 0) = false := decide_eq_false hlt
  clear h
  go_enter Tryz.func101, Tryz.ntmps101
  go_wp2_with fail
  refine (tkno 92 HR.out hi h92).mono ?_
  rintro e w1 ⟨rfl, b1⟩
  have HR := Lib.hid (HR.out.kept b1)
  have HB := Lib.hid (HB.out.trans (b1.mono HB.out.size))
  clear b1
  go_wp2_with fail
  refine (see6_c HR.out hi8).mono ?_
  rintro e w1 ⟨rfl, b1⟩
  have HR := Lib.hid (HR.out.kept b1)
  have HB := Lib.hid (HB.out.trans (b1.mono HB.out.size))
  clear b1
  go_wp2_with fail
  refine (see6_c HR.out hi8).mono ?_
  rintro e w1 ⟨rfl, b1⟩
  have HR := Lib.hid (HR.out.kept b1)
  have HB := Lib.hid (HB.out.trans (b1.mono HB.out.size))
  clear b1
  go_wp2_with fail
  refine (in6_no (b8 i) signs4 (by decide) hin).mono ?_
  rintro e w1 ⟨rfl, rfl⟩
  go_wp2_with fail
  refine (scalar6_c HR.out hi8).mono ?_
  rintro e w2 ⟨g, rfl, hg, hs, hr, gr⟩
  have HR2 := Lib.hid hr
  have HG := Lib.hid ((Gr.of (R := R) HB.out).trans gr)
  have HS := Lib.hid hs
  have hgz : W.heap.size ≤ g := Nat.le_trans HB.out.size hg
  clear hr gr hs
  go_wp2
  go_ret2
  exact ⟨g, rfl, hgz, HS.out, HR2.out, HG.out⟩
theorem sl_cells {W : World} {g : Nat} {x y : Int} (h : Sl W (some ⟨g, 0, none⟩) [(x, y)]) : g < W.heap.size ∧ W.cell? ⟨g, 0, none⟩ = some (.int .i64 x) ∧ W.cell? ⟨g, 1, none⟩ = some (.int .i64 y) := by
  obtain ⟨b, off, e, hb, hc⟩ := h (by simp)
  cases e
  have := hc 0 (by simp)
  exact ⟨hb, by simpa using this.1, by simpa using this.2⟩
theorem Gr.cellAt {R : Nat} {W W' : World} (h : Gr R W W') {g o : Nat} (hg : g < W.heap.size) (hne : g ≠ R) : W'.cell? ⟨g, o, none⟩ = W.cell? ⟨g, o, none⟩ := World.cell?_of_block (h.block g hg (fun e => hne (by cases e; rfl)))
theorem sl_gr {R : Nat} {W W' : World} {P : Option Addr} {l : List Sp} (h : Sl W P l) (hg : Gr R W W') (hne : ∀ a, P = some a → a.block ≠ R) : Sl W' P l := fun hn => by
  obtain ⟨b, off, e, hb, hc⟩ := h hn
  have := hne _ e
  exact ⟨b, off, e, Nat.lt_of_lt_of_le hb hg.size, fun j hj => ⟨(hg.cellAt hb this).trans (hc j hj).1, (hg.cellAt hb this).trans (hc j hj).2⟩⟩
set_option maxRecDepth 100000 in
set_option maxHeartbeats 2000000 in
theorem class6_c : NodeAt 75 R 4 8 (.mk 1 (Tells [(75, 77)]) [] 0 0) := by
  intro W h
  have hRW := h.lt
  obtain ⟨V, hV⟩ : ∃ V, V = W.alloc (.cells #[.int .u8 0, .slice none 0 0, .slice none 0 0, .int .i64 0, .int .i64 0] 27) := ⟨_, rfl⟩
  have hb0 : Below W.heap.size W V := by rw [hV]; exact (Below.refl W.heap.size W).alloc (Nat.le_refl _) _
  have HZ : Hid (V.heap.size = W.heap.size + 1) := Lib.hid (by rw [hV]; exact World.size_alloc _ _)
  have HB5 : Hid (B5 V W.heap.size) := Lib.hid (by rw [hV]; exact B5.new W _ _ _ _ _)
  have HR := Lib.hid (h.kept hb0)
  have HB := Lib.hid (Below.refl V.heap.size V)
  have HB0 := Lib.hid hb0
  clear h hb0
  go_enter Tryz.func75, Tryz.ntmps75
  go_wp2_with fail
  rw [← hV]
  clear hV
  refine (tkno 94 HR.out (by decide) (by decide)).mono ?_
  rintro e w1 ⟨rfl, b1⟩
  have HR := Lib.hid (HR.out.kept b1)
  have HB := Lib.hid (HB.out.trans (b1.mono HB.out.size))
  clear b1
  go_wp2_with fail
  go_loopg [4] 1 (fun g s4 wx => (g = 1 ∧ s4 = .slice none 0 0 ∧ Hid (R6 R wx 4) ∧ Hid (Below V.heap.size V wx)) ∨ (g = 0 ∧ ∃ P c, s4 = .slice P 1 c ∧ Hid (Sl wx P [(75, 77)]) ∧ Hid (∀ a, P = some a → a.block ≠ R) ∧ Hid (R6 R wx 7) ∧ Hid (Gr R V wx)))
  case atStart => exact .inl ⟨rfl, rfl, HR, HB⟩
  case round =>
    rcases hrel with ⟨rfl, rfl, hr, hb⟩ | ⟨rfl, P, c, rfl, hs, HP, hr, hg⟩
    · go_wp2_with fail
      refine (see6_c hr.out (by decide)).mono ?_
      rintro e w1 ⟨rfl, b1⟩
      have HR := Lib.hid (hr.out.kept b1)
      have HB := Lib.hid (hb.out.trans (b1.mono hb.out.size))
      clear b1 hr hb
      rw [show b8 4 = 75 from rfl]
      go_wp2_with fail
      refine (see6_c HR.out (by decide)).mono ?_
      rintro e w1 ⟨rfl, b1⟩
      have HR := Lib.hid (HR.out.kept b1)
      have HB := Lib.hid (HB.out.trans (b1.mono HB.out.size))
      have c1 := HR.out.c1
      clear b1
      rw [show b8 4 = 75 from rfl]
      go_wp2_with fail
      refine (one6_c HR.out (by decide) (by decide) (by decide)).mono ?_
      rintro e w2 ⟨g1, rfl, hg1, hs1, hr, gr⟩
      have HR := Lib.hid hr
      have HG := Lib.hid ((Gr.of (R := R) HB.out).trans gr)
      have HS1 := Lib.hid hs1
      clear hr gr hs1 c1
      go_wp2_with fail
      refine (takes6_yes 45 HR.out (by decide) (by decide)).mono ?_
      rintro e w3 ⟨rfl, hr, gr⟩
      have HR := Lib.hid hr
      have HG := Lib.hid (HG.out.trans gr)
      have HG13 := Lib.hid gr
      clear hr gr
      go_wp2_with fail
      refine (one6_c HR.out (by decide) (by decide) (by decide)).mono ?_
      rintro e w4 ⟨g2, rfl, hg2, hs2, hr, gr⟩
      have HR4 := Lib.hid hr
      have hRV : R < V.heap.size := by have := HB0.out.size; omega
      have hz1 := HB.out.size
      obtain ⟨hq1, a0, a1⟩ := sl_cells HS1.out
      obtain ⟨hq2, b0, b1⟩ := sl_cells hs2
      have G24 := HG13.out.trans gr
      have a0 : w4.cell? ⟨g1, 0, none⟩ = some (.int .i64 75) := (G24.cellAt hq1 (by omega)).trans a0
      have b0 : w4.cell? ⟨g2, 0, none⟩ = some (.int .i64 77) := b0
      have b1 : w4.cell? ⟨g2, 1, none⟩ = some (.int .i64 77) := b1
      have c5 : w4.cell? ⟨R, 5, none⟩ = some (.int .i64 0) := hr.c5
      have a0n : ∀ n, (w4.drewN n).cell? ⟨g1, 0, none⟩ = some (.int .i64 75) := fun _ => a0
      have b1n : ∀ n, (w4.drewN n).cell? ⟨g2, 1, none⟩ = some (.int .i64 77) := fun _ => b1
      have c5n : ∀ n, (w4.drewN n).cell? ⟨R, 5, none⟩ = some (.int .i64 0) := fun _ => c5
      have HG4 := Lib.hid (HG.out.trans gr)
      clear hs2 hr gr G24 a1
      go_wp2_with fail
      go_quiet (fail)
      have HG5 : Hid (Gr R V (w4.drewN nq)) := Lib.hid (HG4.out.trans (Gr.of (drewN_below nq)))
      have HR5 : Hid (R6 R (w4.drewN nq) 7) := Lib.hid (HR4.out.kept (drewN_below nq))
      have a0 := a0n nq
      have b1 := b1n nq
      have c5 := c5n nq
      clear a0n b1n c5n b0 HG4
      generalize w4.drewN nq = w5 at *
      go_wp2_with fail
      go_region
      have hal := ((Below.refl w5.heap.size w5).alloc (Nat.le_refl _) (.cells #[.int .i64 75, .int .i64 77] 53)).drew
      have HS6 : Hid (Sl (w5.alloc (.cells #[.int .i64 75, .int .i64 77] 53)).drew (some ⟨w5.heap.size, 0, none⟩) [(75, 77)]) := Lib.hid (sl_new w5 75 77)
      have HR6 := Lib.hid (HR5.out.kept hal)
      have HG6 := Lib.hid (HG5.out.trans (Gr.of hal))
      generalize (w5.alloc (.cells #[.int .i64 75, .int .i64 77] 53)).drew = w6 at *
      have hz6 := HG6.out.size
      clear a0 b1 c5 hal b0
      go_wp2_with (at_builtin; refine wpList_append_spans rfl _ _ rfl V.heap.size (.slice none 0 0) 0 [] rfl (World.ownsRow_nil _ _ _ _) (some ⟨w5.heap.size, 0, none⟩) 1 [(75, 77)] rfl HS6.out (fun h => by cases h) (by simp) hz6 ?_; intro v7 w7 hown7 hg7)
      obtain ⟨P7, c7, rfl, hs7, _⟩ := spans_of0 hown7
      have hb7 : Below w6.heap.size w6 w7 := (Below.refl _ _).grown hg7 (Nat.le_refl _) (fun k hk => by cases hk)
      have HR7 := Lib.hid (HR6.out.kept hb7)
      have HG7 := Lib.hid (HG6.out.trans (Gr.of hb7))
      have HS7 : Hid (Sl w7 P7 [(75, 77)]) := Lib.hid hs7
      have HP7 : Hid (∀ a, P7 = some a → a.block ≠ R) := Lib.hid (fun a ha => by
        subst ha
        have := (hown7.lt a.block rfl).1
        omega)
      clear hown7 hg7 hs7 hb7
      go_wp2
      go_roundg 0
      case measure => omega
      case rel => exact .inr ⟨rfl, P7, c7, rfl, HS7, HP7, HR7, HG7⟩
    · have hRV : R < V.heap.size := by have := HB0.out.size; omega
      go_wp2_with fail
      refine (see6_c hr.out (by decide)).mono ?_
      rintro e w1 ⟨rfl, b1⟩
      have HR := Lib.hid (hr.out.kept b1)
      have HG := Lib.hid (hg.out.trans (Gr.of b1))
      have HS := Lib.hid (hs.out.step b1)
      clear b1 hr hg hs
      rw [show b8 7 = 93 from rfl]
      go_wp2_with fail
      refine (see6_c HR.out (by decide)).mono ?_
      rintro e w1 ⟨rfl, b1⟩
      have HR := Lib.hid (HR.out.kept b1)
      have HG := Lib.hid (HG.out.trans (Gr.of b1))
      have HS := Lib.hid (HS.out.step b1)
      clear b1
      rw [show b8 7 = 93 from rfl]
      go_wp2_with fail
      refine (must6_yes 93 HR.out (by decide) (by decide)).mono ?_
      rintro e w2 ⟨rfl, hr, gr⟩
      have HR := Lib.hid hr
      have HG := Lib.hid (HG.out.trans gr)
      have HS := Lib.hid (sl_gr HS.out gr HP.out)
      have hwd : Wide [(75, 77)] := fun s h => by simp at h; subst h; simp
      have HC := Lib.hid (chars6_c (c := c) (K := Tells [(75, 77)]) HR.out HS.out (by simp) hwd (fun _ => Iff.rfl))
      have hz2 := HG.out.size
      have hzv := HZ.out
      clear hr gr
      go_wp2_with fail
      refine HC.out.mono ?_
      rintro e w3 ⟨v, rfl, hv, b3⟩
      have HG3 := Lib.hid (HG.out.trans (Gr.of b3))
      have HR3 := Lib.hid (HR.out.kept b3)
      have HV := Lib.hid hv
      have h5 := HB5.out.gr HG3.out (by omega)
      obtain ⟨⟨x0, x1, x2, x3, x4, k0, k1, k2, k3, k4⟩, f0, f1, f2, f3, f4⟩ := h5.cells
      have H5 := Lib.hid h5
      obtain ⟨k, sp, sn, sc, kp, kn, kc, mn, mx, rfl⟩ := NV.form5 hv
      clear hv b3 h5 HC
      go_wp2
      exact ret_node rfl rfl H5.out ⟨_, rfl, put5_nv (R := R) _ _ _ _ _ HV.out (by omega) hRW (by omega), HR3.out.put5 (by omega) _ _ _ _ _, put5_grR _ _ _ _ _ ((Gr.of HB0.out).trans HG3.out) (Nat.le_refl _)⟩
end Go.Proofs.YtahgljglleeloaaGreatDoor

/- The document's reader at the definition's text: atoms, repeated or not. -/
namespace Go.Proofs.YtahgljglleeloaaGreatDoor
open Go.RowKit Go.Shelf Go.Maps SetM PropsM RxM
variable {R : Nat} {W : World} {i j : Nat}

set_option maxRecDepth 100000 in
set_option maxHeartbeats 2000000 in
theorem atom6_class : NodeAt 58 R 3 8 (.mk 1 (Tells [(75, 77)]) [] 0 0) := by
  intro W h
  have hi : 3 ≤ 8 := by omega
  have hRW := h.lt
  obtain ⟨V, hV⟩ : ∃ V, V = W.alloc (.cells #[.int .u8 0, .slice none 0 0, .slice none 0 0, .int .i64 0, .int .i64 0] 27) := ⟨_, rfl⟩
  have hb0 : Below W.heap.size W V := by rw [hV]; exact (Below.refl W.heap.size W).alloc (Nat.le_refl _) _
  have HZ : Hid (V.heap.size = W.heap.size + 1) := Lib.hid (by rw [hV]; exact World.size_alloc _ _)
  have HB5 : Hid (B5 V W.heap.size) := Lib.hid (by rw [hV]; exact B5.new W _ _ _ _ _)
  have HR := Lib.hid (h.kept hb0)
  have HB := Lib.hid (Below.refl V.heap.size V)
  have HB0 := Lib.hid hb0
  clear h hb0
  have c1 : (W.alloc (.cells #[.int .u8 0, .slice none 0 0, .slice none 0 0, .int .i64 0, .int .i64 0] 27)).cell? ⟨R, 1, none⟩ = some (.int .i64 ((3 : Nat) : Int)) := by rw [← hV]; exact HR.out.c1
  go_enter Tryz.func58, Tryz.ntmps58
  go_wp2_with fail
  rw [← hV]
  clear hV
  refine (tkno 40 HR.out hi (by decide)).mono ?_
  rintro e w1 ⟨rfl, b1⟩
  have HR := Lib.hid (HR.out.kept b1)
  have HB := Lib.hid (HB.out.trans (b1.mono HB.out.size))
  clear b1
  go_wp2_with fail
  refine (tkno 123 HR.out hi (by decide)).mono ?_
  rintro e w1 ⟨rfl, b1⟩
  have HR := Lib.hid (HR.out.kept b1)
  have HB := Lib.hid (HB.out.trans (b1.mono HB.out.size))
  clear b1
  go_wp2_with fail
  refine (tkno 46 HR.out hi (by decide)).mono ?_
  rintro e w1 ⟨rfl, b1⟩
  have HR := Lib.hid (HR.out.kept b1)
  have HB := Lib.hid (HB.out.trans (b1.mono HB.out.size))
  clear b1
  go_wp2_with fail
  refine (takes6_yes 91 HR.out (by decide) (by decide)).mono ?_
  rintro e w2 ⟨rfl, hr, gr⟩
  have HR := Lib.hid hr
  have HG := Lib.hid ((Gr.of (R := R) HB.out).trans gr)
  have HC := Lib.hid (class6_c w2 hr)
  have hz2 := HG.out.size
  have hzv := HZ.out
  clear hr gr
  go_wp2_with fail
  refine HC.out.mono ?_
  rintro e w3 ⟨v, rfl, hv, hr, gr⟩
  have HR3 := Lib.hid hr
  have HV := Lib.hid hv
  have HG3 := Lib.hid (HG.out.trans gr)
  have h5 := HB5.out.gr HG3.out (by omega)
  obtain ⟨⟨x0, x1, x2, x3, x4, k0, k1, k2, k3, k4⟩, f0, f1, f2, f3, f4⟩ := h5.cells
  have H5 := Lib.hid h5
  obtain ⟨k, sp, sn, sc, kp, kn, kc, mn, mx, rfl⟩ := NV.form5 hv
  clear hv hr gr h5 HC
  go_wp2
  exact ret_node rfl rfl H5.out ⟨_, rfl, put5_nv (R := R) _ _ _ _ _ HV.out (by omega) hRW (by omega), HR3.out.put5 (by omega) _ _ _ _ _, put5_grR _ _ _ _ _ ((Gr.of HB0.out).trans HG3.out) (Nat.le_refl _)⟩
set_option maxRecDepth 100000 in
set_option maxHeartbeats 2000000 in
theorem rep6_c {t : Nd} (HA : NodeAt 58 R i j t) (hi : j ≤ 8) (h42 : hit j 42 = false) (h43 : hit j 43 = false) (h63 : hit j 63 = false) (hs : ∃ z : Int, (z == 123) = false ∧ ∀ U, R6 R U j → Calls Tryz.prog 48 #[.pointer (some ⟨R, 0, none⟩)] U fun e W' => e = .returned (.int .i64 z) ∧ ∃ m, W' = U.drewN m) :
    NodeAt 49 R i j t := by
  intro W h
  obtain ⟨z, hz, hsee⟩ := hs
  have hz1 : ¬ z = 123 := by simpa using hz
  have hz2 : decide (z = 123) = false := decide_eq_false hz1
  have HSEE := Lib.hid hsee
  clear hsee
  have hRW := h.lt
  obtain ⟨V, hV⟩ : ∃ V, V = W.alloc (.cells #[.int .u8 0, .slice none 0 0, .slice none 0 0, .int .i64 0, .int .i64 0] 27) := ⟨_, rfl⟩
  have hb0 : Below W.heap.size W V := by rw [hV]; exact (Below.refl W.heap.size W).alloc (Nat.le_refl _) _
  have HZ : Hid (V.heap.size = W.heap.size + 1) := Lib.hid (by rw [hV]; exact World.size_alloc _ _)
  have HB5 : Hid (B5 V W.heap.size) := Lib.hid (by rw [hV]; exact B5.new W _ _ _ _ _)
  have HR := Lib.hid (h.kept hb0)
  have HB := Lib.hid (Below.refl V.heap.size V)
  have HB0 := Lib.hid hb0
  clear h hb0
  have HC := Lib.hid (HA V HR.out)
  clear HA
  have hzv := HZ.out
  go_enter Tryz.func49, Tryz.ntmps49
  go_wp2_with fail
  rw [← hV]
  clear hV
  refine HC.out.mono ?_
  rintro e w1 ⟨v, rfl, hv, hr, gr⟩
  obtain ⟨k, sp, sn, sc, kp, kn, kc, mn, mx, rfl⟩ := NV.form5 hv
  obtain ⟨V1, hV1⟩ : ∃ V1, V1 = w1.alloc (.cells #[.int .u8 k, .slice sp sn sc, .slice kp kn kc, .int .i64 mn, .int .i64 mx] 27) := ⟨_, rfl⟩
  have hal : Below w1.heap.size w1 V1 := by rw [hV1]; exact (Below.refl w1.heap.size w1).alloc (Nat.le_refl _) _
  have hblk : V1.heap[w1.heap.size]? = some (.cells #[.int .u8 k, .slice sp sn sc, .slice kp kn kc, .int .i64 mn, .int .i64 mx] 27 (0, 0)) := by rw [hV1]; exact heap_alloc_new w1 _
  have hlt : w1.heap.size < V1.heap.size := (Array.getElem?_eq_some_iff.1 hblk).1
  have HR := Lib.hid (hr.kept hal)
  have HG := Lib.hid (gr.trans (Gr.of hal))
  have HB := Lib.hid (Below.refl V1.heap.size V1)
  have HNV : Hid (NV V1 (Old 0 V.heap.size) (.agg #[.int .u8 k, .slice sp sn sc, .slice kp kn kc, .int .i64 mn, .int .i64 mx]) t) := Lib.hid (hv.imp (fun b hA hb => ⟨hA, hal.block b hb⟩) hal.size)
  have HBL := Lib.hid hblk
  clear hv hr gr hal hblk HC
  go_wp2_with fail
  rw [← hV1]
  clear hV1
  go_loopg [] 0 (fun g wx => V1 = wx)
  case atStart => rfl
  case round =>
    obtain rfl := hrel
    go_wp2_with fail
    refine (tkno 42 HR.out hi h42).mono ?_
    rintro e w1 ⟨rfl, b1⟩
    have HR := Lib.hid (HR.out.kept b1)
    have HB := Lib.hid (HB.out.trans (b1.mono HB.out.size))
    clear b1
    go_wp2_with fail
    refine (tkno 43 HR.out hi h43).mono ?_
    rintro e w1 ⟨rfl, b1⟩
    have HR := Lib.hid (HR.out.kept b1)
    have HB := Lib.hid (HB.out.trans (b1.mono HB.out.size))
    clear b1
    go_wp2_with fail
    refine (tkno 63 HR.out hi h63).mono ?_
    rintro e w1 ⟨rfl, b1⟩
    have HR := Lib.hid (HR.out.kept b1)
    have HB := Lib.hid (HB.out.trans (b1.mono HB.out.size))
    clear b1
    go_wp2_with fail
    dsimp only [List.append]
    go_quiet ((go_at_call 48; exact Calls.quiet_of (HSEE.out _ (HR.out.kept (drewN_below _)))))
    have b1 := drewN_below (W := w1) nq
    generalize w1.drewN nq = w1 at *
    have HR := Lib.hid (HR.out.kept b1)
    have hb := HB.out.trans (b1.mono HB.out.size)
    have HG3 := Lib.hid (HG.out.trans (Gr.of hb))
    have HV : Hid (NV w1 (Old 0 V.heap.size) (.agg #[.int .u8 k, .slice sp sn sc, .slice kp kn kc, .int .i64 mn, .int .i64 mx]) t) := Lib.hid (HNV.out.imp (fun b hA hx => ⟨hA, hb.block b hx⟩) hb.size)
    have h5 := HB5.out.gr HG3.out (by omega)
    obtain ⟨⟨x0, x1, x2, x3, x4, k0, k1, k2, k3, k4⟩, f0, f1, f2, f3, f4⟩ := h5.cells
    have H5 := Lib.hid h5
    have hq := (hb.block _ hlt).trans HBL.out
    have q0 := cell_of_row w1 _ 0 _ _ _ hq
    have q1 := cell_of_row w1 _ 1 _ _ _ hq
    have q2 := cell_of_row w1 _ 2 _ _ _ hq
    have q3 := cell_of_row w1 _ 3 _ _ _ hq
    have q4 := cell_of_row w1 _ 4 _ _ _ hq
    simp only [List.getElem?_toArray, List.getElem?_cons_zero, List.getElem?_cons_succ] at q0 q1 q2 q3 q4
    clear b1 hb h5 hq
    go_wp2
    exact ret_node rfl rfl H5.out ⟨_, rfl, put5_nv (R := R) _ _ _ _ _ HV.out (by omega) hRW (by omega), HR.out.put5 (by omega) _ _ _ _ _, put5_grR _ _ _ _ _ ((Gr.of HB0.out).trans HG3.out) (Nat.le_refl _)⟩
theorem rep6_1 : NodeAt 49 R 0 1 (one1 97) :=
  rep6_c (atom6_plain (by decide) (by decide) (by decide) (by decide) (by decide) (by decide) (by decide)) (by decide) (by decide) (by decide) (by decide) ⟨98, rfl, fun U h => see6_q h (by decide)⟩
theorem rep6_2 : NodeAt 49 R 1 2 (one1 98) :=
  rep6_c (atom6_plain (by decide) (by decide) (by decide) (by decide) (by decide) (by decide) (by decide)) (by decide) (by decide) (by decide) (by decide) ⟨124, rfl, fun U h => see6_q h (by decide)⟩
theorem rep6_3 : NodeAt 49 R 3 8 (.mk 1 (Tells [(75, 77)]) [] 0 0) :=
  rep6_c atom6_class (by decide) (by decide) (by decide) (by decide) ⟨-1, rfl, fun U h => see6_qe h⟩
end Go.Proofs.YtahgljglleeloaaGreatDoor
