/- rx.Parse: what becomes of a text of scalars; of one that is too long. -/
import Derived.Test.YtahgljglleeloaaGreatDoorRNamed
import Derived.Test.YtahgljglleeloaaGreatDoorUB
namespace Go.Proofs.YtahgljglleeloaaGreatDoor
open Go.RowKit Go.Shelf Go.Maps SetM PropsM RxM

theorem first_wr (xs : List Int) : U.UtfM.first (U.UtfM.wr xs) = -1 := U.UtfM.firstOf_all (fun c hc => by
  have h : c.1 ∈ (U.UtfM.chars 0 (U.UtfM.wr xs)).map (·.1) := List.mem_map_of_mem hc
  rw [U.UtfM.chars_wr_scalars] at h
  have := (List.mem_filter.1 h).2
  simp only [decide_eq_true_eq] at this
  exact this.1)
/-- What Parse comes to. -/
def PPost (W : World) (s : ByteArray) (o : Out Nd) (e : Ending) (W' : World) : Prop :=
  Below W.heap.size W W' ∧ match o with
  | .ok x _ => ∃ v, e = .returned (.tuple #[v, .int .u16 0, .int .i64 0]) ∧ NV W' (fun _ => True) v x
  | .err n r => e = .returned (.tuple #[.agg #[.int .u8 0, .slice none 0 0, .slice none 0 0, .int .i64 0, .int .i64 0], .int .u16 n, .int .i64 ((s.size : Int) - ((U.UtfM.wr r).length : Nat))])
theorem resultsP {tmps : Array Value} {w : World} {B : Nat} {a b c d e : Value} {n z : Int} (h1 : tmps.getD 4 undef = .pointer (some ⟨B, 0, none⟩)) (h2 : tmps.getD 5 undef = .int .u16 n) (h3 : tmps.getD 6 undef = .int .i64 z)
    (b1 : w.heap[B]? = some (.cells #[a, b, c, d, e] 27 (0, 0))) :
    (results Tryz.f9 tmps).run Tryz.prog w = .ok (.tuple #[.agg #[a, b, c, d, e], .int .u16 n, .int .i64 z]) w := by
  have h1' : tmps[4]?.getD undef = .pointer (some ⟨B, 0, none⟩) := by simpa using h1
  have h2' : tmps[5]?.getD undef = .int .u16 n := by simpa using h2
  have h3' : tmps[6]?.getD undef = .int .i64 z := by simpa using h3
  have q0 : w.cell? ⟨B, 0, none⟩ = some a := cell_of_row w _ 0 _ _ _ b1
  have q1 : w.cell? ⟨B, 1, none⟩ = some b := cell_of_row w _ 1 _ _ _ b1
  have q2 : w.cell? ⟨B, 2, none⟩ = some c := cell_of_row w _ 2 _ _ _ b1
  have q3 : w.cell? ⟨B, 3, none⟩ = some d := cell_of_row w _ 3 _ _ _ b1
  have q4 : w.cell? ⟨B, 4, none⟩ = some e := cell_of_row w _ 4 _ _ _ b1
  simp [results, Tryz.results9, h1', h2', h3', go_sem, q0, q1, q2, q3, q4]
/-- The way out of Parse. -/
theorem ret_parse {Q : Ending → World → Prop} {tmps : Array Value} {w1 : World} {B : Nat} {a b c d e : Value} {n z : Int} (h1 : tmps.getD 4 undef = .pointer (some ⟨B, 0, none⟩)) (h2 : tmps.getD 5 undef = .int .u16 n) (h3 : tmps.getD 6 undef = .int .i64 z)
    (h5 : B5 w1 B) (hQ : Q (.returned (.tuple #[.agg #[a, b, c, d, e], .int .u16 n, .int .i64 z])) (put5 w1 B a b c d e)) :
    bodyPost Tryz.prog Tryz.f9 Q .ret { tmps := tmps, defers := [] } (((((w1.setCell ⟨B, 0, none⟩ a).setCell ⟨B, 1, none⟩ b).setCell ⟨B, 2, none⟩ c).setCell ⟨B, 3, none⟩ d).setCell ⟨B, 4, none⟩ e) :=
  bodyPost_ret (resultsP h1 h2 h3 (put5_b5 a b c d e h5)) rfl hQ
abbrev NODE : Obj := .cells #[.int .u8 0, .slice none 0 0, .slice none 0 0, .int .i64 0, .int .i64 0] 27
set_option maxRecDepth 100000 in
set_option maxHeartbeats 2000000 in
theorem parse_long (s : ByteArray) (dv : Value) (W : World) (h : 200 < s.size) :
    Calls Tryz.prog 9 #[.string s, dv] W fun e W' => e = .returned (.tuple #[.agg #[.int .u8 0, .slice none 0 0, .slice none 0 0, .int .i64 0, .int .i64 0], .int .u16 63, .int .i64 0]) ∧ Below W.heap.size W W' := by
  have hl : (200 : Int) < (s.size : Int) := by omega
  go_enter Tryz.func9, Tryz.ntmps9
  go_wp2
  exact bodyPost_ret (resultsP rfl rfl rfl (heap_alloc_new W NODE)) rfl ⟨rfl, (Below.refl W.heap.size W).alloc (Nat.le_refl _) _⟩
set_option maxRecDepth 100000 in
set_option maxHeartbeats 4000000 in
theorem parse_any {W : World} {s : ByteArray} {p : Option Addr} {c : Nat} {D : List Df} {rest : List Int} (hs : bs s = U.UtfM.wr rest) (hsc : ∀ c ∈ rest, U.UtfM.Sc c) (h200 : s.size ≤ 200) (hC : Cf W W) (hD : DefsIn W p D) (hl : D.length ≤ 1000) :
    Calls Tryz.prog 9 #[.string s, .slice p D.length c] W (PPost W s (wholeF D rest)) := by
  obtain ⟨o, ho⟩ : ∃ o, o = wholeF D rest := ⟨_, rfl⟩
  rw [← ho]
  have hlen : (bs s).length = s.size := bs_len s
  have hw : (U.UtfM.wr rest).length = s.size := by rw [← hs]; exact hlen
  have hl1 : ¬ (200 : Int) < (s.size : Int) := by omega
  obtain ⟨V, hV⟩ : ∃ V, V = W.alloc NODE := ⟨_, rfl⟩
  have hb0 : Below W.heap.size W V := by rw [hV]; exact (Below.refl W.heap.size W).alloc (Nat.le_refl _) _
  have hVz : V.heap.size = W.heap.size + 1 := by rw [hV]; exact World.size_alloc _ _
  have HB5 : Hid (B5 V W.heap.size) := Lib.hid (by rw [hV]; exact B5.new W _ _ _ _ _)
  have hcv := conv_b s
  have HF : Hid (Calls Tryz.prog 17 #[.slice (some ⟨W.heap.size + 1, 0, none⟩) s.size (capB V s)] ((V.alloc (objB V s)).drew) fun e W' => e = .returned (.int .i64 (-1)) ∧ Below V.heap.size V W') := Lib.hid (by
    have h1 := U.first_c (c := capB V s) (by_conv s V) (by omega) (by rw [hlen]; unfold capB; exact grownCap_ge _ _ _ _)
    rw [hlen, hs, first_wr] at h1
    rw [show (V.alloc (objB V s)).drew = V.drew.alloc (objB V s) from rfl, ← hVz]
    exact h1.mono (fun e W' h => ⟨h.1, (below_conv s V).trans (h.2.mono (below_conv s V).size)⟩))
  have HP : Hid (∀ W1, Below V.heap.size V W1 → Calls Tryz.prog 18 #[.func (.func 19) #[.pointer (some ⟨W1.heap.size, 0, none⟩)] #[]] (W1.alloc (.cells #[.string s, .int .i64 0, .slice p D.length c, .int .i64 0, .bool false] 49)) (AttPost W.heap.size W1.heap.size s (W1.alloc (.cells #[.string s, .int .i64 0, .slice p D.length c, .int .i64 0, .bool false] 49)) o)) := Lib.hid (fun W1 hb1 => by
    have hbW : Below W.heap.size W W1 := hb0.trans (hb1.mono hb0.size)
    have hb2 : Below W1.heap.size W1 (W1.alloc (.cells #[.string s, .int .i64 0, .slice p D.length c, .int .i64 0, .bool false] 49)) := (Below.refl _ _).alloc (Nat.le_refl _) _
    have hz2 := World.size_alloc W1 (.cells #[.string s, .int .i64 0, .slice p D.length c, .int .i64 0, .bool false] 49)
    have hbW2 := hbW.trans (hb2.mono hbW.size)
    have hC2 := hC.step hbW2
    have hzW := hbW.size
    have hzV := hb1.size
    have ht1 : W.heap.size < W1.heap.size := by omega
    have HN : NamedOk W1.heap.size s (.slice p D.length c) W D := named_ok hD hl
    have hCx : Cx W1.heap.size (W1.alloc (.cells #[.string s, .int .i64 0, .slice p D.length c, .int .i64 0, .bool false] 49)) := ⟨hC2.ctx.areas, hC2.runs, Nat.lt_trans hC.ctx.pos ht1, Nat.lt_trans hC.pos ht1, by omega⟩
    have hRd : Rd W1.heap.size (W1.alloc (.cells #[.string s, .int .i64 0, .slice p D.length c, .int .i64 0, .bool false] 49)) s (.slice p D.length c) rest 0 false := by
      refine ⟨?_, ⟨[], by rw [hs]; rfl⟩, hsc, h200⟩
      rw [show (s.size : Int) - ((U.UtfM.wr rest).length : Nat) = 0 by omega]
      exact heap_alloc_new W1 _
    rw [ho]
    exact attempt_c HN ⟨hCx, by omega, hbW2⟩ hRd)
  have HB0 := Lib.hid hb0
  have HZ := Lib.hid hVz
  clear hs hsc hD hb0 hVz ho hw hlen
  go_enter Tryz.func9, Tryz.ntmps9
  go_wp2_with fail
  rw [← hV]
  clear hV
  go_wp2_with fail
  refine HF.out.mono ?_
  rintro e w1 ⟨rfl, b1⟩
  have HPA := Lib.hid (HP.out w1 b1)
  have HB1 := Lib.hid b1
  clear b1 HF HP hcv
  go_wp2_with fail
  refine HPA.out.mono ?_
  rintro e w3 ⟨g3, h3⟩
  have hz2 := World.size_alloc w1 (.cells #[.string s, .int .i64 0, .slice p D.length c, .int .i64 0, .bool false] 49)
  have hb2 : Below w1.heap.size w1 (w1.alloc (.cells #[.string s, .int .i64 0, .slice p D.length c, .int .i64 0, .bool false] 49)) := (Below.refl _ _).alloc (Nat.le_refl _) _
  have b3 : Below w1.heap.size w1 w3 := g3.below hb2 (Nat.le_refl _)
  have hbV3 : Below V.heap.size V w3 := HB1.out.trans (b3.mono HB1.out.size)
  have h5 : B5 w3 W.heap.size := HB5.out.gr (R := V.heap.size + 1) (Gr.of hbV3) (by have := HZ.out; omega)
  have HW3 := Lib.hid (HB0.out.trans (hbV3.mono HB0.out.size))
  obtain ⟨⟨x0, x1, x2, x3, x4, k0, k1, k2, k3, k4⟩, f0, f1, f2, f3, f4⟩ := h5.cells
  have H5 := Lib.hid h5
  have hWw1 : W.heap.size < w1.heap.size := by have := HZ.out; have := HB1.out.size; omega
  clear g3 hb2 b3 hbV3 h5 HPA
  cases o with
  | err n r =>
    obtain rfl := h3
    go_wp2
    exact ret_parse rfl rfl rfl H5.out ⟨put5_below _ _ _ _ _ HW3.out (Nat.le_refl _), rfl⟩
  | ok x r =>
    obtain ⟨v, rfl, hv⟩ := h3
    obtain ⟨k, sp, sn, sc, kp, kn, kc, mn, mx, rfl⟩ := NV.form5 hv
    have HV := Lib.hid hv
    clear hv
    go_wp2
    refine ret_parse rfl rfl rfl H5.out ⟨put5_below _ _ _ _ _ HW3.out (Nat.le_refl _), _, rfl, ?_⟩
    exact HV.out.imp (fun b hA _ => ⟨trivial, put5_block _ _ _ _ _ _ _ b (by rcases hA with h | h <;> omega)⟩) (by rw [put5_size]; exact Nat.le_refl _)
end Go.Proofs.YtahgljglleeloaaGreatDoor
