/- RPiece, RName, in one text. -/
import Derived.Test.YtahgljglleeloaaGreatDoorRC
import Derived.Test.YtahgljglleeloaaGreatDoorRD
/- What one sign of a class, or behind a stroke, comes to: in memory. -/
namespace Go.Proofs.YtahgljglleeloaaGreatDoor
open Go.RowKit Go.Shelf Go.Maps SetM PropsM RxM

/-- What Of hands back of class i, in new memory. -/
def OfNew (W : World) (i : Nat) (e : Ending) (W' : World) : Prop :=
  ∃ P c out, e = .returned (.tuple #[.slice P (List.length out) c, .bool true]) ∧ IsSet out (fun r => Tells (gathOf i) r) ∧ out.length ≤ 104 ∧ Sl W' P out ∧ (P = none → c = 0) ∧ (∀ a, P = some a → W.heap.size ≤ a.block) ∧ Below W.heap.size W W'
section
variable {w W : World}
set_option maxRecDepth 100000 in
set_option maxHeartbeats 2000000 in
theorem of_new (s : ByteArray) (hs : s.data.toList.length ≤ 1000000) (i : Nat) (hi : whichF (looseL s.data.toList) = some i) (hC : Ctx w W) :
    Calls Tryz.prog 120 #[.string s] W (OfNew W i) := by
  obtain ⟨hi13, hnm⟩ := which_some hi
  have HL := Lib.hid (loose_any s hs)
  rw [← hnm] at HL
  have HW := Lib.hid (which_name i hi13)
  have HC := Lib.hid hC
  clear hnm hi hC
  go_enter Tryz.func120, Tryz.ntmps120
  go_wp2_with fail
  refine (classes_any _).mono ?_
  rintro e w1 ⟨B, rfl, hcls, b1⟩
  have HC1 := Lib.hid (HC.out.step b1)
  have HCL1 := Lib.hid hcls
  clear hcls HC
  go_wp2_with fail
  refine (HL.out _).mono ?_
  rintro e w2 ⟨rfl, b2'⟩
  have HC2 := Lib.hid (HC1.out.step b2')
  have HCL2 := Lib.hid (HCL1.out.below b2')
  have b2 := b1.trans (b2'.mono b1.size)
  clear b2' b1 HC1 HCL1 HL
  obtain ⟨vs, hv, hacc, hown⟩ := HCL2.out
  obtain ⟨P, n, c, Q, m, d, hlk⟩ := look_ok hv hacc hown (nameOf i) (by have := (name_len i hi13).2; omega)
  rw [HW.out] at hlk
  have hlk : (Instr.lookup 159 (.map (some B)) (.string ⟨(nameOf i).toArray⟩) true).run Tryz.prog w2 = .ok (.tuple #[.agg #[.slice P n c, .slice Q m d], .bool true]) w2 := hlk
  clear hv hacc hown
  have HB2 := Lib.hid b2
  have b3 := (Below.refl w2.heap.size w2).alloc (Nat.le_refl _) (.cells #[.slice P n c, .slice Q m d] 164)
  have HC3 := Lib.hid (HC2.out.step b3)
  have HG := Lib.hid (gather_c i hi13 _ B (HCL2.out.below b3))
  have HB3 := Lib.hid b3
  clear b2 b3 HC2 HCL2
  go_wp2_with fail
  refine HG.out.mono ?_
  rintro e w4 ⟨v4, rfl, ho4, b4⟩
  obtain ⟨P4, c4, rfl, s4, p4⟩ := spans_of0 ho4
  have HC4 := Lib.hid (HC3.out.step b4)
  have HS4 := Lib.hid s4
  have HB4 := Lib.hid b4
  clear ho4 p4 s4 b4 HC3 hlk HG
  go_wp2_with fail
  refine (norm_any P4 c4 (gathOf i) (by have := gath_len i hi13; omega) w4 HC4.out.pos HC4.out.areas HS4.out).mono ?_
  rintro e w5 hp
  obtain ⟨P5, c5, o5, rfl, is5, l5, s5, p5, a5, b5⟩ := hp.toNew
  go_wp2
  go_ret2
  have hz2 := HB2.out.size
  have hz3 := HB3.out.size
  have hz4 := HB4.out.size
  exact ⟨P5, c5, o5, rfl, is5, by have := gath_len i hi13; omega, s5, p5, fun a ha => Nat.le_trans (by omega) (a5 a ha), ((HB2.out.trans (HB3.out.mono hz2)).trans (HB4.out.mono (by omega))).trans (b5.mono (by omega))⟩

end
/-- Spans stay where only the reader's block changes. -/
theorem Sl.gr {R : Nat} {W W' : World} {P : Option Addr} {l : List Sp} (h : Sl W P l) (hg : Gr R W W') (ha : ∀ a, P = some a → R < a.block) : Sl W' P l := fun hl => by
  obtain ⟨b, off, e, hb, hc⟩ := h hl
  have hR : R < b := ha _ e
  refine ⟨b, off, e, Nat.lt_of_lt_of_le hb hg.size, fun j hj => ?_⟩
  have hk := hg.block b hb (fun e => by cases e; omega)
  exact ⟨(World.cell?_of_block (a := ⟨b, off + j * 2, none⟩) hk).trans (hc j hj).1, (World.cell?_of_block (a := ⟨b, off + j * 2 + 1, none⟩) hk).trans (hc j hj).2⟩
def isC : Pc → Bool
  | .one _ => false
  | .cls _ => true
/-- The spans are the piece's. -/
def pcOk : Pc → List Sp → Prop
  | .one x, l => l = [(x, x)]
  | .cls i, l => (∀ r, Tells l r ↔ Tells (gathOf i) r) ∧ l.length ≤ 104
theorem pcOk.len {p : Pc} {l : List Sp} (h : pcOk p l) : l.length ≤ 104 := by
  cases p with
  | one x => rw [show l = [(x, x)] from h]; simp
  | cls i => exact h.2
theorem pcOk.tells {p : Pc} {l : List Sp} (h : pcOk p l) (r : Int) : Tells l r ↔ Tells (pcS p) r := by
  cases p with
  | one x => rw [show l = [(x, x)] from h]; exact Iff.rfl
  | cls i => exact h.1 r
/-- The value is the piece, in memory from n on. -/
def pcV (n : Nat) (p : Pc) (v : Value) (W : World) : Prop :=
  ∃ P c l, v = .agg #[.slice P (List.length l) c, .bool (isC p)] ∧ Sl W P l ∧ (P = none → c = 0) ∧ (∀ a, P = some a → n ≤ a.block) ∧ pcOk p l

/-! A variable that holds a piece. -/
def B2 (W : World) (B : Nat) : Prop := ∃ x0 x1, W.heap[B]? = some (.cells #[x0, x1] 101 (0, 0))
theorem B2.new (W : World) (x0 x1 : Value) : B2 (W.alloc (.cells #[x0, x1] 101)) W.heap.size := ⟨x0, x1, heap_alloc_new W _⟩
theorem B2.lt {W : World} {B : Nat} (h : B2 W B) : B < W.heap.size := by obtain ⟨_, _, h⟩ := h; exact (Array.getElem?_eq_some_iff.1 h).1
theorem B2.gr {R : Nat} {W W' : World} {B : Nat} (h : B2 W B) (hg : Gr R W W') (hne : B ≠ R) : B2 W' B := by
  have hl := h.lt
  obtain ⟨x0, x1, h⟩ := h
  exact ⟨x0, x1, (hg.block B hl (fun e => hne (by cases e; rfl))).trans h⟩
theorem B2.cells {W : World} {B : Nat} (h : B2 W B) : (∃ x0 x1, W.cell? ⟨B, 0, none⟩ = some x0 ∧ W.cell? ⟨B, 1, none⟩ = some x1) ∧ W.frozen? ⟨B, 0, none⟩ = false ∧ W.frozen? ⟨B, 1, none⟩ = false := by
  obtain ⟨x0, x1, h⟩ := h
  have hc : ∀ i, W.cell? ⟨B, i, none⟩ = (#[x0, x1] : Array Value)[i]? := fun i => cell_of_row W B i _ _ _ h
  have hz : ∀ i, W.frozen? ⟨B, i, none⟩ = false := fun i => by simp [World.frozen?, h]
  exact ⟨⟨x0, x1, hc 0, hc 1⟩, hz 0, hz 1⟩
def put2 (W : World) (B : Nat) (a b : Value) : World := (W.setCell ⟨B, 0, none⟩ a).setCell ⟨B, 1, none⟩ b
theorem put2_gr (W : World) (B : Nat) (a b : Value) : Gr B W (put2 W B a b) := (Gr.set W 0 a).trans (Gr.set _ 1 b)
theorem put2_size (W : World) (B : Nat) (a b : Value) : (put2 W B a b).heap.size = W.heap.size := by
  unfold put2
  simp only [World.size_setCell]
theorem put2_block (W : World) (B : Nat) (a b : Value) (k : Nat) (h : k ≠ B) : (put2 W B a b).heap[k]? = W.heap[k]? := by
  unfold put2
  rw [Below.heap_setCell _ _ _ k h, Below.heap_setCell _ _ _ k h]
theorem put2_grR {R : Nat} {W W0 : World} {B : Nat} (a b : Value) (h : Gr R W0 W) (hB : W0.heap.size ≤ B) : Gr R W0 (put2 W B a b) := by
  have g := put2_gr W B a b
  exact ⟨g.os.trans h.os, g.tape.trans h.tape, g.output.trans h.output, Nat.le_trans h.size g.size, fun k hk hr => (put2_block _ _ _ _ k (by omega)).trans (h.block k hk hr)⟩
theorem put2_below {W W0 : World} {B n : Nat} (a b : Value) (h : Below n W0 W) (hB : n ≤ B) : Below n W0 (put2 W B a b) :=
  (h.setCell (p := ⟨B, 0, none⟩) hB a).setCell (p := ⟨B, 1, none⟩) hB b
theorem put2_rd {R B : Nat} {W : World} {s : ByteArray} {dv : Value} {rest : List Int} {d : Nat} {cl : Bool} (a b : Value) (h : Rd R W s dv rest d cl) (hRB : R ≠ B) : Rd R (put2 W B a b) s dv rest d cl :=
  ⟨(put2_block _ _ _ _ R hRB).trans h.blk, h.tl, h.sc, h.small⟩
theorem put2_sl {B : Nat} {W : World} {P : Option Addr} {l : List Sp} (a b : Value) (h : Sl W P l) (ha : ∀ x, P = some x → x.block ≠ B) : Sl (put2 W B a b) P l := fun hl => by
  obtain ⟨k, off, e, hb, hc⟩ := h hl
  have hk := put2_block W B a b k (ha _ e)
  exact ⟨k, off, e, by rw [put2_size]; exact hb, fun j hj => ⟨(World.cell?_of_block (a := ⟨k, off + j * 2, none⟩) hk).trans (hc j hj).1, (World.cell?_of_block (a := ⟨k, off + j * 2 + 1, none⟩) hk).trans (hc j hj).2⟩⟩
theorem put2_pc {n m B : Nat} {W : World} {p : Pc} {v : Value} (a b : Value) (h : pcV n p v W) (hB : B < n) (hm : m ≤ n) : pcV m p v (put2 W B a b) := by
  obtain ⟨P, c, l, e, hs, hz, ha, hk⟩ := h
  exact ⟨P, c, l, e, put2_sl a b hs (fun x hx => by have := ha x hx; omega), hz, fun x hx => Nat.le_trans hm (ha x hx), hk⟩
theorem pcV.gr {R n m : Nat} {W W' : World} {p : Pc} {v : Value} (h : pcV n p v W) (hg : Gr R W W') (hR : R < n) (hm : m ≤ n) : pcV m p v W' := by
  obtain ⟨P, c, l, e, hs, hz, ha, hk⟩ := h
  exact ⟨P, c, l, e, hs.gr hg (fun x hx => by have := ha x hx; omega), hz, fun x hx => Nat.le_trans hm (ha x hx), hk⟩
theorem put2_b2 {W : World} {B : Nat} (a b : Value) (h : B2 W B) : (put2 W B a b).heap[B]? = some (.cells #[a, b] 101 (0, 0)) := by
  obtain ⟨x0, x1, h⟩ := h
  exact heap_setR _ B _ _ (heap_setR W B _ _ h 0 a) 1 b
theorem sizeP : (Tryz.prog.info? 101).map (·.size) = some 2 := by kernel_rfl
/-- The way out of a call that hands back a piece. -/
theorem ret_piece {fn : Func} {p : Tmp} {Q : Ending → World → Prop} {tmps : Array Value} {w1 : World} {B : Nat} {a b : Value} (hf : fn.results = #[.cell p 101]) (hp : tmps.getD p undef = .pointer (some ⟨B, 0, none⟩))
    (h2 : B2 w1 B) (hQ : Q (.returned (.agg #[a, b])) (put2 w1 B a b)) :
    bodyPost Tryz.prog fn Q .ret { tmps := tmps, defers := [] } ((w1.setCell ⟨B, 0, none⟩ a).setCell ⟨B, 1, none⟩ b) :=
  bodyPost_ret (results_cell_row hf tmps _ B _ #[a, b] (0, 0) _ hp (put2_b2 a b h2) Tryz.underlying101 rfl sizeP) rfl hQ
set_option maxRecDepth 100000 in
set_option maxHeartbeats 1000000 in
theorem single_c (x : Int) (W : World) :
    Calls Tryz.prog 67 #[.int .i64 x] W fun e W' => ∃ v, e = .returned v ∧ pcV W.heap.size (.one x) v W' ∧ Below W.heap.size W W' := by
  go_enter Tryz.func67, Tryz.ntmps67
  go_wp2
  go_returns
  refine ⟨_, rfl, ⟨some ⟨W.heap.size + 1, 0, none⟩, 1, [(x, x)], rfl, fun _ => ⟨W.heap.size + 1, 0, rfl, ?_, fun j hj => ?_⟩, fun h => (by cases h), fun a ha => (by cases ha; show W.heap.size ≤ W.heap.size + 1; omega), rfl⟩, ((Below.refl _ _).alloc (Nat.le_refl _) _).alloc (by simp) _⟩
  · simp
  · have hj0 : j = 0 := by simpa using hj
    subst hj0
    have hb := heap_alloc_new (W.alloc (Obj.cells #[Value.slice (some { block := W.heap.size + 1, off := 0 }) 1 1, Value.bool false] 101)) (Obj.cells #[Value.int IntKind.i64 x, Value.int IntKind.i64 x] 53)
    rw [World.size_alloc] at hb
    exact ⟨by rw [cell_of_row _ (W.heap.size + 1) _ _ _ _ hb]; rfl, by rw [cell_of_row _ (W.heap.size + 1) _ _ _ _ hb]; rfl⟩
theorem scB_enc (n : Int) : (scB n = true ↔ U.UtfM.Sc n) := by unfold scB U.UtfM.Sc; simp only [decide_eq_true_eq]
theorem bs_eq (t : ByteArray) : Hx.bs0 t = bs t := rfl
theorem Post.bad {α : Type} {R : Nat} {s : ByteArray} {dv : Value} {d : Nat} {cl : Bool} {W W' : World} {val : α → Value → World → Prop} {o : Out α} {n : Nat} {r : List Int} (ho : o = .err n r) (hg : Gr R W W') :
    Post R s dv d cl W val o (.panicked [{ v := faultV s n r, recovered := false }]) W' := by subst ho; exact ⟨hg, rfl⟩
theorem Post.good {α : Type} {R : Nat} {s : ByteArray} {dv : Value} {d : Nat} {cl : Bool} {W W' : World} {val : α → Value → World → Prop} {o : Out α} {a : α} {r : List Int} {v : Value} (ho : o = .ok a r) (hg : Gr R W W') (hv : val a v W') (hr : Rd R W' s dv r d cl) :
    Post R s dv d cl W val o (.returned v) W' := by subst ho; exact ⟨hg, v, rfl, hv, hr⟩
variable {R : Nat} {W : World} {s : ByteArray} {dv : Value} {rest : List Int} {d : Nat} {cl : Bool}
set_option maxRecDepth 100000 in
set_option maxHeartbeats 4000000 in
theorem byNumber_c {r0 : List Int} (h : Rd R W s dv rest d cl) :
    Calls Tryz.prog 94 #[.pointer (some ⟨R, 0, none⟩), .int .i64 ((s.size : Int) - ((U.UtfM.wr r0).length : Nat))] W (Post R s dv d cl W (pcV W.heap.size) (byNumF r0 rest)) := by
  obtain ⟨o, ho⟩ : ∃ o, o = byNumF r0 rest := ⟨_, rfl⟩
  rw [← ho]
  have HO := Lib.hid ho
  unfold byNumF at HO
  have hRl := h.lt
  obtain ⟨V, hV⟩ : ∃ V, V = W.alloc (.cells #[.slice none 0 0, .bool false] 101) := ⟨_, rfl⟩
  have hb0 : Below W.heap.size W V := by rw [hV]; exact (Below.refl W.heap.size W).alloc (Nat.le_refl _) _
  have HZ : Hid (V.heap.size = W.heap.size + 1) := Lib.hid (by rw [hV]; exact World.size_alloc _ _)
  have HR0 := Lib.hid (h.kept hb0)
  have HG0 := Lib.hid (Gr.of (R := R) hb0)
  have HB2 : Hid (B2 V W.heap.size) := Lib.hid (by rw [hV]; exact B2.new _ _ _)
  clear h ho hb0
  go_enter Tryz.func94, Tryz.ntmps94
  go_wp2_with fail
  rw [← hV]
  refine (need1_c 123 123 rfl (by decide) HR0.out).mono ?_
  rintro e w1 ⟨g1, h1⟩
  have G := Lib.hid (HG0.out.trans g1)
  have G1 := Lib.hid g1
  clear g1
  cases hn : needF 123 rest with
  | err e x =>
    rw [hn] at h1 HO
    dsimp only at HO
    obtain rfl := h1
    clear hn
    go_wp2
    exact ⟨rfl, Post.bad HO.out G.out⟩
  | ok u r1 =>
    rw [hn] at h1 HO
    dsimp only at HO
    obtain ⟨v, rfl, rfl, hr⟩ := h1
    have HR := Lib.hid hr
    clear hr hn
    go_wp2_with fail
    refine (hexDigit_c HR.out.lt).mono ?_
    rintro e w2 ⟨v, rfl, hv, b2⟩
    have HV := Lib.hid hv
    have HR := Lib.hid (HR.out.kept b2)
    have G := Lib.hid (G.out.trans (Gr.of b2))
    have G1 := Lib.hid (G1.out.trans (Gr.of b2))
    obtain ⟨g0, lb0, rfl⟩ := hv.form
    clear hv b2
    go_wp2_with fail
    refine (some_c 6 (by omega) _ isH asc_H HV.out HR.out).mono ?_
    rintro e w3 ⟨g3, h3⟩
    have G := Lib.hid (G.out.trans g3)
    have G1 := Lib.hid (G1.out.trans g3)
    clear g3
    unfold someF at h3
    by_cases h0 : (runF isH 6 r1).1 = []
    · rw [if_pos h0] at h3 HO
      obtain rfl := h3
      clear h0
      go_wp2
      exact ⟨rfl, Post.bad HO.out G.out⟩
    · rw [if_neg h0] at h3 HO
      obtain ⟨v, rfl, ⟨t, rfl, ht⟩, hr⟩ := h3
      obtain ⟨hlen, hall⟩ := run_all isH 6 r1
      rw [← ht] at hlen hall HO h0
      have HR := Lib.hid hr
      have hbd := Hx.hexN_bound hall hlen
      have HPI := Lib.hid (fun u => Hx.parse_c t (fun e => h0 (by have := bs_len t; exact List.length_eq_zero_iff.1 (by omega))) (by have := bs_len t; omega) hall u)
      rw [show Hx.bs0 t = bs t from rfl] at HPI
      obtain ⟨n, hn⟩ : ∃ n, n = hexN (bs t) := ⟨_, rfl⟩
      rw [← hn] at HO HPI hbd
      obtain ⟨r2, hr2⟩ : ∃ r2, r2 = (runF isH 6 r1).2 := ⟨_, rfl⟩
      rw [← hr2] at HO HR
      clear hr ht hlen hall h0 hn hr2
      go_wp2_with fail
      refine (need1_c 125 125 rfl (by decide) HR.out).mono ?_
      rintro e w4 ⟨g4, h4⟩
      have G := Lib.hid (G.out.trans g4)
      have G1 := Lib.hid (G1.out.trans g4)
      clear g4
      cases hn : needF 125 r2 with
      | err e x =>
        rw [hn] at h4 HO
        dsimp only at HO
        obtain rfl := h4
        clear hn
        go_wp2
        exact ⟨rfl, Post.bad HO.out G.out⟩
      | ok u r3 =>
        rw [hn] at h4 HO
        dsimp only at HO
        obtain ⟨v, rfl, rfl, hr⟩ := h4
        have HR := Lib.hid hr
        clear hr hn
        go_wp2_with fail
        refine (HPI.out _).mono ?_
        rintro e w5 ⟨rfl, b5⟩
        have HR := Lib.hid (HR.out.kept b5)
        have G := Lib.hid (G.out.trans (Gr.of b5))
        have G1 := Lib.hid (G1.out.trans (Gr.of b5))
        clear b5
        have ew : IntKind.i64.wrap n = n := IntWalk.i64_in _ (by omega)
        go_wp2_with fail
        refine (U.enc_c n _).mono ?_
        rintro e w6 ⟨P, c, rfl, hby, hc1, hc2, hc3, hc4, b6⟩
        have HR := Lib.hid (HR.out.kept b6)
        have G := Lib.hid (G.out.trans (Gr.of b6))
        have G1 := Lib.hid (G1.out.trans (Gr.of b6))
        clear hby hc1 hc2 hc3 hc4 b6
        by_cases hs : U.UtfM.Sc n
        · have hl := U.UtfM.enc_pos hs
          have hd : (((U.UtfM.enc n).length : Int) == 0) = false := by rw [beq_eq_false_iff_ne]; omega
          rw [if_pos ((scB_enc n).2 hs)] at HO
          clear hs hl
          go_wp2_with fail
          refine (single_c n _).mono ?_
          rintro e w7 ⟨v, rfl, hv, b7⟩
          have G := Lib.hid (G.out.trans (Gr.of b7))
          have h2 := HB2.out.gr (G1.out.trans (Gr.of b7)) (by omega)
          obtain ⟨⟨x0, x1, k0, k1⟩, f0, f1⟩ := h2.cells
          have HV := Lib.hid hv
          have H2 := Lib.hid h2
          have HS : Hid (W.heap.size < w6.heap.size) := Lib.hid (by have := G1.out.size; have := HZ.out; omega)
          have HR := Lib.hid (HR.out.kept b7)
          obtain ⟨P7, c7, l7, rfl, _⟩ := hv
          clear h2 b7
          go_wp2
          exact ret_piece rfl rfl H2.out (Post.good HO.out (put2_grR _ _ G.out (Nat.le_refl _)) (put2_pc _ _ HV.out HS.out (Nat.le_of_lt HS.out)) (put2_rd _ _ HR.out (by omega)))
        · have hl := U.UtfM.enc_nil.2 hs
          have hd : (((U.UtfM.enc n).length : Int) == 0) = true := by rw [hl]; rfl
          rw [if_neg (fun e => hs ((scB_enc n).1 e))] at HO
          clear hs hl
          go_wp2
          exact ⟨rfl, Post.bad HO.out G.out⟩
end Go.Proofs.YtahgljglleeloaaGreatDoor

/- The reader reads a class's name; what stands behind a stroke; a piece. -/
namespace Go.Proofs.YtahgljglleeloaaGreatDoor
open Go.RowKit Go.Shelf Go.Maps SetM PropsM RxM
variable {R : Nat} {W : World} {s : ByteArray} {dv : Value} {rest : List Int} {d : Nat} {cl : Bool}

theorem map_while : ∀ (l : List UInt8), (l.map fun b => (b.toNat : Int)).takeWhile not125 = (l.takeWhile fun b => b != 125).map fun b => (b.toNat : Int)
  | [] => rfl
  | b :: l => by
    rw [List.map_cons, List.takeWhile_cons, List.takeWhile_cons]
    by_cases h : b = 125
    · subst h; rfl
    · have h1 : (b != 125) = true := by simpa using h
      have h2 : not125 (b.toNat : Int) = true := by
        simp only [not125, decide_eq_true_eq]
        intro e
        exact h (UInt8.toNat_inj.1 (by show b.toNat = 125; omega))
      rw [if_pos h1, if_pos h2, List.map_cons, map_while l]
theorem mem_bytes (l : List UInt8) : 125 ∈ l ↔ (125 : Int) ∈ l.map fun b => (b.toNat : Int) := by
  rw [List.mem_map]
  constructor
  · intro h; exact ⟨_, h, rfl⟩
  · rintro ⟨b, hb, e⟩
    have : b = 125 := UInt8.toNat_inj.1 (by show b.toNat = 125; omega)
    rw [← this]; exact hb
theorem bytes_back {t : ByteArray} {l : List Int} (h : bs t = U.UtfM.wr l) : t.data.toList = bytesOf l := by
  unfold bytesOf
  rw [← h]
  unfold bs
  rw [List.map_map]
  have : ((fun n : Int => UInt8.ofNat n.toNat) ∘ fun b : UInt8 => (b.toNat : Int)) = id := by
    funext b; simp
  rw [this, List.map_id]
theorem while_drop (r : List Int) (h : r.dropWhile not125 ≠ []) : ∃ r2, r = r.takeWhile not125 ++ 125 :: r2 ∧ r.dropWhile not125 = 125 :: r2 := by
  cases hd : r.dropWhile not125 with
  | nil => exact absurd hd h
  | cons c r2 =>
    have h1 := List.takeWhile_append_dropWhile (p := not125) (l := r)
    have h2 : not125 c = false := by
      have := List.head_dropWhile_not not125 (l := r) h
      simpa [hd] using this
    have : c = 125 := by simpa [not125] using h2
    subst this
    exact ⟨r2, by rw [hd] at h1; exact h1.symm, rfl⟩
/-- What lies up to the sign in what is left: all of it, or a name. -/
theorem Rd.cutAt (h : Rd R W s dv rest d cl) :
    (Lib.indexByte (s.extract (s.size - (U.UtfM.wr rest).length) s.size).data.toList 125 = -1 ∧ rest.dropWhile not125 = []) ∨
    ∃ (k : Nat) (r2 : List Int), Lib.indexByte (s.extract (s.size - (U.UtfM.wr rest).length) s.size).data.toList 125 = k ∧ k < (s.extract (s.size - (U.UtfM.wr rest).length) s.size).size ∧ k = (U.UtfM.wr (rest.takeWhile not125)).length ∧
      rest = rest.takeWhile not125 ++ 125 :: r2 ∧ rest.dropWhile not125 = 125 :: r2 ∧ ((s.extract (s.size - (U.UtfM.wr rest).length) s.size).extract 0 k).data.toList = bytesOf (rest.takeWhile not125) := by
  have htb := h.tail_bytes
  obtain ⟨w1, w2⟩ := Hx.wr_while rest h.sc
  generalize s.extract (s.size - (U.UtfM.wr rest).length) s.size = u at *
  rcases Hx.index_split u.data.toList 125 with ⟨h1, h2⟩ | ⟨k, h1, h2, h3, h4⟩
  · left
    refine ⟨h1, ?_⟩
    by_cases hd : rest.dropWhile not125 = []
    · exact hd
    · exact absurd ((mem_bytes _).2 (by have := w2.2 hd; rw [← htb] at this; exact this)) h2
  · right
    have hd : rest.dropWhile not125 ≠ [] := w2.1 (by rw [← htb]; exact (mem_bytes _).1 h3)
    obtain ⟨r2, e1, e2⟩ := while_drop rest hd
    have hb : bs (u.extract 0 k) = U.UtfM.wr (rest.takeWhile not125) := by
      rw [← w1, ← htb]
      unfold bs
      rw [map_while, Hx.take_bytes, h4]
    refine ⟨k, r2, h1, h2, ?_, e1, e2, bytes_back hb⟩
    have := congrArg List.length hb
    rw [bs_len] at this
    rw [← this, ByteArray.size_extract]
    have : u.size = u.data.toList.length := rfl
    omega
set_option maxRecDepth 100000 in
set_option maxHeartbeats 8000000 in
theorem byName_c {r0 : List Int} (hC : Cx R W) (h : Rd R W s dv rest d cl) :
    Calls Tryz.prog 95 #[.pointer (some ⟨R, 0, none⟩), .int .i64 ((s.size : Int) - ((U.UtfM.wr r0).length : Nat))] W (Post R s dv d cl W (pcV W.heap.size) (byNameF r0 rest)) := by
  obtain ⟨o, ho⟩ : ∃ o, o = byNameF r0 rest := ⟨_, rfl⟩
  rw [← ho]
  have HO := Lib.hid ho
  unfold byNameF at HO
  have hRl := h.lt
  obtain ⟨V, hV⟩ : ∃ V, V = W.alloc (.cells #[.slice none 0 0, .bool false] 101) := ⟨_, rfl⟩
  have hb0 : Below W.heap.size W V := by rw [hV]; exact (Below.refl W.heap.size W).alloc (Nat.le_refl _) _
  have HZ : Hid (V.heap.size = W.heap.size + 1) := Lib.hid (by rw [hV]; exact World.size_alloc _ _)
  have HR0 := Lib.hid (h.kept hb0)
  have HG0 := Lib.hid (Gr.of (R := R) hb0)
  have HB2 : Hid (B2 V W.heap.size) := Lib.hid (by rw [hV]; exact B2.new _ _ _)
  have HC0 := Lib.hid hC
  clear h ho hb0 hC
  go_enter Tryz.func95, Tryz.ntmps95
  go_wp2_with fail
  rw [← hV]
  refine (need1_c 123 123 rfl (by decide) HR0.out).mono ?_
  rintro e w1 ⟨g1, h1⟩
  have G := Lib.hid (HG0.out.trans g1)
  have G1 := Lib.hid g1
  clear g1 hV
  cases hn : needF 123 rest with
  | err e x =>
    rw [hn] at h1 HO
    dsimp only at HO
    obtain rfl := h1
    clear hn
    go_wp2
    exact ⟨rfl, Post.bad HO.out G.out⟩
  | ok u r1 =>
    rw [hn] at h1 HO
    dsimp only at HO
    obtain ⟨v, rfl, rfl, hr⟩ := h1
    have HR := Lib.hid hr
    have c0 := hr.c0
    have c1 := hr.c1
    have hl := hr.len
    have hsm := hr.small
    obtain ⟨k0, hk0⟩ : ∃ k0, k0 = s.size - (U.UtfM.wr r1).length := ⟨_, rfl⟩
    have hkz : (s.size : Int) - ((U.UtfM.wr r1).length : Nat) = (k0 : Int) := by omega
    have hcut := hr.cutAt
    rw [← hk0] at hcut
    rw [hkz] at c1
    have l1 : (0 : Int) ≤ (k0 : Int) := by omega
    have l2 : (k0 : Int) ≤ (s.size : Int) := by omega
    obtain ⟨t, ht⟩ : ∃ t, t = s.extract k0 s.size := ⟨_, rfl⟩
    have htz : t.size = (U.UtfM.wr r1).length := by rw [ht, ByteArray.size_extract]; omega
    clear hr hn
    rcases hcut with ⟨hi, hd⟩ | ⟨k, r2, hi, hk, hkk, e1, e2, hby⟩
    · have HQ : Hid (∀ w, Calls Tryz.prog 119 #[.string (s.extract k0 s.size), .string ⟨#[125]⟩] w fun e w' => e = .returned (.tuple #[.string t, .string ⟨#[]⟩, .bool false]) ∧ w' = w) := Lib.hid (fun w => by rw [ht]; exact Hx.cut_no (s.extract k0 s.size) 125 hi w)
      rw [hd] at HO
      have HM := Lib.hid (fun V (hV : Rd R V s dv r1 d cl) => hV.move (p := r1) (rest' := []) (x := (k0 : Int) + (t.size : Int)) (by simp) (by rw [U.UtfM.wr_nil]; simp; omega))
      have ew : IntKind.i64.wrap ((k0 : Int) + (t.size : Int)) = (k0 : Int) + (t.size : Int) := IntWalk.i64_in _ (by omega)
      have hps : (t.size : Int) ≤ 1000 := by omega
      have HK : Hid (∀ V, Rd R V s dv r1 d cl → V.cell? ⟨R, 1, none⟩ = some (.int .i64 (k0 : Int))) := Lib.hid (fun V hV => by rw [← hkz]; exact hV.c1)
      clear hi hd htz ht hk0 hkz hl
      go_wp2_with fail
      go_quiet ((go_at_call 119; exact Calls.quiet_of_same (HQ.out _)))
      have hq : Below w1.heap.size w1 (w1.drewN nq) := drewN_below nq
      generalize w1.drewN nq = w2 at *
      have HR2 := Lib.hid (HR.out.kept hq)
      have G := Lib.hid (G.out.trans (Gr.of hq))
      have d1 := HK.out _ HR2.out
      have dz := HR2.out.z 1
      clear hq c0 c1
      go_wp2_with fail
      refine (misplaced_c (HM.out _ HR2.out)).mono ?_
      rintro e w3 ⟨rfl, b3⟩
      go_wp2
      exact ⟨rfl, Post.bad HO.out ((G.out.trans (Gr.set _ 1 _)).trans (Gr.of b3))⟩
    · have HQ := Lib.hid (Hx.cut_yes (s.extract k0 s.size) 125 k hi hk (by rw [← ht]; omega))
      unfold Hx.yesV at HQ
      rw [e2] at HO
      have e3 : needF 125 (125 :: r2) = .ok () r2 := rfl
      rw [e3] at HO
      dsimp only at HO
      have hwl : (U.UtfM.wr r1).length = k + (U.UtfM.wr (125 :: r2)).length := by
        have := congrArg (fun l => (U.UtfM.wr l).length) e1
        simp only [U.UtfM.wr_append, List.length_append] at this
        omega
      have hnz : ((s.extract k0 s.size).extract 0 k).size = k := by rw [ByteArray.size_extract]; omega
      have HM := Lib.hid (fun V (hV : Rd R V s dv r1 d cl) => hV.move (p := r1.takeWhile not125) (rest' := 125 :: r2) (x := (k0 : Int) + (k : Int)) e1 (by omega))
      have ew : IntKind.i64.wrap ((k0 : Int) + (k : Int)) = (k0 : Int) + (k : Int) := IntWalk.i64_in _ (by omega)
      have hps : (k : Int) ≤ 1000 := by omega
      have HK : Hid (∀ V, Rd R V s dv r1 d cl → V.cell? ⟨R, 1, none⟩ = some (.int .i64 (k0 : Int))) := Lib.hid (fun V hV => by rw [← hkz]; exact hV.c1)
      have hbl : (((s.extract k0 s.size).extract 0 k).data.toList).length ≤ 1000000 := by
        have : ((s.extract k0 s.size).extract 0 k).data.toList.length = ((s.extract k0 s.size).extract 0 k).size := rfl
        omega
      obtain ⟨nm, hnm⟩ : ∃ nm, nm = (s.extract k0 s.size).extract 0 k := ⟨_, rfl⟩
      obtain ⟨tl, htl⟩ : ∃ tl, tl = (s.extract k0 s.size).extract (k + 1) (s.extract k0 s.size).size := ⟨_, rfl⟩
      rw [← hnm] at hby hnz hbl HQ
      rw [← htl] at HQ
      rw [← hby] at HO
      have HBL := Lib.hid hbl
      have hnz : (nm.size : Int) = (k : Int) := by omega
      clear hi hk hkk e1 e2 e3 hby hbl hwl htz ht hk0 hkz hl hnm htl
      go_wp2_with fail
      go_quiet ((go_at_call 119; exact Calls.quiet_of (HQ.out _)))
      have hq : Below w1.heap.size w1 (w1.drewN nq) := drewN_below nq
      generalize w1.drewN nq = w2 at *
      have HR2 := Lib.hid (HR.out.kept hq)
      have G := Lib.hid (G.out.trans (Gr.of hq))
      have G1 := Lib.hid (G1.out.trans (Gr.of hq))
      have d1 := HK.out _ HR2.out
      have dz := HR2.out.z 1
      clear hq c0 c1
      go_wp2_with fail
      refine (need1_c 125 125 rfl (by decide) (HM.out _ HR2.out)).mono ?_
      rintro e w3 ⟨g3, h3⟩
      obtain ⟨v, rfl, rfl, hr⟩ := h3
      have HR3 := Lib.hid hr
      have G := Lib.hid ((G.out.trans (Gr.set _ 1 _)).trans g3)
      have G1 := Lib.hid ((G1.out.trans (Gr.set _ 1 _)).trans g3)
      clear hr g3 d1 dz
      cases hw : whichF (looseL nm.data.toList) with
      | none =>
        rw [hw] at HO
        dsimp only at HO
        have HF := Lib.hid (fun U => of_none nm HBL.out hw U)
        clear hw
        go_wp2_with fail
        refine (HF.out _).mono ?_
        rintro e w4 ⟨rfl, b4⟩
        go_wp2
        exact ⟨rfl, Post.bad HO.out (G.out.trans (Gr.of b4))⟩
      | some i =>
        rw [hw] at HO
        dsimp only at HO
        have HF := Lib.hid (of_new (w := w3) nm HBL.out i hw ((HC0.out.gr G.out).cf.ctx))
        clear hw
        go_wp2_with fail
        refine HF.out.mono ?_
        rintro e w4 ⟨P, c, out, rfl, is, ll, ss, pz, pa, b4⟩
        have G := Lib.hid (G.out.trans (Gr.of b4))
        have h2 := HB2.out.gr (G1.out.trans (Gr.of b4)) (by omega)
        obtain ⟨⟨x0, x1, k0, k1⟩, f0, f1⟩ := h2.cells
        have H2 := Lib.hid h2
        have HS : Hid (W.heap.size < w3.heap.size) := Lib.hid (by have := G1.out.size; have := HZ.out; omega)
        have HR := Lib.hid (HR3.out.kept b4)
        have HV : Hid (pcV w3.heap.size (.cls i) (.agg #[.slice P out.length c, .bool true]) w4) := Lib.hid ⟨P, c, out, rfl, ss, pz, pa, fun r => by
          have := is.tells (fun r h => h.1) r
          exact this, ll⟩
        clear h2 b4 is ss pz pa
        go_wp2
        exact ret_piece rfl rfl H2.out (Post.good HO.out (put2_grR _ _ G.out (Nat.le_refl _)) (put2_pc _ _ HV.out HS.out (Nat.le_of_lt HS.out)) (put2_rd _ _ HR.out (by omega)))
end Go.Proofs.YtahgljglleeloaaGreatDoor
