/- RRep, RCat, RAlt, in one text. -/
import Derived.Test.YtahgljglleeloaaGreatDoorRF
/- The reader reads an atom, and the signs behind it. -/
namespace Go.Proofs.YtahgljglleeloaaGreatDoor
open Go.RowKit Go.Shelf Go.Maps SetM PropsM RxM
variable {R : Nat} {W W0 : World} {s : ByteArray} {dv : Value} {rest : List Int} {d : Nat} {cl : Bool}

/-- What every call of the reader needs beside it; what lay at the beginning is as it was. -/
structure Cy (R : Nat) (W0 W : World) : Prop where
  cx : Cx R W
  le : W0.heap.size ≤ R
  old : Below W0.heap.size W0 W
theorem Cy.gr {W' : World} (h : Cy R W0 W) (hg : Gr R W W') : Cy R W0 W' := ⟨h.cx.gr hg, h.le, h.old.trans ((hg.belowR h.cx.lt).mono h.le)⟩
/-- A function of the reader hands back a node. -/
def NodeOk (f : FuncId) (R : Nat) (s : ByteArray) (dv : Value) (d : Nat) (cl : Bool) (W0 : World) (P : List Int → Prop) (F : List Int → Out Nd) : Prop :=
  ∀ (W : World) (rest : List Int), P rest → Cy R W0 W → Rd R W s dv rest d cl → Calls Tryz.prog f #[.pointer (some ⟨R, 0, none⟩)] W (Post R s dv d cl W (nodeV W0.heap.size W.heap.size) (F rest))
def repF (atom : List Int → Out Nd) (r : List Int) : Out Nd :=
  match atom r with
  | .err e x => .err e x
  | .ok x r1 => repL 201 x r1
theorem repL_succ (f : Nat) (x : Nd) (r : List Int) : repL (f + 1) x r = match timesF r with
    | .err e y => .err e y
    | .ok none r1 => .ok x r1
    | .ok (some p) r1 => repL f (.mk 4 none0 [x] p.1 p.2) r1 := rfl
/-- The block is a variable that holds the node. -/
def VarN (W : World) (A : Nat → Prop) (B : Nat) (x : Nd) : Prop :=
  ∃ (k : Int) (sp : Option Addr) (sn sc : Nat) (kp : Option Addr) (kn kc : Nat) (mn mx : Int), W.heap[B]? = some (.cells #[.int .u8 k, .slice sp sn sc, .slice kp kn kc, .int .i64 mn, .int .i64 mx] 27 (0, 0)) ∧
    NV W (fun b => A b ∧ b ≠ B) (.agg #[.int .u8 k, .slice sp sn sc, .slice kp kn kc, .int .i64 mn, .int .i64 mx]) x
theorem VarN.gr {N R n : Nat} {W W' : World} {B : Nat} {x : Nd} (h : VarN W (Old N n) B x) (hg : Gr R W W') (hR : R < n) (hB : B ≠ R) (hN : N ≤ R := by omega) : VarN W' (Old N n) B x := by
  obtain ⟨k, sp, sn, sc, kp, kn, kc, mn, mx, hb, hn⟩ := h
  refine ⟨k, sp, sn, sc, kp, kn, kc, mn, mx, (hg.block B (Array.getElem?_eq_some_iff.1 hb).1 (fun e => hB (by cases e; rfl))).trans hb, hn.imp (fun b hA hlt => ⟨hA, hg.block b hlt (fun e => by cases e; rcases hA.1 with h | h <;> omega)⟩) hg.size⟩
theorem VarN.lt {A : Nat → Prop} {B : Nat} {x : Nd} (h : VarN W A B x) : B < W.heap.size := by
  obtain ⟨k, sp, sn, sc, kp, kn, kc, mn, mx, hb, hn⟩ := h
  exact (Array.getElem?_eq_some_iff.1 hb).1
/-- Repeated: the node in a row of one, and the new one in the variable. -/
theorem VarN.rep {N n : Nat} {B : Nat} {x : Nd} (k : Int) (sp : Option Addr) (sn sc : Nat) (kp : Option Addr) (kn kc : Nat) (mn mx : Int) (hb : W.heap[B]? = some (.cells #[.int .u8 k, .slice sp sn sc, .slice kp kn kc, .int .i64 mn, .int .i64 mx] 27 (0, 0)))
    (hn : NV W (fun b => Old N n b ∧ b ≠ B) (.agg #[.int .u8 k, .slice sp sn sc, .slice kp kn kc, .int .i64 mn, .int .i64 mx]) x) (hnz : n ≤ W.heap.size) (p q : Int) :
    VarN ((put5 W B (.int .u8 4) (.slice none 0 0) (.slice (some ⟨W.heap.size, 0, none⟩) 1 1) (.int .i64 p) (.int .i64 q)).alloc (.cells #[.int .u8 k, .slice sp sn sc, .slice kp kn kc, .int .i64 mn, .int .i64 mx] 27)) (Old N n) B (.mk 4 none0 [x] p q) := by
  have hlt : B < W.heap.size := (Array.getElem?_eq_some_iff.1 hb).1
  obtain ⟨U, hU⟩ : ∃ U, U = put5 W B (.int .u8 4) (.slice none 0 0) (.slice (some ⟨W.heap.size, 0, none⟩) 1 1) (.int .i64 p) (.int .i64 q) := ⟨_, rfl⟩
  have hUz : U.heap.size = W.heap.size := by rw [hU]; exact put5_size _ _ _ _ _ _ _
  have hUB : U.heap[B]? = some (.cells #[.int .u8 4, .slice none 0 0, .slice (some ⟨W.heap.size, 0, none⟩) 1 1, .int .i64 p, .int .i64 q] 27 (0, 0)) := by rw [hU]; exact put5_b5 _ _ _ _ _ ⟨_, _, _, _, _, hb⟩
  have hUk : ∀ x, x ≠ B → U.heap[x]? = W.heap[x]? := by rw [hU]; exact fun x hx => put5_block _ _ _ _ _ _ _ x hx
  rw [← hU]
  have hal := (Below.refl U.heap.size U).alloc (Nat.le_refl _) (.cells #[.int .u8 k, .slice sp sn sc, .slice kp kn kc, .int .i64 mn, .int .i64 mx] 27)
  refine ⟨4, none, 0, 0, some ⟨W.heap.size, 0, none⟩, 1, 1, p, q, (hal.block B (by omega)).trans hUB, ?_⟩
  obtain ⟨m, hm⟩ := hn
  refine ⟨m + 1, none, [], 0, some ⟨W.heap.size, 0, none⟩, 1, rfl, none_set, by simp, fun h => absurd rfl h, fun _ => rfl, fun a h => (by cases h), fun h => (by cases h), fun _ => ⟨W.heap.size, _, [.agg #[.int .u8 k, .slice sp sn sc, .slice kp kn kc, .int .i64 mn, .int .i64 mx]], rfl, ⟨.inr hnz, by omega⟩, (by rw [← hUz]; exact heap_alloc_new U _), rfl, rfl, fun i hi u hu => ?_⟩⟩
  have hi0 : i = 0 := by simpa using hi
  subst hi0
  cases hu
  exact hm.imp (fun b hA hlt => ⟨hA, (hal.block b (by omega)).trans (hUk b hA.2)⟩) (by rw [World.size_alloc]; omega)
set_option maxRecDepth 100000 in
set_option maxHeartbeats 4000000 in
theorem rep_c {P : List Int → Prop} {atom : List Int → Out Nd} (HA : NodeOk 53 R s dv d cl W0 P atom) : NodeOk 45 R s dv d cl W0 P (repF atom) := by
  intro W rest hP hC h
  obtain ⟨o, ho⟩ : ∃ o, o = repF atom rest := ⟨_, rfl⟩
  rw [← ho]
  have HO := Lib.hid ho
  unfold repF at HO
  have hRl := h.lt
  have hLR := hC.le
  obtain ⟨V, hV⟩ : ∃ V, V = W.alloc (.cells #[.int .u8 0, .slice none 0 0, .slice none 0 0, .int .i64 0, .int .i64 0] 27) := ⟨_, rfl⟩
  have hb0 : Below W.heap.size W V := by rw [hV]; exact (Below.refl W.heap.size W).alloc (Nat.le_refl _) _
  have HZ : Hid (V.heap.size = W.heap.size + 1) := Lib.hid (by rw [hV]; exact World.size_alloc _ _)
  have HB5 : Hid (B5 V W.heap.size) := Lib.hid (by rw [hV]; exact B5.new W _ _ _ _ _)
  have HG0 := Lib.hid (Gr.of (R := R) hb0)
  have HC0 := Lib.hid hC
  have HA0 := Lib.hid (HA V rest hP (hC.gr (Gr.of hb0)) (h.kept hb0))
  clear h ho hb0 hC HA
  go_enter Tryz.func45, Tryz.ntmps45
  go_wp2_with fail
  rw [← hV]
  refine HA0.out.mono ?_
  rintro e w1 ⟨g1, h1⟩
  have G1 := Lib.hid g1
  have G := Lib.hid (HG0.out.trans g1)
  clear g1 hV HA0
  cases hn : atom rest with
  | err e x =>
    rw [hn] at h1 HO
    dsimp only at HO
    obtain rfl := h1
    clear hn
    go_wp2
    exact ⟨rfl, Post.bad HO.out G.out⟩
  | ok x r1 =>
    rw [hn] at h1 HO
    dsimp only at HO
    obtain ⟨v, rfl, hv, hr⟩ := h1
    obtain ⟨k, sp, sn, sc, kp, kn, kc, mn, mx, rfl⟩ := NV.form5 hv
    have hR1 : R < w1.heap.size := hr.lt
    have hB3 : W.heap.size < w1.heap.size := by have := G1.out.size; have := HZ.out; omega
    obtain ⟨V1, hV1⟩ : ∃ V1, V1 = w1.alloc (.cells #[.int .u8 k, .slice sp sn sc, .slice kp kn kc, .int .i64 mn, .int .i64 mx] 27) := ⟨_, rfl⟩
    have hb1 : Below w1.heap.size w1 V1 := by rw [hV1]; exact (Below.refl _ _).alloc (Nat.le_refl _) _
    have HVN : Hid (VarN V1 (Old W0.heap.size (W.heap.size + 1)) w1.heap.size x) := Lib.hid (by
      rw [hV1]
      refine ⟨k, sp, sn, sc, kp, kn, kc, mn, mx, heap_alloc_new w1 _, ?_⟩
      refine NV.imp hv (fun b hA hlt => ⟨⟨?_, by omega⟩, ((Below.refl w1.heap.size w1).alloc (Nat.le_refl _) _).block b hlt⟩) (by rw [World.size_alloc]; omega)
      rw [HZ.out] at hA
      exact hA)
    have HR := Lib.hid (hr.kept hb1)
    have G1 := Lib.hid (G1.out.trans (Gr.of hb1))
    have G := Lib.hid (G.out.trans (Gr.of hb1))
    have hf := HR.out.few
    clear hv hr hb1 hn
    go_wp2_with fail
    rw [← hV1]
    clear hV1
    have HO1 : Hid (o = repL 201 x r1) := HO
    obtain ⟨B, hB⟩ : ∃ B, B = w1.heap.size := ⟨_, rfl⟩
    rw [← hB] at HVN hB3 hR1 ⊢
    clear hB
    go_loopg [] 200 (fun g wx => ∃ x r f, Hid (o = repL f x r) ∧ r.length < f ∧ r.length ≤ g ∧ Hid (VarN wx (Old W0.heap.size (W.heap.size + 1)) B x) ∧ Hid (Rd R wx s dv r d cl) ∧ Hid (Gr R V wx))
    case atStart => exact ⟨x, r1, 201, HO1, by omega, by omega, HVN, HR, G1⟩
    case round =>
      obtain ⟨x, r, f, ho1, hlf, hlg, hvn, hrd, hgr⟩ := hrel
      obtain ⟨f, rfl⟩ : ∃ f', f = f' + 1 := ⟨f - 1, by omega⟩
      rw [repL_succ] at ho1
      have HT := Lib.hid (times_c hrd.out)
      go_wp2_with fail
      refine HT.out.mono ?_
      rintro e w3 ⟨g3, h3⟩
      have G3 := Lib.hid (hgr.out.trans g3)
      have GW := Lib.hid (HG0.out.trans G3.out)
      have hvn3 := hvn.out.gr g3 (by omega) (by omega)
      clear g3 HT
      cases ht : timesF r with
      | err e x =>
        rw [ht] at h3 ho1
        dsimp only at ho1
        obtain rfl := h3
        clear ht
        go_wp2
        exact ⟨rfl, Post.bad ho1.out GW.out⟩
      | ok p r2 =>
        rw [ht] at h3 ho1
        obtain ⟨v, rfl, hv, hr⟩ := h3
        have HR3 := Lib.hid hr
        have hB3z := hvn3.lt
        obtain ⟨k, sp, sn, sc, kp, kn, kc, mn, mx, hb, hn⟩ := hvn3
        have HN := Lib.hid hn
        have HB := Lib.hid hb
        obtain ⟨q0, q1, q2, q3, q4⟩ : w3.cell? ⟨B, 0, none⟩ = some (.int .u8 k) ∧ w3.cell? ⟨B, 1, none⟩ = some (.slice sp sn sc) ∧ w3.cell? ⟨B, 2, none⟩ = some (.slice kp kn kc) ∧ w3.cell? ⟨B, 3, none⟩ = some (.int .i64 mn) ∧ w3.cell? ⟨B, 4, none⟩ = some (.int .i64 mx) :=
          ⟨cell_of_row w3 B 0 _ _ _ hb, cell_of_row w3 B 1 _ _ _ hb, cell_of_row w3 B 2 _ _ _ hb, cell_of_row w3 B 3 _ _ _ hb, cell_of_row w3 B 4 _ _ _ hb⟩
        cases p with
        | none =>
          dsimp only at ho1
          obtain rfl := hv
          have h5 := HB5.out.gr G3.out (by omega)
          obtain ⟨⟨x0, x1, x2, x3, x4, k0, k1, k2, k3, k4⟩, f0, f1, f2, f3, f4⟩ := h5.cells
          have H5 := Lib.hid h5
          clear h5 hr hn hb ht
          go_wp2
          refine ret_node rfl rfl H5.out (Post.good ho1.out (put5_grR _ _ _ _ _ GW.out (Nat.le_refl _)) ?_ (put5_rd _ _ _ _ _ HR3.out (by omega)))
          exact put5_nv _ _ _ _ _ (HN.out.imp (fun b hA hlt => ⟨hA.1, rfl⟩) (Nat.le_refl _)) (Nat.lt_succ_self _) hRl (Nat.le_succ _)
        | some p =>
          dsimp only at ho1
          obtain rfl := hv
          have hlt := times_len ht
          obtain ⟨f0, f1, f2, f3, f4⟩ : w3.frozen? ⟨B, 0, none⟩ = false ∧ w3.frozen? ⟨B, 1, none⟩ = false ∧ w3.frozen? ⟨B, 2, none⟩ = false ∧ w3.frozen? ⟨B, 3, none⟩ = false ∧ w3.frozen? ⟨B, 4, none⟩ = false :=
            ⟨by simp [World.frozen?, hb], by simp [World.frozen?, hb], by simp [World.frozen?, hb], by simp [World.frozen?, hb], by simp [World.frozen?, hb]⟩
          obtain ⟨p1, p2⟩ := p
          have HVR := Lib.hid (VarN.rep (n := W.heap.size + 1) k sp sn sc kp kn kc mn mx hb hn (by omega) p1 p2)
          clear hr hn hb ht
          have hVB : V.heap.size ≤ B := by have := HZ.out; omega
          have GX := Lib.hid (put5_grR (.int .u8 4) (.slice none 0 0) (.slice (some ⟨w3.heap.size, 0, none⟩) 1 1) (.int .i64 p1) (.int .i64 p2) G3.out hVB)
          have HRX := Lib.hid (put5_rd (.int .u8 4) (.slice none 0 0) (.slice (some ⟨w3.heap.size, 0, none⟩) 1 1) (.int .i64 p1) (.int .i64 p2) HR3.out (show R ≠ B by omega))
          go_wp2
          have hal := fun U : World => (Below.refl U.heap.size U).alloc (Nat.le_refl _) (.cells #[.int .u8 k, .slice sp sn sc, .slice kp kn kc, .int .i64 mn, .int .i64 mx] 27)
          go_roundg r2.length
          case measure => omega
          case rel => exact ⟨.mk 4 none0 [x] p1 p2, r2, f, ho1, by omega, Nat.le_refl _, HVR, Lib.hid (HRX.out.kept (hal _)), Lib.hid (GX.out.trans (Gr.of (hal _)))⟩
end Go.Proofs.YtahgljglleeloaaGreatDoor

/- The reader reads a row of atoms; rows with strokes between. -/
namespace Go.Proofs.YtahgljglleeloaaGreatDoor
open Go.RowKit Go.Shelf Go.Maps SetM PropsM RxM
variable {R : Nat} {W W0 : World} {s : ByteArray} {dv : Value} {rest : List Int} {d : Nat} {cl : Bool}

theorem catL_succ (atom : List Int → Out Nd) (f : Nat) (acc : List Nd) (r : List Int) : catL atom (f + 1) acc r = if r = [] ∨ sees (inS stopS) r then .ok acc r else match repF atom r with
    | .err e x => .err e x
    | .ok y r2 => catL atom f (acc ++ [y]) r2 := by
  unfold repF
  rw [catL]
  split
  · rfl
  · cases atom r with
    | err e x => rfl
    | ok x r1 => rfl
theorem repF_lt {atom : List Int → Out Nd} (h : Lt atom) {r r' : List Int} {x : Nd} (hr : repF atom r = .ok x r') : r'.length < r.length := by
  unfold repF at hr
  cases h1 : atom r with
  | err e y => rw [h1] at hr; cases hr
  | ok y r1 =>
    rw [h1] at hr
    have := h _ _ _ h1
    have := rep_len _ _ _ _ _ hr
    omega
/-- What stands here begins an atom. -/
def Begins (r : List Int) : Prop := r ≠ [] ∧ sees (inS stopS) r = false
/-- A node that was just made does not lie in the row. -/
theorem fresh_nv {N n m : Nat} {base : Nat} {A : Nat → Prop} {U U' : World} {v u : Value} {ts : List Nd} {t : Nd} (hrow : RowN U base A v ts) (hR : R < base) (hu : NV U' (Old N U.heap.size) u t) (hn : n ≤ U.heap.size) (_ : m = n) (hN : N ≤ R := by omega) : NV U' (fun b => Old N n b ∧ v.ownBlock ≠ some b) u t :=
  hu.imp (fun b hA _ => ⟨⟨hA.imp id (fun h => by omega), fun e => by have := hrow.lt b e; rcases hA with h | h <;> omega⟩, rfl⟩) (Nat.le_refl _)
theorem Gr.rowN {R base : Nat} {A : Nat → Prop} {W U U' : World} {v : Value} {ts : List Nd} (hg : Gr R W U) (hb : W.heap.size ≤ base) (hown : RowN U base A v ts) (h : U.grownBy U' v.ownBlock) : Gr R W U' := by
  obtain ⟨us, h1, _⟩ := hown
  exact hg.row hb h1 h
theorem Rd.rowN {base : Nat} {A : Nat → Prop} {U' : World} {v : Value} {ts : List Nd} (h : Rd R W s dv rest d cl) (hR : R < base) (hown : RowN W base A v ts) (hg : W.grownBy U' v.ownBlock) : Rd R U' s dv rest d cl := by
  obtain ⟨us, h1, _⟩ := hown
  exact h.row hR h1 hg
set_option maxRecDepth 100000 in
set_option maxHeartbeats 4000000 in
theorem cat_c {atom : List Int → Out Nd} (hL : Lt atom) (HA : NodeOk 45 R s dv d cl W0 Begins (repF atom)) : NodeOk 35 R s dv d cl W0 (fun _ => True) (catF atom) := by
  intro W rest _ hC h
  obtain ⟨o, ho⟩ : ∃ o, o = catF atom rest := ⟨_, rfl⟩
  rw [← ho]
  have HO := Lib.hid ho
  unfold catF at HO
  have hRl := h.lt
  have hLR := hC.le
  obtain ⟨V, hV⟩ : ∃ V, V = W.alloc (.cells #[.int .u8 0, .slice none 0 0, .slice none 0 0, .int .i64 0, .int .i64 0] 27) := ⟨_, rfl⟩
  have hb0 : Below W.heap.size W V := by rw [hV]; exact (Below.refl W.heap.size W).alloc (Nat.le_refl _) _
  have HZ : Hid (V.heap.size = W.heap.size + 1) := Lib.hid (by rw [hV]; exact World.size_alloc _ _)
  have HB5 : Hid (B5 V W.heap.size) := Lib.hid (by rw [hV]; exact B5.new W _ _ _ _ _)
  have HG0 := Lib.hid (Gr.of (R := R) hb0)
  have HC0 := Lib.hid hC
  have HR := Lib.hid (h.kept hb0)
  have HA0 := Lib.hid HA
  have HL := Lib.hid hL
  clear h ho hb0 hC HA hL
  go_enter Tryz.func35, Tryz.ntmps35
  go_wp2_with fail
  rw [← hV]
  refine (oneOf_l R _ stopS rfl HR.out.lt).mono ?_
  rintro e w1 ⟨v, rfl, hv, b1⟩
  obtain ⟨g0, lb0, rfl⟩ := hv.form
  have HV := Lib.hid hv
  have HR := Lib.hid (HR.out.kept b1)
  have G1 := Lib.hid (Gr.of (R := R) b1)
  have hf := HR.out.few
  have hV1 : W.heap.size + 1 ≤ w1.heap.size := by have := b1.size; have := HZ.out; omega
  clear hv b1 hV
  obtain ⟨o1, ho1⟩ : ∃ o1, o1 = catL atom 201 [] rest := ⟨_, rfl⟩
  rw [← ho1] at HO
  have HO1 := Lib.hid ho1
  clear ho1
  go_wp2_with fail
  go_loopg [4] 200 (fun g s4 wx => ∃ acc r f, Hid (o1 = catL atom f acc r) ∧ r.length < f ∧ r.length ≤ g ∧ RowN wx w1.heap.size (Old W0.heap.size (W.heap.size + 1)) s4 acc ∧ acc.length + r.length ≤ 200 ∧ Hid (Rd R wx s dv r d cl) ∧ Hid (Gr R V wx) ∧ Hid (Gr R w1 wx))
  case atStart => exact ⟨[], rest, 201, HO1, by omega, by omega, RowN.nil, by simp; omega, HR, G1, Lib.hid (Gr.refl _ _)⟩
  case round =>
    obtain ⟨acc, r, f, ho1, hlf, hlg, hrow, hlen, hrd, hgr, hgr1⟩ := hrel
    obtain ⟨f, rfl⟩ : ∃ f', f = f' + 1 := ⟨f - 1, by omega⟩
    rw [catL_succ] at ho1
    go_wp2_with fail
    refine (ended_c hrd.out).mono ?_
    rintro e w3 ⟨rfl, b3⟩
    have HR3 := Lib.hid (hrd.out.kept b3)
    have G3 := Lib.hid (hgr.out.trans (Gr.of b3))
    have GA := Lib.hid (hgr1.out.trans (Gr.of b3))
    have hrow3 := hrow.gr (Gr.of (R := R) b3) (by omega) (by omega)
    clear b3 hrow
    by_cases he : r = []
    · have hd : decide (r = []) = true := decide_eq_true he
      rw [if_pos (.inl he)] at ho1
      clear he
      go_wp2_with fail
      rw [ho1.out] at HO
      dsimp only at HO
      refine (join_c 2 hrow3 (by omega) (fun b hb => .inr (by omega))).mono ?_
      rintro e wz ⟨u, rfl, hu, bz⟩
      have GZ := G3.out.trans (Gr.of bz)
      have h5 := HB5.out.gr GZ (by omega)
      obtain ⟨⟨x0, x1, x2, x3, x4, k0, k1, k2, k3, k4⟩, f0, f1, f2, f3, f4⟩ := h5.cells
      have HU := Lib.hid hu
      have H5 := Lib.hid h5
      have HRz := Lib.hid (HR3.out.kept bz)
      have GWz := Lib.hid (HG0.out.trans GZ)
      obtain ⟨k, sp, sn, sc, kp, kn, kc, mn, mx, rfl⟩ := NV.form5 hu
      clear hu h5 bz GZ hrow3
      go_wp2
      exact ret_node rfl rfl H5.out (Post.good HO.out (put5_grR _ _ _ _ _ GWz.out (Nat.le_refl _)) (put5_nv _ _ _ _ _ HU.out (Nat.lt_succ_self _) hRl (Nat.le_succ _)) (put5_rd _ _ _ _ _ HRz.out (by omega)))
    · have hd : decide (r = []) = false := decide_eq_false he
      have HNE := Lib.hid he
      clear he
      have HS := Lib.hid (sees_c _ _ asc_stop (HV.out.kept GA.out) HR3.out)
      go_wp2_with fail
      refine HS.out.mono ?_
      rintro e w4 ⟨rfl, b4⟩
      have HR4 := Lib.hid (HR3.out.kept b4)
      have G4 := Lib.hid (G3.out.trans (Gr.of b4))
      have GA4 := Lib.hid (GA.out.trans (Gr.of b4))
      have hrow4 := hrow3.gr (Gr.of (R := R) b4) (by omega) (by omega)
      clear b4 HS hrow3
      cases hs : sees (inS stopS) r with
      | true =>
        rw [if_pos (.inr hs)] at ho1
        clear hs
        go_wp2_with fail
        rw [ho1.out] at HO
        dsimp only at HO
        refine (join_c 2 hrow4 (by omega) (fun b hb => .inr (by omega))).mono ?_
        rintro e wz ⟨u, rfl, hu, bz⟩
        have GZ := G4.out.trans (Gr.of bz)
        have h5 := HB5.out.gr GZ (by omega)
        obtain ⟨⟨x0, x1, x2, x3, x4, k0, k1, k2, k3, k4⟩, f0, f1, f2, f3, f4⟩ := h5.cells
        have HU := Lib.hid hu
        have H5 := Lib.hid h5
        have HRz := Lib.hid (HR4.out.kept bz)
        have GWz := Lib.hid (HG0.out.trans GZ)
        obtain ⟨k, sp, sn, sc, kp, kn, kc, mn, mx, rfl⟩ := NV.form5 hu
        clear hu h5 bz GZ hrow4
        go_wp2
        exact ret_node rfl rfl H5.out (Post.good HO.out (put5_grR _ _ _ _ _ GWz.out (Nat.le_refl _)) (put5_nv _ _ _ _ _ HU.out (Nat.lt_succ_self _) hRl (Nat.le_succ _)) (put5_rd _ _ _ _ _ HRz.out (by omega)))
      | false =>
        rw [if_neg (by rw [hs]; simp; exact HNE.out)] at ho1
        have HRP := Lib.hid (HA0.out w4 r ⟨HNE.out, hs⟩ (HC0.out.gr (HG0.out.trans G4.out)) HR4.out)
        clear hs
        go_wp2_with fail
        refine HRP.out.mono ?_
        rintro e w5 ⟨g5, h5⟩
        have G5 := Lib.hid (G4.out.trans g5)
        have GA5 := Lib.hid (GA4.out.trans g5)
        have GW := Lib.hid (HG0.out.trans G5.out)
        have hrow5 := hrow4.gr g5 (by omega) (by omega)
        have h45 := g5.size
        have hVw := G4.out.size
        have hA4 := GA4.out.size
        have hVz := HZ.out
        clear g5
        cases hi : repF atom r with
        | err e x =>
          rw [hi] at h5 ho1
          dsimp only at ho1
          rw [ho1.out] at HO
          dsimp only at HO
          obtain rfl := h5
          clear hi
          go_wp2
          exact ⟨rfl, Post.bad HO.out GW.out⟩
        | ok y r2 =>
          rw [hi] at h5 ho1
          dsimp only at ho1
          obtain ⟨v, rfl, hv, hr⟩ := h5
          have hlt := repF_lt HL.out hi
          have hNV := fresh_nv (R := R) (n := W.heap.size + 1) hrow4 (by omega) hv (by omega) rfl
          obtain ⟨k, sp, sn, sc, kp, kn, kc, mn, mx, rfl⟩ := NV.form5 hv
          have hal := (Below.refl w5.heap.size w5).alloc (Nat.le_refl _) (.cells #[.int .u8 k, .slice sp sn sc, .slice kp kn kc, .int .i64 mn, .int .i64 mx] 27)
          have hrow6 := hrow5.gr (Gr.of (R := R) hal) (by omega) (by omega)
          have hNV6 := NV.imp hNV (fun b hA hlt => ⟨hA, hal.block b hlt⟩) hal.size
          have HR6 := Lib.hid (hr.kept hal)
          have G6 := Lib.hid (G5.out.trans (Gr.of hal))
          have GA6 := Lib.hid (GA5.out.trans (Gr.of hal))
          have hnew := heap_alloc_new w5 (.cells #[.int .u8 k, .slice sp sn sc, .slice kp kn kc, .int .i64 mn, .int .i64 mx] 27)
          have hsz6 := World.size_alloc w5 (.cells #[.int .u8 k, .slice sp sn sc, .slice kp kn kc, .int .i64 mn, .int .i64 mx] 27)
          clear hi hv hr hal hrow5 hNV hrow4
          go_wp2_with (at_builtin; refine wpList_push rfl _ _ rfl w1.heap.size (Old W0.heap.size (W.heap.size + 1)) _ _ rfl hrow6 w5.heap.size _ y rfl hNV6 hnew (by omega) (by omega) ?_; intro v7 w7 hrow7 hg7)
          have G7 := Lib.hid (G6.out.rowN (by omega) hrow6 hg7)
          have GA7 : Hid (Gr R w1 w7) := Lib.hid (GA6.out.rowN (Nat.le_refl _) hrow6 hg7)
          have HR7 := Lib.hid (HR6.out.rowN (by omega) hrow6 hg7)
          clear hrow6 hg7 hNV6 hnew
          go_roundg r2.length
          case measure => omega
          case rel => exact ⟨acc ++ [y], r2, f, ho1, by omega, Nat.le_refl _, hrow7, by rw [List.length_append]; simp; omega, HR7, G7, GA7⟩
end Go.Proofs.YtahgljglleeloaaGreatDoor

/- The reader reads rows with strokes between. -/
namespace Go.Proofs.YtahgljglleeloaaGreatDoor
open Go.RowKit Go.Shelf Go.Maps SetM PropsM RxM
variable {R : Nat} {W W0 : World} {s : ByteArray} {dv : Value} {rest : List Int} {d : Nat} {cl : Bool}

theorem altL_succ (cat : List Int → Out Nd) (f : Nat) (acc : List Nd) (r : List Int) : altL cat (f + 1) acc r = if at1 124 r then (match cat r.tail with
    | .err e x => .err e x
    | .ok x r1 => altL cat f (acc ++ [x]) r1)
    else .ok acc r := rfl
theorem RowN.one {A : Nat → Prop} {u : Value} {t : Nd} (hu : NV W A u t) {cs : Array Value} (hc : cs = (kidParts u).toArray) : RowN (W.alloc (.cells cs 27)) W.heap.size A (.slice (some ⟨W.heap.size, 0, none⟩) 1 1) [t] := by
  obtain ⟨m, hm⟩ := hu
  have h5 := hm.parts
  have hal := (Below.refl W.heap.size W).alloc (Nat.le_refl _) (.cells cs 27)
  refine ⟨[u], ⟨by simpa using h5, .inr ⟨W.heap.size, 1, cs, rfl, Nat.le_refl _, heap_alloc_new W _, Nat.le_refl _, by unfold maxLen; omega, by rw [hc]; simpa using h5, ?_⟩⟩, ?_⟩
  · rw [hc]
    simp only [List.flatMap_cons, List.flatMap_nil, List.append_nil, List.length_cons, List.length_nil]
    rw [List.take_of_length_le (by omega)]
  · refine NRow.push (NRow.nil) ⟨m, hm.imp (fun b hA hlt => ⟨⟨hA, fun e => ?_⟩, hal.block b hlt⟩) hal.size⟩
    have : W.heap.size = b := by cases e; rfl
    omega
set_option maxRecDepth 100000 in
set_option maxHeartbeats 4000000 in
theorem alt_c {cat : List Int → Out Nd} (hL : Le cat) (HA : NodeOk 35 R s dv d cl W0 (fun _ => True) cat) : NodeOk 26 R s dv d cl W0 (fun _ => True) (altB cat) := by
  intro W rest _ hC h
  obtain ⟨o, ho⟩ : ∃ o, o = altB cat rest := ⟨_, rfl⟩
  rw [← ho]
  have HO := Lib.hid ho
  unfold altB at HO
  have hRl := h.lt
  have hLR := hC.le
  obtain ⟨V, hV⟩ : ∃ V, V = W.alloc (.cells #[.int .u8 0, .slice none 0 0, .slice none 0 0, .int .i64 0, .int .i64 0] 27) := ⟨_, rfl⟩
  have hb0 : Below W.heap.size W V := by rw [hV]; exact (Below.refl W.heap.size W).alloc (Nat.le_refl _) _
  have HZ : Hid (V.heap.size = W.heap.size + 1) := Lib.hid (by rw [hV]; exact World.size_alloc _ _)
  have HB5 : Hid (B5 V W.heap.size) := Lib.hid (by rw [hV]; exact B5.new W _ _ _ _ _)
  have HG0 := Lib.hid (Gr.of (R := R) hb0)
  have HC0 := Lib.hid hC
  have HR := Lib.hid (h.kept hb0)
  have HA0 := Lib.hid HA
  have HL := Lib.hid hL
  have HCT := Lib.hid (HA V rest trivial (hC.gr (Gr.of hb0)) (h.kept hb0))
  clear h ho hb0 hC HA hL
  go_enter Tryz.func26, Tryz.ntmps26
  go_wp2_with fail
  rw [← hV]
  refine HCT.out.mono ?_
  rintro e w1 ⟨g1, h1⟩
  have G1 := Lib.hid g1
  have GW := Lib.hid (HG0.out.trans g1)
  have hV1 : W.heap.size + 1 ≤ w1.heap.size := by have := g1.size; have := HZ.out; omega
  have hf := HR.out.few
  clear g1 hV HCT
  cases hn : cat rest with
  | err e x =>
    rw [hn] at h1 HO
    dsimp only at HO
    obtain rfl := h1
    clear hn
    go_wp2
    exact ⟨rfl, Post.bad HO.out GW.out⟩
  | ok x r1 =>
    rw [hn] at h1 HO
    dsimp only at HO
    obtain ⟨v, rfl, hv, hr⟩ := h1
    have hlt := HL.out _ _ _ hn
    obtain ⟨k, sp, sn, sc, kp, kn, kc, mn, mx, rfl⟩ := NV.form5 hv
    unfold nodeV at hv
    rw [HZ.out] at hv
    obtain ⟨V2, hV2⟩ : ∃ V2, V2 = w1.alloc (.cells #[.int .u8 k, .slice sp sn sc, .slice kp kn kc, .int .i64 mn, .int .i64 mx] 27) := ⟨_, rfl⟩
    have hal : Below w1.heap.size w1 V2 := by rw [hV2]; exact (Below.refl w1.heap.size w1).alloc (Nat.le_refl _) _
    have HROW : Hid (RowN V2 w1.heap.size (Old W0.heap.size (W.heap.size + 1)) (.slice (some ⟨w1.heap.size, 0, none⟩) 1 1) [x]) := Lib.hid (by rw [hV2]; exact RowN.one hv rfl)
    have HR2 := Lib.hid (hr.kept hal)
    have G2 := Lib.hid (G1.out.trans (Gr.of hal))
    have GA2 := Lib.hid (Gr.of (R := R) hal)
    obtain ⟨o1, ho1⟩ : ∃ o1, o1 = altL cat 201 [x] r1 := ⟨_, rfl⟩
    rw [← ho1] at HO
    have HO1 := Lib.hid ho1
    have hRw : R < w1.heap.size := hr.lt
    clear hn hv hr hal ho1
    go_wp2_with fail
    rw [← hV2]
    clear hV2
    go_loopg [3] 200 (fun g s3 wx => ∃ acc r f, Hid (o1 = altL cat f acc r) ∧ r.length < f ∧ r.length ≤ g ∧ RowN wx w1.heap.size (Old W0.heap.size (W.heap.size + 1)) s3 acc ∧ acc.length + r.length ≤ 201 ∧ Hid (Rd R wx s dv r d cl) ∧ Hid (Gr R V wx) ∧ Hid (Gr R w1 wx))
    case atStart => exact ⟨[x], r1, 201, HO1, by omega, by omega, HROW.out, by simp; omega, HR2, G2, GA2⟩
    case round =>
      obtain ⟨acc, r, f, ho1, hlf, hlg, hrow, hlen, hrd, hgr, hgr1⟩ := hrel
      obtain ⟨f, rfl⟩ : ∃ f', f = f' + 1 := ⟨f - 1, by omega⟩
      rw [altL_succ] at ho1
      have HT := Lib.hid (take1_c 124 124 rfl (by decide) hrd.out _ rfl)
      go_wp2_with fail
      refine HT.out.mono ?_
      rintro e w3 ⟨rfl, hr, g3⟩
      have HR3 := Lib.hid hr
      have G3 := Lib.hid (hgr.out.trans g3)
      have GA3 := Lib.hid (hgr1.out.trans g3)
      have hrow3 := hrow.gr g3 (by omega) (by omega)
      clear g3 hrow hr HT
      cases hq : at1 124 r with
      | false =>
        simp only [hq, Bool.false_eq_true, if_false] at ho1 HR3
        clear hq
        go_wp2_with fail
        rw [ho1.out] at HO
        dsimp only at HO
        refine (join_c 3 hrow3 (by omega) (fun b hb => .inr (by omega))).mono ?_
        rintro e wz ⟨u, rfl, hu, bz⟩
        have GZ := G3.out.trans (Gr.of bz)
        have h5 := HB5.out.gr GZ (by omega)
        obtain ⟨⟨x0, x1, x2, x3, x4, k0, k1, k2, k3, k4⟩, f0, f1, f2, f3, f4⟩ := h5.cells
        have HU := Lib.hid hu
        have H5 := Lib.hid h5
        have HRz := Lib.hid (HR3.out.kept bz)
        have GWz := Lib.hid (HG0.out.trans GZ)
        obtain ⟨k, sp, sn, sc, kp, kn, kc, mn, mx, rfl⟩ := NV.form5 hu
        clear hu h5 bz GZ hrow3
        go_wp2
        exact ret_node rfl rfl H5.out (Post.good HO.out (put5_grR _ _ _ _ _ GWz.out (Nat.le_refl _)) (put5_nv _ _ _ _ _ HU.out (Nat.lt_succ_self _) hRl (Nat.le_succ _)) (put5_rd _ _ _ _ _ HRz.out (by omega)))
      | true =>
        simp only [hq, if_true] at ho1 HR3
        have htl := tail_lt hq
        clear hq
        have HRP := Lib.hid (HA0.out w3 r.tail trivial (HC0.out.gr (HG0.out.trans G3.out)) HR3.out)
        go_wp2_with fail
        refine HRP.out.mono ?_
        rintro e w5 ⟨g5, h5⟩
        have G5 := Lib.hid (G3.out.trans g5)
        have GA5 := Lib.hid (GA3.out.trans g5)
        have GW := Lib.hid (HG0.out.trans G5.out)
        have hrow5 := hrow3.gr g5 (by omega) (by omega)
        have h45 := g5.size
        have hVw := G3.out.size
        have hA4 := GA3.out.size
        have hVz := HZ.out
        clear g5
        cases hi : cat r.tail with
        | err e x =>
          rw [hi] at h5 ho1
          dsimp only at ho1
          rw [ho1.out] at HO
          dsimp only at HO
          obtain rfl := h5
          clear hi
          go_wp2
          exact ⟨rfl, Post.bad HO.out GW.out⟩
        | ok y r2 =>
          rw [hi] at h5 ho1
          dsimp only at ho1
          obtain ⟨v, rfl, hv, hr⟩ := h5
          have hlt := HL.out _ _ _ hi
          have hNV := fresh_nv (R := R) (n := W.heap.size + 1) hrow3 (by omega) hv (by omega) rfl
          obtain ⟨k, sp, sn, sc, kp, kn, kc, mn, mx, rfl⟩ := NV.form5 hv
          have hal := (Below.refl w5.heap.size w5).alloc (Nat.le_refl _) (.cells #[.int .u8 k, .slice sp sn sc, .slice kp kn kc, .int .i64 mn, .int .i64 mx] 27)
          have hrow6 := hrow5.gr (Gr.of (R := R) hal) (by omega) (by omega)
          have hNV6 := NV.imp hNV (fun b hA hlt => ⟨hA, hal.block b hlt⟩) hal.size
          have HR6 := Lib.hid (hr.kept hal)
          have G6 := Lib.hid (G5.out.trans (Gr.of hal))
          have GA6 := Lib.hid (GA5.out.trans (Gr.of hal))
          have hnew := heap_alloc_new w5 (.cells #[.int .u8 k, .slice sp sn sc, .slice kp kn kc, .int .i64 mn, .int .i64 mx] 27)
          have hsz6 := World.size_alloc w5 (.cells #[.int .u8 k, .slice sp sn sc, .slice kp kn kc, .int .i64 mn, .int .i64 mx] 27)
          clear hi hv hr hal hrow5 hNV hrow3
          go_wp2_with (at_builtin; refine wpList_push rfl _ _ rfl w1.heap.size (Old W0.heap.size (W.heap.size + 1)) _ _ rfl hrow6 w5.heap.size _ y rfl hNV6 hnew (by omega) (by omega) ?_; intro v7 w7 hrow7 hg7)
          have G7 := Lib.hid (G6.out.rowN (by omega) hrow6 hg7)
          have GA7 : Hid (Gr R w1 w7) := Lib.hid (GA6.out.rowN (Nat.le_refl _) hrow6 hg7)
          have HR7 := Lib.hid (HR6.out.rowN (by omega) hrow6 hg7)
          clear hrow6 hg7 hNV6 hnew
          go_roundg r2.length
          case measure => omega
          case rel => exact ⟨acc ++ [y], r2, f, ho1, by omega, Nat.le_refl _, hrow7, by rw [List.length_append]; simp; omega, HR7, G7, GA7⟩
end Go.Proofs.YtahgljglleeloaaGreatDoor
