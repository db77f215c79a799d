/- RNode, RScalar, in one text. -/
import Derived.Test.YtahgljglleeloaaGreatDoorRB
import Derived.Test.YtahgljglleeloaaGreatDoorRBox
import Derived.Test.YtahgljglleeloaaGreatDoorPB
import Derived.StillTailTactics
/- Nodes in memory. -/
namespace Go.Proofs.YtahgljglleeloaaGreatDoor
open Go.RowKit Go.Shelf SetM RxM

/-! What a set's call hands back lies in new memory. -/
def SetNew (W : World) (K : Int → Prop) (N : Nat) (e : Ending) (W' : World) : Prop :=
  ∃ P c out, e = .returned (.slice P (List.length out) c) ∧ IsSet out K ∧ out.length ≤ N ∧ Sl W' P out ∧ (P = none → c = 0) ∧ (∀ a, P = some a → W.heap.size ≤ a.block) ∧ Below W.heap.size W W'
theorem SetPost.toNew {W : World} {K : Int → Prop} {N : Nat} {e : Ending} {W' : World} (h : SetPost W K N e W') : SetNew W K N e W' := by
  obtain ⟨v, out, h1, h2, h3, h4, h5, h6⟩ := h
  have h7 := h5.lt
  obtain ⟨P, c, rfl, hs⟩ := spans_of h5
  refine ⟨P, c, out, h1, ⟨h2, h3⟩, h4, hs, fun hP => ?_, fun a ha => ?_, h6⟩
  · rcases h5.2 with ⟨e1, _⟩ | ⟨g, cap, cur, e1, _⟩
    · injection e1
    · subst hP; injection e1 with e1; cases e1
  · subst ha
    exact (h7 a.block rfl).1
theorem norm_n {W : World} {P : Option Addr} {c : Nat} {l : List Sp} (hC : Cf W W) (hs : Sl W P l) (hl : l.length ≤ 1000000) : Calls Tryz.prog 92 #[.slice P l.length c] W (SetNew W (fun r => Tells l r) (4 * l.length)) :=
  (norm_any P c l (by omega) W hC.ctx.pos hC.ctx.areas hs).mono fun _ _ h => h.toNew
theorem not_n {W : World} {P : Option Addr} {c : Nat} {l : List Sp} (hC : Cf W W) (hs : Sl W P l) (hl : l.length ≤ 1000000) : Calls Tryz.prog 66 #[.slice P l.length c] W (SetNew W (fun r => Sc r ∧ ¬ Tells l r) (4 + 4 * l.length)) :=
  (not_any P c l (by omega) W hC.ctx.pos hC.ctx.areas hs).mono fun _ _ h => h.toNew
set_option maxRecDepth 100000 in
set_option maxHeartbeats 1000000 in
theorem close_n {w W : World} {P : Option Addr} {c : Nat} {l : List Sp} (hC : Cf w W) (hs : Sl W P l) (hl : l.length ≤ 100000) :
    Calls Tryz.prog 91 #[.slice P l.length c] W (SetNew W (ClosedK (Tells l)) (1572 + 784 * l.length)) := by
  obtain ⟨u, hu⟩ : ∃ u, u = W := ⟨_, rfl⟩
  rw [← hu] at hC hs ⊢
  clear hu W
  have HC := Lib.hid hC
  have HN := Lib.hid (norm_c (c := c) hC.ctx hs (by omega))
  clear hC hs
  go_enter Tryz.func91, Tryz.ntmps91
  go_wp2_with fail
  refine HN.out.mono ?_
  rintro e w1 ⟨P1, c1, o1, rfl, i1, n1, s1, z1, b1⟩
  have hl1 : o1.length ≤ 4 + 2 * l.length := nf_len i1.1 i1.2
  have HI := Lib.hid i1
  have HC1 := Lib.hid (HC.out.step b1)
  have HG := Lib.hid (gather_ahead P1 c1 o1 (by omega) z1 w1 HC1.out.runs s1)
  clear i1 s1 z1 n1 HN
  go_wp2_with fail
  refine HG.out.mono ?_
  rintro e w2 ⟨v2, rfl, ho2, hb2⟩
  have hl2 := gather_len aheadS (fun u s => moveS_len _ _ _ _) o1
  obtain ⟨P2, c2, rfl, s2, z2⟩ := spans_of0 ho2
  have HC2 := Lib.hid (HC1.out.step hb2)
  have b2 := b1.trans (hb2.mono b1.size)
  have HG2 := Lib.hid (gather_back P2 c2 (gatherL aheadS o1) (by omega) z2 w2 HC2.out.runs s2)
  have hl3 := gather_len backS (fun u s => moveS_len _ _ _ _) (gatherL aheadS o1)
  have HCL : Hid (closeL o1 = gatherL backS (gatherL aheadS o1)) := Lib.hid rfl
  clear ho2 s2 z2 hb2 b1 HG HC1
  go_wp2_with fail
  refine HG2.out.mono ?_
  rintro e w3 ⟨v3, rfl, ho3, hb3⟩
  obtain ⟨P3, c3, rfl, s3, z3⟩ := spans_of0 ho3
  have HC3 := Lib.hid (HC2.out.step hb3)
  have b3 := b2.trans (hb3.mono b2.size)
  have HN3 := Lib.hid ((norm_any P3 c3 (gatherL backS (gatherL aheadS o1)) (by omega) w3 HC3.out.ctx.pos HC3.out.ctx.areas s3))
  clear ho3 s3 z3 hb3 b2 HG2 HC2
  go_wp2_with fail
  refine HN3.out.mono ?_
  rintro e w4 hp
  obtain ⟨P4, c4, o4, rfl, i4, n4, s4, z4, a4, b4⟩ := hp.toNew
  have hl4 : o4.length ≤ 4 + 2 * (gatherL backS (gatherL aheadS o1)).length := nf_len i4.1 i4.2
  rw [← HCL.out] at i4
  have HI4 := Lib.hid (i4.congr (closed_tells HI.out))
  have H4 := Lib.hid (And.intro s4 (And.intro z4 a4))
  have HB3 := Lib.hid b3.size
  clear i4 s4 z4 a4 HN3
  go_wp2
  go_ret
  exact ⟨P4, c4, o4, rfl, HI4.out, by omega, H4.out.1, H4.out.2.1, fun a ha => Nat.le_trans HB3.out (H4.out.2.2 a ha), b3.trans (b4.mono b3.size)⟩
/-! What every call of the reader needs beside it. -/
structure Cx (R : Nat) (W : World) : Prop where
  areas : Areas W
  runs : Runs W
  ra : 2 < R
  rr : 1 < R
  lt : R < W.heap.size
theorem Gr.belowR {R : Nat} {W W' : World} (h : Gr R W W') (hR : R < W.heap.size) : Below R W W' := ⟨h.os, h.tape, h.output, h.size, fun k hk => h.block k (by omega) (fun e => by cases e; omega)⟩
theorem Cx.gr {R : Nat} {W W' : World} (h : Cx R W) (hg : Gr R W W') : Cx R W' :=
  ⟨h.areas.below (hg.belowR h.lt) h.ra, h.runs.below (hg.belowR h.lt) h.rr, h.ra, h.rr, Nat.lt_of_lt_of_le h.lt hg.size⟩
theorem Cx.cf {R : Nat} {W : World} (h : Cx R W) : Cf W W := Cf.start (Nat.lt_trans h.ra h.lt) h.areas (Nat.lt_trans h.rr h.lt) h.runs

/-! Nodes. -/
def kidParts : Value → List Value
  | .agg cs => cs.toList
  | _ => []
def ndKids : Nd → List Nd
  | .mk _ _ kids _ _ => kids
/-- The value reads as the tree; all its blocks are of A. -/
def NIs (W : World) (A : Nat → Prop) : Nat → Value → Nd → Prop
  | 0, _, _ => False
  | h + 1, v, .mk k K kids mn mx => ∃ sp sl sc kp kc, v = .agg #[.int .u8 k, .slice sp (List.length sl) sc, .slice kp kids.length kc, .int .i64 mn, .int .i64 mx] ∧ IsSet sl K ∧ (sl.length ≤ 100000000 ∧ kids.length ≤ 1000) ∧ Sl W sp sl ∧ (sp = none → sc = 0) ∧ (∀ a, sp = some a → sl ≠ [] → A a.block) ∧ (kids = [] → kp = none ∧ kc = 0) ∧
      (kids ≠ [] → ∃ g cs us, kp = some ⟨g, 0, none⟩ ∧ A g ∧ W.heap[g]? = some (.cells cs 27 (0, 0)) ∧ List.length us = kids.length ∧ cs.toList.take (List.length us * 5) = us.flatMap kidParts ∧ ∀ i (hi : i < kids.length) u, us[i]? = some u → NIs W A h u kids[i])
theorem NIs.imp {W W' : World} {A B : Nat → Prop} (hAB : ∀ b, A b → b < W.heap.size → B b ∧ W'.heap[b]? = W.heap[b]?) (hsz : W.heap.size ≤ W'.heap.size) : ∀ (h : Nat) (v : Value) (t : Nd), NIs W A h v t → NIs W' B h v t
  | 0, _, _, hn => hn
  | h + 1, v, .mk k K kids mn mx, hn => by
    obtain ⟨sp, sl, sc, kp, kc, e, hK, hl, hs, hz, ha, hk0, hk1⟩ := hn
    refine ⟨sp, sl, sc, kp, kc, e, hK, hl, fun hne => ?_, hz, fun a ea hne => ?_, hk0, fun hne => ?_⟩
    · obtain ⟨b, off, e1, hb, hc⟩ := hs hne
      have hq := hAB b (ha ⟨b, off, none⟩ e1 hne) hb
      exact ⟨b, off, e1, by omega, fun j hj => ⟨(World.cell?_of_block (a := ⟨b, off + j * 2, none⟩) hq.2).trans (hc j hj).1, (World.cell?_of_block (a := ⟨b, off + j * 2 + 1, none⟩) hq.2).trans (hc j hj).2⟩⟩
    · obtain ⟨b, off, e1, hb, hc⟩ := hs hne
      rw [ea] at e1
      cases e1
      exact (hAB b (ha _ ea hne) hb).1
    · obtain ⟨g, cs, us, e1, hA, hb, h1, h2, h3⟩ := hk1 hne
      have hq := hAB g hA (Array.getElem?_eq_some_iff.1 hb).1
      exact ⟨g, cs, us, e1, hq.1, hq.2.trans hb, h1, h2, fun i hi u hu => NIs.imp hAB hsz h u _ (h3 i hi u hu)⟩
theorem NIs.up {W : World} {A : Nat → Prop} : ∀ (h k : Nat) (v : Value) (t : Nd), NIs W A h v t → h ≤ k → NIs W A k v t
  | 0, _, _, _, hn, _ => hn.elim
  | h + 1, 0, _, _, _, hk => absurd hk (by omega)
  | h + 1, k + 1, v, .mk kd K kids mn mx, hn, hk => by
    obtain ⟨sp, sl, sc, kp, kc, e, hK, hl, hs, hz, ha, hk0, hk1⟩ := hn
    refine ⟨sp, sl, sc, kp, kc, e, hK, hl, hs, hz, ha, hk0, fun hne => ?_⟩
    obtain ⟨g, cs, us, e1, hA, hb, h1, h2, h3⟩ := hk1 hne
    exact ⟨g, cs, us, e1, hA, hb, h1, h2, fun i hi u hu => NIs.up h k u _ (h3 i hi u hu) (by omega)⟩
/-- The value is a node of the tree, in blocks of A. -/
def NV (W : World) (A : Nat → Prop) (v : Value) (t : Nd) : Prop := ∃ h, NIs W A h v t
theorem NV.imp {W W' : World} {A B : Nat → Prop} {v : Value} {t : Nd} (hn : NV W A v t) (hAB : ∀ b, A b → b < W.heap.size → B b ∧ W'.heap[b]? = W.heap[b]?) (hsz : W.heap.size ≤ W'.heap.size) : NV W' B v t :=
  let ⟨h, hi⟩ := hn; ⟨h, hi.imp hAB hsz⟩
/-- Blocks of the definitions, or that are not older than n. -/
def Old (N n : Nat) (b : Nat) : Prop := b < N ∨ n ≤ b
theorem NV.gr {N R n m : Nat} {W W' : World} {v : Value} {t : Nd} (hn : NV W (Old N n) v t) (hg : Gr R W W') (hR : R < n) (hm : m ≤ n) (hN : N ≤ R := by omega) : NV W' (Old N m) v t :=
  hn.imp (fun b hA hb => ⟨hA.imp id (fun h => by omega), hg.block b hb (fun e => by cases e; rcases hA with h | h <;> omega)⟩) hg.size
theorem NV.form {W : World} {A : Nat → Prop} {v : Value} {k : Nat} {K : Int → Prop} {kids : List Nd} {mn mx : Int} (hn : NV W A v (.mk k K kids mn mx)) :
    ∃ (sp : Option Addr) (sl : List Sp) (sc : Nat) (kp : Option Addr) (kc : Nat), v = .agg #[.int .u8 k, .slice sp (List.length sl) sc, .slice kp kids.length kc, .int .i64 mn, .int .i64 mx] := by
  obtain ⟨h, hi⟩ := hn
  cases h with
  | zero => exact hi.elim
  | succ h => obtain ⟨sp, sl, sc, kp, kc, e, _⟩ := hi; exact ⟨sp, sl, sc, kp, kc, e⟩
theorem NV.five {W : World} {A : Nat → Prop} {v : Value} {t : Nd} (hn : NV W A v t) : ∃ a b c d e, v = .agg #[a, b, c, d, e] := by
  cases t with
  | mk k K kids mn mx => obtain ⟨sp, sl, sc, kp, kc, rfl⟩ := hn.form; exact ⟨_, _, _, _, _, rfl⟩
def nodeV (N n : Nat) (t : Nd) (v : Value) (W' : World) : Prop := NV W' (Old N n) v t
/-- A node of scalars. -/
theorem chars_nv {W : World} {A : Nat → Prop} {P : Option Addr} {c : Nat} {l : List Sp} {K : Int → Prop} (hK : IsSet l K) (hl : l.length ≤ 100000000) (hs : Sl W P l) (hz : P = none → c = 0) (ha : ∀ a, P = some a → A a.block) :
    NV W A (.agg #[.int .u8 1, .slice P l.length c, .slice none 0 0, .int .i64 0, .int .i64 0]) (.mk 1 K [] 0 0) :=
  ⟨1, P, l, c, none, 0, rfl, hK, ⟨hl, by simp⟩, hs, hz, fun a e _ => ha a e, fun _ => ⟨rfl, rfl⟩, fun h => absurd rfl h⟩
theorem none_set : IsSet [] none0 := ⟨trivial, fun r => ⟨fun h => (mem_nil r h).elim, fun h => h.elim⟩⟩
theorem empty_nv {W : World} {A : Nat → Prop} : NV W A (.agg #[.int .u8 0, .slice none 0 0, .slice none 0 0, .int .i64 0, .int .i64 0]) (.mk 0 none0 [] 0 0) :=
  ⟨1, none, [], 0, none, 0, rfl, none_set, by simp, fun h => absurd rfl h, fun _ => rfl, fun a h => (by cases h), fun _ => ⟨rfl, rfl⟩, fun h => absurd rfl h⟩

/-! A variable that holds a node. -/
theorem B5.gr {R : Nat} {W W' : World} {B : Nat} (h : B5 W B) (hg : Gr R W W') (hne : B ≠ R) : B5 W' B := by
  have hl := h.lt
  obtain ⟨x0, x1, x2, x3, x4, h⟩ := h
  exact ⟨x0, x1, x2, x3, x4, (hg.block B hl (fun e => hne (by cases e; rfl))).trans h⟩
theorem put5_gr (W : World) (B : Nat) (a b c d e : Value) : Gr B W (put5 W B a b c d e) :=
  (Gr.set W 0 a).trans ((Gr.set _ 1 b).trans ((Gr.set _ 2 c).trans ((Gr.set _ 3 d).trans (Gr.set _ 4 e))))
theorem put5_grR {R : Nat} {W W0 : World} {B : Nat} (a b c d e : Value) (h : Gr R W0 W) (hB : W0.heap.size ≤ B) : Gr R W0 (put5 W B a b c d e) := by
  have g := put5_gr W B a b c d e
  exact ⟨g.os.trans h.os, g.tape.trans h.tape, g.output.trans h.output, Nat.le_trans h.size g.size, fun k hk hr => (put5_block _ _ _ _ _ _ _ k (by omega)).trans (h.block k hk hr)⟩
theorem put5_nv {N R n m B : Nat} {W : World} {v : Value} {t : Nd} (a b c d e : Value) (hn : NV W (Old N n) v t) (hB : B < n) (hRB : R < B) (hm : m ≤ n) (hN : N ≤ R := by omega) : NV (put5 W B a b c d e) (Old N m) v t :=
  hn.imp (fun k hA _ => ⟨hA.imp id (fun h => by omega), put5_block _ _ _ _ _ _ _ k (by rcases hA with h | h <;> omega)⟩) (by rw [put5_size]; exact Nat.le_refl _)
theorem put5_rd {R B : Nat} {W : World} {s : ByteArray} {dv : Value} {rest : List Int} {d : Nat} {cl : Bool} (a b c x e : Value) (h : Rd R W s dv rest d cl) (hRB : R ≠ B) : Rd R (put5 W B a b c x e) s dv rest d cl :=
  ⟨(put5_block _ _ _ _ _ _ _ R hRB).trans h.blk, h.tl, h.sc, h.small⟩
set_option maxRecDepth 100000 in
set_option maxHeartbeats 2000000 in
theorem chars_c {N R : Nat} {W : World} {s : ByteArray} {dv : Value} {rest : List Int} {d : Nat} {cl : Bool} {P : Option Addr} {c : Nat} {l : List Sp} {K : Int → Prop}
    (hC : Cx R W) (h : Rd R W s dv rest d cl) (hs : Sl W P l) (hl : l.length ≤ 30000) (hK : ∀ r, Tells l r ↔ K r) (hN : N ≤ R := by omega) :
    Calls Tryz.prog 63 #[.pointer (some ⟨R, 0, none⟩), .slice P l.length c] W fun e W' => ∃ v, e = .returned v ∧ NV W' (Old N W.heap.size) v (chN cl K) ∧ Below W.heap.size W W' := by
  have hRW := h.lt
  have hb0 := (Below.refl W.heap.size W).alloc (Nat.le_refl _) (.cells #[.int .u8 0, .slice none 0 0, .slice none 0 0, .int .i64 0, .int .i64 0] 27)
  have hz0 := World.size_alloc W (.cells #[.int .u8 0, .slice none 0 0, .slice none 0 0, .int .i64 0, .int .i64 0] 27)
  have h5 := B5.new W (.int .u8 0) (.slice none 0 0) (.slice none 0 0) (.int .i64 0) (.int .i64 0)
  have hC0 := (hC.gr (Gr.of hb0)).cf
  have hs0 := hs.step hb0
  have c4 := (h.kept hb0).c4
  have HN := Lib.hid (norm_n (c := c) hC0 hs0 (by omega))
  have HF := Lib.hid (close_n (c := c) hC0 hs0 (by omega))
  have HB := Lib.hid hb0
  have HZ := Lib.hid hz0
  have HK := Lib.hid hK
  have H5 := Lib.hid h5
  clear hC hC0 hs hs0 hz0 hb0 h hK h5
  cases cl with
  | true =>
    go_enter Tryz.func63, Tryz.ntmps63
    go_wp2_with fail
    refine HF.out.mono ?_
    rintro e w1 ⟨P1, c1, o1, rfl, i1, n1, s1, z1, a1, b1⟩
    have h5 := H5.out.gr (R := W.heap.size + 1) (Gr.of b1) (by omega)
    obtain ⟨⟨x0, x1, x2, x3, x4, k0, k1, k2, k3, k4⟩, f0, f1, f2, f3, f4⟩ := h5.cells
    have HNV : Hid (NV w1 (Old N (W.heap.size + 1)) (.agg #[.int .u8 1, .slice P1 o1.length c1, .slice none 0 0, .int .i64 0, .int .i64 0]) (chN true K)) :=
      Lib.hid (chars_nv (i1.congr (fun r => by unfold ClosedK; exact ⟨fun ⟨u, x, y, z⟩ => ⟨u, x, (HK.out x).1 y, z⟩, fun ⟨u, x, y, z⟩ => ⟨u, x, (HK.out x).2 y, z⟩⟩)) (by omega) s1 z1 (fun a ha => .inr (by have := a1 a ha; rw [HZ.out] at this; exact this)))
    have HB1 := Lib.hid (HB.out.trans (b1.mono HB.out.size))
    have H51 := Lib.hid h5
    clear i1 s1 z1 a1 b1 h5
    go_wp2
    exact ret_node rfl rfl H51.out ⟨_, rfl, put5_nv _ _ _ _ _ HNV.out (Nat.lt_succ_self _) hRW (Nat.le_succ _), put5_below _ _ _ _ _ HB1.out (Nat.le_refl _)⟩
  | false =>
    go_enter Tryz.func63, Tryz.ntmps63
    go_wp2_with fail
    refine HN.out.mono ?_
    rintro e w1 ⟨P1, c1, o1, rfl, i1, n1, s1, z1, a1, b1⟩
    have h5 := H5.out.gr (R := W.heap.size + 1) (Gr.of b1) (by omega)
    obtain ⟨⟨x0, x1, x2, x3, x4, k0, k1, k2, k3, k4⟩, f0, f1, f2, f3, f4⟩ := h5.cells
    have HNV : Hid (NV w1 (Old N (W.heap.size + 1)) (.agg #[.int .u8 1, .slice P1 o1.length c1, .slice none 0 0, .int .i64 0, .int .i64 0]) (chN false K)) :=
      Lib.hid (chars_nv (i1.congr HK.out) (by omega) s1 z1 (fun a ha => .inr (by have := a1 a ha; rw [HZ.out] at this; exact this)))
    have HB1 := Lib.hid (HB.out.trans (b1.mono HB.out.size))
    have H51 := Lib.hid h5
    clear i1 s1 z1 a1 b1 h5
    go_wp2
    exact ret_node rfl rfl H51.out ⟨_, rfl, put5_nv _ _ _ _ _ HNV.out (Nat.lt_succ_self _) hRW (Nat.le_succ _), put5_below _ _ _ _ _ HB1.out (Nat.le_refl _)⟩
end Go.Proofs.YtahgljglleeloaaGreatDoor

/- The reader reads a scalar; pieces of a class. -/
namespace Go.Proofs.YtahgljglleeloaaGreatDoor
open Go.RowKit Go.Shelf SetM RxM
variable {R : Nat} {W : World} {s : ByteArray} {dv : Value} {rest : List Int} {d : Nat} {cl : Bool}

set_option maxRecDepth 100000 in
set_option maxHeartbeats 400000 in
theorem scalar_c {c : Int} {t : List Int} (h : Rd R W s dv (c :: t) d cl) :
    Calls Tryz.prog 68 #[.pointer (some ⟨R, 0, none⟩)] W fun e W' => e = .returned (.int .i64 c) ∧ Rd R W' s dv t d cl ∧ Gr R W W' := by
  have hl := h.len
  have hsm := h.small
  have hsc := h.sc c (by simp)
  have htb := h.tail_bytes
  have hlen : (U.UtfM.wr (c :: t)).length = (U.UtfM.enc c).length + (U.UtfM.wr t).length := by rw [U.UtfM.wr_cons, List.length_append]
  obtain ⟨k, hk⟩ : ∃ k, k = s.size - (U.UtfM.wr (c :: t)).length := ⟨_, rfl⟩
  obtain ⟨n, hn⟩ : ∃ n, n = (U.UtfM.enc c).length := ⟨_, rfl⟩
  have hkz : (s.size : Int) - ((U.UtfM.wr (c :: t)).length : Nat) = (k : Int) := by omega
  have l1 : (0 : Int) ≤ (k : Int) := by omega
  have l2 : (k : Int) ≤ (s.size : Int) := by omega
  rw [← hk] at htb
  have hdec : U.UtfM.dec (bs (s.extract k s.size)) = (c, n) := by rw [htb, U.UtfM.wr_cons, U.UtfM.dec_enc hsc, hn]
  have HM := Lib.hid (fun V (hV : Rd R V s dv (c :: t) d cl) => hV.move (p := [c]) (rest' := t) (x := (k : Int) + (n : Nat)) rfl (by omega))
  have ew : IntKind.i64.wrap ((k : Int) + (n : Nat)) = (k : Int) + (n : Nat) := IntWalk.i64_in _ (by omega)
  have HK : Hid (∀ V, Rd R V s dv (c :: t) d cl → V.cell? ⟨R, 0, none⟩ = some (.string s) ∧ V.cell? ⟨R, 1, none⟩ = some (.int .i64 (k : Int))) := Lib.hid (fun V hV => ⟨hV.c0, by rw [← hkz]; exact hV.c1⟩)
  have HR := Lib.hid h
  obtain ⟨u, hu⟩ : ∃ u, u = s.extract k s.size := ⟨_, rfl⟩
  rw [← hu] at hdec
  have HD : Hid (∀ V, Calls Tryz.prog 24 #[.slice (some ⟨V.heap.size, 0, none⟩) u.size (capB V u)] (V.drew.alloc (objB V u)) fun e W' => e = .returned (.tuple #[.int .i64 c, .int .i64 (n : Nat)]) ∧ Below V.heap.size V W') := Lib.hid (fun V => by
    have hd := U.decode_c (c := capB V u) (by_conv u V)
    rw [bs_len] at hd
    refine hd.mono ?_
    rintro e w' ⟨rfl, hb⟩
    refine ⟨?_, (below_conv _ V).trans (hb.mono (below_conv _ V).size)⟩
    unfold U.decV
    rw [hdec])
  have hcv : ∀ w, (convert 9 38 (.string (s.extract k s.size))).run Tryz.prog w = .ok (.slice (some ⟨w.heap.size, 0, none⟩) u.size (capB w u)) (w.drew.alloc (objB w u)) := by rw [← hu]; exact conv_b u
  have k0 : ∀ V, Below W.heap.size W V → V.cell? ⟨R, 0, none⟩ = some (.string s) := fun V hV => (HK.out V (h.kept hV)).1
  have k1 : ∀ V, Below W.heap.size W V → V.cell? ⟨R, 1, none⟩ = some (.int .i64 (k : Int)) := fun V hV => (HK.out V (h.kept hV)).2
  have c0 := k0 W (Below.refl _ _)
  have c1 := k1 W (Below.refl _ _)
  clear h hl hdec hlen htb hk hn hkz hsc hu
  go_enter Tryz.func68, Tryz.ntmps68
  go_wp2_with fail
  have hr : Below W.heap.size W W.drew := (Below.refl _ _).drew
  refine wp_region_held_drew (S := (fun U => U.cell? ⟨R, 0, none⟩ = some (.string s) ∧ U.cell? ⟨R, 1, none⟩ = some (.int .i64 (k : Int)))) (by kernel_rfl) (⟨k0 _ hr, k1 _ hr⟩) (fun hHeld => ?_)
  refine wpAnyH_take (i := 0) (oi := { dst := some 6, op := Op.move (Operand.tmp 0), type := 47, pos := "reader.go:94", after := #[], guard := none }) (v := ?_) rfl (by kernel_rfl) (by kernel_rfl) (by kernel_rfl) (fun _ _ _ h => h) (Or.inl ⟨by rfl, ?hy0⟩) (by assumption) ?_
  case hy0 => (intro ww hSw; (try dsimp only at hSw); first | (go_simp; done) | (go_simp; with_reducible rfl))
  try simp only [Act.put, List.setIfInBounds_toArray, List.set_cons_zero, List.set_cons_succ]
  refine wpAnyH_take (i := 1) (oi := { dst := some 7, op := Op.nilCheck (Operand.tmp 6), type := 0, pos := "reader.go:94", after := #[{ on := 0, ground := Ground.data }], guard := none }) (v := ?_) rfl (by kernel_rfl) (by kernel_rfl) (by kernel_rfl) (fun _ _ _ h => h) (Or.inl ⟨by rfl, ?hy1⟩) (by assumption) ?_
  case hy1 => (intro ww hSw; (try dsimp only at hSw); first | (go_simp; done) | (go_simp; with_reducible rfl))
  try simp only [Act.put, List.setIfInBounds_toArray, List.set_cons_zero, List.set_cons_succ]
  refine wpAnyH_take (i := 2) (oi := { dst := some 8, op := Op.fieldAddr 49 (Operand.tmp 7) 0, type := 0, pos := "reader.go:94", after := #[{ on := 1, ground := Ground.data }], guard := none }) (v := ?_) rfl (by kernel_rfl) (by kernel_rfl) (by kernel_rfl) (fun _ _ _ h => h) (Or.inl ⟨by rfl, ?hy2⟩) (by assumption) ?_
  case hy2 => (intro ww hSw; (try dsimp only at hSw); first | (go_simp; done) | (go_simp; with_reducible rfl))
  try simp only [Act.put, List.setIfInBounds_toArray, List.set_cons_zero, List.set_cons_succ]
  refine wpAnyH_take (i := 3) (oi := { dst := some 9, op := Op.load 9 (Operand.tmp 8), type := 9, pos := "reader.go:94", after := #[{ on := 2, ground := Ground.data }], guard := none }) (v := ?_) rfl (by kernel_rfl) (by kernel_rfl) (by kernel_rfl) (fun _ _ _ h => h) (Or.inl ⟨by rfl, ?hy3⟩) (by assumption) ?_
  case hy3 => (intro ww hSw; (try dsimp only at hSw); first | (go_simp; done) | (go_simp; with_reducible rfl))
  try simp only [Act.put, List.setIfInBounds_toArray, List.set_cons_zero, List.set_cons_succ]
  refine wpAnyH_take (i := 4) (oi := { dst := some 10, op := Op.move (Operand.tmp 0), type := 47, pos := "reader.go:94", after := #[], guard := none }) (v := ?_) rfl (by kernel_rfl) (by kernel_rfl) (by kernel_rfl) (fun _ _ _ h => h) (Or.inl ⟨by rfl, ?hy4⟩) (by assumption) ?_
  case hy4 => (intro ww hSw; (try dsimp only at hSw); first | (go_simp; done) | (go_simp; with_reducible rfl))
  try simp only [Act.put, List.setIfInBounds_toArray, List.set_cons_zero, List.set_cons_succ]
  refine wpAnyH_take (i := 5) (oi := { dst := some 11, op := Op.nilCheck (Operand.tmp 10), type := 0, pos := "reader.go:94", after := #[{ on := 4, ground := Ground.data }], guard := none }) (v := ?_) rfl (by kernel_rfl) (by kernel_rfl) (by kernel_rfl) (fun _ _ _ h => h) (Or.inl ⟨by rfl, ?hy5⟩) (by assumption) ?_
  case hy5 => (intro ww hSw; (try dsimp only at hSw); first | (go_simp; done) | (go_simp; with_reducible rfl))
  try simp only [Act.put, List.setIfInBounds_toArray, List.set_cons_zero, List.set_cons_succ]
  refine wpAnyH_take (i := 6) (oi := { dst := some 12, op := Op.fieldAddr 49 (Operand.tmp 11) 1, type := 0, pos := "reader.go:94", after := #[{ on := 5, ground := Ground.data }], guard := none }) (v := ?_) rfl (by kernel_rfl) (by kernel_rfl) (by kernel_rfl) (fun _ _ _ h => h) (Or.inl ⟨by rfl, ?hy6⟩) (by assumption) ?_
  case hy6 => (intro ww hSw; (try dsimp only at hSw); first | (go_simp; done) | (go_simp; with_reducible rfl))
  try simp only [Act.put, List.setIfInBounds_toArray, List.set_cons_zero, List.set_cons_succ]
  refine wpAnyH_take (i := 7) (oi := { dst := some 13, op := Op.load 3 (Operand.tmp 12), type := 3, pos := "reader.go:94", after := #[{ on := 6, ground := Ground.data }], guard := none }) (v := ?_) rfl (by kernel_rfl) (by kernel_rfl) (by kernel_rfl) (fun _ _ _ h => h) (Or.inl ⟨by rfl, ?hy7⟩) (by assumption) ?_
  case hy7 => (intro ww hSw; (try dsimp only at hSw); first | (go_simp; done) | (go_simp; with_reducible rfl))
  try simp only [Act.put, List.setIfInBounds_toArray, List.set_cons_zero, List.set_cons_succ]
  refine wpAnyH_take (i := 8) (oi := { dst := some 14, op := Op.slice 9 (Operand.tmp 9) (some (Operand.tmp 13)) none none, type := 9, pos := "reader.go:94", after := #[{ on := 3, ground := Ground.data }, { on := 7, ground := Ground.data }], guard := none }) (v := ?_) rfl (by kernel_rfl) (by kernel_rfl) (by kernel_rfl) (fun _ _ _ h => h) (Or.inl ⟨by rfl, ?hy8⟩) (by assumption) ?_
  case hy8 => (intro ww hSw; (try dsimp only at hSw); first | (go_simp; done) | (go_simp; with_reducible rfl))
  try simp only [Act.put, List.setIfInBounds_toArray, List.set_cons_zero, List.set_cons_succ]
  refine wpAnyH_ready (rs := [9]) (by kernel_rfl) (by simp) ?_
  refine AllReadyH.cons (o := { dst := some 15, op := Op.convert 9 38 (Operand.tmp 14), type := 38, pos := "reader.go:94", after := #[{ on := 8, ground := Ground.data }], guard := none }) rfl (fun K hK => ?_) ?more9
  case more9 => exact AllReadyH.nil
  go_simp
  have hr : Below W.heap.size W (W.drew.drew.alloc (objB W.drew u)) := hr.trans ((below_conv u _).mono hr.size); have HDX : Calls Tryz.prog 24 #[.slice (some ⟨W.heap.size, 0, none⟩) u.size (capB W.drew u)] (W.drew.drew.alloc (objB W.drew u)) fun e W2 => e = Ending.returned (Value.tuple #[Value.int IntKind.i64 c, Value.int IntKind.i64 (n : Nat)]) ∧ Below W.heap.size W W2 := (HD.out W.drew).mono (fun e W2 h => ⟨h.1, ⟨h.2.os, h.2.tape, h.2.output, h.2.size, h.2.block⟩⟩); rw [show (W.alloc (objB W.drew u)).drew.drew = W.drew.drew.alloc (objB W.drew u) from rfl]; clear hHeld; generalize W.drew.drew.alloc (objB W.drew u) = W2 at *; generalize capB W.drew u = cap at *; have HDX := Lib.hid HDX
  refine hK.out _ _ (⟨k0 _ hr, k1 _ hr⟩) (fun hHeld => ?_)
  clear hK K
  try simp only [Act.put, List.setIfInBounds_toArray, List.set_cons_zero, List.set_cons_succ]
  refine wpAnyH_ready (rs := [10]) (by kernel_rfl) (by simp) ?_
  refine AllReadyH.cons (o := { dst := some 16, op := Op.call { callee := Callee.value (Operand.func 24), args := #[Operand.tmp 15], argTypes := #[38] }, type := 61, pos := "reader.go:94", after := #[{ on := 9, ground := Ground.data }], guard := none }) rfl (fun K hK => ?_) ?more10
  case more10 => exact AllReadyH.nil
  go_simp
  go_at_call 24; (refine (HDX.out).mono ?_); rintro e w3 ⟨rfl, hr⟩
  refine hK.out _ _ (⟨k0 _ hr, k1 _ hr⟩) (fun hHeld => ?_)
  clear hK K
  try simp only [Act.put, List.setIfInBounds_toArray, List.set_cons_zero, List.set_cons_succ]
  refine wpAnyH_take (i := 11) (oi := { dst := some 5, op := Op.move (Operand.tmp 16), type := 61, pos := "reader.go:94", after := #[{ on := 10, ground := Ground.data }], guard := none }) (v := ?_) rfl (by kernel_rfl) (by kernel_rfl) (by kernel_rfl) (fun _ _ _ h => h) (Or.inl ⟨by rfl, ?hy11⟩) (by assumption) ?_
  case hy11 => (intro ww hSw; (try dsimp only at hSw); first | (go_simp; done) | (go_simp; with_reducible rfl))
  try simp only [Act.put, List.setIfInBounds_toArray, List.set_cons_zero, List.set_cons_succ]
  refine wpAnyH_take (i := 12) (oi := { dst := some 17, op := Op.extract (Operand.tmp 5) 0, type := 3, pos := "reader.go:94", after := #[{ on := 11, ground := Ground.data }], guard := none }) (v := ?_) rfl (by kernel_rfl) (by kernel_rfl) (by kernel_rfl) (fun _ _ _ h => h) (Or.inl ⟨by rfl, ?hy12⟩) (by assumption) ?_
  case hy12 => (intro ww hSw; (try dsimp only at hSw); first | (go_simp; done) | (go_simp; with_reducible rfl))
  try simp only [Act.put, List.setIfInBounds_toArray, List.set_cons_zero, List.set_cons_succ]
  refine wpAnyH_take (i := 13) (oi := { dst := some 18, op := Op.extract (Operand.tmp 5) 1, type := 3, pos := "reader.go:94", after := #[{ on := 11, ground := Ground.data }, { on := 14, ground := Ground.gcOnly Departure.lateStores }], guard := none }) (v := ?_) rfl (by kernel_rfl) (by kernel_rfl) (by kernel_rfl) (fun _ _ _ h => h) (Or.inl ⟨by rfl, ?hy13⟩) (by assumption) ?_
  case hy13 => (intro ww hSw; (try dsimp only at hSw); first | (go_simp; done) | (go_simp; with_reducible rfl))
  try simp only [Act.put, List.setIfInBounds_toArray, List.set_cons_zero, List.set_cons_succ]
  refine wpAnyH_take (i := 14) (oi := { dst := some 3, op := Op.assign (Operand.tmp 17), type := 3, pos := "reader.go:94", after := #[{ on := 12, ground := Ground.data }, { on := 10, ground := Ground.chain }, { on := 0, ground := Ground.phase }, { on := 1, ground := Ground.phase }, { on := 2, ground := Ground.phase }, { on := 3, ground := Ground.phase }, { on := 4, ground := Ground.phase }, { on := 5, ground := Ground.phase }, { on := 6, ground := Ground.phase }, { on := 7, ground := Ground.phase }, { on := 8, ground := Ground.phase }, { on := 9, ground := Ground.phase }, { on := 10, ground := Ground.phase }, { on := 11, ground := Ground.phase }, { on := 12, ground := Ground.phase }, { on := 13, ground := Ground.textOnly Departure.lateStores }], guard := none }) (v := ?_) rfl (by kernel_rfl) (by kernel_rfl) (by kernel_rfl) (fun _ _ _ h => h) (Or.inl ⟨by rfl, ?hy14⟩) (by assumption) ?_
  case hy14 => (intro ww hSw; (try dsimp only at hSw); first | (go_simp; done) | (go_simp; with_reducible rfl))
  try simp only [Act.put, List.setIfInBounds_toArray, List.set_cons_zero, List.set_cons_succ]
  refine wpAnyH_take (i := 15) (oi := { dst := some 4, op := Op.assign (Operand.tmp 18), type := 3, pos := "reader.go:94", after := #[{ on := 13, ground := Ground.data }, { on := 14, ground := Ground.chain }, { on := 0, ground := Ground.phase }, { on := 1, ground := Ground.phase }, { on := 2, ground := Ground.phase }, { on := 3, ground := Ground.phase }, { on := 4, ground := Ground.phase }, { on := 5, ground := Ground.phase }, { on := 6, ground := Ground.phase }, { on := 7, ground := Ground.phase }, { on := 8, ground := Ground.phase }, { on := 9, ground := Ground.phase }, { on := 10, ground := Ground.phase }, { on := 11, ground := Ground.phase }, { on := 12, ground := Ground.phase }, { on := 13, ground := Ground.phase }, { on := 14, ground := Ground.phase }], guard := none }) (v := ?_) rfl (by kernel_rfl) (by kernel_rfl) (by kernel_rfl) (fun _ _ _ h => h) (Or.inl ⟨by rfl, ?hy15⟩) (by assumption) ?_
  case hy15 => (intro ww hSw; (try dsimp only at hSw); first | (go_simp; done) | (go_simp; with_reducible rfl))
  try simp only [Act.put, List.setIfInBounds_toArray, List.set_cons_zero, List.set_cons_succ]
  refine wpAnyH_done (by kernel_rfl) ?_ _
  have HR3 := Lib.hid (HR.out.kept hr)
  have q1 := (HK.out _ HR3.out).2
  have qz := HR3.out.z 1
  have HB3 := Lib.hid hr
  clear k0 k1 hr hHeld
  go_wp2
  go_ret
  exact ⟨rfl, HM.out _ HR3.out, (Gr.of HB3.out).trans (Gr.set _ 1 _)⟩
end Go.Proofs.YtahgljglleeloaaGreatDoor
