/- RCopyR, RT8, RClosM, in one text. -/
import Derived.Test.YtahgljglleeloaaGreatDoorRC
import Derived.Test.YtahgljglleeloaaGreatDoorRCG
import Derived.Test.YtahgljglleeloaaGreatDoorRLawM
/- rx's copier at a leaf; at a node with a row that is met for the first time. -/
namespace Go.Proofs.YtahgljglleeloaaGreatDoor
open Go.RowKit Go.Shelf Go.Maps SetM PropsM RxM

theorem Sl.at {W W' : World} {P : Option Addr} {l : List Sp} (h : Sl W P l) (hb : ∀ a, P = some a → l ≠ [] → a.block < W.heap.size → W'.heap[a.block]? = W.heap[a.block]?) (hsz : W.heap.size ≤ W'.heap.size) : Sl W' P l := fun hl => by
  obtain ⟨b, off, e, hb', hc⟩ := h hl
  have hq := hb _ e hl hb'
  exact ⟨b, off, e, by omega, fun j hj => ⟨(World.cell?_of_block (a := ⟨b, off + j * 2, none⟩) hq).trans (hc j hj).1, (World.cell?_of_block (a := ⟨b, off + j * 2 + 1, none⟩) hq).trans (hc j hj).2⟩⟩
theorem Sl.blk {W : World} {P : Option Addr} {l : List Sp} (h : Sl W P l) (hl : l ≠ []) (a : Addr) (ha : P = some a) : a.block < W.heap.size := by
  obtain ⟨b, off, e, hb', hc⟩ := h hl
  rw [ha] at e; cases e; exact hb'
/-- What a copy's Set is. -/
def QS (K : Int → Prop) (v : Value) (U U' : World) : Prop := ∃ P c out, v = .slice P (List.length out) c ∧ IsSet out K ∧ out.length ≤ 100000000 ∧ Sl U' P out ∧ (P = none → c = 0) ∧ (∀ a, P = some a → U.heap.size ≤ a.block)
theorem close_q {w U : World} {P : Option Addr} {c : Nat} {l : List Sp} {K : Int → Prop} (hC : Cf w U) (hs : Sl U P l) (hl : l.length ≤ 100000) (hK : ∀ r, Tells l r ↔ K r) :
    Calls Tryz.prog 91 #[.slice P l.length c] U fun e U' => ∃ p1 m1 d1, e = .returned (.slice p1 m1 d1) ∧ QS (ClosedK K) (.slice p1 m1 d1) U U' ∧ Below U.heap.size U U' := by
  refine (close_n hC hs hl).mono ?_
  rintro e U' ⟨P1, c1, o1, rfl, i1, n1, s1, z1, a1, b1⟩
  exact ⟨P1, o1.length, c1, rfl, ⟨P1, c1, o1, rfl, i1.congr (fun r => by unfold ClosedK; exact ⟨fun ⟨u, x, y, z⟩ => ⟨u, x, (hK x).1 y, z⟩, fun ⟨u, x, y, z⟩ => ⟨u, x, (hK x).2 y, z⟩⟩), by omega, s1, z1, a1⟩, b1⟩
set_option maxRecDepth 100000 in
theorem leaf_c {w W : World} {C c qc : Nat} {k mn mx : Int} {P q : Option Addr} {l : List Sp} {K : Int → Prop} (hC : Cf w W) (hs : Sl W P l) (hl : l.length ≤ 100000) (hK : ∀ r, Tells l r ↔ K r) :
    Calls Tryz.prog 107 #[.pointer (some ⟨C, 0, none⟩), .agg #[.int .u8 k, .slice P l.length c, .slice q 0 qc, .int .i64 mn, .int .i64 mx]] W fun e W' =>
      ∃ P1 c1 out, e = .returned (.agg #[.int .u8 k, .slice P1 (List.length out) c1, .slice none 0 0, .int .i64 mn, .int .i64 mx]) ∧ IsSet out (ClosedK K) ∧ out.length ≤ 100000000 ∧ Sl W' P1 out ∧ (P1 = none → c1 = 0) ∧ (∀ a, P1 = some a → W.heap.size ≤ a.block) ∧ Below W.heap.size W W' := by
  refine (node_any (n := l.length) (c := c) (p := P) (K := fun v U U' => v = .slice none 0 0 ∧ U' = U) (Q := QS (ClosedK K)) (fun U hU => close_q (hC.step hU) (hs.step hU) hl hK) (fun U hU => (kids_nil C q qc U).mono (fun e U' ⟨h1, h2⟩ => ⟨none, 0, 0, h1, ⟨rfl, h2⟩, fun b _ _ => by rw [h2]⟩))).mono ?_
  rintro e W' ⟨p1, m1, d1, p2, m2, d2, W1, W2, W3, W4, rfl, b1, hz, ⟨P1, c1, out, e1, i1, n1, s1, z1, a1⟩, b2, b3, ⟨e2, rfl⟩, ag⟩
  cases e1
  cases e2
  have h12 := b1.trans (b2.mono b1.size)
  have h13 := h12.trans (b3.mono h12.size)
  have hz2 := b2.size
  have hz3 := b3.size
  have hz1 := b1.size
  refine ⟨p1, d1, out, rfl, i1, n1, ?_, z1, fun a ha => by have := a1 a ha; omega, ?_⟩
  · refine (s1.step b3).at (fun a ha _ hlt => ag.block _ (by have := a1 a ha; omega) (by have := a1 a ha; omega)) (Nat.le_of_eq ag.size.symm)
  · exact ⟨ag.os.trans h13.os, ag.tape.trans h13.tape, ag.output.trans h13.output, by rw [ag.size]; exact h13.size, fun b hb => (ag.block b (by omega) (by omega)).trans (h13.block b hb)⟩
/-- The copier: its map, its rows that are left. -/
structure Cs (W : World) (C M base : Nat) (es : Array MapEntry) (clk : Nat) (lv : Value) (ln : Nat) (xs : List Value) : Prop where
  c : W.heap[C]? = some (.cells #[.map (some M), lv] 125 (0, 0))
  m : W.heap[M]? = some (.map es clk)
  row : W.ownsRow base 127 2 lv ln xs
  cb : C < base
  mb : M < base
  ne : C ≠ M
  le : base ≤ W.heap.size
theorem Cs.kept {W W' : World} {C M base clk ln : Nat} {es : Array MapEntry} {lv : Value} {xs : List Value} (h : Cs W C M base es clk lv ln xs) (hb : Below W.heap.size W W') : Cs W' C M base es clk lv ln xs :=
  ⟨(hb.block C (by have := h.cb; have := h.le; omega)).trans h.c, (hb.block M (by have := h.mb; have := h.le; omega)).trans h.m, row_at h.row (fun k hk => hb.block k (row_lt h.row hk).2), h.cb, h.mb, h.ne, Nat.le_trans h.le hb.size⟩
set_option maxRecDepth 100000 in
theorem row_c {w W : World} {C M g base clk ln c qc : Nat} {es : Array MapEntry} {lv : Value} {xs : List Value} {k mn mx : Int} {P : Option Addr} {l : List Sp} {K : Int → Prop} (hC : Cf w W) (hs : Sl W P l) (hl : l.length ≤ 100000) (hK : ∀ r, Tells l r ↔ K r)
    (h : Cs W C M base es clk lv ln xs) (hmiss : ∀ W', Below W.heap.size W W' → MissAt es g W') (hln : ln ≤ 10) :
    Calls Tryz.prog 107 #[.pointer (some ⟨C, 0, none⟩), .agg #[.int .u8 k, .slice P l.length c, .slice (some ⟨g, 0, none⟩) 2 qc, .int .i64 mn, .int .i64 mx]] W fun e W' =>
      ∃ P1 c1 out T J cap, e = .returned (.agg #[.int .u8 k, .slice P1 (List.length out) c1, .slice (some ⟨T, 0, none⟩) 2 2, .int .i64 mn, .int .i64 mx]) ∧ IsSet out (ClosedK K) ∧ out.length ≤ 100000000 ∧ Sl W' P1 out ∧ (P1 = none → c1 = 0) ∧ (∀ a, P1 = some a → out ≠ [] → W.heap.size ≤ a.block ∧ a.block ≠ T ∧ a.block ≠ J) ∧
        (W.heap.size ≤ T ∧ T ≠ J ∧ (lv.ownBlock = some J ∨ W.heap.size ≤ J)) ∧ W'.heap[T]? = some (.cells z10 27 (0, 0)) ∧
        Cs W' C M base (es.push { key := keyV g, val := .slice (some ⟨T, 0, none⟩) 2 2, born := clk }) (clk + 1) (.slice (some ⟨J, 0, none⟩) (ln + 1) cap) (ln + 1) (xs ++ [.slice (some ⟨g, 0, none⟩) 2 qc, .slice (some ⟨T, 0, none⟩) 2 2]) ∧ Fr (fun k => k = C ∨ k = M ∨ lv.ownBlock = some k) W W' := by
  have hown : ∀ k, lv.ownBlock = some k → base ≤ k ∧ k < W.heap.size := fun k hk => row_lt h.row hk
  have hCl := h.cb
  have hMl := h.mb
  have hle := h.le
  refine (node_any (n := l.length) (c := c) (p := P) (Q := QS (ClosedK K)) (K := fun v U U' => ∃ T J cap, v = .slice (some ⟨T, 0, none⟩) 2 2 ∧ (U.heap.size ≤ T ∧ T ≠ J ∧ (lv.ownBlock = some J ∨ U.heap.size ≤ J)) ∧ U'.heap[T]? = some (.cells z10 27 (0, 0)) ∧ Cs U' C M base (es.push { key := keyV g, val := .slice (some ⟨T, 0, none⟩) 2 2, born := clk }) (clk + 1) (.slice (some ⟨J, 0, none⟩) (ln + 1) cap) (ln + 1) (xs ++ [.slice (some ⟨g, 0, none⟩) 2 qc, .slice (some ⟨T, 0, none⟩) 2 2]) ∧ Fr (fun k => k = C ∨ k = M ∨ lv.ownBlock = some k) U U')
    (fun U hU => close_q (hC.step hU) (hs.step hU) hl hK) (fun U hU => ?_)).mono ?_
  · have hc := h.kept hU
    refine (kids_new hc.c hc.m (fun W' hb => hmiss W' (hU.trans (hb.mono hU.size))) hc.row hc.cb hc.mb hc.ne hc.le hln).mono ?_
    rintro e U' ⟨T, J, cap, rfl, h1, h2, h3, h4, h5, h6⟩
    refine ⟨_, _, _, rfl, ⟨T, J, cap, rfl, h1, h2, ⟨h3, h4, h5, hc.cb, hc.mb, hc.ne, Nat.le_trans hc.le h6.size⟩, h6⟩, fun b hb1 hb2 => h6.block b hb2 (fun hA => ?_)⟩
    rcases hA with rfl | rfl | hA
    · omega
    · omega
    · have := hown b hA; omega
  · rintro e W' ⟨p1, m1, d1, p2, m2, d2, W1, W2, W3, W4, rfl, b1, hz, ⟨P1, c1, out, e1, i1, n1, s1, z1, a1⟩, b2, b3, ⟨T, J, cap, e2, ⟨t1, t2, t3⟩, hT, hcs, hfr⟩, ag⟩
    cases e1
    cases e2
    have h12 := b1.trans (b2.mono b1.size)
    have h13 := h12.trans (b3.mono h12.size)
    have hz2 := b2.size
    have hz3 := b3.size
    have hz1 := b1.size
    have hz4 := hfr.size
    have hJ := row_lt hcs.row rfl
    have hJn : J ≠ W.heap.size ∧ J ≠ W.heap.size + 1 := by
      rcases t3 with t3 | t3
      · have := hown _ t3; omega
      · omega
    refine ⟨p1, d1, out, T, J, cap, rfl, i1, n1, ?_, z1, fun a ha hne => ?_, ⟨by omega, t2, t3.imp id (fun h => by omega)⟩, (ag.block T (by omega) (by omega)).trans hT, ?_, ?_⟩
    · refine Sl.at ((s1.step b3).at (W' := W4) (fun a ha hne hlt => hfr.block _ hlt (fun hA => ?_)) hfr.size) (fun a ha _ hlt => ag.block _ (by have := a1 a ha; omega) (by have := a1 a ha; omega)) (Nat.le_of_eq ag.size.symm)
      have := a1 a ha
      rcases hA with e | e | hA
      · omega
      · omega
      · have := hown _ hA; omega
    · have h1 := a1 a ha
      have h2 := s1.blk hne a ha
      refine ⟨by omega, by omega, ?_⟩
      rcases t3 with t3 | t3
      · have := hown _ t3; omega
      · omega
    · exact ⟨(ag.block C (by omega) (by omega)).trans hcs.c, (ag.block M (by omega) (by omega)).trans hcs.m, row_at hcs.row (fun k hk => by
        have hk : J = k := by cases hk; rfl
        subst hk
        exact ag.block J hJn.1 hJn.2), hcs.cb, hcs.mb, hcs.ne, by rw [ag.size]; exact hcs.le⟩
    · exact ⟨ag.os.trans (hfr.os.trans h13.os), ag.tape.trans (hfr.tape.trans h13.tape), ag.output.trans (hfr.output.trans h13.output), by rw [ag.size]; exact Nat.le_trans h13.size hz4, fun b hb hA => (ag.block b (by omega) (by omega)).trans ((hfr.block b (by omega) hA).trans (h13.block b hb))⟩
end Go.Proofs.YtahgljglleeloaaGreatDoor

/- The law's definition in memory: what its blocks hold. -/
namespace Go.Proofs.YtahgljglleeloaaGreatDoor
open Go.RowKit Go.Shelf Go.Maps SetM PropsM RxM

def x8 : Nd := .mk 2 none0 [one1 97, one1 98] 0 0
def y8 : Nd := .mk 1 (Tells [(75, 77)]) [] 0 0
def t8 : Nd := .mk 3 none0 [x8, y8] 0 0
def cx8 : Nd := .mk 2 (ClosedK none0) [.mk 1 (ClosedK (Tells [(97, 97)])) [] 0 0, .mk 1 (ClosedK (Tells [(98, 98)])) [] 0 0] 0 0
def c8 : Nd := .mk 3 (ClosedK none0) [cx8, .mk 1 (ClosedK (Tells [(75, 77)])) [] 0 0] 0 0
def D8 : List Df := [([68], t8, c8)]
theorem one_set {c d : Int} (h0 : 0 ≤ c) (h1 : c ≤ d) (h2 : d ≤ 200) : IsSet [(c, d)] (Tells [(c, d)]) := by
  refine ⟨⟨h1, by simp, trivial⟩, fun r => ⟨fun h => ⟨?_, h⟩, fun h => h.2⟩⟩
  obtain ⟨s, hs, h3, h4⟩ := h
  have : s = (c, d) := by simpa using hs
  subst this
  unfold Sc
  dsimp only at h3 h4
  omega
theorem open_row {W : World} {A : Nat → Prop} {h k : Nat} {v : Value} {K : Int → Prop} {a b : Nd} {mn mx : Int} (hn : NIs W A (h + 1) v (.mk k K [a, b] mn mx)) :
    ∃ (sp : Option Addr) (sl : List Sp) (sc g kc : Nat) (cs : Array Value) (u1 u2 : Value), v = .agg #[.int .u8 k, .slice sp sl.length sc, .slice (some ⟨g, 0, none⟩) 2 kc, .int .i64 mn, .int .i64 mx] ∧ IsSet sl K ∧ W.heap[g]? = some (.cells cs 27 (0, 0)) ∧ cs.toList.take 10 = kidParts u1 ++ kidParts u2 ∧ NIs W A h u1 a ∧ NIs W A h u2 b := by
  obtain ⟨sp, sl, sc, kp, kc, rfl, hK, hl, hs, hz, ha, hk0, hk1⟩ := hn
  obtain ⟨g, cs, us, rfl, hA, hb, h1, h2, h3⟩ := hk1 (by simp)
  match us, h1 with
  | [u1, u2], _ => exact ⟨sp, sl, sc, g, kc, cs, u1, u2, rfl, hK, hb, by simpa using h2, h3 0 (by simp) u1 rfl, h3 1 (by simp) u2 rfl⟩
theorem open_leaf {W : World} {A : Nat → Prop} {h : Nat} {v : Value} {c d : Int} (h0 : 0 ≤ c) (h1 : c ≤ d) (h2 : d ≤ 200) (hn : NIs W A h v (.mk 1 (Tells [(c, d)]) [] 0 0)) :
    ∃ (p : Option Addr) (n : Nat), v = .agg #[.int .u8 1, .slice p 1 n, .slice none 0 0, .int .i64 0, .int .i64 0] ∧ Sl W p [(c, d)] := by
  cases h with
  | zero => exact hn.elim
  | succ h =>
    obtain ⟨sp, sl, sc, kp, kc, rfl, hK, hl, hs, hz, ha, hk0, hk1⟩ := hn
    have e : sl = [(c, d)] := hK.eq (one_set h0 h1 h2) (fun _ => Iff.rfl)
    subst e
    obtain ⟨rfl, rfl⟩ := hk0 rfl
    exact ⟨sp, sc, rfl, hs⟩
theorem set_none {sl : List Sp} (h : IsSet sl none0) : sl = [] := h.eq none_set (fun _ => Iff.rfl)
theorem cell10 {W : World} {g : Nat} {G : Array Value} {L : List Value} {t : TypeId} (hb : W.heap[g]? = some (.cells G t (0, 0))) (ht : G.toList.take 10 = L) (i : Nat) (hi : i < 10) : W.cell? ⟨g, i, none⟩ = L[i]? := by
  rw [cell_of_row W g i _ _ _ hb, ← ht, List.getElem?_take_of_lt hi, Array.getElem?_toList]
/-- The definition as it lies in memory. -/
structure In8 (W : World) (v : Value) (g1 g2 kc kc1 : Nat) (sp sp1 l2p pa pb : Option Addr) (sc sc1 l2c ca cb : Nat) (G1 G2 : Array Value) : Prop where
  v : v = .agg #[.int .u8 3, .slice sp 0 sc, .slice (some ⟨g1, 0, none⟩) 2 kc, .int .i64 0, .int .i64 0]
  b1 : W.heap[g1]? = some (.cells G1 27 (0, 0))
  t1 : G1.toList.take 10 = [.int .u8 2, .slice sp1 0 sc1, .slice (some ⟨g2, 0, none⟩) 2 kc1, .int .i64 0, .int .i64 0, .int .u8 1, .slice l2p 1 l2c, .slice none 0 0, .int .i64 0, .int .i64 0]
  b2 : W.heap[g2]? = some (.cells G2 27 (0, 0))
  t2 : G2.toList.take 10 = [.int .u8 1, .slice pa 1 ca, .slice none 0 0, .int .i64 0, .int .i64 0, .int .u8 1, .slice pb 1 cb, .slice none 0 0, .int .i64 0, .int .i64 0]
  s2 : Sl W l2p [(75, 77)]
  sa : Sl W pa [(97, 97)]
  sb : Sl W pb [(98, 98)]
theorem In8.ne {W : World} {v : Value} {g1 g2 kc kc1 : Nat} {sp sp1 l2p pa pb : Option Addr} {sc sc1 l2c ca cb : Nat} {G1 G2 : Array Value} (h : In8 W v g1 g2 kc kc1 sp sp1 l2p pa pb sc sc1 l2c ca cb G1 G2) : g2 ≠ g1 := by
  intro e
  subst e
  have h1 := cell10 h.b1 h.t1 0 (by omega)
  have h2 := cell10 h.b2 h.t2 0 (by omega)
  rw [h1] at h2
  simp at h2
theorem open8 {W : World} {A : Nat → Prop} {v : Value} (h : NV W A v t8) : ∃ (g1 g2 kc kc1 : Nat) (sp sp1 l2p pa pb : Option Addr) (sc sc1 l2c ca cb : Nat) (G1 G2 : Array Value), In8 W v g1 g2 kc kc1 sp sp1 l2p pa pb sc sc1 l2c ca cb G1 G2 := by
  obtain ⟨n, hn⟩ := h
  cases n with
  | zero => exact hn.elim
  | succ n =>
    obtain ⟨sp, sl, sc, g1, kc, G1, u1, u2, rfl, hK, hb1, ht1, n1, n2⟩ := open_row hn
    cases set_none hK
    obtain ⟨l2p, l2c, rfl, s2⟩ := open_leaf (by omega) (by omega) (by omega) n2
    cases n with
    | zero => exact n1.elim
    | succ n =>
      obtain ⟨sp1, sl1, sc1, g2, kc1, G2, w1, w2, rfl, hK1, hb2, ht2, m1, m2⟩ := open_row n1
      cases set_none hK1
      obtain ⟨pa, ca, rfl, sa⟩ := open_leaf (by omega) (by omega) (by omega) m1
      obtain ⟨pb, cb, rfl, sb⟩ := open_leaf (by omega) (by omega) (by omega) m2
      exact ⟨g1, g2, kc, kc1, sp, sp1, l2p, pa, pb, sc, sc1, l2c, ca, cb, G1, G2, rfl, hb1, ht1, hb2, ht2, s2, sa, sb⟩
theorem In8.kept {W W' : World} {v : Value} {g1 g2 kc kc1 : Nat} {sp sp1 l2p pa pb : Option Addr} {sc sc1 l2c ca cb : Nat} {G1 G2 : Array Value} (h : In8 W v g1 g2 kc kc1 sp sp1 l2p pa pb sc sc1 l2c ca cb G1 G2) (hb : Below W.heap.size W W') : In8 W' v g1 g2 kc kc1 sp sp1 l2p pa pb sc sc1 l2c ca cb G1 G2 :=
  ⟨h.v, (hb.block g1 (Array.getElem?_eq_some_iff.1 h.b1).1).trans h.b1, h.t1, (hb.block g2 (Array.getElem?_eq_some_iff.1 h.b2).1).trans h.b2, h.t2, h.s2.step hb, h.sa.step hb, h.sb.step hb⟩
end Go.Proofs.YtahgljglleeloaaGreatDoor

/- The copier's steps: what stays, what is laid. -/
namespace Go.Proofs.YtahgljglleeloaaGreatDoor
open Go.RowKit Go.Shelf Go.Maps SetM PropsM RxM

theorem miss0 (g : Nat) (w : World) : MissAt #[] g w := find0 w g
theorem miss1 {w : World} {a b : Nat} {ca cb : Array Value} {ta tb : TypeId} (v : Value) (n : Nat) (hne : a ≠ b) (ha : w.heap[a]? = some (.cells ca ta (0, 0))) (hb : w.heap[b]? = some (.cells cb tb (0, 0))) : MissAt (#[].push { key := keyV b, val := v, born := n }) a w := find1 v n hne ha hb
/-- A copy's Set, in blocks that stay. -/
structure SetOk (W : World) (n : Nat) (P : Option Addr) (c : Nat) (out : List Sp) (K : Int → Prop) (L : List Nat) : Prop where
  set : IsSet out K
  len : out.length ≤ 100000000
  sl : Sl W P out
  nil : P = none → c = 0
  blk : ∀ a, P = some a → out ≠ [] → n ≤ a.block ∧ a.block ∉ L
theorem SetOk.fr {W W' : World} {n c : Nat} {P : Option Addr} {out : List Sp} {K : Int → Prop} {L : List Nat} (h : SetOk W n P c out K L) (hf : Fr (fun k => k ∈ L) W W') : SetOk W' n P c out K L :=
  ⟨h.set, h.len, h.sl.at (fun a ha hne hlt => hf.block _ hlt (h.blk a ha hne).2) hf.size, h.nil, h.blk⟩
theorem Fr.trans {A : Nat → Prop} {W W1 W2 : World} (h : Fr A W W1) (h2 : Fr A W1 W2) : Fr A W W2 :=
  ⟨h2.os.trans h.os, h2.tape.trans h.tape, h2.output.trans h.output, Nat.le_trans h.size h2.size, fun k hk hA => (h2.block k (Nat.lt_of_lt_of_le hk h.size) hA).trans (h.block k hk hA)⟩
theorem Fr.imp {A B : Nat → Prop} {W W1 : World} (h : Fr A W W1) (hAB : ∀ k, A k → B k) : Fr B W W1 := ⟨h.os, h.tape, h.output, h.size, fun k hk hB => h.block k hk (fun hA => hB (hAB k hA))⟩
theorem Fr.of {A : Nat → Prop} {W W1 : World} (h : Below W.heap.size W W1) : Fr A W W1 := ⟨h.os, h.tape, h.output, h.size, fun k hk _ => h.block k hk⟩
theorem Fr.set {A : Nat → Prop} {W W1 : World} {b i : Nat} {v : Value} (h : W1 = W.setCell ⟨b, i, none⟩ v) (hA : A b) : Fr A W W1 := by
  subst h
  exact ⟨rfl, rfl, rfl, by rw [World.size_setCell]; exact Nat.le_refl _, fun k _ hk => Below.heap_setCell _ _ _ k (fun e => hk (by have e' : k = b := e; rw [e']; exact hA))⟩
theorem Fr.below {A : Nat → Prop} {W0 W W1 : World} {n : Nat} (h0 : Below n W0 W) (h : Fr A W W1) (hA : ∀ k, A k → n ≤ k) (hn : n ≤ W.heap.size) : Below n W0 W1 :=
  ⟨h.os.trans h0.os, h.tape.trans h0.tape, h.output.trans h0.output, Nat.le_trans h0.size h.size, fun k hk => (h.block k (by omega) (fun hAk => by have := hA k hAk; omega)).trans (h0.block k hk)⟩
theorem Cs.pop {W W1 : World} {C M base clk J cap : Nat} {es : Array MapEntry} {xs : List Value} (h : Cs W C M base es clk (.slice (some ⟨J, 0, none⟩) 1 cap) 1 xs) (hW : W1 = W.setCell ⟨C, 1, none⟩ (.slice (some ⟨J, 0, none⟩) 0 cap)) : Cs W1 C M base es clk (.slice (some ⟨J, 0, none⟩) 0 cap) 0 [] := by
  have hb : ∀ k, k ≠ C → W1.heap[k]? = W.heap[k]? := fun k hk => by rw [hW]; exact Below.heap_setCell _ _ _ k hk
  refine ⟨by rw [hW]; exact heap_setC W C _ _ h.c 1 _, (hb M (fun e => h.ne e.symm)).trans h.m, ⟨rfl, ?_⟩, h.cb, h.mb, h.ne, by rw [hW, World.size_setCell]; exact h.le⟩
  rcases h.row.2 with ⟨e, _⟩ | ⟨g, cap', cur, e, h2, h3, h4, h5, h6, h7⟩
  · cases e
  · cases e
    exact .inr ⟨J, cap, cur, rfl, h2, (hb J (by have := h.cb; omega)).trans h3, Nat.zero_le _, h5, h6, rfl⟩
theorem row_cells {W : World} {base J cap : Nat} {a b : Value} {t : TypeId} (h : W.ownsRow base t 2 (.slice (some ⟨J, 0, none⟩) 1 cap) 1 [a, b]) : (∃ cur, W.heap[J]? = some (.cells cur t (0, 0)) ∧ W.cell? ⟨J, 0, none⟩ = some a ∧ W.cell? ⟨J, 1, none⟩ = some b) ∧ 1 ≤ cap := by
  rcases h.2 with ⟨e, _⟩ | ⟨g, cap', cur, e, h2, h3, h4, h5, h6, h7⟩
  · cases e
  · cases e
    have h8 : ∀ i, i < 2 → W.cell? ⟨J, i, none⟩ = ([a, b] : List Value)[i]? := fun i hi => by
      rw [cell_of_row W J i _ _ _ h3, ← h7, List.getElem?_take_of_lt (by omega), Array.getElem?_toList]
    exact ⟨⟨cur, h3, h8 0 (by omega), h8 1 (by omega)⟩, h4⟩
theorem SetOk.ext {W : World} {n c : Nat} {P : Option Addr} {out : List Sp} {K : Int → Prop} {L L' : List Nat} (h : SetOk W n P c out K L) (hx : ∀ x ∈ L', x ∈ L ∨ W.heap.size ≤ x) : SetOk W n P c out K L' :=
  ⟨h.set, h.len, h.sl, h.nil, fun a ha hne => ⟨(h.blk a ha hne).1, fun hm => by
    rcases hx _ hm with hm | hm
    · exact (h.blk a ha hne).2 hm
    · have := h.sl.blk hne a ha
      omega⟩⟩
theorem SetOk.leaf {W : World} {n c : Nat} {P : Option Addr} {out : List Sp} {K : Int → Prop} {L : List Nat} {A : Nat → Prop} (h : SetOk W n P c out K L) (hA : ∀ b, n ≤ b → A b) :
    NIs W A 1 (.agg #[.int .u8 1, .slice P (List.length out) c, .slice none 0 0, .int .i64 0, .int .i64 0]) (.mk 1 K [] 0 0) :=
  ⟨P, out, c, none, 0, rfl, h.set, ⟨h.len, by simp⟩, h.sl, h.nil, fun a ha hne => hA _ (h.blk a ha hne).1, fun _ => ⟨rfl, rfl⟩, fun h => absurd rfl h⟩
theorem SetOk.row {W : World} {n c k m T : Nat} {P : Option Addr} {out : List Sp} {K : Int → Prop} {L : List Nat} {A : Nat → Prop} {u1 u2 : Value} {t1 t2 : Nd} {cs : Array Value} (h : SetOk W n P c out K L) (hA : ∀ b, n ≤ b → A b) (hn : n ≤ T)
    (hT : W.heap[T]? = some (.cells cs 27 (0, 0))) (hcs : cs.toList.take 10 = kidParts u1 ++ kidParts u2) (h1 : NIs W A m u1 t1) (h2 : NIs W A m u2 t2) :
    NIs W A (m + 1) (.agg #[.int .u8 k, .slice P (List.length out) c, .slice (some ⟨T, 0, none⟩) 2 2, .int .i64 0, .int .i64 0]) (.mk k K [t1, t2] 0 0) :=
  ⟨P, out, c, some ⟨T, 0, none⟩, 2, rfl, h.set, ⟨h.len, by simp⟩, h.sl, h.nil, fun a ha hne => hA _ (h.blk a ha hne).1, fun h => (by cases h), fun _ => ⟨T, cs, [u1, u2], rfl, hA T hn, hT, rfl, by simpa using hcs, fun i hi u hu => by
    match i, hi with
    | 0, _ => cases hu; exact h1
    | 1, _ => cases hu; exact h2
    | i + 2, h => exact absurd h (by simp)⟩⟩
/-- Five cells of a row have been written. -/
def put5o (W : World) (T o : Nat) (a b c d e : Value) : World := ((((W.setCell ⟨T, o, none⟩ a).setCell ⟨T, o + 1, none⟩ b).setCell ⟨T, o + 2, none⟩ c).setCell ⟨T, o + 3, none⟩ d).setCell ⟨T, o + 4, none⟩ e
theorem put5o_fr (W : World) (T o : Nat) (a b c d e : Value) : Fr (fun k => k = T) W (put5o W T o a b c d e) :=
  Fr.trans (Fr.set rfl rfl) (Fr.trans (Fr.set rfl rfl) (Fr.trans (Fr.set rfl rfl) (Fr.trans (Fr.set rfl rfl) (Fr.set rfl rfl))))
theorem put5o_size (W : World) (T o : Nat) (a b c d e : Value) : (put5o W T o a b c d e).heap.size = W.heap.size := by
  unfold put5o
  simp only [World.size_setCell]
def upd5 (cs : Array Value) (o : Nat) (a b c d e : Value) : Array Value := ((((cs.set! o a).set! (o + 1) b).set! (o + 2) c).set! (o + 3) d).set! (o + 4) e
theorem put5o_at {W : World} {T : Nat} {cs : Array Value} (o : Nat) (a b c d e : Value) (h : W.heap[T]? = some (.cells cs 27 (0, 0))) : (put5o W T o a b c d e).heap[T]? = some (.cells (upd5 cs o a b c d e) 27 (0, 0)) :=
  heap_setC _ _ _ _ (heap_setC _ _ _ _ (heap_setC _ _ _ _ (heap_setC _ _ _ _ (heap_setC W T _ _ h o a) (o + 1) b) (o + 2) c) (o + 3) d) (o + 4) e
theorem Cs.fr {W W' : World} {C M base clk ln T : Nat} {es : Array MapEntry} {lv : Value} {xs : List Value} (h : Cs W C M base es clk lv ln xs) (hf : Fr (fun k => k = T) W W') (hC : C ≠ T) (hM : M ≠ T) (hr : ∀ k, lv.ownBlock = some k → k ≠ T) : Cs W' C M base es clk lv ln xs :=
  ⟨(hf.block C (by have := h.cb; have := h.le; omega) hC).trans h.c, (hf.block M (by have := h.mb; have := h.le; omega) hM).trans h.m, row_at h.row (fun k hk => hf.block k (row_lt h.row hk).2 (hr k hk)), h.cb, h.mb, h.ne, Nat.le_trans h.le hf.size⟩
/-- Behind a round that met a new row. -/
def RelRow (n : Nat) (Y wc : World) (C M base T J1 g o : Nat) (cs : Array Value) (es : Array MapEntry) (clk kg : Nat) (k : Int) (K : Int → Prop) : Prop :=
  ∃ P1 c1 o1 T2 J2 cap2, Fr (fun k => k ∈ [C, M, T, J1]) Y wc ∧ SetOk wc n P1 c1 o1 K [C, M, T, J1, T2, J2] ∧ (Y.heap.size ≤ T2 ∧ T2 < wc.heap.size ∧ T2 ≠ J2 ∧ (J2 = J1 ∨ Y.heap.size ≤ J2)) ∧ wc.heap[T2]? = some (.cells z10 27 (0, 0)) ∧
    wc.heap[T]? = some (.cells (upd5 cs o (.int .u8 k) (.slice P1 (List.length o1) c1) (.slice (some ⟨T2, 0, none⟩) 2 2) (.int .i64 0) (.int .i64 0)) 27 (0, 0)) ∧
    Cs wc C M base (es.push { key := keyV g, val := .slice (some ⟨T2, 0, none⟩) 2 2, born := clk }) (clk + 1) (.slice (some ⟨J2, 0, none⟩) 1 cap2) 1 [.slice (some ⟨g, 0, none⟩) 2 kg, .slice (some ⟨T2, 0, none⟩) 2 2]
theorem rel_row {n C M base T J1 cap1 g o clk kg c1 T2 J2 cap2 : Nat} {Y Z w : World} {cs : Array Value} {es : Array MapEntry} {k : Int} {K : Int → Prop} {P1 : Option Addr} {o1 : List Sp} (hYZ : Below Y.heap.size Y Z) (hcs0 : Cs Y C M base es clk (.slice (some ⟨J1, 0, none⟩) 0 cap1) 0 []) (hJ1 : J1 < Y.heap.size)
    (hT : Y.heap[T]? = some (.cells cs 27 (0, 0))) (hTb : base ≤ T) (hTJ : T ≠ J1) (hn : n ≤ Y.heap.size)
    (i1 : IsSet o1 K) (n1 : o1.length ≤ 100000000) (s1 : Sl w P1 o1) (y1 : P1 = none → c1 = 0) (f1 : ∀ a, P1 = some a → o1 ≠ [] → Z.heap.size ≤ a.block ∧ a.block ≠ T2 ∧ a.block ≠ J2)
    (htj : Z.heap.size ≤ T2 ∧ T2 ≠ J2 ∧ ((Value.slice (some ⟨J1, 0, none⟩) 0 cap1).ownBlock = some J2 ∨ Z.heap.size ≤ J2)) (hT2 : w.heap[T2]? = some (.cells z10 27 (0, 0)))
    (hcs : Cs w C M base (es.push { key := keyV g, val := .slice (some ⟨T2, 0, none⟩) 2 2, born := clk }) (clk + 1) (.slice (some ⟨J2, 0, none⟩) (0 + 1) cap2) (0 + 1) ([] ++ [.slice (some ⟨g, 0, none⟩) 2 kg, .slice (some ⟨T2, 0, none⟩) 2 2])) (fr : Fr (fun k => k = C ∨ k = M ∨ (Value.slice (some ⟨J1, 0, none⟩) 0 cap1).ownBlock = some k) Z.drew w) :
    RelRow n Y (put5o w T o (.int .u8 k) (.slice P1 (List.length o1) c1) (.slice (some ⟨T2, 0, none⟩) 2 2) (.int .i64 0) (.int .i64 0)) C M base T J1 g o cs es clk kg k K := by
  have hzYZ := hYZ.size
  have hTl := (Array.getElem?_eq_some_iff.1 hT).1
  have hcb := hcs0.cb
  have hmb := hcs0.mb
  have hle := hcs0.le
  have hJJ : J2 = J1 ∨ Z.heap.size ≤ J2 := htj.2.2.imp (fun e => by cases e; rfl) id
  have hTw : w.heap[T]? = some (.cells cs 27 (0, 0)) := (fr.block T (by show T < Z.heap.size; omega) (fun h => by
    rcases h with h | h | h
    · omega
    · omega
    · have : J1 = T := by cases h; rfl
      omega)).trans ((hYZ.block T hTl).trans hT)
  have hfp := put5o_fr w T o (.int .u8 k) (.slice P1 (List.length o1) c1) (.slice (some ⟨T2, 0, none⟩) 2 2) (.int .i64 0) (.int .i64 0)
  have hzp := put5o_size w T o (.int .u8 k) (.slice P1 (List.length o1) c1) (.slice (some ⟨T2, 0, none⟩) 2 2) (.int .i64 0) (.int .i64 0)
  have hfw : Fr (fun k => k ∈ [C, M, T, J1]) Y w := Fr.trans (W1 := Z.drew) (Fr.of ⟨hYZ.os, hYZ.tape, hYZ.output, hYZ.size, hYZ.block⟩) (fr.imp (fun k h => by
    rcases h with rfl | rfl | h
    · simp
    · simp
    · have : J1 = k := by cases h; rfl
      subst this; simp))
  have hT2l := (Array.getElem?_eq_some_iff.1 hT2).1
  have hblk : ∀ b, b ≠ T → b < w.heap.size → (put5o w T o (.int .u8 k) (.slice P1 (List.length o1) c1) (.slice (some ⟨T2, 0, none⟩) 2 2) (.int .i64 0) (.int .i64 0)).heap[b]? = w.heap[b]? := fun b hb hl => hfp.block b hl hb
  refine ⟨P1, c1, o1, T2, J2, cap2, hfw.trans (hfp.imp (fun k h => by subst h; simp)), ⟨i1, n1, s1.at (fun a ha hne hlt => hblk _ (by have := f1 a ha hne; omega) hlt) (Nat.le_of_eq hzp.symm), y1, fun a ha hne => ?_⟩, ⟨by omega, by omega, htj.2.1, hJJ.imp id (fun h => by omega)⟩, (hblk T2 (by omega) hT2l).trans hT2, put5o_at o _ _ _ _ _ hTw, ?_⟩
  · have := f1 a ha hne
    refine ⟨by omega, fun hm => ?_⟩
    simp only [List.mem_cons, List.not_mem_nil, or_false] at hm
    omega
  · have hl := hcs.le
    exact ⟨(hblk C (by omega) (by omega)).trans hcs.c, (hblk M (by omega) (by omega)).trans hcs.m, row_at hcs.row (fun k hk => by
      have hk' := row_lt hcs.row hk
      have : J2 = k := by cases hk; rfl
      subst this
      exact hblk J2 (by omega) hk'.2), hcs.cb, hcs.mb, hcs.ne, by rw [hzp]; exact hl⟩
/-- Behind a round that met a leaf. -/
def RelLeaf (n : Nat) (Y wc : World) (T o : Nat) (cs : Array Value) (k : Int) (K : Int → Prop) (L : List Nat) : Prop :=
  ∃ P1 c1 o1, Fr (fun k => k = T) Y wc ∧ SetOk wc n P1 c1 o1 K L ∧ wc.heap[T]? = some (.cells (upd5 cs o (.int .u8 k) (.slice P1 (List.length o1) c1) (.slice none 0 0) (.int .i64 0) (.int .i64 0)) 27 (0, 0))
theorem rel_leaf {n T o c1 : Nat} {Y Z w : World} {cs : Array Value} {k : Int} {K : Int → Prop} {L : List Nat} {P1 : Option Addr} {o1 : List Sp} (hYZ : Below Y.heap.size Y Z) (hT : Y.heap[T]? = some (.cells cs 27 (0, 0))) (hn : n ≤ Y.heap.size) (hL : ∀ x ∈ L, x < Y.heap.size)
    (i1 : IsSet o1 K) (n1 : o1.length ≤ 100000000) (s1 : Sl w P1 o1) (y1 : P1 = none → c1 = 0) (f1 : ∀ a, P1 = some a → Z.heap.size ≤ a.block) (b1 : Below Z.drew.heap.size Z.drew w) :
    RelLeaf n Y (put5o w T o (.int .u8 k) (.slice P1 (List.length o1) c1) (.slice none 0 0) (.int .i64 0) (.int .i64 0)) T o cs k K L := by
  have hzYZ := hYZ.size
  have hTl := (Array.getElem?_eq_some_iff.1 hT).1
  have hTw : w.heap[T]? = some (.cells cs 27 (0, 0)) := (b1.block T (by show T < Z.heap.size; omega)).trans ((hYZ.block T hTl).trans hT)
  have hfp := put5o_fr w T o (.int .u8 k) (.slice P1 (List.length o1) c1) (.slice none 0 0) (.int .i64 0) (.int .i64 0)
  have hzp := put5o_size w T o (.int .u8 k) (.slice P1 (List.length o1) c1) (.slice none 0 0) (.int .i64 0) (.int .i64 0)
  have hfw : Fr (fun k => k = T) Y w := Fr.trans (W1 := Z.drew) (Fr.of ⟨hYZ.os, hYZ.tape, hYZ.output, hYZ.size, hYZ.block⟩) (Fr.of b1)
  refine ⟨P1, c1, o1, hfw.trans hfp, ⟨i1, n1, s1.at (fun a ha hne hlt => hfp.block _ hlt (by have := f1 a ha; omega)) (Nat.le_of_eq hzp.symm), y1, fun a ha hne => ?_⟩, put5o_at o _ _ _ _ _ hTw⟩
  have := f1 a ha
  exact ⟨by omega, fun hm => by have := hL _ hm; omega⟩
/-- A cut by hand: six slots of scratch are forgotten. -/
def Frame6 (a a' : Act) : Prop := ∃ u38 u39 u40 u41 u42 u43, a' = (((((a.put (some 38) u38).put (some 39) u39).put (some 40) u40).put (some 41) u41).put (some 42) u42).put (some 43) u43
def CutQ (a : Act) (R : World → Prop) : Exit → Act → World → Prop
  | .normal, a', wc => Frame6 a a' ∧ R wc
  | _, _, _ => False
theorem wp_cutR {P : Program} {c : Code} {Q : Exit → Act → World → Prop} {a : Act} {w : World} (R : World → Prop) (h : c.wp P (CutQ a R) a w) (hq : ∀ a' wc, Frame6 a a' → R wc → Q .normal a' wc) : c.wp P Q a w :=
  Code.wp_mono (fun e a' wc hc => by
    cases e
    case normal => exact hq a' wc hc.1 hc.2
    all_goals exact hc.elim) h
end Go.Proofs.YtahgljglleeloaaGreatDoor
