/- The law's machines: edges and ways by nothing. -/
import Derived.Test.YtioahgklplbinaaDoorDE
import Derived.Test.YtioahgklplbinaaDoorDB
namespace Go.Proofs.YtioahgklplbinaaDoor
open Go.RowKit Go.Shelf SetM NfaM SimM WrM
theorem row_eta {r : Rw} {e : TypeId} {s n : Nat} {p : Prop} (h : r.e = e ∧ r.s = s ∧ r.n = n ∧ p) : r = ⟨e, s, r.v, n, r.xs⟩ := by
  obtain ⟨h1, h2, h3, _⟩ := h
  cases r
  simp only at h1 h2 h3
  subst h1 h2 h3
  rfl
/-- A machine of the law that lies in the box gB, its rows' blocks apart from it; so many arcs of it are laid. -/
structure MS (W : World) (n gB gE gF : Nat) (vT : Value) (r : Nat) (m : Mc) (B : Nat → Prop) (R : Nat → Rw) (w : World) : Prop where
  mv : MVx w B R m
  sd : Sd n r m
  v0 : (R 0).v = .slice (some ⟨gE, 0, none⟩) n n
  v1 : (R 1).v = .slice (some ⟨gF, 0, none⟩) n n
  v2 : (R 2).v = vT
  far : ∀ k, Has (3 + 2 * n) R k → W.heap.size < k ∧ k ≠ gB
  box : w.heap[gB]? = some (.cells #[.slice (some ⟨gE, 0, none⟩) n n, .slice (some ⟨gF, 0, none⟩) n n, vT] 30 (0, 0))
  res : w.heap[W.heap.size]? = some (.cells #[.slice none 0 0, .slice none 0 0, .slice none 0 0] 30 (0, 0))
  gb : W.heap.size < gB
  bel : Below W.heap.size W w
  fb : ∀ k, B k → W.heap.size < k
theorem ML.toMS {W w : World} {n gB gE gF : Nat} {vT : Value} {tg : List Int} (h : ML W n gB gE gF vT tg w) (hl : tg.length = n) (ht : ∀ t ∈ tg, -1 ≤ t) :
    MS W n gB gE gF vT 0 ⟨List.replicate n [], List.replicate n [], tg⟩ (fun _ => False) (strR n gE gF vT tg) w := by
  have hf := h.far
  have hT := h.t
  rw [hl] at hT
  have hm := mvx_start hl h.e h.f hT hf.2.2.2.2.2 (fun e => (h.ta gE e).2.2.1 rfl) (fun e => (h.ta gF e).2.2.2 rfl)
  refine ⟨hm, Sd.start hl ht, rfl, rfl, rfl, fun k hk => ?_, h.box, h.res, hf.1, h.bel, fun k h => h.elim⟩
  obtain ⟨i, _, hk⟩ := hk
  unfold strR at hk
  split at hk
  · obtain rfl := Option.some.inj hk; exact ⟨hf.2.1, Ne.symm hf.2.2.2.1⟩
  · split at hk
    · obtain rfl := Option.some.inj hk; exact ⟨hf.2.2.1, Ne.symm hf.2.2.2.2.1⟩
    · split at hk
      · exact ⟨(h.ta k hk).1, (h.ta k hk).2.1⟩
      · split at hk <;> cases hk
section
variable {W w : World} {n gB gE gF r : Nat} {vT : Value} {m : Mc} {B : Nat → Prop} {R : Nat → Rw}
theorem MS.tg (h : MS W n gB gE gF vT r m B R w) : m.tg.length = n := h.sd.tg
theorem MS.lt (h : MS W n gB gE gF vT r m B R w) {k : Nat} (hk : Has (3 + 2 * n) R k) : k < w.heap.size := h.mv.fam.lt (by rw [h.tg]; exact hk)
theorem MS.step {w' : World} (h : MS W n gB gE gF vT r m B R w) (hb : Below w.heap.size w w') : MS W n gB gE gF vT r m B R w' :=
  ⟨h.mv.kept hb.size (fun k hk => hb.block k (hk.elim (fun hk => h.mv.fam.lt hk) (fun hk => h.mv.bl k hk))), h.sd, h.v0, h.v1, h.v2, h.far, (hb.block _ (Array.getElem?_eq_some_iff.1 h.box).1).trans h.box, (hb.block _ (Array.getElem?_eq_some_iff.1 h.res).1).trans h.res, h.gb, h.bel.trans (hb.mono h.bel.size), h.fb⟩
/-- The cell of the row of rows that belongs to a state. -/
theorem MS.atF (h : MS W n gB gE gF vT r m B R w) {i : Nat} (hi : i < n) : w.cell? ⟨gF, i, none⟩ = some (R (4 + 2 * i)).v ∧ w.frozen? ⟨gF, i, none⟩ = false := by
  have ho := h.mv.fam.own 1 (by omega)
  have q := row_eta h.mv.r1
  rw [h.v1, h.tg] at q
  rw [q] at ho
  have ha := ho.at hi
  refine ⟨ha.1.trans ?_, ha.2⟩
  rw [h.mv.r1.2.2.2, h.tg]
  simp [hi]
theorem MS.atE (h : MS W n gB gE gF vT r m B R w) {i : Nat} (hi : i < n) : w.cell? ⟨gE, i, none⟩ = some (R (3 + 2 * i)).v ∧ w.frozen? ⟨gE, i, none⟩ = false := by
  have ho := h.mv.fam.own 0 (by omega)
  have q := row_eta h.mv.r0
  rw [h.v0, h.tg] at q
  rw [q] at ho
  have ha := ho.at hi
  refine ⟨ha.1.trans ?_, ha.2⟩
  rw [h.mv.r0.2.2.2, h.tg]
  simp [hi]
/-- Behind an append to one of the rows: the box and the other rows are as they were. -/
theorem MS.mid {w1 : World} (h : MS W n gB gE gF vT r m B R w) {j : Nat} (hj : j < 3 + 2 * n) (hg : w.grownBy w1 (R j).v.ownBlock) :
    w1.heap[gB]? = w.heap[gB]? ∧ ∀ i, i < 3 + 2 * n → i ≠ j → ∀ k, (R i).v.ownBlock = some k → w1.heap[k]? = w.heap[k]? :=
  ⟨hg.block _ (Array.getElem?_eq_some_iff.1 h.box).1 (fun e => (h.far gB ⟨j, hj, e.symm⟩).2 rfl), fun i hi hne k hk => hg.block k (h.lt ⟨i, hi, hk⟩) (fun e => h.mv.fam.apart i j (by rw [h.tg]; exact hi) (by rw [h.tg]; exact hj) hne k hk e.symm)⟩
/-- A way by nothing, laid. -/
theorem MS.free {w1 : World} (h : MS W n gB gE gF vT r m B R w) {i g p l : Nat} {t : Int} (hi : i < n) (h0 : 0 ≤ t) (h1 : t < (n : Int)) (hl : l = (m.fr.getD i []).length)
    (hr : ((⟨3, 1, (R (4 + 2 * i)).v, l, (m.fr.getD i []).map (.int .i64)⟩ : Rw).more g p [.int .i64 t]).ok w1) (hg : w.grownBy w1 (R (4 + 2 * i)).v.ownBlock) (ha : (R (4 + 2 * i)).v.ownBlock = some g ∨ g = w.heap.size) :
    ∃ R', MS W n gB gE gF vT (r + 1) (frF m i t) B R' (w1.setCell ⟨gF, i, none⟩ (.slice (some ⟨g, 0, none⟩) (l + 1) p)) := by
  subst hl
  have ht := h.tg
  have hm := h.mv.free (t := t) (by rw [ht]; exact hi) hg hr rfl ha ⟨rfl, rfl, rfl, by show _ ++ _ = _; rw [List.map_append]; rfl⟩ (by rw [h.v1, ht])
  obtain ⟨m1, m2, m3⟩ := hm
  rw [ht] at m2 m3
  have hz := hg.size
  have hsz := h.bel.size
  have hgb := h.gb
  refine ⟨_, m1, h.sd.free hi h0 h1, by rw [upd_other _ _ (by omega), upd_other _ _ (by omega)]; exact h.v0, by rw [upd_same]; exact h.v1, by rw [upd_other _ _ (by omega), upd_other _ _ (by omega)]; exact h.v2, fun k hk => ?_, (m3 _ (Array.getElem?_eq_some_iff.1 h.box).1 (fun hh => (h.far _ hh).2 rfl)).trans h.box, (m3 _ (Array.getElem?_eq_some_iff.1 h.res).1 (fun hh => by have := (h.far _ hh).1; omega)).trans h.res, h.gb,
    ⟨hg.os.trans h.bel.os, hg.tape.trans h.bel.tape, hg.output.trans h.bel.output, by rw [World.size_setCell]; omega, fun k hk => (m3 k (by omega) (fun hh => by have := (h.far _ hh).1; omega)).trans (h.bel.block k hk)⟩, h.fb⟩
  rcases m2 k hk with hh | hh
  · exact h.far k hh
  · have := (Array.getElem?_eq_some_iff.1 h.box).1
    have := (Array.getElem?_eq_some_iff.1 h.res).1
    omega
/-- An edge, laid; its set lies in blocks that are the machine's, or new. -/
theorem MS.edge {w1 : World} (h : MS W n gB gE gF vT r m B R w) {i g p l : Nat} {t : Int} {a b : Value} {sl : List Sp} (hi : i < n) (h0 : 0 ≤ t) (h1 : t < (n : Int)) (hl : l = (m.ed.getD i []).length) (hs : isSetF 0 sl = true) (hsl : sl.length ≤ 1000)
    (hE : EdC w B [a, b] [(t, sl)]) (hr : ((⟨47, 2, (R (3 + 2 * i)).v, l, (R (3 + 2 * i)).xs⟩ : Rw).more g p [a, b]).ok w1) (hg : w.grownBy w1 (R (3 + 2 * i)).v.ownBlock) (ha : (R (3 + 2 * i)).v.ownBlock = some g ∨ g = w.heap.size) :
    ∃ R', MS W n gB gE gF vT (r + 1) (edF m i t sl) B R' (w1.setCell ⟨gE, i, none⟩ (.slice (some ⟨g, 0, none⟩) (l + 1) p)) := by
  subst hl
  have ht := h.tg
  have hm := h.mv.edge (t := t) (sl := sl) (by rw [ht]; exact hi) hg hr rfl ha ⟨rfl, rfl, rfl, rfl⟩ hE (by rw [h.v0, ht])
  obtain ⟨m1, m2, m3⟩ := hm
  rw [ht] at m2 m3
  have hz := hg.size
  have hsz := h.bel.size
  have hgb := h.gb
  refine ⟨_, m1, h.sd.edge hi h0 h1 hs hsl, by rw [upd_same]; exact h.v0, by rw [upd_other _ _ (by omega), upd_other _ _ (by omega)]; exact h.v1, by rw [upd_other _ _ (by omega), upd_other _ _ (by omega)]; exact h.v2, fun k hk => ?_, (m3 _ (Array.getElem?_eq_some_iff.1 h.box).1 (fun hh => (h.far _ hh).2 rfl)).trans h.box, (m3 _ (Array.getElem?_eq_some_iff.1 h.res).1 (fun hh => by have := (h.far _ hh).1; omega)).trans h.res, h.gb,
    ⟨hg.os.trans h.bel.os, hg.tape.trans h.bel.tape, hg.output.trans h.bel.output, by rw [World.size_setCell]; omega, fun k hk => (m3 k (by omega) (fun hh => by have := (h.far _ hh).1; omega)).trans (h.bel.block k hk)⟩, h.fb⟩
  rcases m2 k hk with hh | hh
  · exact h.far k hh
  · have := (Array.getElem?_eq_some_iff.1 h.box).1
    have := (Array.getElem?_eq_some_iff.1 h.res).1
    omega
/-- What comes out, read from the result's variable. -/
theorem MS.done (h : MS W n gB gE gF vT r m B R w) (h1 : 1 ≤ n) (h2 : n ≤ 12) (hr : r ≤ 1000) {pT : Option Addr} {cT : Nat} (hv : vT = .slice pT n cT) (a b c : Value) :
    MachV (put3 w W.heap.size a b c) (some ⟨gE, 0, none⟩) (some ⟨gF, 0, none⟩) pT n n n m ∧ sndM m = true ∧ n ≤ 12 ∧ Below W.heap.size W (put3 w W.heap.size a b c) := by
  have hk := h.mv.kept (W' := put3 w W.heap.size a b c) (by rw [put3_size]; exact Nat.le_refl _) (fun k hk => put3_other _ _ _ _ _ _ (fun e => by
    rcases hk with hk | hk
    · rw [h.tg] at hk; have := (h.far k hk).1; omega
    · have := h.fb k hk; omega))
  exact ⟨⟨hk.toMR (by rw [h.v0, h.tg]) (by rw [h.v1, h.tg]) (by rw [h.v2, hv, h.tg]), h.sd.ed.symm, h.sd.fr.symm, h.sd.tg.symm, h.sd.bd hr⟩, h.sd.snd h1 (by omega), h2,
    ⟨h.bel.os, h.bel.tape, h.bel.output, by rw [put3_size]; exact h.bel.size, fun k hk => by rw [put3_other _ _ _ _ _ _ (by omega)]; exact h.bel.block k hk⟩⟩
end
theorem EdC.more {W : World} {B B' : Nat → Prop} (hb : ∀ k, B k → B' k) : ∀ {cs : List Value} {es : List (Int × List Sp)}, EdC W B cs es → EdC W B' cs es
  | [], [], _ => trivial
  | _ :: _ :: cs, e :: es, h => by
    obtain ⟨⟨sp, sc, h1, h2, h3, h4, h5, h6⟩, h7⟩ := h
    exact ⟨⟨sp, sc, h1, h2, h3, h4, h5, fun hne x hx => hb _ (h6 hne x hx)⟩, EdC.more hb h7⟩
  | [], _ :: _, h => h.elim
  | [_], [], h => h.elim
  | [_], _ :: _, h => h.elim
  | _ :: _ :: _, [], h => h.elim
theorem MS.wide {W w : World} {n gB gE gF r : Nat} {vT : Value} {m : Mc} {B B' : Nat → Prop} {R : Nat → Rw} (h : MS W n gB gE gF vT r m B R w) (hb : ∀ k, B k → B' k) (hn : ∀ k, Has (3 + 2 * n) R k → ¬ B' k) (hl : ∀ k, B' k → k < w.heap.size) (hf : ∀ k, B' k → W.heap.size < k) :
    MS W n gB gE gF vT r m B' R w :=
  { h with
    mv := { h.mv with nb := by rw [h.tg]; exact hn, bl := hl, re := fun i hi => ⟨(h.mv.re i hi).1, (h.mv.re i hi).2.1, (h.mv.re i hi).2.2.1, (h.mv.re i hi).2.2.2.more hb⟩ }
    fb := hf }
theorem MS.same {W w : World} {n gB gE gF r : Nat} {vT : Value} {m : Mc} {B : Nat → Prop} {R : Nat → Rw} (h : MS W n gB gE gF vT r m B R w) : MS W n gB gE gF vT (r + 1) m B R w := { h with sd := h.sd.mono (Nat.le_succ r) }
/-- Behind a call that made a set: the machine's sets may lie in what is new. -/
theorem MS.called {W w w' : World} {n gB gE gF r : Nat} {vT : Value} {m : Mc} {B : Nat → Prop} {R : Nat → Rw} (h : MS W n gB gE gF vT r m B R w) (hb : Below w.heap.size w w') : MS W n gB gE gF vT r m (fun k => B k ∨ (w.heap.size ≤ k ∧ k < w'.heap.size)) R w' := by
  have hs := hb.size
  refine (h.step hb).wide (fun k hk => .inl hk) (fun k hk hh => ?_) (fun k hk => ?_) (fun k hk => ?_)
  · rcases hh with hh | hh
    · exact h.mv.nb k (by rw [h.tg]; exact hk) hh
    · have := h.lt hk; omega
  · rcases hk with hk | hk
    · have := h.mv.bl k hk; omega
    · exact hk.2
  · rcases hk with hk | hk
    · exact h.fb k hk
    · have := (Array.getElem?_eq_some_iff.1 h.res).1; omega
theorem infoEd : (Tryd.prog.info? 47).map (fun i => (i.zero, i.size, i.bytes)) = some (some (.agg #[.int .i64 0, .slice none 0 0]), 2, 32) := by kernel_rfl
/-- Behind the call that made an edge's set, and behind the making of the edge: what lies where; what comes of the append. -/
structure EdgeAt (W : World) (n gB gE gF : Nat) (vT : Value) (q i l : Nat) (vr : Value) (xr : List Value) (c0 c1 : Value) (w3 X : World) : Prop where
  box : w3.heap[gB]? = some (.cells #[.slice (some ⟨gE, 0, none⟩) n n, .slice (some ⟨gF, 0, none⟩) n n, vT] 30 (0, 0))
  at3 : w3.cell? ⟨gE, i, none⟩ = some vr ∧ w3.frozen? ⟨gE, i, none⟩ = false
  boxX : X.heap[gB]? = some (.cells #[.slice (some ⟨gE, 0, none⟩) n n, .slice (some ⟨gF, 0, none⟩) n n, vT] 30 (0, 0))
  atX : X.cell? ⟨gE, i, none⟩ = some vr ∧ X.frozen? ⟨gE, i, none⟩ = false
  ok : (⟨47, 2, vr, l, xr⟩ : Rw).ok X
  fin : ∀ (g p : Nat) (w1 : World), ((⟨47, 2, vr, l, xr⟩ : Rw).more g p [c0, c1]).ok w1 → X.grownBy w1 vr.ownBlock → (vr.ownBlock = some g ∨ g = X.heap.size) →
    (∃ m B R, MS W n gB gE gF vT (q + 1) m B R (w1.setCell ⟨gE, i, none⟩ (.slice (some ⟨g, 0, none⟩) (l + 1) p))) ∧ w1.heap[gB]? = some (.cells #[.slice (some ⟨gE, 0, none⟩) n n, .slice (some ⟨gF, 0, none⟩) n n, vT] 30 (0, 0)) ∧ w1.cell? ⟨gE, i, none⟩ = some vr ∧ w1.frozen? ⟨gE, i, none⟩ = false
theorem MS.edgeAt {W w2 w3 : World} {n gB gE gF q i l lo c3 : Nat} {vT vr : Value} {xr : List Value} {m : Mc} {B : Nat → Prop} {R : Nat → Rw} {t : Int} {Q : Option Addr} {out : List Sp} (h : MS W n gB gE gF vT q m B R w2) (hi : i < n) (h0 : 0 ≤ t) (h1 : t < (n : Int))
    (hvr : vr = (R (3 + 2 * i)).v) (hl : l = (m.ed.getD i []).length) (hxr : xr = (R (3 + 2 * i)).xs) (hlo : lo = out.length) (hs : isSetF 0 out = true) (hl8 : out.length ≤ 1000) (hsl : Sl w3 Q out) (hcap : Q = none → c3 = 0) (hnew : ∀ a, Q = some a → w2.heap.size ≤ a.block) (hb : Below w2.heap.size w2 w3) :
    EdgeAt W n gB gE gF vT q i l vr xr (.int .i64 t) (.slice Q lo c3) w3 (w3.alloc (.cells #[.int .i64 t, .slice Q lo c3] 47)) := by
  have hc := h.called hb
  have hbx : Below w3.heap.size w3 (w3.alloc (.cells #[.int .i64 t, .slice Q lo c3] 47)) := (Below.refl _ _).alloc (Nat.le_refl _) _
  have hx := hc.step hbx
  subst hvr
  refine ⟨hc.box, hc.atE hi, hx.box, hx.atE hi, ?_, fun g p w1 k1 k2 k3 => ?_⟩
  · have he := hx.mv.re i (by rw [hx.tg]; exact hi)
    have ho := hx.mv.fam.own (3 + 2 * i) (by rw [hx.tg]; omega)
    rw [row_eta ⟨he.1, he.2.1, he.2.2.1, trivial⟩] at ho
    rw [hl, hxr]
    exact ho
  · subst hxr
    have hE : EdC (w3.alloc (.cells #[.int .i64 t, .slice Q lo c3] 47)) (fun k => B k ∨ (w2.heap.size ≤ k ∧ k < w3.heap.size)) [.int .i64 t, .slice Q lo c3] [(t, out)] := by
      refine ⟨⟨Q, c3, rfl, by rw [hlo], by show out.length ≤ 100000; omega, Sl.step hsl hbx, hcap, fun hne x hx => ?_⟩, trivial⟩
      obtain ⟨b, o, e, hlt, _⟩ := hsl hne
      have := hnew x hx
      rw [hx] at e
      obtain rfl := Option.some.inj e
      exact .inr ⟨this, hlt⟩
    obtain ⟨R', hR'⟩ := hx.edge hi h0 h1 hl hs hl8 hE k1 k2 k3
    have hmid := hx.mid (j := 3 + 2 * i) (by omega) k2
    have hbf := hmid.2 0 (by omega) (by omega) gE (by rw [hx.v0]; rfl)
    have hat := hx.atE hi
    exact ⟨⟨_, _, R', hR'⟩, hmid.1.trans hx.box, (World.cell?_of_block (a := ⟨gE, i, none⟩) hbf).trans hat.1, (World.frozen?_of_block (a := ⟨gE, i, none⟩) hbf).trans hat.2⟩
theorem wide_made {cs : List Int} (h : ∀ c ∈ cs, 0 ≤ c) : Wide (makeF cs) := fun s hm => by
  have hc : ∀ i : Nat, 0 ≤ cs[i]?.getD 0 := fun i => by
    rcases Nat.lt_or_ge i cs.length with hi | hi
    · rw [List.getElem?_eq_getElem hi]; exact h _ (List.getElem_mem hi)
    · rw [List.getElem?_eq_none hi]; exact Int.le_refl _
  have key : ∀ k, ∀ s ∈ mkTo cs k, -9223372036854775808 ≤ s.2 := by
    intro k
    induction k with
    | zero => intro s hs; simp [mkTo] at hs
    | succ j ih =>
      intro s hs
      rw [mkTo_succ, List.mem_append, List.mem_singleton] at hs
      rcases hs with hs | rfl
      · exact ih s hs
      · have h1 := (placeF_in _ (hc (2 * j))).1
        unfold pairF; dsimp only
        have h2 : 0 ≤ cs[2 * j + 1]?.getD 0 % 40 := by omega
        omega
  exact key _ s hm

theorem made_len (cs : List Int) : (makeF cs).length ≤ 30 := by unfold makeF; rw [mkTo_len]; unfold mkN; omega
/-- Arcs that came in: from, to, set, free. -/
def AsR (W : World) (A : Option Addr) (l : List (Int × Int × List Int × Bool)) : Prop := ∀ j (h : j < l.length), ∃ b off sp sc, A = some ⟨b, off, none⟩ ∧ b < W.heap.size ∧ W.cell? ⟨b, off + j * 4, none⟩ = some (.int .u8 l[j].1) ∧ W.cell? ⟨b, off + j * 4 + 1, none⟩ = some (.int .u8 l[j].2.1) ∧
  W.cell? ⟨b, off + j * 4 + 2, none⟩ = some (.slice sp l[j].2.2.1.length sc) ∧ W.cell? ⟨b, off + j * 4 + 3, none⟩ = some (.bool l[j].2.2.2) ∧ (0 ≤ l[j].1 ∧ l[j].1 ≤ 255) ∧ (0 ≤ l[j].2.1 ∧ l[j].2.1 ≤ 255) ∧ U16s W.heap.size W sp l[j].2.2.1 ∧ l[j].2.2.1.length ≤ 9223372036854775807
end Go.Proofs.YtioahgklplbinaaDoor
