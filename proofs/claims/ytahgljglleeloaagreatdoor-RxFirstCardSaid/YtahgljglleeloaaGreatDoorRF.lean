/- RClass, RRow, RJoin, in one text. -/
import Derived.Test.YtahgljglleeloaaGreatDoorRItem
import Derived.Deep.AppendLies
/- The reader reads items in brackets. -/
namespace Go.Proofs.YtahgljglleeloaaGreatDoor
open Go.RowKit Go.Shelf Go.Maps SetM PropsM RxM
variable {R : Nat} {W : World} {s : ByteArray} {dv : Value} {rest : List Int} {d : Nat} {cl : Bool}

/-- The value is spans that tell what K says, in memory from n on. -/
def clsV (n : Nat) (K : Int → Prop) (v : Value) (W : World) : Prop :=
  ∃ P c l, v = .slice P (List.length l) c ∧ Sl W P l ∧ (P = none → c = 0) ∧ (∀ x, P = some x → n ≤ x.block) ∧ (∀ r, Tells l r ↔ K r) ∧ l.length ≤ 30000
theorem classF_eq (t : List Int) : classF t = match classL 201 [] (if at1 94 t then t.tail else t) with
    | .err e x => .err e x
    | .ok l r => .ok (if at1 94 t then notK (Tells l) else Tells l) r := by
  unfold classF
  cases at1 94 t with
  | true => rfl
  | false => rfl
/-- Only the reader and a row of the call's own change. -/
theorem Gr.row {R base : Nat} {W U U' : World} {v : Value} {n : Nat} {xs : List Value} {t : TypeId} {k : Nat} (hg : Gr R W U) (hb : W.heap.size ≤ base) (hown : U.ownsRow base t k v n xs) (h : U.grownBy U' v.ownBlock) : Gr R W U' :=
  ⟨h.os.trans hg.os, h.tape.trans hg.tape, h.output.trans hg.output, Nat.le_trans hg.size h.size, fun i hi hr => by
    refine (h.block i (Nat.lt_of_lt_of_le hi hg.size) (fun e => ?_)).trans (hg.block i hi hr)
    have := (hown.lt i e.symm).1
    omega⟩
theorem Rd.row {base : Nat} {U' : World} {v : Value} {n : Nat} {xs : List Value} {t : TypeId} {k : Nat} (h : Rd R W s dv rest d cl) (hR : R < base) (hown : W.ownsRow base t k v n xs) (hg : W.grownBy U' v.ownBlock) : Rd R U' s dv rest d cl :=
  ⟨(hg.block R h.lt (fun e => by have := (hown.lt R e.symm).1; omega)).trans h.blk, h.tl, h.sc, h.small⟩
theorem own_gr {base : Nat} {W' : World} {v : Value} {n : Nat} {xs : List Value} {t : TypeId} {k : Nat} (h : W.ownsRow base t k v n xs) (hR : R < base) (hg : Gr R W W') : W'.ownsRow base t k v n xs :=
  h.kept hg (by
    cases ho : v.ownBlock with
    | none => exact .inl rfl
    | some i => exact .inr (fun e => by have := (h.lt i ho).1; cases e; omega))
theorem classL_succ (f : Nat) (acc : List Sp) (r : List Int) : classL (f + 1) acc r = if at1 93 r then .ok acc r.tail else match itemF r with
    | .err e x => .err e x
    | .ok l r1 => classL f (acc ++ l) r1 := rfl
theorem Rd.few (h : Rd R W s dv rest d cl) : rest.length ≤ 200 := by
  have h1 := h.len
  have h2 := h.small
  have h3 : ∀ l : List Int, (∀ c ∈ l, U.UtfM.Sc c) → l.length ≤ (U.UtfM.wr l).length := by
    intro l hl
    induction l with
    | nil => simp
    | cons c t ih =>
      have := wr_len_pos (hl c (by simp)) t
      have := ih (fun x hx => hl x (by simp [hx]))
      rw [List.length_cons]; omega
  have := h3 rest h.sc
  omega
set_option maxRecDepth 100000 in
set_option maxHeartbeats 8000000 in
theorem class_c {t : List Int} (hC : Cx R W) (h : Rd R W s dv (91 :: t) d cl) :
    Calls Tryz.prog 64 #[.pointer (some ⟨R, 0, none⟩)] W (Post R s dv d cl W (clsV W.heap.size) (classF t)) := by
  obtain ⟨o, ho⟩ : ∃ o, o = classF t := ⟨_, rfl⟩
  rw [← ho]
  have HO := Lib.hid ho
  rw [classF_eq] at HO
  have hRl := h.lt
  have HC0 := Lib.hid hC
  have HN := Lib.hid (need1_c 91 91 rfl (by decide) h)
  rw [show needF 91 (91 :: t) = .ok () t from rfl] at HN
  clear h ho hC
  go_enter Tryz.func64, Tryz.ntmps64
  go_wp2_with fail
  refine HN.out.mono ?_
  rintro e w1 ⟨g1, v, rfl, rfl, hr⟩
  have HR := Lib.hid hr
  have G := Lib.hid g1
  have HT := Lib.hid (take1_c 94 94 rfl (by decide) HR.out _ rfl)
  clear g1 hr HN
  go_wp2_with fail
  refine HT.out.mono ?_
  rintro e w2 ⟨rfl, hr, g2⟩
  have HR := Lib.hid hr
  have G := Lib.hid (G.out.trans g2)
  clear hr g2 HT
  obtain ⟨q, hq⟩ : ∃ q, q = at1 94 t := ⟨_, rfl⟩
  obtain ⟨r0, hr0⟩ : ∃ r0, r0 = if at1 94 t then t.tail else t := ⟨_, rfl⟩
  rw [← hr0] at HO HR
  rw [← hq] at HO ⊢
  clear hq hr0
  obtain ⟨o1, ho1⟩ : ∃ o1, o1 = classL 201 [] r0 := ⟨_, rfl⟩
  rw [← ho1] at HO
  have hf := HR.out.few
  have HO1 := Lib.hid ho1
  clear ho1
  go_wp2_with fail
  go_loopg [4] 200 (fun g s4 wx => ∃ acc r l f, Hid (o1 = classL f acc r) ∧ r.length < f ∧ r.length ≤ g ∧ wx.ownsRow W.heap.size 53 2 s4 (List.length l) (cellsS l) ∧ Hid (∀ z, Tells l z ↔ Tells acc z) ∧ l.length + 26 * r.length ≤ 5200 ∧ Hid (Rd R wx s dv r d cl) ∧ Hid (Gr R W wx))
  case atStart => exact ⟨[], r0, [], 201, HO1, by omega, by omega, ⟨rfl, .inl ⟨rfl, rfl⟩⟩, Lib.hid (fun _ => Iff.rfl), by simp; omega, HR, G⟩
  case round =>
    obtain ⟨acc, r, l, f, ho1, hlf, hlg, hown, htl, hlen, hrd, hgr⟩ := hrel
    obtain ⟨f, rfl⟩ : ∃ f', f = f' + 1 := ⟨f - 1, by omega⟩
    rw [classL_succ] at ho1
    have HT := Lib.hid (take1_c 93 93 rfl (by decide) hrd.out _ rfl)
    go_wp2_with fail
    refine HT.out.mono ?_
    rintro e w3 ⟨rfl, hr, g3⟩
    have HR3 := Lib.hid hr
    have G3 := Lib.hid (hgr.out.trans g3)
    have hown3 := own_gr hown hRl g3
    clear hr g3 HT hown
    cases hq : at1 93 r with
    | true =>
      simp only [hq, if_true] at ho1 HR3
      clear hq
      obtain ⟨P, c, rfl, hs, hz⟩ := spans_of0 hown3
      have HA : Hid (∀ x, P = some x → W.heap.size ≤ x.block) := Lib.hid (fun x hx => by subst hx; exact (hown3.lt x.block rfl).1)
      rw [ho1.out] at HO
      dsimp only at HO
      have HS := Lib.hid hs
      have HZ := Lib.hid hz
      clear hs hz hown3 ho1
      cases q with
      | false =>
        have HO : Hid (o = .ok (Tells acc) r.tail) := HO
        go_wp2
        go_ret
        exact Post.good HO.out G3.out ⟨P, c, l, rfl, HS.out, HZ.out, HA.out, htl.out, by omega⟩ HR3.out
      | true =>
        have HO : Hid (o = .ok (notK (Tells acc)) r.tail) := HO
        go_wp2_with fail
        refine (not_n (HC0.out.gr G3.out).cf HS.out (by omega)).mono ?_
        rintro e w4 ⟨P4, c4, o4, rfl, i4, n4, s4, z4, a4, b4⟩
        have H4 := Lib.hid (And.intro s4 (And.intro z4 (And.intro a4 i4)))
        have G4 := Lib.hid (G3.out.trans (Gr.of b4))
        have HR4 := Lib.hid (HR3.out.kept b4)
        have HZ3 := Lib.hid G3.out.size
        clear s4 z4 a4 i4 b4
        go_wp2
        go_ret
        refine Post.good HO.out G4.out ⟨P4, c4, o4, rfl, H4.out.1, H4.out.2.1, fun x hx => Nat.le_trans HZ3.out (H4.out.2.2.1 x hx), fun z => ?_, by omega⟩ HR4.out
        rw [H4.out.2.2.2.tells (fun r h => h.1)]
        have := htl.out z
        simp [notK, this]
    | false =>
      simp only [hq, Bool.false_eq_true, if_false] at ho1 HR3
      clear hq
      go_wp2_with fail
      refine (item_c (HC0.out.gr G3.out) HR3.out).mono ?_
      rintro e w4 ⟨g4, h4⟩
      have G4 := Lib.hid (G3.out.trans g4)
      have hown4 := own_gr hown3 hRl g4
      clear g4 hown3
      cases hi : itemF r with
      | err e x =>
        rw [hi] at h4 ho1
        dsimp only at ho1
        rw [ho1.out] at HO
        dsimp only at HO
        obtain rfl := h4
        clear hi
        go_wp2
        exact ⟨rfl, Post.bad HO.out G4.out⟩
      | ok a r1 =>
        rw [hi] at h4 ho1
        dsimp only at ho1
        obtain ⟨v, rfl, ⟨P4, c4, l4, rfl, hs4, hz4, ha4, ht4, hn4⟩, hr⟩ := h4
        have HR4 := Lib.hid hr
        have hlt := item_len hi
        have hl4 : l4.length + 26 * r1.length ≤ 26 * r.length := by
          rcases hn4 with h | ⟨h, i, r2, e1, e2⟩
          · omega
          · have := item_cls e1 e2 hi; omega
        have HT4 := Lib.hid ht4
        have HZ4 := Lib.hid hz4
        have hsz : W.heap.size ≤ w4.heap.size := G4.out.size
        clear hi hr hn4 ha4 ht4 hz4
        go_wp2_with (at_builtin; refine wpList_append_spans rfl _ _ rfl W.heap.size _ _ _ rfl hown4 P4 c4 l4 rfl hs4 HZ4.out (by omega) hsz ?_; intro v5 w5 hown5 hg5)
        have G5 := Lib.hid (G4.out.row (Nat.le_refl _) hown4 hg5)
        have HR5 := Lib.hid (HR4.out.row hRl hown4 hg5)
        clear hown4 hg5 hs4
        go_roundg r1.length
        case measure => omega
        case rel => exact ⟨acc ++ a, r1, l ++ l4, f, ho1, by omega, Nat.le_refl _, by rw [List.length_append, cellsS_append]; exact hown5, Lib.hid (tells_app htl.out HT4.out), by rw [List.length_append]; omega, HR5, G5⟩
end Go.Proofs.YtahgljglleeloaaGreatDoor

/- Rows of nodes; what becomes of them as one node. -/
namespace Go.Proofs.YtahgljglleeloaaGreatDoor
open Go.RowKit Go.Shelf Go.Maps SetM PropsM RxM

theorem infoN : (Tryz.prog.info? 27).map (fun i => (i.zero, i.size, i.bytes)) = some (some (.agg #[.int .u8 0, .slice none 0 0, .slice none 0 0, .int .i64 0, .int .i64 0]), 5, 72) := by kernel_rfl
theorem NIs.one {W : World} {A : Nat → Prop} : ∀ {h : Nat} {v : Value} {t : Nd}, NIs W A h v t → ∀ u ∈ kidParts v, u.oneCell' = true
  | 0, _, _, hn => hn.elim
  | h + 1, v, .mk k K kids mn mx, hn => by
    obtain ⟨sp, sl, sc, kp, kc, rfl, _⟩ := hn
    intro u hu
    simp only [kidParts, List.mem_cons, List.not_mem_nil, or_false] at hu
    rcases hu with rfl | rfl | rfl | rfl | rfl <;> rfl
theorem NIs.parts {W : World} {A : Nat → Prop} : ∀ {h : Nat} {v : Value} {t : Nd}, NIs W A h v t → (kidParts v).length = 5
  | 0, _, _, hn => hn.elim
  | h + 1, v, .mk k K kids mn mx, hn => by
    obtain ⟨sp, sl, sc, kp, kc, rfl, _⟩ := hn
    rfl
/-- The values are nodes of the trees. -/
def NRow (W : World) (A : Nat → Prop) (us : List Value) (ts : List Nd) : Prop := ∃ h, us.length = ts.length ∧ ∀ i (hi : i < ts.length) u, us[i]? = some u → NIs W A h u ts[i]
theorem NRow.nil {W : World} {A : Nat → Prop} : NRow W A [] [] := ⟨0, rfl, fun i hi => by simp at hi⟩
theorem NRow.imp {W W' : World} {A B : Nat → Prop} {us : List Value} {ts : List Nd} (h : NRow W A us ts) (hAB : ∀ b, A b → b < W.heap.size → B b ∧ W'.heap[b]? = W.heap[b]?) (hsz : W.heap.size ≤ W'.heap.size) : NRow W' B us ts := by
  obtain ⟨k, hl, hi⟩ := h
  exact ⟨k, hl, fun i h u hu => (hi i h u hu).imp hAB hsz⟩
theorem NRow.push {W : World} {A : Nat → Prop} {us : List Value} {ts : List Nd} {u : Value} {t : Nd} (h : NRow W A us ts) (hu : NV W A u t) : NRow W A (us ++ [u]) (ts ++ [t]) := by
  obtain ⟨k, hl, hi⟩ := h
  obtain ⟨m, hm⟩ := hu
  refine ⟨max k m, by simp [hl], fun i hlt v hv => ?_⟩
  rcases Nat.lt_or_ge i ts.length with h1 | h1
  · rw [List.getElem?_append_left (by omega)] at hv
    rw [List.getElem_append_left h1]
    exact (hi i h1 v hv).up _ _ _ _ (Nat.le_max_left _ _)
  · have : i = ts.length := by simp at hlt; omega
    subst this
    rw [← hl, List.getElem?_append_right (by omega)] at hv
    simp at hv
    subst hv
    rw [List.getElem_append_right (by omega)]
    simp
    exact hm.up _ _ _ _ (Nat.le_max_right _ _)
theorem NRow.parts {W : World} {A : Nat → Prop} : ∀ {us : List Value} {ts : List Nd}, NRow W A us ts → (us.flatMap kidParts).length = ts.length * 5 := by
  intro us ts ⟨k, hl, hi⟩
  have : ∀ (us : List Value), (∀ u ∈ us, (kidParts u).length = 5) → (us.flatMap kidParts).length = us.length * 5 := by
    intro us h
    induction us with
    | nil => rfl
    | cons u t ih =>
      rw [List.flatMap_cons, List.length_append, h u (by simp), ih (fun x hx => h x (by simp [hx])), List.length_cons]
      omega
  rw [← hl]
  apply this
  intro u hu
  obtain ⟨j, hj, rfl⟩ := List.mem_iff_getElem.1 hu
  exact (hi j (by omega) _ (List.getElem?_eq_getElem hj)).parts
/-- A row of nodes that a call made itself: the row, and what its nodes hold, beside it. -/
def RowN (W : World) (base : Nat) (A : Nat → Prop) (v : Value) (ts : List Nd) : Prop :=
  ∃ us, W.ownsRow base 27 5 v ts.length (us.flatMap kidParts) ∧ NRow W (fun b => A b ∧ v.ownBlock ≠ some b) us ts
theorem RowN.nil {W : World} {base : Nat} {A : Nat → Prop} : RowN W base A (.slice none 0 0) [] := ⟨[], ⟨rfl, .inl ⟨rfl, rfl⟩⟩, NRow.nil⟩
/-- One that changes neither the row nor its nodes. -/
theorem RowN.imp {W W' : World} {base : Nat} {A B : Nat → Prop} {v : Value} {ts : List Nd} (h : RowN W base A v ts) (hAB : ∀ b, A b → b < W.heap.size → B b ∧ W'.heap[b]? = W.heap[b]?) (hrow : ∀ b, base ≤ b → b < W.heap.size → W'.heap[b]? = W.heap[b]?) (hsz : W.heap.size ≤ W'.heap.size) : RowN W' base B v ts := by
  obtain ⟨us, h1, h2⟩ := h
  refine ⟨us, ⟨h1.1, ?_⟩, h2.imp (fun b hb hlt => ⟨⟨(hAB b hb.1 hlt).1, hb.2⟩, (hAB b hb.1 hlt).2⟩) hsz⟩
  rcases h1.2 with h | ⟨g, cap, cur, e1, e2, e3, e4⟩
  · exact .inl h
  · exact .inr ⟨g, cap, cur, e1, e2, (hrow g e2 (Array.getElem?_eq_some_iff.1 e3).1).trans e3, e4⟩
theorem RowN.gr {N R n : Nat} {W W' : World} {base : Nat} {v : Value} {ts : List Nd} (h : RowN W base (Old N n) v ts) (hg : Gr R W W') (hR : R < n) (hb : R < base) (hN : N ≤ R := by omega) : RowN W' base (Old N n) v ts :=
  h.imp (fun b hA hlt => ⟨hA, hg.block b hlt (fun e => by cases e; rcases hA with h | h <;> omega)⟩) (fun b h1 h2 => hg.block b h2 (fun e => by cases e; omega)) hg.size
theorem RowN.lt {W : World} {base : Nat} {A : Nat → Prop} {v : Value} {ts : List Nd} (h : RowN W base A v ts) : ∀ k, v.ownBlock = some k → base ≤ k ∧ k < W.heap.size := by
  obtain ⟨us, h1, _⟩ := h
  exact h1.lt
set_option maxHeartbeats 1000000 in
/-- A node appended to such a row. -/
theorem wpList_push {w : World} {ops : Array Oper} {rest : List Oper} {o : Oper} {a : Act} {Q : Exit → Act → World → Prop} (hgd : o.guard = none) (s x : Operand)
    (ho : o.op = .call { callee := .builtin .append, args := #[s, x], argTypes := #[25, 25] }) (base : Nat) (A : Nat → Prop)
    (v : Value) (ts : List Nd) (hs : a.eval s = v) (hown : RowN w base A v ts) (g0 : Nat) (u : Value) (t : Nd) (hx : a.eval x = .slice (some ⟨g0, 0, none⟩) 1 1)
    (hu : NV w (fun b => A b ∧ v.ownBlock ≠ some b) u t) (hb : w.heap[g0]? = some (.cells (kidParts u).toArray 27 (0, 0)))
    (h63 : ts.length ≤ 1000) (hbase : base ≤ w.heap.size)
    (h : ∀ v' w', RowN w' base A v' (ts ++ [t]) → w.grownBy w' v.ownBlock → wpList Tryz.prog ops Q rest (a.put o.dst v') w') : wpList Tryz.prog ops Q (o :: rest) a w := by
  obtain ⟨i0, hi, hz0, hz1, hz2⟩ := info_parts infoN
  obtain ⟨us, h1, h2⟩ := hown
  obtain ⟨m, hm⟩ := hu
  have h5 := hm.parts
  refine wpList_append_lies _ hgd s x 25 ho base 27 i0 _ 5 72 Tryz.underlying25 hi hz0 hz1 hz2 rfl (by decide) v ts.length (us.flatMap kidParts) hs h1 ⟨g0, 0, none⟩ 1 1 (kidParts u) hx (by omega) (fun j y hy => World.news_of_block hb j y (by simpa using hy)) hm.one (by omega) (by unfold maxLen; omega) (by omega) hbase _ rfl ?_
  intro g cap w' k1 k2 k3 k4
  refine h _ w' ⟨us ++ [u], ?_, ?_⟩ k2
  · rw [List.flatMap_append, List.length_append]
    simpa using k1
  · refine (h2.push ⟨m, hm⟩).imp (fun b hA' hlt => ⟨⟨hA'.1, fun e => ?_⟩, k2.block b hlt (fun e => hA'.2 e.symm)⟩) k2.size
    have e : g = b := by cases e; rfl
    rcases k3 with k3 | k3
    · exact hA'.2 (by rw [← e]; exact k3)
    · omega
end Go.Proofs.YtahgljglleeloaaGreatDoor

/- Nodes as one. -/
namespace Go.Proofs.YtahgljglleeloaaGreatDoor
open Go.RowKit Go.Shelf Go.Maps SetM PropsM RxM

/-- A node's value, written out. -/
theorem NIs.form5 {W : World} {A : Nat → Prop} : ∀ {h : Nat} {v : Value} {t : Nd}, NIs W A h v t → ∃ (k : Int) (sp : Option Addr) (sn sc : Nat) (kp : Option Addr) (kn kc : Nat) (mn mx : Int), v = .agg #[.int .u8 k, .slice sp sn sc, .slice kp kn kc, .int .i64 mn, .int .i64 mx]
  | 0, _, _, hn => hn.elim
  | h + 1, v, .mk k K kids mn mx, hn => by
    obtain ⟨sp, sl, sc, kp, kc, rfl, _⟩ := hn
    exact ⟨_, _, _, _, _, _, _, _, _, rfl⟩
theorem NV.form5 {W : World} {A : Nat → Prop} {v : Value} {t : Nd} (h : NV W A v t) : ∃ (k : Int) (sp : Option Addr) (sn sc : Nat) (kp : Option Addr) (kn kc : Nat) (mn mx : Int), v = .agg #[.int .u8 k, .slice sp sn sc, .slice kp kn kc, .int .i64 mn, .int .i64 mx] := let ⟨_, h⟩ := h; h.form5
set_option maxRecDepth 100000 in
set_option maxHeartbeats 4000000 in
theorem join_c {W : World} {base : Nat} {A : Nat → Prop} {v : Value} {ts : List Nd} (k : Nat) (hown : RowN W base A v ts) (hl : ts.length ≤ 1000) (hA : ∀ b, base ≤ b → A b) :
    Calls Tryz.prog 37 #[.int .u8 k, v] W fun e W' => ∃ u, e = .returned u ∧ NV W' A u (joinF k ts) ∧ Below W.heap.size W W' := by
  obtain ⟨us, h1, h2⟩ := hown
  have hp := h2.parts
  obtain ⟨m, hm, hi⟩ := h2
  match ts, us, hm with
  | [], [], _ =>
    have hv : v = .slice none 0 0 ∨ ∃ g cap, v = .slice (some ⟨g, 0, none⟩) 0 cap := by
      rcases h1.2 with h | ⟨g, cap, cur, e1, _⟩
      · exact .inl h.1
      · exact .inr ⟨g, cap, e1⟩
    clear h1 hi hp hA
    rcases hv with rfl | ⟨g, cap, rfl⟩
    all_goals
      go_enter Tryz.func37, Tryz.ntmps37
      go_wp2
      go_returns
      exact ⟨_, rfl, empty_nv, (Below.refl _ _).alloc (Nat.le_refl _) _⟩
  | [t], [u], _ =>
    have hu := hi 0 (by simp) u rfl
    obtain ⟨uk, sp, sn, sc, kp, kn, kc, mn, mx, rfl⟩ := hu.form5
    obtain ⟨g, cap, rfl, hbg, hg⟩ := h1.form (by simp)
    have hc := h1.cells (g := g) rfl
    have e0 : ∀ j, (⟨g, 0, none⟩ : Addr).add j = ⟨g, j, none⟩ := fun j => by unfold Addr.add; split <;> simp_all
    have c0 : W.cell? ⟨g, 0, none⟩ = some (.int .u8 uk) := by have := hc 0 _ rfl; rwa [e0] at this
    have c1 : W.cell? ⟨g, 1, none⟩ = some (.slice sp sn sc) := by have := hc 1 _ rfl; rwa [e0] at this
    have c2 : W.cell? ⟨g, 2, none⟩ = some (.slice kp kn kc) := by have := hc 2 _ rfl; rwa [e0] at this
    have c3 : W.cell? ⟨g, 3, none⟩ = some (.int .i64 mn) := by have := hc 3 _ rfl; rwa [e0] at this
    have c4 : W.cell? ⟨g, 4, none⟩ = some (.int .i64 mx) := by have := hc 4 _ rfl; rwa [e0] at this
    have HU : Hid (NV (W.alloc (.cells #[.int .u8 uk, .slice sp sn sc, .slice kp kn kc, .int .i64 mn, .int .i64 mx] 27)) A (.agg #[.int .u8 uk, .slice sp sn sc, .slice kp kn kc, .int .i64 mn, .int .i64 mx]) t) := Lib.hid (NV.imp ⟨m, hu⟩ (fun x hx hlt => ⟨hx.1, ((Below.refl W.heap.size W).alloc (Nat.le_refl _) _).block x hlt⟩) ((Below.refl W.heap.size W).alloc (Nat.le_refl _) _).size)
    clear h1 hi hp hA hu hc e0
    go_enter Tryz.func37, Tryz.ntmps37
    go_wp2
    go_returns
    exact ⟨_, rfl, HU.out, (Below.refl _ _).alloc (Nat.le_refl _) _⟩
  | t1 :: t2 :: tl, u1 :: u2 :: ul, hm =>
    obtain ⟨g, cap, rfl, hbg, hg⟩ := h1.form (by simp)
    obtain ⟨n, hn⟩ : ∃ n, n = (t1 :: t2 :: tl).length := ⟨_, rfl⟩
    have hn2 : 2 ≤ n := by rw [hn]; simp
    have d0 : ((n : Int) == 0) = false := by rw [beq_eq_false_iff_ne]; omega
    have d1 : ((n : Int) == 1) = false := by rw [beq_eq_false_iff_ne]; omega
    have hN : ∀ (W' : World) (x : Nat), Below W.heap.size W W' → NV W' A (.agg #[.int .u8 k, .slice none 0 0, .slice (some ⟨g, 0, none⟩) n cap, .int .i64 0, .int .i64 0]) (joinF k (t1 :: t2 :: tl)) := by
      intro W' _ hb
      rcases h1.2 with h | ⟨g', cap', cur, e1, e2, e3, e4, e5, e6, e7⟩
      · cases h.1
      · cases e1
        refine ⟨m + 1, none, [], 0, some ⟨g, 0, none⟩, cap, by rw [hn]; rfl, none_set, ⟨by simp, hl⟩, fun h => absurd rfl h, fun _ => rfl, fun a h => (by cases h), fun h => (by cases h), fun _ => ⟨g, cur, u1 :: u2 :: ul, rfl, hA g hbg, (hb.block g hg).trans e3, hm, by rw [hm]; exact e7, fun i hlt u hu => ?_⟩⟩
        exact (hi i hlt u hu).imp (fun x hx hlt => ⟨hx.1, hb.block x hlt⟩) hb.size
    have HN := Lib.hid hN
    clear h1 hi hp hA hN
    rw [← hn]
    have HN2 := Lib.hid hn
    clear hn hm hl
    go_enter Tryz.func37, Tryz.ntmps37
    go_wp2
    go_returns
    have hbf := (Below.refl W.heap.size W).alloc (Nat.le_refl _) (.cells #[.int .u8 k, .slice none 0 0, .slice (some ⟨g, 0, none⟩) n cap, .int .i64 0, .int .i64 0] 27)
    exact ⟨_, rfl, HN.out _ 0 hbf, hbf⟩
end Go.Proofs.YtahgljglleeloaaGreatDoor
