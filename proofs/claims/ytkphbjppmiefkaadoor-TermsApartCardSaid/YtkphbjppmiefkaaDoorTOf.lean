/- The program's Of: the parts of sets. -/
import Derived.Test.YtkphbjppmiefkaaDoorTWords
import Derived.Test.YtkphbjppmiefkaaDoorTGath
namespace TermsM
open SetM
theorem sum_step (f : Int → Nat) (x : Int) : ∀ (L : List Int), L.Nodup → (L.map (fun w => f w + if x = w then 1 else 0)).sum ≤ (L.map f).sum + (if x ∈ L then 1 else 0)
  | [], _ => by simp
  | a :: t, h => by
    have ih := sum_step f x t (List.nodup_cons.1 h).2
    have hna := (List.nodup_cons.1 h).1
    simp only [List.map_cons, List.sum_cons, List.mem_cons]
    by_cases hx : x = a
    · subst hx
      rw [if_neg hna] at ih
      simp only [true_or, if_true]
      omega
    · rw [if_neg hx]
      have e : (if x = a ∨ x ∈ t then 1 else 0) = (if x ∈ t then 1 else 0) := by simp [hx]
      rw [e]
      omega
theorem sum_rOf (e ws : List Int) (L : List Int) (hL : L.Nodup) : ∀ i, (L.map (fun w => (rOf e ws i w).length)).sum ≤ i
  | 0 => by
    have : ∀ L : List Int, (L.map (fun w => (rOf e ws 0 w).length)).sum = 0 := fun L => by
      induction L with
      | nil => rfl
      | cons a t ih => rw [List.map_cons, List.sum_cons, ih]; rfl
    rw [this]
    exact Nat.le_refl _
  | i + 1 => by
    have ih := sum_rOf e ws L hL i
    have e1 : (fun w => (rOf e ws (i + 1) w).length) = fun w => (rOf e ws i w).length + if ws.getD i 0 = w then 1 else 0 := by
      funext w
      rw [rOf_succ]
      split <;> simp
    rw [e1]
    have h2 := sum_step (fun w => (rOf e ws i w).length) (ws.getD i 0) L hL
    have h3 : (if ws.getD i 0 ∈ L then 1 else 0) ≤ 1 := by split <;> omega
    omega
theorem Gt.flat {e ws : List Int} {i : Nat} {p : List (List Sp)} {kn : Int → Option Nat} (h : Gt e ws i p kn) : p.flatten.length ≤ i ∧ p.length ≤ i := by
  have hch : ∀ k : Nat, ∃ w : Int, k < p.length → kn w = some k := fun k => by
    by_cases hk : k < p.length
    · obtain ⟨w, hw⟩ := h.onto k hk; exact ⟨w, fun _ => hw⟩
    · exact ⟨0, fun h => absurd h hk⟩
  obtain ⟨f, hf⟩ := Classical.axiomOfChoice hch
  have hL : ((List.range p.length).map f).Nodup := by
    refine List.pairwise_map.2 (List.nodup_range.imp_of_mem fun {a b} ha hb hne e => hne ?_)
    have h1 := hf a (List.mem_range.1 ha)
    have h2 := hf b (List.mem_range.1 hb)
    have e : f a = f b := e
    rw [e, h2] at h1
    exact (Option.some.inj h1).symm
  have hp : p = ((List.range p.length).map f).map (fun w => rOf e ws i w) := by
    refine List.ext_getElem (by simp) (fun k hk hk' => ?_)
    have h1 := h.row _ k (hf k hk)
    rw [List.getElem?_eq_getElem hk] at h1
    simp [Option.some.inj h1]
  have hs := sum_rOf e ws _ hL i
  have hlen : p.flatten.length = (((List.range p.length).map f).map (fun w => (rOf e ws i w).length)).sum := by
    rw [List.length_flatten]
    conv => lhs; rw [hp]
    rw [List.map_map]; rfl
  refine ⟨by rw [hlen]; exact hs, ?_⟩
  have hge : ∀ (q : List (List Sp)), (∀ x ∈ q, x ≠ []) → q.length ≤ q.flatten.length := fun q => by
    induction q with
    | nil => intro _; exact Nat.le_refl _
    | cons a t ih =>
      intro hq
      have := ih (fun x hx => hq x (by simp [hx]))
      have := List.length_pos_iff.2 (hq a (by simp))
      simp only [List.flatten_cons, List.length_append, List.length_cons]
      omega
  have := hge p (fun x hx => by
    obtain ⟨k, hk, rfl⟩ := List.mem_iff_getElem.1 hx
    have h1 := h.row _ k (hf k hk)
    rw [List.getElem?_eq_getElem hk] at h1
    rw [Option.some.inj h1]
    exact h.ne _ k (hf k hk))
  omega
theorem sum_four : ∀ (a b : List (List Sp)), a.length = b.length → (∀ j (h : j < a.length) (h' : j < b.length), a[j].length ≤ 4 * b[j].length) → a.flatten.length ≤ 4 * b.flatten.length
  | [], [], _, _ => Nat.zero_le _
  | [], _ :: _, h, _ => by cases h
  | _ :: _, [], h, _ => by cases h
  | x :: a, y :: b, h, hs => by
    have ih := sum_four a b (by simpa using h) (fun j h1 h2 => hs (j + 1) (by simp; omega) (by simp; omega))
    have := hs 0 (by simp) (by simp)
    simp only [List.flatten_cons, List.length_append]
    simp at this
    omega
end TermsM
namespace Go.Proofs.YtkphbjppmiefkaaDoor
open Go.RowKit Go.Shelf Go.Maps SetM TermsM
theorem make_sets (n : Nat) (hn : n ≤ 100000) (W : World) :
    ∃ W1, (Instr.makeSlice 24 (.int .i64 n) (.int .i64 n)).run Tryd.prog W = .ok (.slice (some ⟨W.heap.size, 0, none⟩) n n) W1 ∧ W1.ownsRow 0 28 1 (.slice (some ⟨W.heap.size, 0, none⟩) n n) n (List.replicate n (.slice none 0 0)) ∧ Below W.heap.size W W1 := by
  obtain ⟨i0, hi, hz0, hz1, hz2⟩ := info_parts infoSl
  obtain ⟨W1, hmk, h2, h3⟩ := run_makeSlice_full (P := Tryd.prog) (w := W) 0 24 28 i0 _ 1 Tryd.underlying24 hi hz0 hz1 .i64 .i64 n (by omega) (by rw [hz2]; omega) (by unfold maxLen; omega) (Nat.zero_le _)
  have e1 : (madeCells (Value.slice none 0 0).cells (n * 1)).toList = List.replicate n (Value.slice none 0 0) := by
    rw [Nat.mul_one]
    exact toList_madeCells_one _ _
  rw [e1] at h2
  exact ⟨W1, hmk, h2, ⟨h3.os, h3.tape, h3.output, h3.size, fun k hk => h3.block k hk (fun e => by cases e)⟩⟩
/-- Sets that were made normal so far, in a row of their own. -/
structure SI (W : World) (g n i : Nat) (vs : List Value) (ss : List (List Sp)) : Prop where
  out : W.ownsRow 0 28 1 (.slice (some ⟨g, 0, none⟩) n n) n vs
  lv : vs.length = n
  ls : ss.length = i
  row : ∀ j (h : j < ss.length), W.ownsRow 0 42 2 (vs.getD j undef) ss[j].length (cellsS ss[j]) ∧ (vs.getD j undef).ownBlock ≠ some g
theorem SI.kept {W W' : World} {g n i : Nat} {vs : List Value} {ss : List (List Sp)} (h : SI W g n i vs ss) (hb : Below W.heap.size W W') : SI W' g n i vs ss := by
  have hg : W.grownBy W' none := ⟨hb.os, hb.tape, hb.output, hb.size, fun k hk _ => hb.block k hk⟩
  refine ⟨h.out.kept hg (.inr (by simp [Value.ownBlock])), h.lv, h.ls, fun j hj => ⟨(h.row j hj).1.kept hg ?_, (h.row j hj).2⟩⟩
  cases (vs.getD j undef).ownBlock with
  | none => exact .inl rfl
  | some k => exact .inr (by simp)
theorem SI.step {W : World} {g n i : Nat} {vs : List Value} {ss : List (List Sp)} (h : SI W g n i vs ss) (hi : i < n) {v : Value} {o : List Sp} (hv : W.ownsRow 0 42 2 v o.length (cellsS o)) (hne : v.ownBlock ≠ some g) :
    SI (W.setCell ⟨g, i, none⟩ v) g n (i + 1) (vs.set i v) (ss ++ [o]) ∧ W.grownBy (W.setCell ⟨g, i, none⟩ v) (some g) := by
  have hs := h.out.stored i v
  refine ⟨⟨hs.1, by rw [List.length_set]; exact h.lv, by rw [List.length_append, h.ls]; rfl, fun j hj => ?_⟩, hs.2⟩
  have hls := h.ls
  rcases Nat.lt_or_ge j ss.length with h1 | h1
  · rw [List.getElem_append_left h1]
    have e : (vs.set i v).getD j undef = vs.getD j undef := by
      rw [List.getD_eq_getElem?_getD, List.getD_eq_getElem?_getD, List.getElem?_set_ne (by omega)]
    rw [e]
    exact ⟨(h.row j h1).1.kept hs.2 (.inr (fun e => (h.row j h1).2 e)), (h.row j h1).2⟩
  · have e : j = i := by rw [List.length_append] at hj; simp at hj; omega
    subst e
    have e2 : (vs.set j v).getD j undef = v := by
      rw [List.getD_eq_getElem?_getD, List.getElem?_set_self (by rw [h.lv]; exact hi)]; rfl
    rw [e2]
    have e3 : (ss ++ [o])[j] = o := by rw [List.getElem_append_right h1]; simp [hls]
    rw [e3]
    exact ⟨hv.kept hs.2 (.inr hne), hne⟩
theorem SI.rows {W : World} {g n : Nat} {vs : List Value} {ss : List (List Sp)} (h : SI W g n n vs ss) : Rs W (some ⟨g, 0, none⟩) ss := fun _ => by
  have hlt := (World.ownsRow.lt h.out g rfl).2
  refine ⟨g, 0, rfl, hlt, fun j hj => ?_⟩
  have hr := (h.row j hj).1
  obtain ⟨P, c, k1, k2⟩ := spans_of hr
  have hjv : j < vs.length := by rw [h.lv, ← h.ls]; exact hj
  have hc := World.ownsRow.cellAt h.out j (by have := h.ls; omega)
  refine ⟨P, c, ?_, k2, fun hP => ?_⟩
  · rw [Nat.zero_add, hc, ← k1, List.getD_eq_getElem?_getD, List.getElem?_eq_getElem hjv]; rfl
  · rcases hr.2 with ⟨k3, _⟩ | ⟨g', cap, cur, k3, _⟩
    · rw [k1] at k3; injection k3
    · rw [k1, hP] at k3; injection k3 with k3; cases k3
/-- What Of hands back. -/
def PartsPost (ls : List (List Sp)) (W : World) (e : Ending) (W' : World) : Prop :=
  ∃ P c p, e = .returned (.slice P (List.length p) c) ∧ Rs W' P p ∧ PartsOf ls p ∧ p.flatten.length ≤ 8 * ls.flatten.length ∧ p.length ≤ 8 * ls.flatten.length ∧ (P = none → c = 0) ∧ p.length ≤ c ∧ Below W.heap.size W W'
set_option maxRecDepth 100000 in
set_option maxHeartbeats 8000000 in
theorem of_c {W : World} {A : Option Addr} {ca n : Nat} {ls : List (List Sp)} (h0 : 0 < W.heap.size) (hA : Areas W) (hn : n = ls.length) (hR : Rs W A ls) (h8 : n ≤ 1000) (ht : ls.flatten.length ≤ 1000) :
    Calls Tryd.prog 11 #[.slice A n ca] W (PartsPost ls W) := by
  obtain ⟨U, hmk, hO, hbU⟩ := make_sets n (by omega) W
  have HN := Lib.hid hn
  have HR := Lib.hid hR
  have HT := Lib.hid ht
  have HAR := Lib.hid hA
  have HB0 := Lib.hid hbU
  obtain ⟨g, hg⟩ : ∃ g, g = W.heap.size := ⟨_, rfl⟩
  have HG := Lib.hid hg
  rw [← hg] at hmk hO
  have HI0 : Hid (SI U g n 0 (List.replicate n (.slice none 0 0)) []) := Lib.hid ⟨hO, by simp, rfl, fun j hj => absurd hj (Nat.not_lt_zero _)⟩
  have H00 := Lib.hid h0
  have hgU : g < U.heap.size := (World.ownsRow.lt hO g rfl).2
  clear hn hR ht hA hbU hO hg h0
  go_enter Tryd.func11, Tryd.ntmps11
  go_upto_region 2 with fail
  clear hmk
  go_wp2_with fail
  go_loopg [13] n (fun gk s13 wx => ∃ (i : Nat) (vs : List Value) (ss : List (List Sp)), i + gk = n ∧ s13 = .int .i64 i ∧ Hid (SI wx g n i vs ss) ∧ Hid (∀ j (h : j < ss.length) (h' : j < ls.length), Nf ss[j] ∧ (∀ r, Mem ss[j] r ↔ Tells ls[j] r) ∧ ss[j].length ≤ 4 * ls[j].length) ∧ Hid (Below g W wx))
  case atStart => exact ⟨0, _, [], by omega, rfl, HI0, Lib.hid (fun j hj => absurd hj (Nat.not_lt_zero _)), Lib.hid (HB0.out.mono (by have := HG.out; omega))⟩
  case round =>
    obtain ⟨i, vs, ss, hig, rfl, HS, HF, HB⟩ := hrel
    have HIG := Lib.hid hig
    cases gk with
    | zero =>
      obtain rfl : i = n := by omega
      have hlt : ¬ (i : Int) < (i : Int) := by omega
      have hrows := HS.out.rows
      have hls := HS.out.ls
      have hsc : ∀ s ∈ ss, ∀ u ∈ s, (Nf s) ∧ 0 ≤ u.1 ∧ u.1 ≤ 1114111 ∧ 0 ≤ u.2 ∧ u.2 ≤ 1114111 := fun s hs u hu => by
        obtain ⟨j, hj, rfl⟩ := List.mem_iff_getElem.1 hs
        obtain ⟨q1, q2, q3⟩ := HF.out j hj (by have := HN.out; omega)
        have hle := (nf_apt q1).1 u hu
        have s1 := ((q2 u.1).1 ⟨u, hu, Int.le_refl _, hle⟩).1
        have s2 := ((q2 u.2).1 ⟨u, hu, hle, Int.le_refl _⟩).1
        unfold Sc at s1 s2
        exact ⟨q1, by omega, by omega, by omega, by omega⟩
      have hnf : ∀ s ∈ ss, Nf s := fun s hs => by
        obtain ⟨j, hj, rfl⟩ := List.mem_iff_getElem.1 hs
        exact (HF.out j hj (by have := HN.out; omega)).1
      have hfl : ss.flatten.length ≤ 4 * ls.flatten.length := sum_four ss ls (by have := HN.out; omega) (fun j h h' => (HF.out j h h').2.2)
      have hsmall : Small ss := fun s hs u hu => (hsc s hs u hu).2
      have HFL := Lib.hid hfl
      have HSS := Lib.hid (And.intro hls (And.intro hnf hsmall))
      have HRW := Lib.hid hrows
      have HEN := Lib.hid (ends_c (ca := i) hls.symm hrows hsmall (by have := HT.out; omega) (by omega))
      clear hrows hls hsc hnf hfl hsmall
      go_wp2_with fail
      refine HEN.out.mono ?_
      rintro e w2 ⟨P, c, E, M, nm, rfl, hZ, hMp, hEup, hEm, hEl, hb2⟩
      have HZ := Lib.hid hZ
      have HMP := Lib.hid hMp
      have HE := Lib.hid (And.intro hEup (And.intro hEm hEl))
      have HB2 := Lib.hid hb2
      have HWO := Lib.hid (words_c (ca := i) (n := i) (ss := ss) HSS.out.1.symm (Nat.le_refl _) (by omega) (HRW.out.step hb2) HSS.out.2.2 (fun s hs => nf_apt (HSS.out.2.1 s hs)) (by have := HFL.out; have := HT.out; omega) hMp hEup (by have := HFL.out; have := HT.out; omega) (fun s hs x hx => (hEm x).2 ⟨s, hs, hx⟩))
      obtain ⟨nE, hnE⟩ : ∃ nE, nE = E.length := ⟨_, rfl⟩
      rw [← hnE]
      have HNE := Lib.hid hnE
      clear hZ hMp hEup hEm hEl hb2 HEN hnE
      go_wp2_with fail
      refine HWO.out.mono ?_
      rintro e w3 ⟨g2, ws, last, rfl, hO, hW, hla, hb3⟩
      have hwl := hW.len
      have hway : TermsM.Way ls ss E ws last := ⟨fun s hs => by
          obtain ⟨j, hj, rfl⟩ := List.mem_iff_getElem.1 hs
          have hj' : j < ss.length := by have := HSS.out.1; have := HN.out; omega
          exact ⟨_, List.getElem_mem hj', (HF.out j hj' hj).2.1⟩, fun s hs => by
          obtain ⟨j, hj, rfl⟩ := List.mem_iff_getElem.1 hs
          have hj' : j < ls.length := by have := HSS.out.1; have := HN.out; omega
          exact ⟨(HF.out j hj hj').1, _, List.getElem_mem hj', (HF.out j hj hj').2.1⟩, HE.out.1, HE.out.2.1, hW⟩
      have HWY := Lib.hid hway
      have HGA := Lib.hid (gath_c (c := c) (cw := ws.length) (m := ws.length) (HZ.out.step hb3) HNE.out hO.zs rfl (by have := HNE.out; omega) (by have := HE.out.2.2; have := HNE.out; have := HFL.out; have := HT.out; omega) HE.out.1 (fun x hx => by
          obtain ⟨s, hs, u, hu, h⟩ := (HE.out.2.1 x).1 hx
          have := HSS.out.2.2 s hs u hu
          omega) (fun x hx => by
          obtain ⟨j, hj, rfl⟩ := List.mem_iff_getElem.1 hx
          have := hW.rng j hj
          omega) (fun j hj hne => by
          rcases Nat.lt_or_ge (j + 1) nE with h | h
          · exact h
          · exact absurd (hway.last (by have := HNE.out; omega) (by have := HNE.out; omega)) hne))
      have HB3 := Lib.hid hb3
      clear hO hW hla hb3 hwl hway HWO
      go_wp2_with fail
      refine HGA.out.mono ?_
      rintro e w4 ⟨P4, c4, p, kn, rfl, hRs, hGt, hP4, hpc, hb4⟩
      have hflat := hGt.flat
      have HX : Hid (PartsPost ls W (.returned (.slice P4 p.length c4)) w4) := Lib.hid ⟨P4, c4, p, rfl, hRs, HWY.out.parts hGt, by have := HE.out.2.2; have := HFL.out; omega, by have := HE.out.2.2; have := HFL.out; omega, hP4, hpc, by
        have h1 : Below W.heap.size W wr := by rw [← HG.out]; exact HB.out
        have h2 := h1.trans (HB2.out.mono h1.size)
        have h3 := h2.trans (HB3.out.mono h2.size)
        exact h3.trans (hb4.mono h3.size)⟩
      clear hRs hGt hP4 hpc hb4 hflat
      go_wp2_with fail
      go_ret
      exact HX.out
    | succ gk =>
      have hlt : (i : Int) < (n : Int) := by omega
      have hil : i < ls.length := by have := HN.out; omega
      obtain ⟨b, off, rfl, hb, hrow⟩ := HR.out (by intro h; rw [h] at hil; simp at hil)
      obtain ⟨Q, cq, h1, h2, h3⟩ := hrow i hil
      have hb' : b < g := by rw [HG.out]; exact hb
      have c0 := (HB.out.cell (p := ⟨b, off + i, none⟩) hb').trans h1
      have hwz : W.heap.size ≤ wr.heap.size := HB.out.size
      have hlen : ls[i].length ≤ 1000 := by
        have e := flat_take hil
        have h4 := flat_le ls (i + 1)
        rw [e, List.length_append] at h4
        have := HT.out
        omega
      have HNM := Lib.hid (norm_any Q cq ls[i] (by omega) wr (by have := H00.out; omega) (HAR.out.below (HB.out.mono (by have := HG.out; omega)) H00.out) ((h2.below (by rw [← HG.out]; exact HB.out)).mono hwz))
      obtain ⟨ns, hns⟩ : ∃ ns, ns = ls[i].length := ⟨_, rfl⟩
      rw [← hns] at c0 HNM
      have HNS := Lib.hid hns
      clear h1 h2 h3 hrow hns
      go_wp2_with fail
      refine HNM.out.mono ?_
      rintro e w2 ⟨v, o, rfl, hn1, hn2, hn3, hn4, hn5⟩
      obtain ⟨P5, c5, hv5, _⟩ := spans_of hn4
      subst hv5
      have hwz2 := hn5.size
      have hvg : (Value.slice P5 o.length c5).ownBlock ≠ some g := fun e => by
        have := (World.ownsRow.lt hn4 g e).1
        have := HB.out.size
        have h9 := (World.ownsRow.lt HS.out.out g rfl).2
        omega
      have hv0 : w2.ownsRow 0 42 2 (.slice P5 o.length c5) o.length (cellsS o) := by
        refine ⟨hn4.1, ?_⟩
        rcases hn4.2 with h1 | ⟨g', cap, cur, k1, k2, k3⟩
        · exact .inl h1
        · exact .inr ⟨g', cap, cur, k1, Nat.zero_le _, k3⟩
      have hS2 := HS.out.kept hn5
      have hlv := hS2.lv
      have c2 := World.ownsRow.cellAt hS2.out i (by omega)
      rw [List.getElem?_eq_getElem (show i < vs.length by omega)] at c2
      have f2 := World.ownsRow.frozenAt hS2.out i
      have hst := hS2.step (i := i) (by omega) hv0 hvg
      have HST := Lib.hid hst
      have HFN : Hid (∀ j (h : j < (ss ++ [o]).length) (h' : j < ls.length), Nf (ss ++ [o])[j] ∧ (∀ r, Mem (ss ++ [o])[j] r ↔ Tells ls[j] r) ∧ (ss ++ [o])[j].length ≤ 4 * ls[j].length) := Lib.hid (fun j h h' => by
        have hls := HS.out.ls
        rcases Nat.lt_or_ge j ss.length with h4 | h4
        · rw [List.getElem_append_left h4]; exact HF.out j h4 h'
        · have e : j = i := by rw [List.length_append] at h; simp at h; omega
          subst e
          have e3 : (ss ++ [o])[j] = o := by rw [List.getElem_append_right h4]; simp [hls]
          rw [e3]
          exact ⟨hn1, hn2, by rw [← HNS.out]; exact hn3⟩)
      have hgl2 : g ≤ wr.heap.size := by have := HB.out.size; have h9 := (World.ownsRow.lt HS.out.out g rfl).2; omega
      have HBN : Hid (Below g W (w2.setCell ⟨g, i, none⟩ (.slice P5 o.length c5))) := Lib.hid (((HB.out.trans (hn5.mono hgl2)).grown hst.2 (by omega) (fun k e => by have := Option.some.inj e; omega)))
      clear hn1 hn2 hn3 hn4 hn5 hvg hv0 hS2 hst HNM c0
      go_wp2_with fail
      go_roundg gk
      case measure => omega
      case rel => exact ⟨i + 1, _, _, by omega, by go_num, Lib.hid HST.out.1, HFN, HBN⟩
end Go.Proofs.YtkphbjppmiefkaaDoor
