/- TermsApart: the walk. -/
import Derived.BigQuiet
import Derived.Deep.RegionHeld3
import Derived.Test.YtkphbjppmiefkaaDoorTPU
import Derived.Test.YtkphbjppmiefkaaDoorTUT
namespace Go.Proofs.YtkphbjppmiefkaaDoor
open Go.RowKit Go.Shelf Go.Maps SetM TermsM
theorem parts_self {l p : List (List Sp)} (h : PartsOf l p) {x o : List Sp} (hx : x ∈ p) (hn : Nf o) (hm : ∀ r, Mem o r ↔ Tells x r) : o = x :=
  nf_unique o x hn (h.bun.nf x hx).1 (fun r => (hm r).trans (h.tells hx r))
theorem parts_wide {l p : List (List Sp)} (h : PartsOf l p) {x : List Sp} (hx : x ∈ p) : Wide x :=
  wide_set (K := fun r => Mem x r) ⟨(h.bun.nf x hx).1, fun _ => Iff.rfl⟩ (fun _ hr => h.sc hx hr)
theorem parts_all {l p : List (List Sp)} (h : PartsOf l p) (r : Int) : (∃ a ∈ p, Tells a r) ↔ ∃ a ∈ l, Tells a r := by
  constructor
  · rintro ⟨a, ha, ht⟩; exact (h.bun.dom r).2 ⟨a, ha, ht.2⟩
  · intro hA
    obtain ⟨x, hx, hm⟩ := (h.bun.dom r).1 hA
    exact ⟨x, hx, (h.tells hx r).2 hm⟩
theorem parts_sum_le {l p : List (List Sp)} (h : PartsOf l p) (i : Nat) : 0 ≤ ((p.take i).map sizeZ).sum ∧ ((p.take i).map sizeZ).sum ≤ 1114112 * p.length := by
  have h1 := sizes_le (p := p.take i) (fun x hx => by have := h.pos (List.mem_of_mem_take hx); omega)
  have h2 : (p.take i).length ≤ p.length := by rw [List.length_take]; omega
  omega
set_option maxRecDepth 100000 in
set_option maxHeartbeats 8000000 in
theorem termsApart_any {W : World} {A : Option Addr} {n ca : Nat} {cs : List (List Int)} (h0 : 0 < W.heap.size) (hA : Areas W) (hn : n = cs.length) (hn8 : n ≤ 9223372036854775807) (hC : Css W A cs) :
    Calls Tryd.prog 6 #[.slice A n ca] W fun e W' => e = .returned (.bool true) ∧ Below W.heap.size W W' := by
  have HK : Hid (∀ V, Below W.heap.size W V → Calls Tryd.prog 9 #[] V fun e W' => e = .returned (.bool true) ∧ Below V.heap.size V W') := Lib.hid (fun V hV => known10 (by have := hV.size; omega) (hA.below hV h0))
  have HLI := Lib.hid (list_c (W := W) (A := A) (n := n) (ca := ca) (cs := cs) hn hn8 hC)
  have HA := Lib.hid (And.intro h0 hA)
  have HW0 := Lib.hid (listF_wide hC)
  clear h0 hA hn hn8 hC
  go_enter Tryd.func6, Tryd.ntmps6
  go_wp2_with fail
  refine HLI.out.mono ?_
  rintro e w2 ⟨P2, c2, rfl, hR2, hP2, hc2, b2⟩
  have HX : Hid ((listF cs 8).length ≤ 8 ∧ (∀ y ∈ listF cs 8, y.length ≤ 30) ∧ (listF cs 8).flatten.length ≤ 240) := Lib.hid (listF_le cs)
  obtain ⟨x, hx⟩ : ∃ x, x = listF cs 8 := ⟨_, rfl⟩
  rw [← hx] at hR2 hc2 HX HW0 ⊢
  obtain ⟨nx, hnx⟩ : ∃ nx, nx = x.length := ⟨_, rfl⟩
  rw [← hnx]
  have HNX := Lib.hid hnx
  have HB2 := Lib.hid b2
  have HR2 := Lib.hid hR2
  have HOF := Lib.hid (of_c (W := w2) (ca := c2) (by have := b2.size; have := HA.out.1; omega) (HA.out.2.below b2 HA.out.1) hnx hR2 (by have := HX.out.1; omega) (by have := HX.out.2.2; omega))
  clear hx hnx hP2 hc2 b2 hR2 HLI
  go_wp2_with fail
  refine HOF.out.mono ?_
  rintro e w3 ⟨P3, c3, p, rfl, hR3, hpp, hf3, hn3, hP3, hc3, b3⟩
  obtain ⟨np, hnp⟩ : ∃ np, np = p.length := ⟨_, rfl⟩
  rw [← hnp]
  have hnp8 : np ≤ 2000 := by have := HX.out.2.2; omega
  have HNP := Lib.hid (And.intro hnp hpp)
  have HR3 := Lib.hid hR3
  have HF3 : Hid (p.flatten.length ≤ 2000) := Lib.hid (by have := HX.out.2.2; omega)
  have HL3 : Hid (∀ y ∈ p, y.length ≤ 2000) := Lib.hid (fun y hy => by have := flat_memm hy; have := HF3.out; omega)
  have HB3 := Lib.hid (HB2.out.trans (b3.mono HB2.out.size))
  have HRX := Lib.hid (HR2.out.step b3)
  clear hnp hpp hf3 hn3 hP3 hc3 b3 hR3 HOF HR2 HB2
  go_wp2_with fail
  go_loopg [5, 6] np (fun g s5 s6 wx => ∃ (i : Nat) (T : Int), i + g = np ∧ s6 = .int .i64 i ∧ s5 = .int .i64 T ∧ Hid (T = ((p.take i).map sizeZ).sum) ∧ Hid (Below w3.heap.size w3 wx))
  case atStart => exact ⟨0, 0, by omega, rfl, rfl, Lib.hid (by simp), Lib.hid (Below.refl _ _)⟩
  case round =>
    obtain ⟨i, T, hig, rfl, rfl, HT, HB⟩ := hrel
    have HIG := Lib.hid hig
    cases gk with
    | zero =>
      obtain rfl : i = np := by omega
      have hlt : ¬ (i : Int) < (i : Int) := by omega
      have HBW := Lib.hid (HB3.out.trans (HB.out.mono HB3.out.size))
      have htx : total x ≤ 20000 := by have := HX.out.2.2; unfold total flat; omega
      have htp : total p ≤ 20000 := by have := HF3.out; unfold total flat; omega
      have hux := runion_any P2 c2 x (by have := HX.out.1; omega) htx HW0.out wr (HRX.out.step HB.out)
      rw [← HNX.out] at hux
      have HUX := Lib.hid hux
      have HUP : Hid (∀ V, Below w3.heap.size w3 V → Calls Tryd.prog 23 #[.slice P3 i c3] V (SetStep V (fun r => ∃ a ∈ p, Tells a r) 40004)) := Lib.hid (fun V hV => by
        have := runion_any P3 c3 p (by have := HNP.out.1; omega) htp (fun a ha => parts_wide HNP.out.2 ha) V (HR3.out.step hV)
        rw [← HNP.out.1] at this
        exact this)
      clear htx htp hux
      go_wp2_with fail
      refine HUX.out.mono ?_
      rintro e w4 ⟨P4, c4, u, rfl, iu, lu, su, _, b4⟩
      have HU := Lib.hid (And.intro iu (And.intro lu su))
      have HB4 := Lib.hid (HBW.out.trans (b4.mono HBW.out.size))
      have HV4 := Lib.hid (HB.out.trans (b4.mono HB.out.size))
      obtain ⟨nu, hnu⟩ : ∃ nu, nu = u.length := ⟨_, rfl⟩
      rw [← hnu]
      have HNU := Lib.hid hnu
      clear iu lu su b4 HUX hnu
      go_wp2_with fail
      refine (HK.out _ HB4.out).mono ?_
      rintro e w5 ⟨rfl, b5⟩
      have HB5 := Lib.hid (HB4.out.trans (b5.mono HB4.out.size))
      have HV5 := Lib.hid (HV4.out.trans (b5.mono HV4.out.size))
      have hsu := HU.out.2.2.step b5
      have hwu : Wide u := wide_set HU.out.1 (fun r ⟨_, _, h⟩ => h.1)
      have hsz := rsize_c (W := w5) (P := P4) (c := c4) (l := u) hsu (by have := HU.out.2.1; omega) hwu
      rw [← HNU.out] at hsz
      have HSZ := Lib.hid hsz
      have HSU := Lib.hid hsu
      clear b5 hsu hwu hsz
      go_wp2_with fail
      refine HSZ.out.mono ?_
      rintro e w6 ⟨o, ho, hm, rfl, b6⟩
      have hoT : sizeL o = T := by
        rw [HT.out, HNP.out.1, List.take_length]
        exact (HNP.out.2.sizes ho (fun r => by
          rw [hm, HU.out.1.tells (fun r ⟨_, _, h⟩ => h.1)]
          rfl)).symm
      rw [hoT]
      have HB6 := Lib.hid (HB5.out.trans (b6.mono HB5.out.size))
      have HV6 := Lib.hid (HV5.out.trans (b6.mono HV5.out.size))
      have HSU6 := Lib.hid (HSU.out.step b6)
      clear ho hm hoT b6 HSZ
      go_wp2_with fail
      refine (HUP.out _ HV6.out).mono ?_
      rintro e w7 ⟨P7, c7, v, rfl, iv, lv, sv, _, b7⟩
      have huv : v = u := iv.eq HU.out.1 (fun r => parts_all HNP.out.2 r)
      subst huv
      have hal := alike_c (W := w7) (P := P4) (Q := P7) (c := c4) (d := c7) (l := v) (m := v) (HSU6.out.step b7) sv (by omega) (by omega)
      rw [← HNU.out, decide_eq_true rfl] at hal
      rw [← HNU.out]
      have HAL := Lib.hid hal
      have HB7 := Lib.hid (HB6.out.trans (b7.mono HB6.out.size))
      clear iv lv sv b7 hal
      go_wp2_with fail
      refine HAL.out.mono ?_
      rintro e w8 ⟨rfl, b8⟩
      have HB8 := Lib.hid (HB7.out.trans (b8.mono HB7.out.size))
      clear b8
      go_wp2_with fail
      go_ret
      exact ⟨rfl, HB8.out⟩
    | succ g =>
      have hlt : (i : Int) < (np : Int) := by omega
      have hip : i < p.length := by have := HNP.out.1; omega
      have hi0 : (0 : Int) ≤ (i : Int) := by omega
      have hxp : p[i] ∈ p := List.getElem_mem hip
      obtain ⟨bp, op, rfl⟩ := HR3.out.form (by omega)
      have hnep : ∀ x ∈ p, x ≠ [] := fun x hx => (HNP.out.2.bun.nf x hx).2
      have HNE := Lib.hid hnep
      obtain ⟨bi, oi, ni, ci, hni, hnl, hsi, hci⟩ := HR3.out.lo_at hnep hip
      have hniz : (0 : Int) < (ni : Int) := by omega
      obtain ⟨c0, c1⟩ := hci _ HB.out
      have hwi := parts_wide HNP.out.2 hxp
      have hl8 : p[i].length ≤ 2000 := HL3.out _ hxp
      have hsz := rsize_c (W := wr) (P := some ⟨bi, oi, none⟩) (c := ci) (l := p[i]) ((hsi.below HB.out).mono HB.out.size) (by omega) hwi
      rw [← hnl] at hsz
      have hpos := HNP.out.2.pos hxp
      have hsum := parts_sum_le HNP.out.2 i
      have hst := sizes_take hip
      have HSZ := Lib.hid hsz
      have HCI := Lib.hid hci
      have HPI := Lib.hid (And.intro hip (And.intro hnl (And.intro hsi hl8)))
      obtain ⟨z, hz⟩ : ∃ z, z = sizeZ p[i] := ⟨_, rfl⟩
      rw [← hz] at hpos hst
      have HZ := Lib.hid hz
      have hT0 : 0 ≤ T := by rw [HT.out]; exact hsum.1
      have hT1 : T ≤ 1114112 * 2000 := by have := HT.out; have := HNP.out.1; omega
      have hwr : wrap64 (T + z) = T + z := IntWalk.wrap64_in _ (by omega)
      have hz0 : (z == 0) = false := by simp; omega
      have hz1 : ¬ z = 0 := by omega
      have HT2 : Hid (T + z = ((p.take (i + 1)).map sizeZ).sum) := Lib.hid (by rw [hst, ← HT.out])
      clear hsz hci hnl hsi hl8 hst hsum hz hwi hxp hnep hni hpos hig
      go_upto_region 8 with (go_at_call 20; refine HSZ.out.mono ?_; rintro e w4 ⟨o, ho, hm, rfl, b4⟩)
      have hoz : sizeL o = z := by rw [parts_self HNP.out.2 (List.getElem_mem HPI.out.1) ho hm, HZ.out]; rfl
      rw [hoz]
      have HB4 := Lib.hid (HB.out.trans (b4.mono HB.out.size))
      obtain ⟨c0, c1⟩ := HCI.out _ HB4.out
      clear ho hm hoz b4 HSZ HB
      obtain ⟨y, hy⟩ : ∃ y, y = p[i]'HPI.out.1 := ⟨_, rfl⟩
      have HY : Hid (y ∈ p ∧ ni = y.length ∧ Spans w3.heap.size w3 (some ⟨bi, oi, none⟩) y ∧ y.length ≤ 2000) := Lib.hid (by rw [hy]; exact ⟨List.getElem_mem HPI.out.1, HPI.out.2⟩)
      have HYE := Lib.hid hy
      have HNO : Hid (∀ U, Below w3.heap.size w3 U → Calls Tryd.prog 22 #[.slice (some ⟨bi, oi, none⟩) ni ci] U fun e W' => ∃ P c, e = .returned (.slice P ni c) ∧ Sl W' P y ∧ Below U.heap.size U W') := Lib.hid (fun U hU => by
        have h := rnorm_c (W := U) (P := some ⟨bi, oi, none⟩) (c := ci) (l := y) ((HY.out.2.2.1.below hU).mono hU.size) (by have := HY.out.2.2.2; omega) (parts_wide HNP.out.2 HY.out.1)
        rw [← HY.out.2.1] at h
        refine h.mono (fun e W' h' => ?_)
        obtain ⟨P, c, o, rfl, ho, _, hs, _, hb⟩ := h'
        have e1 := parts_self HNP.out.2 HY.out.1 ho.1 ho.2
        subst e1
        exact ⟨P, c, by rw [← HY.out.2.1], hs, hb⟩)
      have HAL : Hid (∀ U P c, Below w3.heap.size w3 U → Sl U P y → Calls Tryd.prog 21 #[.slice P ni c, .slice (some ⟨bi, oi, none⟩) ni ci] U fun e W' => e = .returned (.bool true) ∧ Below U.heap.size U W') := Lib.hid (fun U P c hU hs => by
        have h := alike_c (W := U) (P := P) (Q := some ⟨bi, oi, none⟩) (c := c) (d := ci) (l := y) (m := y) hs ((HY.out.2.2.1.below hU).mono hU.size) (by have := HY.out.2.2.2; omega) (by have := HY.out.2.2.2; omega)
        rw [decide_eq_true rfl, ← HY.out.2.1] at h
        exact h)
      clear hy
      go_upto_region 9 with fail
      rcases Nat.eq_zero_or_pos i with hiz | hip1
      · subst hiz
        have hi1 : ¬ (0 : Int) < ((0 : Nat) : Int) := by omega
        have hnp0 : 0 < np := by omega
        have hni0 : 0 < ni := by omega
        rw [hwr]
        go_cut [63] (fun s63 wc => s63 = .bool false ∧ Hid (Below w3.heap.size w3 wc))
        case first =>
          have hr : Below w3.heap.size w3 w4.drew := HB4.out.drew
          refine wp_region_held_drew (S := (fun U => U.cell? ⟨bp, op, none⟩ = some (.slice (some ⟨bi, oi, none⟩) ni ci))) (by kernel_rfl) (HCI.out _ hr).1 (fun hHeld => ?_)
          refine wpAnyH_take (i := 0) (oi := { dst := some 27, op := Op.move (Operand.tmp 7), type := 3, pos := "law.go:76", after := #[], guard := none }) (v := ?_) rfl (by kernel_rfl) (by kernel_rfl) (by kernel_rfl) (fun _ _ _ h => h) (Or.inl ⟨by rfl, ?hy0⟩) (by assumption) ?_
          case hy0 => (intro ww hSw; (try dsimp only at hSw); first | (go_simp; done) | (go_simp; with_reducible rfl))
          try simp only [Act.put, List.setIfInBounds_toArray, List.set_cons_zero, List.set_cons_succ]
          refine wpAnyH_take (i := 1) (oi := { dst := some 28, op := Op.binOp BinOp.eql 3 (Operand.tmp 27) (Operand.const (Value.int IntKind.i64 0)) 3, type := 4, pos := "law.go:76", after := #[{ on := 0, ground := Ground.data }], guard := none }) (v := ?_) rfl (by kernel_rfl) (by kernel_rfl) (by kernel_rfl) (fun _ _ _ h => h) (Or.inl ⟨by rfl, ?hy1⟩) (by assumption) ?_
          case hy1 => (intro ww hSw; (try dsimp only at hSw); first | (go_simp; done) | (go_simp; with_reducible rfl))
          try simp only [Act.put, List.setIfInBounds_toArray, List.set_cons_zero, List.set_cons_succ]
          refine wpAnyH_take (i := 2) (oi := { dst := some 29, op := Op.move (Operand.tmp 28), type := 4, pos := "law.go:76", after := #[{ on := 1, ground := Ground.data }], guard := none }) (v := ?_) rfl (by kernel_rfl) (by kernel_rfl) (by kernel_rfl) (fun _ _ _ h => h) (Or.inl ⟨by rfl, ?hy2⟩) (by assumption) ?_
          case hy2 => (intro ww hSw; (try dsimp only at hSw); first | (go_simp; done) | (go_simp; with_reducible rfl))
          try simp only [Act.put, List.setIfInBounds_toArray, List.set_cons_zero, List.set_cons_succ]
          refine wpAnyH_take (i := 3) (oi := { dst := some 30, op := Op.move (Operand.tmp 4), type := 24, pos := "law.go:76", after := #[{ on := 2, ground := Ground.guard }], guard := some (2, false) }) (v := ?_) rfl (by kernel_rfl) (by kernel_rfl) (by kernel_rfl) (fun _ _ _ h => h) (Or.inl ⟨by rfl, ?hy3⟩) (by assumption) ?_
          case hy3 => (intro ww hSw; (try dsimp only at hSw); first | (go_simp; done) | (go_simp; with_reducible rfl))
          try simp only [Act.put, List.setIfInBounds_toArray, List.set_cons_zero, List.set_cons_succ]
          refine wpAnyH_take (i := 4) (oi := { dst := some 31, op := Op.move (Operand.tmp 6), type := 3, pos := "law.go:76", after := #[{ on := 2, ground := Ground.guard }], guard := some (2, false) }) (v := ?_) rfl (by kernel_rfl) (by kernel_rfl) (by kernel_rfl) (fun _ _ _ h => h) (Or.inl ⟨by rfl, ?hy4⟩) (by assumption) ?_
          case hy4 => (intro ww hSw; (try dsimp only at hSw); first | (go_simp; done) | (go_simp; with_reducible rfl))
          try simp only [Act.put, List.setIfInBounds_toArray, List.set_cons_zero, List.set_cons_succ]
          refine wpAnyH_take (i := 5) (oi := { dst := some 32, op := Op.indexAddr 24 (Operand.tmp 30) (Operand.tmp 31), type := 0, pos := "law.go:76", after := #[{ on := 3, ground := Ground.data }, { on := 4, ground := Ground.data }, { on := 2, ground := Ground.guard }], guard := some (2, false) }) (v := ?_) rfl (by kernel_rfl) (by kernel_rfl) (by kernel_rfl) (fun _ _ _ h => h) (Or.inl ⟨by rfl, ?hy5⟩) (by assumption) ?_
          case hy5 => (intro ww hSw; (try dsimp only at hSw); first | (go_simp; done) | (go_simp; with_reducible rfl))
          try simp only [Act.put, List.setIfInBounds_toArray, List.set_cons_zero, List.set_cons_succ]
          refine wpAnyH_take (i := 6) (oi := { dst := some 33, op := Op.load 28 (Operand.tmp 32), type := 28, pos := "law.go:76", after := #[{ on := 5, ground := Ground.data }, { on := 2, ground := Ground.guard }], guard := some (2, false) }) (v := .slice (some ⟨bi, oi, none⟩) ni ci) rfl (by kernel_rfl) (by kernel_rfl) (by kernel_rfl) (fun _ _ _ h => h) (Or.inl ⟨by rfl, ?hy6⟩) (by assumption) ?_
          case hy6 => (intro ww hSw; (try dsimp only at hSw); first | (go_simp; done) | (go_simp; with_reducible rfl))
          try simp only [Act.put, List.setIfInBounds_toArray, List.set_cons_zero, List.set_cons_succ]
          refine wpAnyH_take (i := 8) (oi := { dst := some 35, op := Op.move (Operand.tmp 4), type := 24, pos := "law.go:76", after := #[{ on := 2, ground := Ground.guard }], guard := some (2, false) }) (v := ?_) rfl (by kernel_rfl) (by kernel_rfl) (by kernel_rfl) (fun _ _ _ h => h) (Or.inl ⟨by rfl, ?hy8⟩) (by assumption) ?_
          case hy8 => (intro ww hSw; (try dsimp only at hSw); first | (go_simp; done) | (go_simp; with_reducible rfl))
          try simp only [Act.put, List.setIfInBounds_toArray, List.set_cons_zero, List.set_cons_succ]
          refine wpAnyH_take (i := 9) (oi := { dst := some 36, op := Op.move (Operand.tmp 6), type := 3, pos := "law.go:76", after := #[{ on := 2, ground := Ground.guard }], guard := some (2, false) }) (v := ?_) rfl (by kernel_rfl) (by kernel_rfl) (by kernel_rfl) (fun _ _ _ h => h) (Or.inl ⟨by rfl, ?hy9⟩) (by assumption) ?_
          case hy9 => (intro ww hSw; (try dsimp only at hSw); first | (go_simp; done) | (go_simp; with_reducible rfl))
          try simp only [Act.put, List.setIfInBounds_toArray, List.set_cons_zero, List.set_cons_succ]
          refine wpAnyH_take (i := 10) (oi := { dst := some 37, op := Op.indexAddr 24 (Operand.tmp 35) (Operand.tmp 36), type := 0, pos := "law.go:76", after := #[{ on := 8, ground := Ground.data }, { on := 9, ground := Ground.data }, { on := 2, ground := Ground.guard }], guard := some (2, false) }) (v := ?_) rfl (by kernel_rfl) (by kernel_rfl) (by kernel_rfl) (fun _ _ _ h => h) (Or.inl ⟨by rfl, ?hy10⟩) (by assumption) ?_
          case hy10 => (intro ww hSw; (try dsimp only at hSw); first | (go_simp; done) | (go_simp; with_reducible rfl))
          try simp only [Act.put, List.setIfInBounds_toArray, List.set_cons_zero, List.set_cons_succ]
          refine wpAnyH_take (i := 11) (oi := { dst := some 38, op := Op.load 28 (Operand.tmp 37), type := 28, pos := "law.go:76", after := #[{ on := 10, ground := Ground.data }, { on := 2, ground := Ground.guard }], guard := some (2, false) }) (v := .slice (some ⟨bi, oi, none⟩) ni ci) rfl (by kernel_rfl) (by kernel_rfl) (by kernel_rfl) (fun _ _ _ h => h) (Or.inl ⟨by rfl, ?hy11⟩) (by assumption) ?_
          case hy11 => (intro ww hSw; (try dsimp only at hSw); first | (go_simp; done) | (go_simp; with_reducible rfl))
          try simp only [Act.put, List.setIfInBounds_toArray, List.set_cons_zero, List.set_cons_succ]
          refine wpAnyH_ready (rs := [7]) (by kernel_rfl) (by simp) ?_
          refine AllReadyH.cons (o := { dst := some 34, op := Op.call { callee := Callee.value (Operand.func 22), args := #[Operand.tmp 33], argTypes := #[28] }, type := 28, pos := "law.go:76", after := #[{ on := 6, ground := Ground.data }, { on := 2, ground := Ground.chain }, { on := 2, ground := Ground.guard }], guard := some (2, false) }) rfl (fun K hK => ?_) ?more7
          case more7 => exact AllReadyH.nil
          go_simp
          go_at_call 22; (refine (HNO.out _ hr).mono ?_); rintro ee w6 ⟨P6, c6, rfl, hs6, b6⟩; have hr := hr.trans (b6.mono hr.size)
          refine hK.out _ _ (HCI.out _ hr).1 (fun hHeld => ?_)
          clear hK K
          try simp only [Act.put, List.setIfInBounds_toArray, List.set_cons_zero, List.set_cons_succ]
          refine wpAnyH_ready (rs := [12]) (by kernel_rfl) (by simp) ?_
          refine AllReadyH.cons (o := { dst := some 39, op := Op.call { callee := Callee.value (Operand.func 21), args := #[Operand.tmp 34, Operand.tmp 38], argTypes := #[28, 28] }, type := 4, pos := "law.go:76", after := #[{ on := 7, ground := Ground.data }, { on := 11, ground := Ground.data }, { on := 7, ground := Ground.chain }, { on := 2, ground := Ground.guard }], guard := some (2, false) }) rfl (fun K hK => ?_) ?more12
          case more12 => exact AllReadyH.nil
          go_simp
          go_at_call 21; (refine (HAL.out _ P6 c6 hr hs6).mono ?_); rintro ee w7 ⟨rfl, b7⟩; have hr := hr.trans (b7.mono hr.size)
          refine hK.out _ _ (HCI.out _ hr).1 (fun hHeld => ?_)
          clear hK K
          try simp only [Act.put, List.setIfInBounds_toArray, List.set_cons_zero, List.set_cons_succ]
          refine wpAnyH_take (i := 13) (oi := { dst := some 40, op := Op.unOp UnOp.not 4 (Operand.tmp 39), type := 4, pos := "law.go:76", after := #[{ on := 12, ground := Ground.data }, { on := 2, ground := Ground.guard }], guard := some (2, false) }) (v := ?_) rfl (by kernel_rfl) (by kernel_rfl) (by kernel_rfl) (fun _ _ _ h => h) (Or.inl ⟨by rfl, ?hy13⟩) (by assumption) ?_
          case hy13 => (intro ww hSw; (try dsimp only at hSw); first | (go_simp; done) | (go_simp; with_reducible rfl))
          try simp only [Act.put, List.setIfInBounds_toArray, List.set_cons_zero, List.set_cons_succ]
          refine wpAnyH_take (i := 14) (oi := { dst := some 41, op := Op.pick (Operand.tmp 29) (Operand.const (Value.bool true)) (Operand.tmp 40), type := 4, pos := "law.go:76", after := #[{ on := 2, ground := Ground.data }, { on := 13, ground := Ground.data }], guard := none }) (v := ?_) rfl (by kernel_rfl) (by kernel_rfl) (by kernel_rfl) (fun _ _ _ h => h) (Or.inl ⟨by rfl, ?hy14⟩) (by assumption) ?_
          case hy14 => (intro ww hSw; (try dsimp only at hSw); first | (go_simp; done) | (go_simp; with_reducible rfl))
          try simp only [Act.put, List.setIfInBounds_toArray, List.set_cons_zero, List.set_cons_succ]
          refine wpAnyH_take (i := 15) (oi := { dst := some 42, op := Op.move (Operand.tmp 41), type := 4, pos := "law.go:76", after := #[{ on := 14, ground := Ground.data }, { on := 12, ground := Ground.chain }], guard := none }) (v := ?_) rfl (by kernel_rfl) (by kernel_rfl) (by kernel_rfl) (fun _ _ _ h => h) (Or.inl ⟨by rfl, ?hy15⟩) (by assumption) ?_
          case hy15 => (intro ww hSw; (try dsimp only at hSw); first | (go_simp; done) | (go_simp; with_reducible rfl))
          try simp only [Act.put, List.setIfInBounds_toArray, List.set_cons_zero, List.set_cons_succ]
          refine wpAnyH_take (i := 16) (oi := { dst := some 43, op := Op.move (Operand.tmp 6), type := 3, pos := "law.go:76", after := #[{ on := 15, ground := Ground.guard }], guard := some (15, false) }) (v := ?_) rfl (by kernel_rfl) (by kernel_rfl) (by kernel_rfl) (fun _ _ _ h => h) (Or.inl ⟨by rfl, ?hy16⟩) (by assumption) ?_
          case hy16 => (intro ww hSw; (try dsimp only at hSw); first | (go_simp; done) | (go_simp; with_reducible rfl))
          try simp only [Act.put, List.setIfInBounds_toArray, List.set_cons_zero, List.set_cons_succ]
          refine wpAnyH_take (i := 17) (oi := { dst := some 44, op := Op.binOp BinOp.gtr 3 (Operand.tmp 43) (Operand.const (Value.int IntKind.i64 0)) 3, type := 4, pos := "law.go:76", after := #[{ on := 16, ground := Ground.data }, { on := 15, ground := Ground.guard }], guard := some (15, false) }) (v := ?_) rfl (by kernel_rfl) (by kernel_rfl) (by kernel_rfl) (fun _ _ _ h => h) (Or.inl ⟨by rfl, ?hy17⟩) (by assumption) ?_
          case hy17 => (intro ww hSw; (try dsimp only at hSw); first | (go_simp; done) | (go_simp; with_reducible rfl))
          try simp only [Act.put, List.setIfInBounds_toArray, List.set_cons_zero, List.set_cons_succ]
          refine wpAnyH_take (i := 18) (oi := { dst := some 45, op := Op.move (Operand.tmp 44), type := 4, pos := "law.go:76", after := #[{ on := 17, ground := Ground.data }, { on := 15, ground := Ground.chain }, { on := 15, ground := Ground.guard }], guard := some (15, false) }) (v := ?_) rfl (by kernel_rfl) (by kernel_rfl) (by kernel_rfl) (fun _ _ _ h => h) (Or.inl ⟨by rfl, ?hy18⟩) (by assumption) ?_
          case hy18 => (intro ww hSw; (try dsimp only at hSw); first | (go_simp; done) | (go_simp; with_reducible rfl))
          try simp only [Act.put, List.setIfInBounds_toArray, List.set_cons_zero, List.set_cons_succ]
          refine wpAnyH_take (i := 19) (oi := { dst := some 46, op := Op.move (Operand.tmp 4), type := 24, pos := "law.go:76", after := #[{ on := 18, ground := Ground.guard }], guard := some (18, true) }) (v := undef) rfl (by kernel_rfl) (by kernel_rfl) (by kernel_rfl) (fun _ _ _ h => h) (Or.inr ⟨by rfl, rfl⟩) (by assumption) ?_
          try simp only [Act.put, List.setIfInBounds_toArray, List.set_cons_zero, List.set_cons_succ]
          refine wpAnyH_take (i := 20) (oi := { dst := some 47, op := Op.move (Operand.tmp 6), type := 3, pos := "law.go:76", after := #[{ on := 18, ground := Ground.guard }], guard := some (18, true) }) (v := undef) rfl (by kernel_rfl) (by kernel_rfl) (by kernel_rfl) (fun _ _ _ h => h) (Or.inr ⟨by rfl, rfl⟩) (by assumption) ?_
          try simp only [Act.put, List.setIfInBounds_toArray, List.set_cons_zero, List.set_cons_succ]
          refine wpAnyH_take (i := 21) (oi := { dst := some 48, op := Op.binOp BinOp.sub 3 (Operand.tmp 47) (Operand.const (Value.int IntKind.i64 1)) 3, type := 3, pos := "law.go:76", after := #[{ on := 20, ground := Ground.data }, { on := 18, ground := Ground.guard }], guard := some (18, true) }) (v := undef) rfl (by kernel_rfl) (by kernel_rfl) (by kernel_rfl) (fun _ _ _ h => h) (Or.inr ⟨by rfl, rfl⟩) (by assumption) ?_
          try simp only [Act.put, List.setIfInBounds_toArray, List.set_cons_zero, List.set_cons_succ]
          refine wpAnyH_take (i := 22) (oi := { dst := some 49, op := Op.indexAddr 24 (Operand.tmp 46) (Operand.tmp 48), type := 0, pos := "law.go:76", after := #[{ on := 19, ground := Ground.data }, { on := 21, ground := Ground.data }, { on := 18, ground := Ground.guard }], guard := some (18, true) }) (v := undef) rfl (by kernel_rfl) (by kernel_rfl) (by kernel_rfl) (fun _ _ _ h => h) (Or.inr ⟨by rfl, rfl⟩) (by assumption) ?_
          try simp only [Act.put, List.setIfInBounds_toArray, List.set_cons_zero, List.set_cons_succ]
          refine wpAnyH_take (i := 23) (oi := { dst := some 50, op := Op.load 28 (Operand.tmp 49), type := 28, pos := "law.go:76", after := #[{ on := 22, ground := Ground.data }, { on := 18, ground := Ground.guard }], guard := some (18, true) }) (v := undef) rfl (by kernel_rfl) (by kernel_rfl) (by kernel_rfl) (fun _ _ _ h => h) (Or.inr ⟨by rfl, rfl⟩) (by assumption) ?_
          try simp only [Act.put, List.setIfInBounds_toArray, List.set_cons_zero, List.set_cons_succ]
          refine wpAnyH_take (i := 24) (oi := { dst := some 51, op := Op.indexAddr 28 (Operand.tmp 50) (Operand.const (Value.int IntKind.i64 0)), type := 0, pos := "law.go:76", after := #[{ on := 23, ground := Ground.data }, { on := 18, ground := Ground.guard }], guard := some (18, true) }) (v := undef) rfl (by kernel_rfl) (by kernel_rfl) (by kernel_rfl) (fun _ _ _ h => h) (Or.inr ⟨by rfl, rfl⟩) (by assumption) ?_
          try simp only [Act.put, List.setIfInBounds_toArray, List.set_cons_zero, List.set_cons_succ]
          refine wpAnyH_take (i := 25) (oi := { dst := some 52, op := Op.fieldAddr 42 (Operand.tmp 51) 0, type := 0, pos := "law.go:76", after := #[{ on := 24, ground := Ground.data }, { on := 18, ground := Ground.guard }], guard := some (18, true) }) (v := undef) rfl (by kernel_rfl) (by kernel_rfl) (by kernel_rfl) (fun _ _ _ h => h) (Or.inr ⟨by rfl, rfl⟩) (by assumption) ?_
          try simp only [Act.put, List.setIfInBounds_toArray, List.set_cons_zero, List.set_cons_succ]
          refine wpAnyH_take (i := 26) (oi := { dst := some 53, op := Op.load 3 (Operand.tmp 52), type := 3, pos := "law.go:76", after := #[{ on := 25, ground := Ground.data }, { on := 18, ground := Ground.guard }], guard := some (18, true) }) (v := undef) rfl (by kernel_rfl) (by kernel_rfl) (by kernel_rfl) (fun _ _ _ h => h) (Or.inr ⟨by rfl, rfl⟩) (by assumption) ?_
          try simp only [Act.put, List.setIfInBounds_toArray, List.set_cons_zero, List.set_cons_succ]
          refine wpAnyH_take (i := 27) (oi := { dst := some 54, op := Op.move (Operand.tmp 4), type := 24, pos := "law.go:76", after := #[{ on := 18, ground := Ground.guard }], guard := some (18, true) }) (v := undef) rfl (by kernel_rfl) (by kernel_rfl) (by kernel_rfl) (fun _ _ _ h => h) (Or.inr ⟨by rfl, rfl⟩) (by assumption) ?_
          try simp only [Act.put, List.setIfInBounds_toArray, List.set_cons_zero, List.set_cons_succ]
          refine wpAnyH_take (i := 28) (oi := { dst := some 55, op := Op.move (Operand.tmp 6), type := 3, pos := "law.go:76", after := #[{ on := 18, ground := Ground.guard }], guard := some (18, true) }) (v := undef) rfl (by kernel_rfl) (by kernel_rfl) (by kernel_rfl) (fun _ _ _ h => h) (Or.inr ⟨by rfl, rfl⟩) (by assumption) ?_
          try simp only [Act.put, List.setIfInBounds_toArray, List.set_cons_zero, List.set_cons_succ]
          refine wpAnyH_take (i := 29) (oi := { dst := some 56, op := Op.indexAddr 24 (Operand.tmp 54) (Operand.tmp 55), type := 0, pos := "law.go:76", after := #[{ on := 27, ground := Ground.data }, { on := 28, ground := Ground.data }, { on := 18, ground := Ground.guard }], guard := some (18, true) }) (v := undef) rfl (by kernel_rfl) (by kernel_rfl) (by kernel_rfl) (fun _ _ _ h => h) (Or.inr ⟨by rfl, rfl⟩) (by assumption) ?_
          try simp only [Act.put, List.setIfInBounds_toArray, List.set_cons_zero, List.set_cons_succ]
          refine wpAnyH_take (i := 30) (oi := { dst := some 57, op := Op.load 28 (Operand.tmp 56), type := 28, pos := "law.go:76", after := #[{ on := 29, ground := Ground.data }, { on := 18, ground := Ground.guard }], guard := some (18, true) }) (v := undef) rfl (by kernel_rfl) (by kernel_rfl) (by kernel_rfl) (fun _ _ _ h => h) (Or.inr ⟨by rfl, rfl⟩) (by assumption) ?_
          try simp only [Act.put, List.setIfInBounds_toArray, List.set_cons_zero, List.set_cons_succ]
          refine wpAnyH_take (i := 31) (oi := { dst := some 58, op := Op.indexAddr 28 (Operand.tmp 57) (Operand.const (Value.int IntKind.i64 0)), type := 0, pos := "law.go:76", after := #[{ on := 30, ground := Ground.data }, { on := 18, ground := Ground.guard }], guard := some (18, true) }) (v := undef) rfl (by kernel_rfl) (by kernel_rfl) (by kernel_rfl) (fun _ _ _ h => h) (Or.inr ⟨by rfl, rfl⟩) (by assumption) ?_
          try simp only [Act.put, List.setIfInBounds_toArray, List.set_cons_zero, List.set_cons_succ]
          refine wpAnyH_take (i := 32) (oi := { dst := some 59, op := Op.fieldAddr 42 (Operand.tmp 58) 0, type := 0, pos := "law.go:76", after := #[{ on := 31, ground := Ground.data }, { on := 18, ground := Ground.guard }], guard := some (18, true) }) (v := undef) rfl (by kernel_rfl) (by kernel_rfl) (by kernel_rfl) (fun _ _ _ h => h) (Or.inr ⟨by rfl, rfl⟩) (by assumption) ?_
          try simp only [Act.put, List.setIfInBounds_toArray, List.set_cons_zero, List.set_cons_succ]
          refine wpAnyH_take (i := 33) (oi := { dst := some 60, op := Op.load 3 (Operand.tmp 59), type := 3, pos := "law.go:76", after := #[{ on := 32, ground := Ground.data }, { on := 18, ground := Ground.guard }], guard := some (18, true) }) (v := undef) rfl (by kernel_rfl) (by kernel_rfl) (by kernel_rfl) (fun _ _ _ h => h) (Or.inr ⟨by rfl, rfl⟩) (by assumption) ?_
          try simp only [Act.put, List.setIfInBounds_toArray, List.set_cons_zero, List.set_cons_succ]
          refine wpAnyH_take (i := 34) (oi := { dst := some 61, op := Op.binOp BinOp.geq 3 (Operand.tmp 53) (Operand.tmp 60) 3, type := 4, pos := "law.go:76", after := #[{ on := 26, ground := Ground.data }, { on := 33, ground := Ground.data }, { on := 18, ground := Ground.guard }], guard := some (18, true) }) (v := undef) rfl (by kernel_rfl) (by kernel_rfl) (by kernel_rfl) (fun _ _ _ h => h) (Or.inr ⟨by rfl, rfl⟩) (by assumption) ?_
          try simp only [Act.put, List.setIfInBounds_toArray, List.set_cons_zero, List.set_cons_succ]
          refine wpAnyH_take (i := 35) (oi := { dst := some 62, op := Op.pick (Operand.tmp 45) (Operand.tmp 61) (Operand.const (Value.bool false)), type := 4, pos := "law.go:76", after := #[{ on := 18, ground := Ground.data }, { on := 34, ground := Ground.data }, { on := 15, ground := Ground.guard }], guard := some (15, false) }) (v := ?_) rfl (by kernel_rfl) (by kernel_rfl) (by kernel_rfl) (fun _ _ _ h => h) (Or.inl ⟨by rfl, ?hy35⟩) (by assumption) ?_
          case hy35 => (intro ww hSw; (try dsimp only at hSw); first | (go_simp; done) | (go_simp; with_reducible rfl))
          try simp only [Act.put, List.setIfInBounds_toArray, List.set_cons_zero, List.set_cons_succ]
          refine wpAnyH_take (i := 36) (oi := { dst := some 63, op := Op.pick (Operand.tmp 42) (Operand.const (Value.bool true)) (Operand.tmp 62), type := 4, pos := "law.go:76", after := #[{ on := 15, ground := Ground.data }, { on := 35, ground := Ground.data }], guard := none }) (v := ?_) rfl (by kernel_rfl) (by kernel_rfl) (by kernel_rfl) (fun _ _ _ h => h) (Or.inl ⟨by rfl, ?hy36⟩) (by assumption) ?_
          case hy36 => (intro ww hSw; (try dsimp only at hSw); first | (go_simp; done) | (go_simp; with_reducible rfl))
          try simp only [Act.put, List.setIfInBounds_toArray, List.set_cons_zero, List.set_cons_succ]
          refine wpAnyH_done (by kernel_rfl) ?_ _
          all_goals
            have HH := Lib.hid hr
            clear hr
            go_wp2_with fail
            go_meet
            exact ⟨rfl, HH.out⟩
        case rest =>
          obtain ⟨rfl, HBC⟩ := hcut
          go_wp2_with fail
          go_roundg g
          case measure => omega
          case rel => exact ⟨1, T + z, by have := HIG.out; omega, by first | rfl | go_num, by first | rfl | rw [hwr], HT2, HBC⟩
      · obtain ⟨j, rfl⟩ : ∃ j, i = j + 1 := ⟨i - 1, by omega⟩
        have hjp : j < p.length := by have := HPI.out.1; omega
        obtain ⟨bj, oj, nj, cj, hnj, hq1, hq2, hcj⟩ := HR3.out.lo_at HNE.out hjp
        clear hq1 hq2
        have hnjz : (0 : Int) < (nj : Int) := by omega
        have hnj0 : 0 < nj := hnj
        have hni0 : 0 < ni := by omega
        obtain ⟨lj, hlj⟩ : ∃ lj, lj = lo p[j] := ⟨_, rfl⟩
        obtain ⟨li, hli⟩ : ∃ li, li = lo (p[j + 1]'HPI.out.1) := ⟨_, rfl⟩
        have hll : lj < li := by rw [hlj, hli]; exact List.pairwise_iff_getElem.1 HNP.out.2.up j (j + 1) hjp HPI.out.1 (by omega)
        have hge : decide (li ≤ lj) = false := decide_eq_false (by omega)
        have hge' : ¬ lj ≥ li := by omega
        have hi1 : (0 : Int) < ((j : Int) + 1) := by omega
        have hi2 : decide ((0 : Int) < ((j : Int) + 1)) = true := decide_eq_true hi1
        have hsub : IntKind.i64.wrap ((j : Int) + 1 - 1) = (j : Int) := by rw [IntWalk.i64_in _ (by omega)]; omega
        have hsub2 : IntKind.i64.wrap (j : Int) = (j : Int) := by rw [IntWalk.i64_in _ (by omega)]
        have hjn : (j : Int) < (np : Int) := by omega
        have hj0 : (0 : Int) ≤ (j : Int) := by omega
        have hj1n : (j : Int) + 1 < (np : Int) := by omega
        have hj10 : (0 : Int) ≤ (j : Int) + 1 := by omega
        have HCI2 : Hid (∀ V, Below w3.heap.size w3 V → V.cell? ⟨bp, op + (j + 1), none⟩ = some (.slice (some ⟨bi, oi, none⟩) ni ci) ∧ V.cell? ⟨bi, oi, none⟩ = some (.int .i64 li) ∧ V.cell? ⟨bp, op + j, none⟩ = some (.slice (some ⟨bj, oj, none⟩) nj cj) ∧ V.cell? ⟨bj, oj, none⟩ = some (.int .i64 lj)) := Lib.hid (fun V hV => by
          obtain ⟨a1, a2⟩ := HCI.out V hV
          obtain ⟨a3, a4⟩ := hcj V hV
          exact ⟨a1, by rw [hli]; exact a2, a3, by rw [hlj]; exact a4⟩)
        clear c0 c1 hcj hlj hli hll hip1
        rw [hwr, show ((j + 1 : Nat) : Int) = (j : Int) + 1 from rfl]
        go_cut [63] (fun s63 wc => s63 = .bool false ∧ Hid (Below w3.heap.size w3 wc))
        case first =>
          have hr : Below w3.heap.size w3 w4.drew := HB4.out.drew
          go_region_held3 (fun U => U.cell? ⟨bp, op + (j + 1), none⟩ = some (.slice (some ⟨bi, oi, none⟩) ni ci) ∧ U.cell? ⟨bi, oi, none⟩ = some (.int .i64 li) ∧ U.cell? ⟨bp, op + j, none⟩ = some (.slice (some ⟨bj, oj, none⟩) nj cj) ∧ U.cell? ⟨bj, oj, none⟩ = some (.int .i64 lj))
            (exact HCI2.out _ hr)
            (first
              | (go_at_call 22; (refine (HNO.out _ hr).mono ?_); rintro ee w6 ⟨P6, c6, rfl, hs6, b6⟩; have hr := hr.trans (b6.mono hr.size))
              | (go_at_call 21; (refine (HAL.out _ P6 c6 hr hs6).mono ?_); rintro ee w7 ⟨rfl, b7⟩; have hr := hr.trans (b7.mono hr.size)))
          all_goals
            have HH := Lib.hid hr
            clear hr
            go_wp2_with fail
            go_meet
            exact ⟨rfl, HH.out⟩
        case rest =>
          obtain ⟨rfl, HBC⟩ := hcut
          go_wp2_with fail
          go_roundg g
          case measure => omega
          case rel => exact ⟨j + 1 + 1, T + z, by have := HIG.out; omega, by first | rfl | go_num, by first | rfl | rw [hwr], HT2, HBC⟩
end Go.Proofs.YtkphbjppmiefkaaDoor
