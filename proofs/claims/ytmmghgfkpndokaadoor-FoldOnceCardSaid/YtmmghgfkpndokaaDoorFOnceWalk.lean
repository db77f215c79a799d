/- FoldOnce's walk: folded twice is folded once; all of an orbit are folded alike, and have that orbit. -/
import Derived.Test.YtmmghgfkpndokaaDoorFKnown
import Derived.Test.YtmmghgfkpndokaaDoorFSame
import Derived.Test.YtmmghgfkpndokaaDoorFNear
import Derived.Deep.RegionHeld3
import Derived.IntWalk
namespace Go.Proofs.YtmmghgfkpndokaaDoor
open Go.RowKit Go.Shelf SetM

theorem take_mem (x : Int) (o : List Int) (k : Nat) (hk : k < o.length) : decide (x ∈ o.take (k + 1)) = (decide (x ∈ o.take k) || (o[k] == x)) := by
  have e : x ∈ o.take (k + 1) ↔ x ∈ o.take k ∨ x = o[k] := by rw [List.take_succ_eq_append_getElem hk, List.mem_append, List.mem_singleton]
  rw [Bool.eq_iff_iff, decide_eq_true_iff, e, Bool.or_eq_true, decide_eq_true_iff, beq_iff_eq]
  exact or_congr Iff.rfl eq_comm
theorem rise_at {o : List Int} (h : o.Pairwise (· < ·)) (k : Nat) (hk : k + 1 < o.length) : o[k] < o[k + 1] := List.pairwise_iff_getElem.1 h k (k + 1) (by omega) hk (by omega)

set_option maxRecDepth 100000 in
set_option maxHeartbeats 4000000 in
theorem foldOnce_any (c r : Int) (h0 : 0 ≤ c) (h1 : c ≤ 65535) (w : World) (hC : Cf w w) :
    Calls Tryd.prog 6 #[.int .u16 c, .int .i64 r] w fun e w' => e = .returned (.bool true) ∧ Below w.heap.size w w' := by
  have HC := Lib.hid hC
  have HNE := Lib.hid (near_any c h0 h1)
  have hxb := nearF_in c h0 h1
  clear hC
  generalize nearF c = x at *
  have hsx : Sc x := by unfold Sc; omega
  have HIX := Lib.hid (foldF_idem x)
  have HIR := Lib.hid (foldF_idem r)
  go_enter Tryd.func6, Tryd.ntmps6
  go_wp2_with fail
  refine (HNE.out _).mono ?_
  rintro e w1 ⟨rfl, rfl⟩
  go_wp2_with fail
  refine (orbit_c x HC.out).mono ?_
  rintro e w1 ⟨P, c1, o, rfl, hO, hol, hS, b1⟩
  have HC1 := Lib.hid (HC.out.step b1)
  have HS1 := Lib.hid hS
  have HO := Lib.hid hO
  have hmem : x ∈ o := (hO.2 x).2 ⟨hsx, hsx, rfl⟩
  have HM := Lib.hid hmem
  clear hS hO hmem
  go_wp2
  go_loopg [7, 8] o.length (fun g s7 s8 wx => ∃ k : Nat, k + g = o.length ∧ s8 = .int .i64 k ∧ s7 = .bool (decide (x ∈ o.take k)) ∧ Below w.heap.size w wx ∧ Hid (IntsW wx P o) ∧ Hid (Cf w wx))
  case atStart => exact ⟨0, by omega, rfl, by simp, b1, HS1, HC1⟩
  case round =>
    obtain ⟨k, hkg, rfl, rfl, hb, HS, HCx⟩ := hrel
    clear b1 HS1 HC1
    cases gk with
    | zero =>
      have hkz : ¬ ((k : Int) < (o.length : Int)) := by omega
      have hm : decide (x ∈ o.take k) = true := decide_eq_true (by rw [List.take_of_length_le (by omega)]; exact HM.out)
      rw [hm]
      clear hm HS HM HO
      go_wp2_with fail
      refine (known_c HCx.out).mono ?_
      rintro e w2 ⟨rfl, b2⟩
      have HC2 := Lib.hid (HCx.out.step b2)
      have hb2 := hb.trans (b2.mono hb.size)
      have hx1 := fun U (hU : Cf w U) => fold_c x hU
      have hx2 := fun U (hU : Cf w U) => fold_c (foldF x) hU
      have hr1 := fun U (hU : Cf w U) => fold_c r hU
      have hr2 := fun U (hU : Cf w U) => fold_c (foldF r) hU
      rw [HIX.out] at hx2
      rw [HIR.out] at hr2
      generalize foldF x = fx at *
      generalize foldF r = fr at *
      have HX1 := Lib.hid hx1
      have HX2 := Lib.hid hx2
      have HR1 := Lib.hid hr1
      have HR2 := Lib.hid hr2
      have he : (fx == fx) = true := beq_self_eq_true _
      have he' : (fr == fr) = true := beq_self_eq_true _
      clear hx1 hx2 hr1 hr2 b2 hb
      go_wp2_with fail
      refine (HX1.out _ HC2.out).mono ?_
      rintro e w3 ⟨rfl, b3⟩
      have HC3 := Lib.hid (HC2.out.step b3)
      have hb3 := hb2.trans (b3.mono hb2.size)
      go_wp2_with fail
      refine (HX2.out _ HC3.out).mono ?_
      rintro e w4 ⟨rfl, b4⟩
      have HC4 := Lib.hid (HC3.out.step b4)
      have hb4 := hb3.trans (b4.mono hb3.size)
      go_wp2_with fail
      refine (HX1.out _ HC4.out).mono ?_
      rintro e w5 ⟨rfl, b5⟩
      have HC5 := Lib.hid (HC4.out.step b5)
      have hb5 := hb4.trans (b5.mono hb4.size)
      go_wp2_with fail
      refine (HR1.out _ HC5.out).mono ?_
      rintro e w6 ⟨rfl, b6⟩
      have HC6 := Lib.hid (HC5.out.step b6)
      have hb6 := hb5.trans (b6.mono hb5.size)
      go_wp2_with fail
      refine (HR2.out _ HC6.out).mono ?_
      rintro e w7 ⟨rfl, b7⟩
      have HC7 := Lib.hid (HC6.out.step b7)
      have hb7 := hb6.trans (b7.mono hb6.size)
      go_wp2_with fail
      refine (HR1.out _ HC7.out).mono ?_
      rintro e w8 ⟨rfl, b8⟩
      have hb8 := hb7.trans (b8.mono hb7.size)
      go_wp2
      go_ret
      exact ⟨rfl, hb8⟩
    | succ g =>
      have hk : k < o.length := by omega
      have hkz : (k : Int) < (o.length : Int) := by omega
      have hli := (HO.out.2 o[k]).1 (List.getElem_mem hk)
      have HT := Lib.hid (take_mem x o k hk)
      have hf1 := fun U (hU : Cf w U) => fold_c o[k] hU
      have hf2 := fun U (hU : Cf w U) => fold_c x hU
      have horb := fun U (hU : Cf w U) => orbit_c o[k] hU
      have heq : ∀ o', IsOrbit o[k] o' → o' = o := fun o' h => h.eq HO.out (fun y => by rw [hli.2.2]; exact ⟨fun h => ⟨h.1, hsx, h.2.2⟩, fun h => ⟨h.1, hli.1, h.2.2⟩⟩)
      rw [hli.2.2] at hf1
      have hprev : ∀ j, k = j + 1 → o[j]?.getD 0 < o[k] := fun j hj => by
        subst hj
        rw [List.getElem?_eq_getElem (by omega)]
        exact rise_at HO.out.1 j hk
      obtain ⟨b, off, rfl, hbb, hc⟩ := HS.out (by intro h; rw [h] at hk; simp at hk)
      have c0 := hc k hk
      have cp : ∀ j, k = j + 1 → wr.cell? ⟨b, off + j, none⟩ = some (.int .i64 (o[j]?.getD 0)) := fun j hj => by
        rw [hc j (by omega), List.getElem?_eq_getElem (by omega)]; rfl
      have HF1 := Lib.hid hf1
      have HF2 := Lib.hid hf2
      have HOB := Lib.hid horb
      have HEQ := Lib.hid heq
      clear hc hli hf1 hf2 horb heq
      generalize o[k] = li at *
      generalize decide (x ∈ o.take k) = m at *
      generalize foldF x = fx at *
      have HSS : Hid (∀ U, Below wr.heap.size wr U → IntsW U (some ⟨b, off, none⟩) o) := Lib.hid (fun U hU => HS.out.step hU)
      have HCC : Hid (∀ U, Below wr.heap.size wr U → Cf w U) := Lib.hid (fun U hU => HCx.out.step hU)
      have he : (fx != fx) = false := by simp
      have HL6 : Hid (o.length ≤ 1000000) := Lib.hid (by omega)
      rcases Nat.eq_zero_or_pos k with rfl | hkp
      · have k0 : ∀ U, Below wr.heap.size wr U → U.cell? ⟨b, off, none⟩ = some (.int .i64 li) := fun U h => (h.cell (p := ⟨b, off, none⟩) hbb).trans c0
        have K0 := Lib.hid k0
        clear k0 cp hprev
        have hd0 : decide ((0 : Int) < ((0 : Nat) : Int)) = false := by decide
        have hd1 : decide ((0 : Int) < 0) = false := by decide
        have c00 : wr.cell? ⟨b, off, none⟩ = some (.int .i64 li) := c0
        clear c0
        cases m
        all_goals
          go_wp2
          have hr : Below wr.heap.size wr wr.drew := below_drewN (Below.refl _ _) 1
          refine wp_region_held_drew (S := (fun U => U.cell? ⟨b, off, none⟩ = some (.int .i64 li))) (by kernel_rfl) (K0.out _ hr) (fun hHeld => ?_)
          refine wpAnyH_take (i := 0) (oi := { dst := some 28, op := Op.move (Operand.tmp 6), type := 37, pos := "law.go:61", after := #[], guard := none }) (v := ?_) rfl (by kernel_rfl) (by kernel_rfl) (by kernel_rfl) (fun _ _ _ h => h) (Or.inl ⟨by rfl, ?hy0⟩) (by assumption) ?_
          case hy0 => (intro ww hSw; (try dsimp only at hSw); first | (go_simp; done) | (go_simp; with_reducible rfl))
          try simp only [Act.put, List.setIfInBounds_toArray, List.set_cons_zero, List.set_cons_succ]
          refine wpAnyH_take (i := 1) (oi := { dst := some 29, op := Op.move (Operand.tmp 8), type := 3, pos := "law.go:61", after := #[], guard := none }) (v := ?_) rfl (by kernel_rfl) (by kernel_rfl) (by kernel_rfl) (fun _ _ _ h => h) (Or.inl ⟨by rfl, ?hy1⟩) (by assumption) ?_
          case hy1 => (intro ww hSw; (try dsimp only at hSw); first | (go_simp; done) | (go_simp; with_reducible rfl))
          try simp only [Act.put, List.setIfInBounds_toArray, List.set_cons_zero, List.set_cons_succ]
          refine wpAnyH_take (i := 2) (oi := { dst := some 30, op := Op.indexAddr 37 (Operand.tmp 28) (Operand.tmp 29), type := 0, pos := "law.go:61", after := #[{ on := 0, ground := Ground.data }, { on := 1, ground := Ground.data }], guard := none }) (v := ?_) rfl (by kernel_rfl) (by kernel_rfl) (by kernel_rfl) (fun _ _ _ h => h) (Or.inl ⟨by rfl, ?hy2⟩) (by assumption) ?_
          case hy2 => (intro ww hSw; (try dsimp only at hSw); first | (go_simp; done) | (go_simp; with_reducible rfl))
          try simp only [Act.put, List.setIfInBounds_toArray, List.set_cons_zero, List.set_cons_succ]
          refine wpAnyH_take (i := 3) (oi := { dst := some 31, op := Op.load 3 (Operand.tmp 30), type := 3, pos := "law.go:61", after := #[{ on := 2, ground := Ground.data }], guard := none }) (v := ?_) rfl (by kernel_rfl) (by kernel_rfl) (by kernel_rfl) (fun _ _ _ h => h) (Or.inl ⟨by rfl, ?hy3⟩) (by assumption) ?_
          case hy3 => (intro ww hSw; (try dsimp only at hSw); first | (go_simp; done) | (go_simp; with_reducible rfl))
          try simp only [Act.put, List.setIfInBounds_toArray, List.set_cons_zero, List.set_cons_succ]
          refine wpAnyH_take (i := 5) (oi := { dst := some 33, op := Op.move (Operand.tmp 5), type := 3, pos := "law.go:61", after := #[], guard := none }) (v := ?_) rfl (by kernel_rfl) (by kernel_rfl) (by kernel_rfl) (fun _ _ _ h => h) (Or.inl ⟨by rfl, ?hy5⟩) (by assumption) ?_
          case hy5 => (intro ww hSw; (try dsimp only at hSw); first | (go_simp; done) | (go_simp; with_reducible rfl))
          try simp only [Act.put, List.setIfInBounds_toArray, List.set_cons_zero, List.set_cons_succ]
          refine wpAnyH_ready (rs := [4]) (by kernel_rfl) (by simp) ?_
          refine AllReadyH.cons (o := { dst := some 32, op := Op.call { callee := Callee.value (Operand.func 9), args := #[Operand.tmp 31], argTypes := #[3] }, type := 3, pos := "law.go:61", after := #[{ on := 3, ground := Ground.data }], guard := none }) rfl (fun K hK => ?_) ?more4
          case more4 => exact AllReadyH.nil
          go_simp
          go_at_call 9; (with_reducible refine (HF1.out _ (HCC.out _ hr)).mono ?_); rintro e w2 ⟨rfl, hb2⟩; have hr := hr.trans (hb2.mono hr.size); clear hb2
          refine hK.out _ _ (K0.out _ hr) (fun hHeld => ?_)
          clear hK K
          try simp only [Act.put, List.setIfInBounds_toArray, List.set_cons_zero, List.set_cons_succ]
          refine wpAnyH_ready (rs := [6]) (by kernel_rfl) (by simp) ?_
          refine AllReadyH.cons (o := { dst := some 34, op := Op.call { callee := Callee.value (Operand.func 9), args := #[Operand.tmp 33], argTypes := #[3] }, type := 3, pos := "law.go:61", after := #[{ on := 5, ground := Ground.data }, { on := 4, ground := Ground.chain }], guard := none }) rfl (fun K hK => ?_) ?more6
          case more6 => exact AllReadyH.nil
          go_simp
          go_at_call 9; (with_reducible refine (HF2.out _ (HCC.out _ hr)).mono ?_); rintro e w2 ⟨rfl, hb2⟩; have hr := hr.trans (hb2.mono hr.size); clear hb2
          refine hK.out _ _ (K0.out _ hr) (fun hHeld => ?_)
          clear hK K
          try simp only [Act.put, List.setIfInBounds_toArray, List.set_cons_zero, List.set_cons_succ]
          refine wpAnyH_take (i := 7) (oi := { dst := some 35, op := Op.binOp BinOp.neq 3 (Operand.tmp 32) (Operand.tmp 34) 3, type := 4, pos := "law.go:61", after := #[{ on := 4, ground := Ground.data }, { on := 6, ground := Ground.data }], guard := none }) (v := ?_) rfl (by kernel_rfl) (by kernel_rfl) (by kernel_rfl) (fun _ _ _ h => h) (Or.inl ⟨by rfl, ?hy7⟩) (by assumption) ?_
          case hy7 => (intro ww hSw; (try dsimp only at hSw); first | (go_simp; done) | (go_simp; with_reducible rfl))
          try simp only [Act.put, List.setIfInBounds_toArray, List.set_cons_zero, List.set_cons_succ]
          refine wpAnyH_take (i := 8) (oi := { dst := some 36, op := Op.move (Operand.tmp 35), type := 4, pos := "law.go:61", after := #[{ on := 7, ground := Ground.data }, { on := 6, ground := Ground.chain }], guard := none }) (v := ?_) rfl (by kernel_rfl) (by kernel_rfl) (by kernel_rfl) (fun _ _ _ h => h) (Or.inl ⟨by rfl, ?hy8⟩) (by assumption) ?_
          case hy8 => (intro ww hSw; (try dsimp only at hSw); first | (go_simp; done) | (go_simp; with_reducible rfl))
          try simp only [Act.put, List.setIfInBounds_toArray, List.set_cons_zero, List.set_cons_succ]
          refine wpAnyH_take (i := 9) (oi := { dst := some 37, op := Op.move (Operand.tmp 8), type := 3, pos := "law.go:61", after := #[{ on := 8, ground := Ground.guard }], guard := some (8, false) }) (v := ?_) rfl (by kernel_rfl) (by kernel_rfl) (by kernel_rfl) (fun _ _ _ h => h) (Or.inl ⟨by rfl, ?hy9⟩) (by assumption) ?_
          case hy9 => (intro ww hSw; (try dsimp only at hSw); first | (go_simp; done) | (go_simp; with_reducible rfl))
          try simp only [Act.put, List.setIfInBounds_toArray, List.set_cons_zero, List.set_cons_succ]
          refine wpAnyH_take (i := 10) (oi := { dst := some 38, op := Op.binOp BinOp.gtr 3 (Operand.tmp 37) (Operand.const (Value.int IntKind.i64 0)) 3, type := 4, pos := "law.go:61", after := #[{ on := 9, ground := Ground.data }, { on := 8, ground := Ground.guard }], guard := some (8, false) }) (v := ?_) rfl (by kernel_rfl) (by kernel_rfl) (by kernel_rfl) (fun _ _ _ h => h) (Or.inl ⟨by rfl, ?hy10⟩) (by assumption) ?_
          case hy10 => (intro ww hSw; (try dsimp only at hSw); first | (go_simp; done) | (go_simp; with_reducible rfl))
          try simp only [Act.put, List.setIfInBounds_toArray, List.set_cons_zero, List.set_cons_succ]
          refine wpAnyH_take (i := 11) (oi := { dst := some 39, op := Op.move (Operand.tmp 38), type := 4, pos := "law.go:61", after := #[{ on := 10, ground := Ground.data }, { on := 8, ground := Ground.chain }, { on := 8, ground := Ground.guard }], guard := some (8, false) }) (v := ?_) rfl (by kernel_rfl) (by kernel_rfl) (by kernel_rfl) (fun _ _ _ h => h) (Or.inl ⟨by rfl, ?hy11⟩) (by assumption) ?_
          case hy11 => (intro ww hSw; (try dsimp only at hSw); first | (go_simp; done) | (go_simp; with_reducible rfl))
          try simp only [Act.put, List.setIfInBounds_toArray, List.set_cons_zero, List.set_cons_succ]
          refine wpAnyH_take (i := 12) (oi := { dst := some 40, op := Op.move (Operand.tmp 6), type := 37, pos := "law.go:61", after := #[{ on := 11, ground := Ground.guard }], guard := some (11, true) }) (v := undef) rfl (by kernel_rfl) (by kernel_rfl) (by kernel_rfl) (fun _ _ _ h => h) (Or.inr ⟨by rfl, rfl⟩) (by assumption) ?_
          try simp only [Act.put, List.setIfInBounds_toArray, List.set_cons_zero, List.set_cons_succ]
          refine wpAnyH_take (i := 13) (oi := { dst := some 41, op := Op.move (Operand.tmp 8), type := 3, pos := "law.go:61", after := #[{ on := 11, ground := Ground.guard }], guard := some (11, true) }) (v := undef) rfl (by kernel_rfl) (by kernel_rfl) (by kernel_rfl) (fun _ _ _ h => h) (Or.inr ⟨by rfl, rfl⟩) (by assumption) ?_
          try simp only [Act.put, List.setIfInBounds_toArray, List.set_cons_zero, List.set_cons_succ]
          refine wpAnyH_take (i := 14) (oi := { dst := some 42, op := Op.indexAddr 37 (Operand.tmp 40) (Operand.tmp 41), type := 0, pos := "law.go:61", after := #[{ on := 12, ground := Ground.data }, { on := 13, ground := Ground.data }, { on := 11, ground := Ground.guard }], guard := some (11, true) }) (v := undef) rfl (by kernel_rfl) (by kernel_rfl) (by kernel_rfl) (fun _ _ _ h => h) (Or.inr ⟨by rfl, rfl⟩) (by assumption) ?_
          try simp only [Act.put, List.setIfInBounds_toArray, List.set_cons_zero, List.set_cons_succ]
          refine wpAnyH_take (i := 15) (oi := { dst := some 43, op := Op.load 3 (Operand.tmp 42), type := 3, pos := "law.go:61", after := #[{ on := 14, ground := Ground.data }, { on := 11, ground := Ground.guard }], guard := some (11, true) }) (v := undef) rfl (by kernel_rfl) (by kernel_rfl) (by kernel_rfl) (fun _ _ _ h => h) (Or.inr ⟨by rfl, rfl⟩) (by assumption) ?_
          try simp only [Act.put, List.setIfInBounds_toArray, List.set_cons_zero, List.set_cons_succ]
          refine wpAnyH_take (i := 16) (oi := { dst := some 44, op := Op.move (Operand.tmp 6), type := 37, pos := "law.go:61", after := #[{ on := 11, ground := Ground.guard }], guard := some (11, true) }) (v := undef) rfl (by kernel_rfl) (by kernel_rfl) (by kernel_rfl) (fun _ _ _ h => h) (Or.inr ⟨by rfl, rfl⟩) (by assumption) ?_
          try simp only [Act.put, List.setIfInBounds_toArray, List.set_cons_zero, List.set_cons_succ]
          refine wpAnyH_take (i := 17) (oi := { dst := some 45, op := Op.move (Operand.tmp 8), type := 3, pos := "law.go:61", after := #[{ on := 11, ground := Ground.guard }], guard := some (11, true) }) (v := undef) rfl (by kernel_rfl) (by kernel_rfl) (by kernel_rfl) (fun _ _ _ h => h) (Or.inr ⟨by rfl, rfl⟩) (by assumption) ?_
          try simp only [Act.put, List.setIfInBounds_toArray, List.set_cons_zero, List.set_cons_succ]
          refine wpAnyH_take (i := 18) (oi := { dst := some 46, op := Op.binOp BinOp.sub 3 (Operand.tmp 45) (Operand.const (Value.int IntKind.i64 1)) 3, type := 3, pos := "law.go:61", after := #[{ on := 17, ground := Ground.data }, { on := 11, ground := Ground.guard }], guard := some (11, true) }) (v := undef) rfl (by kernel_rfl) (by kernel_rfl) (by kernel_rfl) (fun _ _ _ h => h) (Or.inr ⟨by rfl, rfl⟩) (by assumption) ?_
          try simp only [Act.put, List.setIfInBounds_toArray, List.set_cons_zero, List.set_cons_succ]
          refine wpAnyH_take (i := 19) (oi := { dst := some 47, op := Op.indexAddr 37 (Operand.tmp 44) (Operand.tmp 46), type := 0, pos := "law.go:61", after := #[{ on := 16, ground := Ground.data }, { on := 18, ground := Ground.data }, { on := 11, ground := Ground.guard }], guard := some (11, true) }) (v := undef) rfl (by kernel_rfl) (by kernel_rfl) (by kernel_rfl) (fun _ _ _ h => h) (Or.inr ⟨by rfl, rfl⟩) (by assumption) ?_
          try simp only [Act.put, List.setIfInBounds_toArray, List.set_cons_zero, List.set_cons_succ]
          refine wpAnyH_take (i := 20) (oi := { dst := some 48, op := Op.load 3 (Operand.tmp 47), type := 3, pos := "law.go:61", after := #[{ on := 19, ground := Ground.data }, { on := 11, ground := Ground.guard }], guard := some (11, true) }) (v := undef) rfl (by kernel_rfl) (by kernel_rfl) (by kernel_rfl) (fun _ _ _ h => h) (Or.inr ⟨by rfl, rfl⟩) (by assumption) ?_
          try simp only [Act.put, List.setIfInBounds_toArray, List.set_cons_zero, List.set_cons_succ]
          refine wpAnyH_take (i := 21) (oi := { dst := some 49, op := Op.binOp BinOp.leq 3 (Operand.tmp 43) (Operand.tmp 48) 3, type := 4, pos := "law.go:61", after := #[{ on := 15, ground := Ground.data }, { on := 20, ground := Ground.data }, { on := 11, ground := Ground.guard }], guard := some (11, true) }) (v := undef) rfl (by kernel_rfl) (by kernel_rfl) (by kernel_rfl) (fun _ _ _ h => h) (Or.inr ⟨by rfl, rfl⟩) (by assumption) ?_
          try simp only [Act.put, List.setIfInBounds_toArray, List.set_cons_zero, List.set_cons_succ]
          refine wpAnyH_take (i := 22) (oi := { dst := some 50, op := Op.pick (Operand.tmp 39) (Operand.tmp 49) (Operand.const (Value.bool false)), type := 4, pos := "law.go:61", after := #[{ on := 11, ground := Ground.data }, { on := 21, ground := Ground.data }, { on := 8, ground := Ground.guard }], guard := some (8, false) }) (v := ?_) rfl (by kernel_rfl) (by kernel_rfl) (by kernel_rfl) (fun _ _ _ h => h) (Or.inl ⟨by rfl, ?hy22⟩) (by assumption) ?_
          case hy22 => (intro ww hSw; (try dsimp only at hSw); first | (go_simp; done) | (go_simp; with_reducible rfl))
          try simp only [Act.put, List.setIfInBounds_toArray, List.set_cons_zero, List.set_cons_succ]
          refine wpAnyH_take (i := 23) (oi := { dst := some 51, op := Op.pick (Operand.tmp 36) (Operand.const (Value.bool true)) (Operand.tmp 50), type := 4, pos := "law.go:61", after := #[{ on := 8, ground := Ground.data }, { on := 22, ground := Ground.data }], guard := none }) (v := ?_) rfl (by kernel_rfl) (by kernel_rfl) (by kernel_rfl) (fun _ _ _ h => h) (Or.inl ⟨by rfl, ?hy23⟩) (by assumption) ?_
          case hy23 => (intro ww hSw; (try dsimp only at hSw); first | (go_simp; done) | (go_simp; with_reducible rfl))
          try simp only [Act.put, List.setIfInBounds_toArray, List.set_cons_zero, List.set_cons_succ]
          refine wpAnyH_take (i := 24) (oi := { dst := some 52, op := Op.move (Operand.tmp 51), type := 4, pos := "law.go:61", after := #[{ on := 23, ground := Ground.data }, { on := 11, ground := Ground.chain }], guard := none }) (v := ?_) rfl (by kernel_rfl) (by kernel_rfl) (by kernel_rfl) (fun _ _ _ h => h) (Or.inl ⟨by rfl, ?hy24⟩) (by assumption) ?_
          case hy24 => (intro ww hSw; (try dsimp only at hSw); first | (go_simp; done) | (go_simp; with_reducible rfl))
          try simp only [Act.put, List.setIfInBounds_toArray, List.set_cons_zero, List.set_cons_succ]
          refine wpAnyH_take (i := 25) (oi := { dst := some 53, op := Op.move (Operand.tmp 6), type := 37, pos := "law.go:61", after := #[{ on := 24, ground := Ground.guard }], guard := some (24, false) }) (v := ?_) rfl (by kernel_rfl) (by kernel_rfl) (by kernel_rfl) (fun _ _ _ h => h) (Or.inl ⟨by rfl, ?hy25⟩) (by assumption) ?_
          case hy25 => (intro ww hSw; (try dsimp only at hSw); first | (go_simp; done) | (go_simp; with_reducible rfl))
          try simp only [Act.put, List.setIfInBounds_toArray, List.set_cons_zero, List.set_cons_succ]
          refine wpAnyH_take (i := 26) (oi := { dst := some 54, op := Op.move (Operand.tmp 8), type := 3, pos := "law.go:61", after := #[{ on := 24, ground := Ground.guard }], guard := some (24, false) }) (v := ?_) rfl (by kernel_rfl) (by kernel_rfl) (by kernel_rfl) (fun _ _ _ h => h) (Or.inl ⟨by rfl, ?hy26⟩) (by assumption) ?_
          case hy26 => (intro ww hSw; (try dsimp only at hSw); first | (go_simp; done) | (go_simp; with_reducible rfl))
          try simp only [Act.put, List.setIfInBounds_toArray, List.set_cons_zero, List.set_cons_succ]
          refine wpAnyH_take (i := 27) (oi := { dst := some 55, op := Op.indexAddr 37 (Operand.tmp 53) (Operand.tmp 54), type := 0, pos := "law.go:61", after := #[{ on := 25, ground := Ground.data }, { on := 26, ground := Ground.data }, { on := 24, ground := Ground.guard }], guard := some (24, false) }) (v := ?_) rfl (by kernel_rfl) (by kernel_rfl) (by kernel_rfl) (fun _ _ _ h => h) (Or.inl ⟨by rfl, ?hy27⟩) (by assumption) ?_
          case hy27 => (intro ww hSw; (try dsimp only at hSw); first | (go_simp; done) | (go_simp; with_reducible rfl))
          try simp only [Act.put, List.setIfInBounds_toArray, List.set_cons_zero, List.set_cons_succ]
          refine wpAnyH_take (i := 28) (oi := { dst := some 56, op := Op.load 3 (Operand.tmp 55), type := 3, pos := "law.go:61", after := #[{ on := 27, ground := Ground.data }, { on := 24, ground := Ground.guard }], guard := some (24, false) }) (v := ?_) rfl (by kernel_rfl) (by kernel_rfl) (by kernel_rfl) (fun _ _ _ h => h) (Or.inl ⟨by rfl, ?hy28⟩) (by assumption) ?_
          case hy28 => (intro ww hSw; (try dsimp only at hSw); first | (go_simp; done) | (go_simp; with_reducible rfl))
          try simp only [Act.put, List.setIfInBounds_toArray, List.set_cons_zero, List.set_cons_succ]
          refine wpAnyH_take (i := 30) (oi := { dst := some 58, op := Op.move (Operand.tmp 6), type := 37, pos := "law.go:61", after := #[{ on := 24, ground := Ground.guard }], guard := some (24, false) }) (v := ?_) rfl (by kernel_rfl) (by kernel_rfl) (by kernel_rfl) (fun _ _ _ h => h) (Or.inl ⟨by rfl, ?hy30⟩) (by assumption) ?_
          case hy30 => (intro ww hSw; (try dsimp only at hSw); first | (go_simp; done) | (go_simp; with_reducible rfl))
          try simp only [Act.put, List.setIfInBounds_toArray, List.set_cons_zero, List.set_cons_succ]
          refine wpAnyH_ready (rs := [29]) (by kernel_rfl) (by simp) ?_
          refine AllReadyH.cons (o := { dst := some 57, op := Op.call { callee := Callee.value (Operand.func 17), args := #[Operand.tmp 56], argTypes := #[3] }, type := 37, pos := "law.go:61", after := #[{ on := 28, ground := Ground.data }, { on := 24, ground := Ground.chain }, { on := 24, ground := Ground.guard }], guard := some (24, false) }) rfl (fun K hK => ?_) ?more29
          case more29 => exact AllReadyH.nil
          go_simp
          go_at_call 17; (with_reducible refine (HOB.out _ (HCC.out _ hr)).mono ?_); rintro e w3 ⟨P3, c3, o3, rfl, ho3, hl3, hs3, hb3⟩; have e3 := HEQ.out _ ho3; subst e3; have HS3 := Lib.hid hs3; have hr := hr.trans (hb3.mono hr.size); clear hs3 ho3 hl3 hb3
          refine hK.out _ _ (K0.out _ hr) (fun hHeld => ?_)
          clear hK K
          try simp only [Act.put, List.setIfInBounds_toArray, List.set_cons_zero, List.set_cons_succ]
          refine wpAnyH_ready (rs := [31]) (by kernel_rfl) (by simp) ?_
          refine AllReadyH.cons (o := { dst := some 59, op := Op.call { callee := Callee.value (Operand.func 16), args := #[Operand.tmp 57, Operand.tmp 58], argTypes := #[37, 37] }, type := 4, pos := "law.go:61", after := #[{ on := 29, ground := Ground.data }, { on := 30, ground := Ground.data }, { on := 29, ground := Ground.chain }, { on := 24, ground := Ground.guard }], guard := some (24, false) }) rfl (fun K hK => ?_) ?more31
          case more31 => exact AllReadyH.nil
          go_simp
          go_at_call 16; (with_reducible refine (samel_c HS3.out (HSS.out _ hr) HL6.out).mono ?_); rintro e w4 ⟨rfl, hb4⟩; have hr := hr.trans (hb4.mono hr.size); clear hb4
          refine hK.out _ _ (K0.out _ hr) (fun hHeld => ?_)
          clear hK K
          try simp only [Act.put, List.setIfInBounds_toArray, List.set_cons_zero, List.set_cons_succ]
          refine wpAnyH_take (i := 32) (oi := { dst := some 60, op := Op.unOp UnOp.not 4 (Operand.tmp 59), type := 4, pos := "law.go:61", after := #[{ on := 31, ground := Ground.data }, { on := 24, ground := Ground.guard }], guard := some (24, false) }) (v := ?_) rfl (by kernel_rfl) (by kernel_rfl) (by kernel_rfl) (fun _ _ _ h => h) (Or.inl ⟨by rfl, ?hy32⟩) (by assumption) ?_
          case hy32 => (intro ww hSw; (try dsimp only at hSw); first | (go_simp; done) | (go_simp; with_reducible rfl))
          try simp only [Act.put, List.setIfInBounds_toArray, List.set_cons_zero, List.set_cons_succ]
          refine wpAnyH_take (i := 33) (oi := { dst := some 61, op := Op.pick (Operand.tmp 52) (Operand.const (Value.bool true)) (Operand.tmp 60), type := 4, pos := "law.go:61", after := #[{ on := 24, ground := Ground.data }, { on := 32, ground := Ground.data }], guard := none }) (v := ?_) rfl (by kernel_rfl) (by kernel_rfl) (by kernel_rfl) (fun _ _ _ h => h) (Or.inl ⟨by rfl, ?hy33⟩) (by assumption) ?_
          case hy33 => (intro ww hSw; (try dsimp only at hSw); first | (go_simp; done) | (go_simp; with_reducible rfl))
          try simp only [Act.put, List.setIfInBounds_toArray, List.set_cons_zero, List.set_cons_succ]
          refine wpAnyH_done (by kernel_rfl) ?_ _
          go_wp2
          go_roundg g
          case measure => omega
          case rel => exact ⟨0 + 1, by omega, by go_num, by rw [HT.out]; rfl, hb.trans (hr.mono hb.size), Lib.hid (HSS.out _ hr), Lib.hid (HCC.out _ hr)⟩
      · obtain ⟨j, rfl⟩ : ∃ j, k = j + 1 := ⟨k - 1, by omega⟩
        have cp' := cp j rfl
        have hlt := hprev j rfl
        generalize o[j]?.getD 0 = lp at *
        have hpos : (0 : Int) < ((j + 1 : Nat) : Int) := by omega
        have k0 : ∀ U, Below wr.heap.size wr U → U.cell? ⟨b, off + (j + 1), none⟩ = some (.int .i64 li) := fun U h => (h.cell (p := ⟨b, off + (j + 1), none⟩) hbb).trans c0
        have k1 : ∀ U, Below wr.heap.size wr U → U.cell? ⟨b, off + j, none⟩ = some (.int .i64 lp) := fun U h => (h.cell (p := ⟨b, off + j, none⟩) hbb).trans cp'
        have K0 := Lib.hid k0
        have K1 := Lib.hid k1
        clear k0 k1 cp hprev
        have hj0 : (0 : Int) ≤ (j : Int) + 1 := by omega
        have hj1 : (j : Int) + 1 < (o.length : Int) := by omega
        have hj2 : ((j : Int) + 1).toNat = j + 1 := by omega
        have hj3 : (0 : Int) ≤ (j : Int) := by omega
        have hj4 : (j : Int) < (o.length : Int) := by omega
        have hj5 : (0 : Int) < (j : Int) + 1 := by omega
        have hj6 : IntKind.i64.wrap (j : Int) = (j : Int) := IntWalk.i64_in _ (by omega)
        have hj8 : decide (li ≤ lp) = false := decide_eq_false (by omega)
        cases m
        all_goals
          go_wp2
          have hr : Below wr.heap.size wr wr.drew := below_drewN (Below.refl _ _) 1
          go_region_held3 (fun U => U.cell? ⟨b, off + (j + 1), none⟩ = some (.int .i64 li) ∧ U.cell? ⟨b, off + j, none⟩ = some (.int .i64 lp))
            (first | exact ⟨K0.out _ hr, K1.out _ hr⟩ | exact ⟨K0.out _ (Below.refl _ _), K1.out _ (Below.refl _ _)⟩)
            (first
            | (go_at_call 9; (with_reducible refine (HF1.out _ (HCC.out _ hr)).mono ?_); rintro e w2 ⟨rfl, hb2⟩; have hr := hr.trans (hb2.mono hr.size); clear hb2)
            | (go_at_call 9; (with_reducible refine (HF2.out _ (HCC.out _ hr)).mono ?_); rintro e w2 ⟨rfl, hb2⟩; have hr := hr.trans (hb2.mono hr.size); clear hb2)
            | (go_at_call 17; (with_reducible refine (HOB.out _ (HCC.out _ hr)).mono ?_); rintro e w3 ⟨P3, c3, o3, rfl, ho3, hl3, hs3, hb3⟩; have e3 := HEQ.out _ ho3; subst e3; have HS3 := Lib.hid hs3; have hr := hr.trans (hb3.mono hr.size); clear hs3 ho3 hl3 hb3)
            | (go_at_call 16; (with_reducible refine (samel_c HS3.out (HSS.out _ hr) HL6.out).mono ?_); rintro e w4 ⟨rfl, hb4⟩; have hr := hr.trans (hb4.mono hr.size); clear hb4))
          all_goals
            go_wp2
            go_roundg g
            case measure => omega
            case rel => exact ⟨j + 1 + 1, by omega, by go_num, by rw [HT.out]; rfl, hb.trans (hr.mono hb.size), Lib.hid (HSS.out _ hr), Lib.hid (HCC.out _ hr)⟩
end Go.Proofs.YtmmghgfkpndokaaDoor
