/- PropsNames' walk: names rise; each is a class's, that has something, and is as it is compared. -/
import Derived.Test.YtjhbjgpkpcfdmaaDoorPAllWalk
import Derived.Test.YtjhbjgpkpcfdmaaDoorPRLoose
import Derived.Deep.RegionHeld3
namespace Go.Proofs.YtjhbjgpkpcfdmaaDoor
open Go.RowKit Go.Shelf SetM PropsM

theorem below_drewP {n₀ : Nat} {V W : World} (h : Below n₀ V W) (k : Nat) : Below n₀ V (W.drewN k) := ⟨h.os, h.tape, h.output, h.size, h.block⟩
theorem name_up : ∀ k : Fin 12, (Op.bytesLess (nameOf (k + 1)) (nameOf k) || nameOf (k + 1) == nameOf k) = false := by decide
theorem leq_up (j : Nat) (hj : j + 1 < 13) : ∀ w t, (binOp .leq t (.string ⟨(nameOf (j + 1)).toArray⟩) (.string ⟨(nameOf j).toArray⟩)).run Tryd.prog w = .ok (.bool false) w := by
  intro w t
  have h := name_up ⟨j, by omega⟩
  simp only at h
  simp [binOp, Op.stringOp, h]
theorem out_some (i : Nat) (hi : i < 13) (o : List Sp) (h : IsSet o (fun r => Tells (gathOf i) r)) : o ≠ [] := by
  have hx : ∃ r, Tells (gathOf i) r := by
    rcases (show i = 0 ∨ i = 1 ∨ i = 2 ∨ i = 3 ∨ i = 4 ∨ i = 5 ∨ i = 6 ∨ i = 7 ∨ i = 8 ∨ i = 9 ∨ i = 10 ∨ i = 11 ∨ i = 12 by omega) with rfl | rfl | rfl | rfl | rfl | rfl | rfl | rfl | rfl | rfl | rfl | rfl | rfl
    · exact ⟨65, by decide⟩
    · exact ⟨65, by decide⟩
    · exact ⟨9, by decide⟩
    · exact ⟨1024, by decide⟩
    · exact ⟨48, by decide⟩
    · exact ⟨880, by decide⟩
    · exact ⟨13312, by decide⟩
    · exact ⟨65, by decide⟩
    · exact ⟨65, by decide⟩
    · exact ⟨65, by decide⟩
    · exact ⟨97, by decide⟩
    · exact ⟨65, by decide⟩
    · exact ⟨65, by decide⟩
  obtain ⟨r, hr⟩ := hx
  rintro rfl
  exact mem_nil r ((h.2 r).2 hr)
theorem name_x (j : Nat) (hj : j < 13) : whichF (looseL (nameOf j ++ [120])) = none := by
  rcases (show j = 0 ∨ j = 1 ∨ j = 2 ∨ j = 3 ∨ j = 4 ∨ j = 5 ∨ j = 6 ∨ j = 7 ∨ j = 8 ∨ j = 9 ∨ j = 10 ∨ j = 11 ∨ j = 12 by omega) with rfl | rfl | rfl | rfl | rfl | rfl | rfl | rfl | rfl | rfl | rfl | rfl | rfl <;> decide

theorem of_none_l (l : Bs) (hl : l.length ≤ 1000000) (h : whichF (looseL l) = none) (W : World) : Calls Tryd.prog 12 #[.string ⟨l.toArray⟩] W fun e W' => e = .returned (.tuple #[.slice none 0 0, .bool false]) ∧ Below W.heap.size W W' :=
  of_none ⟨l.toArray⟩ hl h W

set_option maxRecDepth 100000 in
set_option maxHeartbeats 4000000 in
theorem propsNames_any (a : Int) (h0 : 0 ≤ a) (h1 : a ≤ 255) (w : World) (hC : Ctx w w) :
    Calls Tryd.prog 6 #[.int .u8 a] w fun e w' => e = .returned (.bool true) ∧ Below w.heap.size w w' := by
  have HC := Lib.hid hC
  clear hC
  have hj := pickN_lt a
  have hta : a.tmod 13 = (pickN a : Int) := by rw [Int.tmod_eq_emod_of_nonneg h0]; unfold pickN; omega
  have HNM := Lib.hid (names_at (pickN a) hj)
  generalize pickN a = j at *
  have HX := Lib.hid (of_none_l (nameOf j ++ [120]) (by rw [List.length_append]; have := (name_len j hj).2; simp; omega) (name_x j hj))
  have HAD : Hid (∀ w t, (binOp .add t (.string ⟨(nameOf (j)).toArray⟩) (.string ⟨#[120]⟩)).run Tryd.prog w = .ok (.string ⟨(nameOf (j) ++ [120]).toArray⟩) w) := Lib.hid (str_add (nameOf (j)) [120] (by have := (name_len (j) hj).2; omega) (by simp))
  have hjz : (j : Int) < 13 := by omega
  go_enter Tryd.func6, Tryd.ntmps6
  go_wp2_with fail
  refine (names_any _).mono ?_
  rintro e w1 ⟨PN, cN, rfl, sN, b1⟩
  have HC1 := Lib.hid (HC.out.step b1)
  obtain ⟨bN, oN, rfl, hbN, hcN⟩ := sN (by decide)
  have HCN := Lib.hid hcN
  clear b1 HC hcN
  go_wp2
  go_loopg [4] 13 (fun g s4 wx => ∃ k : Nat, k + g = 13 ∧ s4 = .int .i64 k ∧ Ctx w wx ∧ Below w1.heap.size w1 wx)
  case atStart => exact ⟨0, by omega, rfl, HC1.out, Below.refl _ _⟩
  case round =>
    obtain ⟨k, hkg, rfl, hC, hb⟩ := hrel
    have HCk := Lib.hid hC
    have HBk := Lib.hid hb
    clear hC hb
    cases gk with
    | zero =>
      have hkz : ¬ ((k : Int) < 13) := by omega
      have cN := (HBk.out.cell (p := ⟨bN, oN + j, none⟩) hbN).trans (HCN.out j hj)
      rw [HNM.out] at cN
      have had := HAD.out
      have hap : ({ data := (nameOf j).toArray } : ByteArray) ++ { data := #[120] } = { data := (nameOf j ++ [120]).toArray } := ByteArray.mk_append_mk (nameOf j) [120]
      have hn8 := (name_len j hj).2
      have hs1 : ¬ 9223372036854775807 < (nameOf j).length + 1 := by omega
      have hs2 : ¬ 9223372036854775806 < (nameOf j).length := by omega
      clear HAD hn8
      go_wp2_with fail
      first | (refine (HX.out _).mono ?_) | (rw [hap]; refine (HX.out _).mono ?_)
      rintro e w2 ⟨rfl, b2⟩
      have HC2 := Lib.hid (HCk.out.step b2)
      go_wp2_with fail
      refine (known_c HC2.out).mono ?_
      rintro e w3 ⟨rfl, b3⟩
      have HC3 := Lib.hid (HC2.out.step b3)
      go_wp2
      go_ret
      exact ⟨rfl, HC3.out.below⟩
    | succ g =>
      have hk : k < 13 := by omega
      have hkz : (k : Int) < 13 := by omega
      have cN := (HBk.out.cell (p := ⟨bN, oN + k, none⟩) hbN).trans (HCN.out k hk)
      rw [names_at k hk] at cN
      have HOF : Hid (Calls Tryd.prog 12 #[.string ⟨(nameOf k).toArray⟩] wr (OfIs wr k)) := Lib.hid (of_some ⟨(nameOf k).toArray⟩ (by show (nameOf k).length ≤ _; have := (name_len k hk).2; omega) k (by show whichF (looseL (nameOf k)) = _; rw [loose_name _ hk, which_name _ hk]) HCk.out)
      go_wp2_with fail
      refine HOF.out.mono ?_
      rintro e w2 ⟨P1, c1, o1, rfl, is1, l1, s1, _, b2⟩
      have HL1 := Lib.hid l1
      have hone := out_some k hk o1 is1
      have hlen : ¬ ((o1.length : Int) = 0) := by have := List.length_pos_iff.2 hone; omega
      have hlen2 : ((o1.length : Int) == 0) = false := by simpa using hlen
      have HI1 := Lib.hid is1
      have HW1 := Lib.hid (wide_set is1 (tells_sc _))
      have HT1 := Lib.hid (is1.tells (tells_sc _))
      have HC2 := Lib.hid (HCk.out.step b2)
      have HB2 := Lib.hid (HBk.out.trans (b2.mono HBk.out.size))
      have HS1 : Hid (∀ U, Below w2.heap.size w2 U → Sl U P1 o1) := Lib.hid (fun U h => s1.step h)
      have HLO : Hid (∀ U, Calls Tryd.prog 20 #[.string ⟨(nameOf k).toArray⟩] U fun e W' => e = .returned (.string ⟨(nameOf k).toArray⟩) ∧ Below U.heap.size U W') := Lib.hid (fun U => by
        have h := loose_any ⟨(nameOf k).toArray⟩ (by show (nameOf k).length ≤ _; have := (name_len k hk).2; omega) U
        rw [show looseL (⟨(nameOf k).toArray⟩ : ByteArray).data.toList = nameOf k from loose_name k hk] at h
        exact h)
      have HNO : Hid (∀ U, Below w2.heap.size w2 U → Calls Tryd.prog 22 #[.slice P1 o1.length c1] U fun e W' => ∃ P c, e = .returned (.slice P o1.length c) ∧ Sl W' P o1 ∧ Below U.heap.size U W') := Lib.hid (fun U h => (rnorm_c (c := c1) (HS1.out U h) (by have := HL1.out; omega) HW1.out).mono (fun e W' hh => by
        obtain ⟨P, c, o, h1, h2, _, h3, _, h4⟩ := hh
        obtain rfl : o1 = o := HI1.out.eq h2 (fun r => (HT1.out r).symm)
        exact ⟨P, c, h1, h3, h4⟩))
      have K0 : Hid (∀ U, Below w2.heap.size w2 U → U.cell? ⟨bN, oN + k, none⟩ = some (.string ⟨(nameOf k).toArray⟩)) := Lib.hid (fun U h => (((HB2.out.trans (h.mono HB2.out.size)).cell (p := ⟨bN, oN + k, none⟩) hbN).trans (HCN.out k hk)).trans (by rw [names_at k hk]))
      have c00 := K0.out _ (Below.refl _ _)
      have hd : decide (o1 = o1) = true := decide_eq_true rfl
      clear is1 l1 s1 b2 HOF HI1 HT1 HW1 hone cN hlen
      rcases Nat.eq_zero_or_pos k with rfl | hkp
      · have hd0 : decide ((0 : Int) < ((0 : Nat) : Int)) = false := by decide
        have hd1 : decide ((0 : Int) < 0) = false := by decide
        generalize nameOf 0 = n1 at *
        have K0 : Hid (∀ U, Below w2.heap.size w2 U → U.cell? ⟨bN, oN, none⟩ = some (.string ⟨n1.toArray⟩)) := Lib.hid (fun U h => K0.out U h)
        have c00 : w2.cell? ⟨bN, oN, none⟩ = some (.string ⟨n1.toArray⟩) := c00
        go_wp2
        have hr : Below w2.heap.size w2 w2.drew := below_drewP (Below.refl _ _) 1
        refine wp_region_held_drew (S := (fun U => U.cell? ⟨bN, oN, none⟩ = some (.string ⟨n1.toArray⟩))) (by kernel_rfl) (K0.out _ hr) (fun hHeld => ?_)
        refine wpAnyH_take (i := 0) (oi := { dst := some 27, op := Op.move (Operand.tmp 6), type := 4, pos := "law.go:39", after := #[], guard := none }) (v := ?_) rfl (by kernel_rfl) (by kernel_rfl) (by kernel_rfl) (fun _ _ _ h => h) (Or.inl ⟨by rfl, ?hy0⟩) (by assumption) ?_
        case hy0 => (intro ww hSw; (try dsimp only at hSw); first | (go_simp; done) | (go_simp; with_reducible rfl))
        try simp only [Act.put, List.setIfInBounds_toArray, List.set_cons_zero, List.set_cons_succ]
        refine wpAnyH_take (i := 1) (oi := { dst := some 28, op := Op.unOp UnOp.not 4 (Operand.tmp 27), type := 4, pos := "law.go:39", after := #[{ on := 0, ground := Ground.data }], guard := none }) (v := ?_) rfl (by kernel_rfl) (by kernel_rfl) (by kernel_rfl) (fun _ _ _ h => h) (Or.inl ⟨by rfl, ?hy1⟩) (by assumption) ?_
        case hy1 => (intro ww hSw; (try dsimp only at hSw); first | (go_simp; done) | (go_simp; with_reducible rfl))
        try simp only [Act.put, List.setIfInBounds_toArray, List.set_cons_zero, List.set_cons_succ]
        refine wpAnyH_take (i := 2) (oi := { dst := some 29, op := Op.move (Operand.tmp 28), type := 4, pos := "law.go:39", after := #[{ on := 1, ground := Ground.data }], guard := none }) (v := ?_) rfl (by kernel_rfl) (by kernel_rfl) (by kernel_rfl) (fun _ _ _ h => h) (Or.inl ⟨by rfl, ?hy2⟩) (by assumption) ?_
        case hy2 => (intro ww hSw; (try dsimp only at hSw); first | (go_simp; done) | (go_simp; with_reducible rfl))
        try simp only [Act.put, List.setIfInBounds_toArray, List.set_cons_zero, List.set_cons_succ]
        refine wpAnyH_take (i := 3) (oi := { dst := some 30, op := Op.move (Operand.tmp 5), type := 27, pos := "law.go:39", after := #[{ on := 2, ground := Ground.guard }], guard := some (2, false) }) (v := ?_) rfl (by kernel_rfl) (by kernel_rfl) (by kernel_rfl) (fun _ _ _ h => h) (Or.inl ⟨by rfl, ?hy3⟩) (by assumption) ?_
        case hy3 => (intro ww hSw; (try dsimp only at hSw); first | (go_simp; done) | (go_simp; with_reducible rfl))
        try simp only [Act.put, List.setIfInBounds_toArray, List.set_cons_zero, List.set_cons_succ]
        refine wpAnyH_take (i := 4) (oi := { dst := some 31, op := Op.call { callee := Callee.builtin Builtin.len, args := #[Operand.tmp 30], argTypes := #[27] }, type := 3, pos := "law.go:39", after := #[{ on := 3, ground := Ground.data }, { on := 2, ground := Ground.guard }], guard := some (2, false) }) (v := ?_) rfl (by kernel_rfl) (by kernel_rfl) (by kernel_rfl) (fun _ _ _ h => h) (Or.inl ⟨by rfl, ?hy4⟩) (by assumption) ?_
        case hy4 => (intro ww hSw; (try dsimp only at hSw); first | (go_simp; done) | (go_simp; with_reducible rfl))
        try simp only [Act.put, List.setIfInBounds_toArray, List.set_cons_zero, List.set_cons_succ]
        refine wpAnyH_take (i := 5) (oi := { dst := some 32, op := Op.binOp BinOp.eql 3 (Operand.tmp 31) (Operand.const (Value.int IntKind.i64 0)) 3, type := 4, pos := "law.go:39", after := #[{ on := 4, ground := Ground.data }, { on := 2, ground := Ground.guard }], guard := some (2, false) }) (v := ?_) rfl (by kernel_rfl) (by kernel_rfl) (by kernel_rfl) (fun _ _ _ h => h) (Or.inl ⟨by rfl, ?hy5⟩) (by assumption) ?_
        case hy5 => (intro ww hSw; (try dsimp only at hSw); first | (go_simp; done) | (go_simp; with_reducible rfl))
        try simp only [Act.put, List.setIfInBounds_toArray, List.set_cons_zero, List.set_cons_succ]
        refine wpAnyH_take (i := 6) (oi := { dst := some 33, op := Op.pick (Operand.tmp 29) (Operand.const (Value.bool true)) (Operand.tmp 32), type := 4, pos := "law.go:39", after := #[{ on := 2, ground := Ground.data }, { on := 5, ground := Ground.data }], guard := none }) (v := ?_) rfl (by kernel_rfl) (by kernel_rfl) (by kernel_rfl) (fun _ _ _ h => h) (Or.inl ⟨by rfl, ?hy6⟩) (by assumption) ?_
        case hy6 => (intro ww hSw; (try dsimp only at hSw); first | (go_simp; done) | (go_simp; with_reducible rfl))
        try simp only [Act.put, List.setIfInBounds_toArray, List.set_cons_zero, List.set_cons_succ]
        refine wpAnyH_take (i := 7) (oi := { dst := some 34, op := Op.move (Operand.tmp 33), type := 4, pos := "law.go:39", after := #[{ on := 6, ground := Ground.data }, { on := 2, ground := Ground.chain }], guard := none }) (v := ?_) rfl (by kernel_rfl) (by kernel_rfl) (by kernel_rfl) (fun _ _ _ h => h) (Or.inl ⟨by rfl, ?hy7⟩) (by assumption) ?_
        case hy7 => (intro ww hSw; (try dsimp only at hSw); first | (go_simp; done) | (go_simp; with_reducible rfl))
        try simp only [Act.put, List.setIfInBounds_toArray, List.set_cons_zero, List.set_cons_succ]
        refine wpAnyH_take (i := 8) (oi := { dst := some 35, op := Op.move (Operand.tmp 3), type := 25, pos := "law.go:39", after := #[{ on := 7, ground := Ground.guard }], guard := some (7, false) }) (v := ?_) rfl (by kernel_rfl) (by kernel_rfl) (by kernel_rfl) (fun _ _ _ h => h) (Or.inl ⟨by rfl, ?hy8⟩) (by assumption) ?_
        case hy8 => (intro ww hSw; (try dsimp only at hSw); first | (go_simp; done) | (go_simp; with_reducible rfl))
        try simp only [Act.put, List.setIfInBounds_toArray, List.set_cons_zero, List.set_cons_succ]
        refine wpAnyH_take (i := 9) (oi := { dst := some 36, op := Op.move (Operand.tmp 4), type := 3, pos := "law.go:39", after := #[{ on := 7, ground := Ground.guard }], guard := some (7, false) }) (v := ?_) rfl (by kernel_rfl) (by kernel_rfl) (by kernel_rfl) (fun _ _ _ h => h) (Or.inl ⟨by rfl, ?hy9⟩) (by assumption) ?_
        case hy9 => (intro ww hSw; (try dsimp only at hSw); first | (go_simp; done) | (go_simp; with_reducible rfl))
        try simp only [Act.put, List.setIfInBounds_toArray, List.set_cons_zero, List.set_cons_succ]
        refine wpAnyH_take (i := 10) (oi := { dst := some 37, op := Op.indexAddr 25 (Operand.tmp 35) (Operand.tmp 36), type := 0, pos := "law.go:39", after := #[{ on := 8, ground := Ground.data }, { on := 9, ground := Ground.data }, { on := 7, ground := Ground.guard }], guard := some (7, false) }) (v := ?_) rfl (by kernel_rfl) (by kernel_rfl) (by kernel_rfl) (fun _ _ _ h => h) (Or.inl ⟨by rfl, ?hy10⟩) (by assumption) ?_
        case hy10 => (intro ww hSw; (try dsimp only at hSw); first | (go_simp; done) | (go_simp; with_reducible rfl))
        try simp only [Act.put, List.setIfInBounds_toArray, List.set_cons_zero, List.set_cons_succ]
        refine wpAnyH_take (i := 11) (oi := { dst := some 38, op := Op.load 9 (Operand.tmp 37), type := 9, pos := "law.go:39", after := #[{ on := 10, ground := Ground.data }, { on := 7, ground := Ground.guard }], guard := some (7, false) }) (v := ?_) rfl (by kernel_rfl) (by kernel_rfl) (by kernel_rfl) (fun _ _ _ h => h) (Or.inl ⟨by rfl, ?hy11⟩) (by assumption) ?_
        case hy11 => (intro ww hSw; (try dsimp only at hSw); first | (go_simp; done) | (go_simp; with_reducible rfl))
        try simp only [Act.put, List.setIfInBounds_toArray, List.set_cons_zero, List.set_cons_succ]
        refine wpAnyH_take (i := 13) (oi := { dst := some 40, op := Op.move (Operand.tmp 3), type := 25, pos := "law.go:39", after := #[{ on := 7, ground := Ground.guard }], guard := some (7, false) }) (v := ?_) rfl (by kernel_rfl) (by kernel_rfl) (by kernel_rfl) (fun _ _ _ h => h) (Or.inl ⟨by rfl, ?hy13⟩) (by assumption) ?_
        case hy13 => (intro ww hSw; (try dsimp only at hSw); first | (go_simp; done) | (go_simp; with_reducible rfl))
        try simp only [Act.put, List.setIfInBounds_toArray, List.set_cons_zero, List.set_cons_succ]
        refine wpAnyH_take (i := 14) (oi := { dst := some 41, op := Op.move (Operand.tmp 4), type := 3, pos := "law.go:39", after := #[{ on := 7, ground := Ground.guard }], guard := some (7, false) }) (v := ?_) rfl (by kernel_rfl) (by kernel_rfl) (by kernel_rfl) (fun _ _ _ h => h) (Or.inl ⟨by rfl, ?hy14⟩) (by assumption) ?_
        case hy14 => (intro ww hSw; (try dsimp only at hSw); first | (go_simp; done) | (go_simp; with_reducible rfl))
        try simp only [Act.put, List.setIfInBounds_toArray, List.set_cons_zero, List.set_cons_succ]
        refine wpAnyH_take (i := 15) (oi := { dst := some 42, op := Op.indexAddr 25 (Operand.tmp 40) (Operand.tmp 41), type := 0, pos := "law.go:39", after := #[{ on := 13, ground := Ground.data }, { on := 14, ground := Ground.data }, { on := 7, ground := Ground.guard }], guard := some (7, false) }) (v := ?_) rfl (by kernel_rfl) (by kernel_rfl) (by kernel_rfl) (fun _ _ _ h => h) (Or.inl ⟨by rfl, ?hy15⟩) (by assumption) ?_
        case hy15 => (intro ww hSw; (try dsimp only at hSw); first | (go_simp; done) | (go_simp; with_reducible rfl))
        try simp only [Act.put, List.setIfInBounds_toArray, List.set_cons_zero, List.set_cons_succ]
        refine wpAnyH_take (i := 16) (oi := { dst := some 43, op := Op.load 9 (Operand.tmp 42), type := 9, pos := "law.go:39", after := #[{ on := 15, ground := Ground.data }, { on := 7, ground := Ground.guard }], guard := some (7, false) }) (v := ?_) rfl (by kernel_rfl) (by kernel_rfl) (by kernel_rfl) (fun _ _ _ h => h) (Or.inl ⟨by rfl, ?hy16⟩) (by assumption) ?_
        case hy16 => (intro ww hSw; (try dsimp only at hSw); first | (go_simp; done) | (go_simp; with_reducible rfl))
        try simp only [Act.put, List.setIfInBounds_toArray, List.set_cons_zero, List.set_cons_succ]
        refine wpAnyH_ready (rs := [12]) (by kernel_rfl) (by simp) ?_
        refine AllReadyH.cons (o := { dst := some 39, op := Op.call { callee := Callee.value (Operand.func 20), args := #[Operand.tmp 38], argTypes := #[9] }, type := 9, pos := "law.go:39", after := #[{ on := 11, ground := Ground.data }, { on := 7, ground := Ground.chain }, { on := 7, ground := Ground.guard }], guard := some (7, false) }) rfl (fun K hK => ?_) ?more12
        case more12 => exact AllReadyH.nil
        go_simp
        go_at_call 20; (with_reducible refine (HLO.out _).mono ?_); rintro e w3 ⟨rfl, hb3⟩; have hr := hr.trans (hb3.mono hr.size); clear hb3
        refine hK.out _ _ (K0.out _ hr) (fun hHeld => ?_)
        clear hK K
        try simp only [Act.put, List.setIfInBounds_toArray, List.set_cons_zero, List.set_cons_succ]
        refine wpAnyH_take (i := 17) (oi := { dst := some 44, op := Op.binOp BinOp.neq 9 (Operand.tmp 39) (Operand.tmp 43) 9, type := 4, pos := "law.go:39", after := #[{ on := 12, ground := Ground.data }, { on := 16, ground := Ground.data }, { on := 7, ground := Ground.guard }], guard := some (7, false) }) (v := ?_) rfl (by kernel_rfl) (by kernel_rfl) (by kernel_rfl) (fun _ _ _ h => h) (Or.inl ⟨by rfl, ?hy17⟩) (by assumption) ?_
        case hy17 => (intro ww hSw; (try dsimp only at hSw); first | (go_simp; done) | (go_simp; with_reducible rfl))
        try simp only [Act.put, List.setIfInBounds_toArray, List.set_cons_zero, List.set_cons_succ]
        refine wpAnyH_take (i := 18) (oi := { dst := some 45, op := Op.pick (Operand.tmp 34) (Operand.const (Value.bool true)) (Operand.tmp 44), type := 4, pos := "law.go:39", after := #[{ on := 7, ground := Ground.data }, { on := 17, ground := Ground.data }], guard := none }) (v := ?_) rfl (by kernel_rfl) (by kernel_rfl) (by kernel_rfl) (fun _ _ _ h => h) (Or.inl ⟨by rfl, ?hy18⟩) (by assumption) ?_
        case hy18 => (intro ww hSw; (try dsimp only at hSw); first | (go_simp; done) | (go_simp; with_reducible rfl))
        try simp only [Act.put, List.setIfInBounds_toArray, List.set_cons_zero, List.set_cons_succ]
        refine wpAnyH_take (i := 19) (oi := { dst := some 46, op := Op.move (Operand.tmp 45), type := 4, pos := "law.go:39", after := #[{ on := 18, ground := Ground.data }, { on := 12, ground := Ground.chain }], guard := none }) (v := ?_) rfl (by kernel_rfl) (by kernel_rfl) (by kernel_rfl) (fun _ _ _ h => h) (Or.inl ⟨by rfl, ?hy19⟩) (by assumption) ?_
        case hy19 => (intro ww hSw; (try dsimp only at hSw); first | (go_simp; done) | (go_simp; with_reducible rfl))
        try simp only [Act.put, List.setIfInBounds_toArray, List.set_cons_zero, List.set_cons_succ]
        refine wpAnyH_take (i := 20) (oi := { dst := some 47, op := Op.move (Operand.tmp 4), type := 3, pos := "law.go:39", after := #[{ on := 19, ground := Ground.guard }], guard := some (19, false) }) (v := ?_) rfl (by kernel_rfl) (by kernel_rfl) (by kernel_rfl) (fun _ _ _ h => h) (Or.inl ⟨by rfl, ?hy20⟩) (by assumption) ?_
        case hy20 => (intro ww hSw; (try dsimp only at hSw); first | (go_simp; done) | (go_simp; with_reducible rfl))
        try simp only [Act.put, List.setIfInBounds_toArray, List.set_cons_zero, List.set_cons_succ]
        refine wpAnyH_take (i := 21) (oi := { dst := some 48, op := Op.binOp BinOp.gtr 3 (Operand.tmp 47) (Operand.const (Value.int IntKind.i64 0)) 3, type := 4, pos := "law.go:39", after := #[{ on := 20, ground := Ground.data }, { on := 19, ground := Ground.guard }], guard := some (19, false) }) (v := ?_) rfl (by kernel_rfl) (by kernel_rfl) (by kernel_rfl) (fun _ _ _ h => h) (Or.inl ⟨by rfl, ?hy21⟩) (by assumption) ?_
        case hy21 => (intro ww hSw; (try dsimp only at hSw); first | (go_simp; done) | (go_simp; with_reducible rfl))
        try simp only [Act.put, List.setIfInBounds_toArray, List.set_cons_zero, List.set_cons_succ]
        refine wpAnyH_take (i := 22) (oi := { dst := some 49, op := Op.move (Operand.tmp 48), type := 4, pos := "law.go:39", after := #[{ on := 21, ground := Ground.data }, { on := 19, ground := Ground.chain }, { on := 19, ground := Ground.guard }], guard := some (19, false) }) (v := ?_) rfl (by kernel_rfl) (by kernel_rfl) (by kernel_rfl) (fun _ _ _ h => h) (Or.inl ⟨by rfl, ?hy22⟩) (by assumption) ?_
        case hy22 => (intro ww hSw; (try dsimp only at hSw); first | (go_simp; done) | (go_simp; with_reducible rfl))
        try simp only [Act.put, List.setIfInBounds_toArray, List.set_cons_zero, List.set_cons_succ]
        refine wpAnyH_take (i := 23) (oi := { dst := some 50, op := Op.move (Operand.tmp 3), type := 25, pos := "law.go:39", after := #[{ on := 22, ground := Ground.guard }], guard := some (22, true) }) (v := undef) rfl (by kernel_rfl) (by kernel_rfl) (by kernel_rfl) (fun _ _ _ h => h) (Or.inr ⟨by rfl, rfl⟩) (by assumption) ?_
        try simp only [Act.put, List.setIfInBounds_toArray, List.set_cons_zero, List.set_cons_succ]
        refine wpAnyH_take (i := 24) (oi := { dst := some 51, op := Op.move (Operand.tmp 4), type := 3, pos := "law.go:39", after := #[{ on := 22, ground := Ground.guard }], guard := some (22, true) }) (v := undef) rfl (by kernel_rfl) (by kernel_rfl) (by kernel_rfl) (fun _ _ _ h => h) (Or.inr ⟨by rfl, rfl⟩) (by assumption) ?_
        try simp only [Act.put, List.setIfInBounds_toArray, List.set_cons_zero, List.set_cons_succ]
        refine wpAnyH_take (i := 25) (oi := { dst := some 52, op := Op.indexAddr 25 (Operand.tmp 50) (Operand.tmp 51), type := 0, pos := "law.go:39", after := #[{ on := 23, ground := Ground.data }, { on := 24, ground := Ground.data }, { on := 22, ground := Ground.guard }], guard := some (22, true) }) (v := undef) rfl (by kernel_rfl) (by kernel_rfl) (by kernel_rfl) (fun _ _ _ h => h) (Or.inr ⟨by rfl, rfl⟩) (by assumption) ?_
        try simp only [Act.put, List.setIfInBounds_toArray, List.set_cons_zero, List.set_cons_succ]
        refine wpAnyH_take (i := 26) (oi := { dst := some 53, op := Op.load 9 (Operand.tmp 52), type := 9, pos := "law.go:39", after := #[{ on := 25, ground := Ground.data }, { on := 22, ground := Ground.guard }], guard := some (22, true) }) (v := undef) rfl (by kernel_rfl) (by kernel_rfl) (by kernel_rfl) (fun _ _ _ h => h) (Or.inr ⟨by rfl, rfl⟩) (by assumption) ?_
        try simp only [Act.put, List.setIfInBounds_toArray, List.set_cons_zero, List.set_cons_succ]
        refine wpAnyH_take (i := 27) (oi := { dst := some 54, op := Op.move (Operand.tmp 3), type := 25, pos := "law.go:39", after := #[{ on := 22, ground := Ground.guard }], guard := some (22, true) }) (v := undef) rfl (by kernel_rfl) (by kernel_rfl) (by kernel_rfl) (fun _ _ _ h => h) (Or.inr ⟨by rfl, rfl⟩) (by assumption) ?_
        try simp only [Act.put, List.setIfInBounds_toArray, List.set_cons_zero, List.set_cons_succ]
        refine wpAnyH_take (i := 28) (oi := { dst := some 55, op := Op.move (Operand.tmp 4), type := 3, pos := "law.go:39", after := #[{ on := 22, ground := Ground.guard }], guard := some (22, true) }) (v := undef) rfl (by kernel_rfl) (by kernel_rfl) (by kernel_rfl) (fun _ _ _ h => h) (Or.inr ⟨by rfl, rfl⟩) (by assumption) ?_
        try simp only [Act.put, List.setIfInBounds_toArray, List.set_cons_zero, List.set_cons_succ]
        refine wpAnyH_take (i := 29) (oi := { dst := some 56, op := Op.binOp BinOp.sub 3 (Operand.tmp 55) (Operand.const (Value.int IntKind.i64 1)) 3, type := 3, pos := "law.go:39", after := #[{ on := 28, ground := Ground.data }, { on := 22, ground := Ground.guard }], guard := some (22, true) }) (v := undef) rfl (by kernel_rfl) (by kernel_rfl) (by kernel_rfl) (fun _ _ _ h => h) (Or.inr ⟨by rfl, rfl⟩) (by assumption) ?_
        try simp only [Act.put, List.setIfInBounds_toArray, List.set_cons_zero, List.set_cons_succ]
        refine wpAnyH_take (i := 30) (oi := { dst := some 57, op := Op.indexAddr 25 (Operand.tmp 54) (Operand.tmp 56), type := 0, pos := "law.go:39", after := #[{ on := 27, ground := Ground.data }, { on := 29, ground := Ground.data }, { on := 22, ground := Ground.guard }], guard := some (22, true) }) (v := undef) rfl (by kernel_rfl) (by kernel_rfl) (by kernel_rfl) (fun _ _ _ h => h) (Or.inr ⟨by rfl, rfl⟩) (by assumption) ?_
        try simp only [Act.put, List.setIfInBounds_toArray, List.set_cons_zero, List.set_cons_succ]
        refine wpAnyH_take (i := 31) (oi := { dst := some 58, op := Op.load 9 (Operand.tmp 57), type := 9, pos := "law.go:39", after := #[{ on := 30, ground := Ground.data }, { on := 22, ground := Ground.guard }], guard := some (22, true) }) (v := undef) rfl (by kernel_rfl) (by kernel_rfl) (by kernel_rfl) (fun _ _ _ h => h) (Or.inr ⟨by rfl, rfl⟩) (by assumption) ?_
        try simp only [Act.put, List.setIfInBounds_toArray, List.set_cons_zero, List.set_cons_succ]
        refine wpAnyH_take (i := 32) (oi := { dst := some 59, op := Op.binOp BinOp.leq 9 (Operand.tmp 53) (Operand.tmp 58) 9, type := 4, pos := "law.go:39", after := #[{ on := 26, ground := Ground.data }, { on := 31, ground := Ground.data }, { on := 22, ground := Ground.guard }], guard := some (22, true) }) (v := undef) rfl (by kernel_rfl) (by kernel_rfl) (by kernel_rfl) (fun _ _ _ h => h) (Or.inr ⟨by rfl, rfl⟩) (by assumption) ?_
        try simp only [Act.put, List.setIfInBounds_toArray, List.set_cons_zero, List.set_cons_succ]
        refine wpAnyH_take (i := 33) (oi := { dst := some 60, op := Op.pick (Operand.tmp 49) (Operand.tmp 59) (Operand.const (Value.bool false)), type := 4, pos := "law.go:39", after := #[{ on := 22, ground := Ground.data }, { on := 32, ground := Ground.data }, { on := 19, ground := Ground.guard }], guard := some (19, false) }) (v := ?_) rfl (by kernel_rfl) (by kernel_rfl) (by kernel_rfl) (fun _ _ _ h => h) (Or.inl ⟨by rfl, ?hy33⟩) (by assumption) ?_
        case hy33 => (intro ww hSw; (try dsimp only at hSw); first | (go_simp; done) | (go_simp; with_reducible rfl))
        try simp only [Act.put, List.setIfInBounds_toArray, List.set_cons_zero, List.set_cons_succ]
        refine wpAnyH_take (i := 34) (oi := { dst := some 61, op := Op.pick (Operand.tmp 46) (Operand.const (Value.bool true)) (Operand.tmp 60), type := 4, pos := "law.go:39", after := #[{ on := 19, ground := Ground.data }, { on := 33, ground := Ground.data }], guard := none }) (v := ?_) rfl (by kernel_rfl) (by kernel_rfl) (by kernel_rfl) (fun _ _ _ h => h) (Or.inl ⟨by rfl, ?hy34⟩) (by assumption) ?_
        case hy34 => (intro ww hSw; (try dsimp only at hSw); first | (go_simp; done) | (go_simp; with_reducible rfl))
        try simp only [Act.put, List.setIfInBounds_toArray, List.set_cons_zero, List.set_cons_succ]
        refine wpAnyH_take (i := 35) (oi := { dst := some 62, op := Op.move (Operand.tmp 61), type := 4, pos := "law.go:39", after := #[{ on := 34, ground := Ground.data }, { on := 22, ground := Ground.chain }], guard := none }) (v := ?_) rfl (by kernel_rfl) (by kernel_rfl) (by kernel_rfl) (fun _ _ _ h => h) (Or.inl ⟨by rfl, ?hy35⟩) (by assumption) ?_
        case hy35 => (intro ww hSw; (try dsimp only at hSw); first | (go_simp; done) | (go_simp; with_reducible rfl))
        try simp only [Act.put, List.setIfInBounds_toArray, List.set_cons_zero, List.set_cons_succ]
        refine wpAnyH_take (i := 36) (oi := { dst := some 63, op := Op.move (Operand.tmp 5), type := 27, pos := "law.go:39", after := #[{ on := 35, ground := Ground.guard }], guard := some (35, false) }) (v := ?_) rfl (by kernel_rfl) (by kernel_rfl) (by kernel_rfl) (fun _ _ _ h => h) (Or.inl ⟨by rfl, ?hy36⟩) (by assumption) ?_
        case hy36 => (intro ww hSw; (try dsimp only at hSw); first | (go_simp; done) | (go_simp; with_reducible rfl))
        try simp only [Act.put, List.setIfInBounds_toArray, List.set_cons_zero, List.set_cons_succ]
        refine wpAnyH_take (i := 38) (oi := { dst := some 65, op := Op.move (Operand.tmp 5), type := 27, pos := "law.go:39", after := #[{ on := 35, ground := Ground.guard }], guard := some (35, false) }) (v := ?_) rfl (by kernel_rfl) (by kernel_rfl) (by kernel_rfl) (fun _ _ _ h => h) (Or.inl ⟨by rfl, ?hy38⟩) (by assumption) ?_
        case hy38 => (intro ww hSw; (try dsimp only at hSw); first | (go_simp; done) | (go_simp; with_reducible rfl))
        try simp only [Act.put, List.setIfInBounds_toArray, List.set_cons_zero, List.set_cons_succ]
        refine wpAnyH_ready (rs := [37]) (by kernel_rfl) (by simp) ?_
        refine AllReadyH.cons (o := { dst := some 64, op := Op.call { callee := Callee.value (Operand.func 22), args := #[Operand.tmp 63], argTypes := #[27] }, type := 27, pos := "law.go:39", after := #[{ on := 36, ground := Ground.data }, { on := 35, ground := Ground.chain }, { on := 35, ground := Ground.guard }], guard := some (35, false) }) rfl (fun K hK => ?_) ?more37
        case more37 => exact AllReadyH.nil
        go_simp
        go_at_call 22; (with_reducible refine (HNO.out _ hr).mono ?_); rintro e w4 ⟨P4, c4, rfl, s4, hb4⟩; have HS4 := Lib.hid s4; have hr := hr.trans (hb4.mono hr.size); clear s4 hb4
        refine hK.out _ _ (K0.out _ hr) (fun hHeld => ?_)
        clear hK K
        try simp only [Act.put, List.setIfInBounds_toArray, List.set_cons_zero, List.set_cons_succ]
        refine wpAnyH_ready (rs := [39]) (by kernel_rfl) (by simp) ?_
        refine AllReadyH.cons (o := { dst := some 66, op := Op.call { callee := Callee.value (Operand.func 13), args := #[Operand.tmp 64, Operand.tmp 65], argTypes := #[27, 27] }, type := 4, pos := "law.go:39", after := #[{ on := 37, ground := Ground.data }, { on := 38, ground := Ground.data }, { on := 37, ground := Ground.chain }, { on := 35, ground := Ground.guard }], guard := some (35, false) }) rfl (fun K hK => ?_) ?more39
        case more39 => exact AllReadyH.nil
        go_simp
        go_at_call 13; (with_reducible refine (alike_c HS4.out (HS1.out _ hr) (by have := HL1.out; omega) (by have := HL1.out; omega)).mono ?_); rintro e w5 ⟨rfl, hb5⟩; have hr := hr.trans (hb5.mono hr.size); clear hb5
        refine hK.out _ _ (K0.out _ hr) (fun hHeld => ?_)
        clear hK K
        refine wpAnyH_take (i := 40) (oi := { dst := some 67, op := Op.unOp UnOp.not 4 (Operand.tmp 66), type := 4, pos := "law.go:39", after := #[{ on := 39, ground := Ground.data }, { on := 35, ground := Ground.guard }], guard := some (35, false) }) (v := ?_) rfl (by kernel_rfl) (by kernel_rfl) (by kernel_rfl) (fun _ _ _ h => h) (Or.inl ⟨by rfl, ?hy40⟩) (by assumption) ?_
        case hy40 => (intro ww hSw; (try dsimp only at hSw); first | (go_simp; done) | (go_simp; with_reducible rfl))
        try simp only [Act.put, List.setIfInBounds_toArray, List.set_cons_zero, List.set_cons_succ]
        refine wpAnyH_take (i := 41) (oi := { dst := some 68, op := Op.pick (Operand.tmp 62) (Operand.const (Value.bool true)) (Operand.tmp 67), type := 4, pos := "law.go:39", after := #[{ on := 35, ground := Ground.data }, { on := 40, ground := Ground.data }], guard := none }) (v := ?_) rfl (by kernel_rfl) (by kernel_rfl) (by kernel_rfl) (fun _ _ _ h => h) (Or.inl ⟨by rfl, ?hy41⟩) (by assumption) ?_
        case hy41 => (intro ww hSw; (try dsimp only at hSw); first | (go_simp; done) | (go_simp; with_reducible rfl))
        try simp only [Act.put, List.setIfInBounds_toArray, List.set_cons_zero, List.set_cons_succ]
        refine wpAnyH_done (by kernel_rfl) ?_ _
        go_wp2
        go_roundg g
        case measure => omega
        case rel => exact ⟨0 + 1, by omega, by go_num, HC2.out.step hr, HB2.out.trans (hr.mono HB2.out.size)⟩
      · obtain ⟨m, rfl⟩ : ∃ m, k = m + 1 := ⟨k - 1, by omega⟩
        have hle := leq_up m hk
        have K1 : Hid (∀ U, Below w2.heap.size w2 U → U.cell? ⟨bN, oN + m, none⟩ = some (.string ⟨(nameOf m).toArray⟩)) := Lib.hid (fun U h => (((HB2.out.trans (h.mono HB2.out.size)).cell (p := ⟨bN, oN + m, none⟩) hbN).trans (HCN.out m (by show m < 13; omega))).trans (by rw [names_at m (by show m < 13; omega)]))
        have c01 := K1.out _ (Below.refl _ _)
        have hmz : (m : Int) < 13 := by omega
        have hmz1 : (m : Int) + 1 < 13 := by omega
        have hmz0 : (0 : Int) ≤ (m : Int) + 1 := by omega
        have hw1 : IntKind.i64.wrap (m : Int) = (m : Int) := by simp [IntKind.wrap, IntKind.signed, IntKind.bits]; omega
        go_wp2
        generalize nameOf (m + 1) = n1 at *
        generalize nameOf m = n0 at *
        have hr : Below w2.heap.size w2 w2 := Below.refl _ _
        go_region_held3 (fun U => U.cell? ⟨bN, oN + (m + 1), none⟩ = some (.string ⟨n1.toArray⟩) ∧ U.cell? ⟨bN, oN + m, none⟩ = some (.string ⟨n0.toArray⟩))
          (first | exact ⟨K0.out _ hr, K1.out _ hr⟩ | exact ⟨K0.out _ (below_drewP hr 1), K1.out _ (below_drewP hr 1)⟩)
          (first
            | (go_at_call 20; (with_reducible refine (HLO.out _).mono ?_); rintro e w3 ⟨rfl, hb3⟩; have hr := (show Below w2.heap.size w2 _ by first | exact hr | exact below_drewP hr 1).trans (hb3.mono (by have := hr.size; (try simp only [World.size_drew]); omega)))
            | (go_at_call 22; (with_reducible refine (HNO.out _ (by first | exact hr | exact below_drewP hr 1)).mono ?_); rintro e w4 ⟨P4, c4, rfl, s4, hb4⟩; have HS4 := Lib.hid s4; have hr := (show Below w2.heap.size w2 _ by first | exact hr | exact below_drewP hr 1).trans (hb4.mono (by have := hr.size; (try simp only [World.size_drew]); omega)))
            | (go_at_call 13; (with_reducible refine (alike_c HS4.out (HS1.out _ hr) (by have := HL1.out; omega) (by have := HL1.out; omega)).mono ?_); rintro e w5 ⟨rfl, hb5⟩; have hr := hr.trans (hb5.mono hr.size)))
        all_goals
          go_wp2
          go_roundg g
          case measure => omega
          case rel => exact ⟨m + 1 + 1, by omega, by go_num, HC2.out.step hr, HB2.out.trans (hr.mono HB2.out.size)⟩
end Go.Proofs.YtjhbjgpkpcfdmaaDoor
