
/- slices.Equal at spans, set.Same; the document's Alike. -/
import Derived.Test.YtkphbjppmiefkaaDoorOps
import Derived.Laws.StructEq
namespace Go.Proofs.YtkphbjppmiefkaaDoor
open Go.RowKit Go.Shelf SetM


theorem gdSpan : Tryd.prog.eqGuardType Tryd.prog.depth 42 = false := by kernel_rfl
theorem eqSpan (a b c d : Int) (w : World) : (Op.equalIn 10000 42 (.agg #[.int .i64 a, .int .i64 b]) (.agg #[.int .i64 c, .int .i64 d])).run Tryd.prog w = .ok (decide ((a, b) = (c, d))) w := by
  have u3 := Tryd.underlying3
  have a3 := Tryd.isAgg3
  have z3 := Tryd.sizeOf3
  have hS : Tryd.prog.underlying 42 = some (.struct (Tryd.prog.fieldsOf 42)) := by kernel_rfl
  have hp : Tryd.prog.stoodInHeld 42 = false := by kernel_rfl
  rw [show (10000 : Nat) = 9999 + 1 from rfl, run_equalIn_agg w 9999 42 _ _ hS hp]
  simp only [Program.fieldsOf, Tryd.underlying42]
  go_simp
  by_cases h1 : a = c <;> by_cases h2 : b = d <;> simp [h1, h2]

set_option maxRecDepth 100000 in
set_option maxHeartbeats 1000000 in
theorem alike_any (A B : Option Addr) (ca cb : Nat) (xs ys : List Sp) (_hla : xs.length ≤ 1073741824) (hlb : ys.length ≤ 1073741824) (w : World) (hSa : Spans w.heap.size w A xs) (hSb : Spans w.heap.size w B ys) :
    Calls Tryd.prog 21 #[.slice A xs.length ca, .slice B ys.length cb] w fun e w' => e = .returned (.bool (decide (xs = ys))) ∧ Below w.heap.size w w' := by
  have HSA := Lib.hid hSa
  have HSB := Lib.hid hSb
  clear hSa hSb
  by_cases hl : xs.length = ys.length
  · have hli : (xs.length != ys.length) = false := by simp [hl]
    have hli2 : ((xs.length : Int) != (ys.length : Int)) = false := by simp [hl]
    have HL := Lib.hid hl
    clear hl
    go_enter Tryd.func21, Tryd.ntmps21
    go_wp2
    go_loopg [5] xs.length (fun g s5 wx => ∃ k : Nat, k + g = xs.length ∧ s5 = .int .i64 k ∧ Hid (xs.take k = ys.take k) ∧ Below w.heap.size w wx)
    case atStart => exact ⟨0, by omega, rfl, Lib.hid (by simp), Below.refl _ _⟩
    case round =>
      obtain ⟨k, hkg, rfl, HP, hb⟩ := hrel
      cases gk with
      | zero =>
        have hkz : ¬ ((k : Int) < (xs.length : Int)) := by omega
        have he : xs = ys := by
          have := HP.out
          rwa [List.take_of_length_le (by omega), List.take_of_length_le (by have := HL.out; omega)] at this
        have HE := Lib.hid he
        clear he
        go_wp2
        go_ret
        refine ⟨?_, hb⟩
        rw [decide_eq_true HE.out]; rfl
      | succ g =>
        have hk : k < xs.length := by omega
        have hk2 : k < ys.length := by have := HL.out; omega
        have hkz : (k : Int) < (xs.length : Int) := by omega
        have hkz2 : (k : Int) < (ys.length : Int) := by omega
        obtain ⟨b1, o1, rfl, hb1, hc1⟩ := HSA.out (by intro h; rw [h] at hk; simp at hk)
        obtain ⟨b2, o2, rfl, hb2, hc2⟩ := HSB.out (by intro h; rw [h] at hk2; simp at hk2)
        obtain ⟨c0, c1⟩ := hc1 k hk
        obtain ⟨d0, d1⟩ := hc2 k hk2
        have c0' : wr.cell? ⟨b1, o1 + k * 2, none⟩ = some (.int .i64 xs[k].1) := (hb.cell (p := ⟨b1, o1 + k * 2, none⟩) hb1).trans c0
        have c1' : wr.cell? ⟨b1, o1 + k * 2 + 1, none⟩ = some (.int .i64 xs[k].2) := (hb.cell (p := ⟨b1, o1 + k * 2 + 1, none⟩) hb1).trans c1
        have d0' : wr.cell? ⟨b2, o2 + k * 2, none⟩ = some (.int .i64 ys[k].1) := (hb.cell (p := ⟨b2, o2 + k * 2, none⟩) hb2).trans d0
        have d1' : wr.cell? ⟨b2, o2 + k * 2 + 1, none⟩ = some (.int .i64 ys[k].2) := (hb.cell (p := ⟨b2, o2 + k * 2 + 1, none⟩) hb2).trans d1
        clear c0 c1 d0 d1 hc1 hc2
        generalize hx : xs[k] = x at c0' c1'
        generalize hy : ys[k] = y at d0' d1'
        have HX := Lib.hid hx
        have HY := Lib.hid hy
        clear hx hy
        obtain ⟨x1, x2⟩ := x
        obtain ⟨y1, y2⟩ := y
        dsimp only at c0' c1' d0' d1'
        have g1 := gdSpan
        by_cases hxy : (x1, x2) = (y1, y2)
        · have g2 : ∀ w, (Op.equalIn 10000 42 (.agg #[.int .i64 x1, .int .i64 x2]) (.agg #[.int .i64 y1, .int .i64 y2])).run Tryd.prog w = .ok true w := fun w => by rw [eqSpan, decide_eq_true hxy]
          have HXY := Lib.hid hxy
          clear hxy
          go_wp2
          go_quiet (fail)
          go_wp2
          go_roundg g
          case measure => omega
          case rel => exact ⟨k + 1, by omega, by go_num, Lib.hid (by rw [List.take_succ_eq_append_getElem hk, List.take_succ_eq_append_getElem hk2, HX.out, HY.out, HXY.out, HP.out]), ⟨hb.os, hb.tape, hb.output, hb.size, hb.block⟩⟩
        · have g2 : ∀ w, (Op.equalIn 10000 42 (.agg #[.int .i64 x1, .int .i64 x2]) (.agg #[.int .i64 y1, .int .i64 y2])).run Tryd.prog w = .ok false w := fun w => by rw [eqSpan, decide_eq_false hxy]
          have hne : xs ≠ ys := fun h => hxy (by rw [← HX.out, ← HY.out]; simp only [h])
          have HNE := Lib.hid hne
          clear hxy hne
          go_wp2
          go_quiet (fail)
          go_wp2
          go_ret
          refine ⟨?_, ⟨hb.os, hb.tape, hb.output, hb.size, hb.block⟩⟩
          rw [decide_eq_false HNE.out]; rfl
  · have hli2 : ((xs.length : Int) != (ys.length : Int)) = true := by rw [bne_iff_ne]; omega
    have hli : (xs.length != ys.length) = true := by rw [bne_iff_ne]; exact hl
    have hne : xs ≠ ys := fun h => hl (by rw [h])
    have HNE := Lib.hid hne
    clear hl hne
    go_enter Tryd.func21, Tryd.ntmps21
    go_wp2
    go_ret
    exact ⟨by rw [decide_eq_false HNE.out]; rfl, Below.refl _ _⟩

/-- What a comparison of sets says. -/
def SamePost (w : World) (xs ys : List Sp) (e : Ending) (w' : World) : Prop :=
  ∃ b : Bool, e = .returned (.bool b) ∧ (b = true ↔ ∀ r, Tells xs r ↔ Tells ys r) ∧ Below w.heap.size w w'
theorem nf_same {a b : List Sp} {K L : Int → Prop} (ha : Nf a) (hb : Nf b) (hK : ∀ r, Mem a r ↔ K r) (hL : ∀ r, Mem b r ↔ L r) : (decide (a = b) = true ↔ ∀ r, K r ↔ L r) := by
  rw [decide_eq_true_iff]
  constructor
  · rintro rfl r; rw [← hK, ← hL]
  · intro h; exact nf_unique a b ha hb (fun r => by rw [hK, hL]; exact h r)
end Go.Proofs.YtkphbjppmiefkaaDoor
