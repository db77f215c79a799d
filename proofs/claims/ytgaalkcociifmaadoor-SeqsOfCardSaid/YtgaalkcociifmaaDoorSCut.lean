/- seqs.cutAt: where a part is cut. -/
import Derived.Test.YtgaalkcociifmaaDoorSMath
import Derived.Test.YtgaalkcociifmaaDoorWords
import Derived.Outline
import Derived.WalkMore
import Derived.Deep.LoopGhost
import Derived.Deep.QuietTactic
import Derived.BigQuiet
import Derived.Deep.DeepCutAuto
namespace Go.Proofs.YtgaalkcociifmaaDoor
open Go.RowKit Go.Shelf SeqM

def cutV (o : Option Int) : Value := .tuple #[.int .i64 (o.getD 0), .bool o.isSome]
def CutPost (w : World) (n : Nat) (a b : Int) (e : Ending) (w' : World) : Prop := e = .returned (cutV (cutAt n a b)) ∧ Below w.heap.size w w'
/-- A box with a span. -/
def Box2 (W : World) (B : Nat) (x : Sp) : Prop := W.heap[B]? = some (.cells #[.int .i64 x.1, .int .i64 x.2] 43 (0, 0))
theorem Box2.new (w : World) (x : Sp) : Box2 (w.alloc (.cells #[.int .i64 x.1, .int .i64 x.2] 43)) w.heap.size x := heap_alloc_new w _
theorem Box2.c0 {W : World} {B : Nat} {x : Sp} (h : Box2 W B x) : W.cell? ⟨B, 0, none⟩ = some (.int .i64 x.1) := by rw [cell_of_row W B 0 _ _ _ h]; rfl
theorem Box2.c1 {W : World} {B : Nat} {x : Sp} (h : Box2 W B x) : W.cell? ⟨B, 1, none⟩ = some (.int .i64 x.2) := by rw [cell_of_row W B 1 _ _ _ h]; rfl
theorem Box2.lt {W : World} {B : Nat} {x : Sp} (h : Box2 W B x) : B < W.heap.size := (Array.getElem?_eq_some_iff.1 h).1
theorem Box2.alloc {W : World} {B : Nat} {x : Sp} (h : Box2 W B x) (o : Obj) : Box2 (W.alloc o) B x := (Below.heap_alloc W o B h.lt).trans h
theorem Box2.below {n₀ : Nat} {V W : World} {B : Nat} {x : Sp} (h : Box2 V B x) (hb : Below n₀ V W) (hB : B < n₀) : Box2 W B x := (hb.block B hB).trans h
theorem Box2.drewN {W : World} {B : Nat} {x : Sp} (h : Box2 W B x) (k : Nat) : Box2 (W.drewN k) B x := h
theorem cutFrom_none {k : Nat} {m a b : Int} (h : cutK (m * 64) a b = none) : cutFrom (k + 1) m a b = cutFrom k (m * 64) a b := by rw [cutFrom, h]
theorem cutFrom_some {k : Nat} {m a b x : Int} (h : cutK (m * 64) a b = some x) : cutFrom (k + 1) m a b = some x := by rw [cutFrom, h]
theorem pow_small {k : Nat} {m : Int} (h : m = 64 ^ k) (hk : k + 1 ≤ 3) : m ≤ 4096 := by
  have : k = 0 ∨ k = 1 ∨ k = 2 := by omega
  rcases this with rfl | rfl | rfl <;> simp at h <;> omega

set_option maxRecDepth 100000 in
set_option maxHeartbeats 1000000 in
theorem cutAt_any (n : Nat) (a b : Int) (h1 : 1 ≤ n) (h4 : n ≤ 4) (ha : 0 ≤ a) (hab : a ≤ b) (hb : b ≤ 1114111) (w : World) :
    Calls Tryd.prog 57 #[.agg #[.int .i64 a, .int .i64 b], .int .i64 n] w (CutPost w n a b) := by
  have bx := Box2.new w (a, b)
  have hbl : Below w.heap.size w (w.alloc (.cells #[.int .i64 a, .int .i64 b] 43)) := (Below.refl _ _).alloc (Nat.le_refl _) _
  go_enter Tryd.func57, Tryd.ntmps57
  go_wp2
  go_loopg [6, 11] (n - 1) (fun g s6 s11 wx => ∃ (k : Nat) (m : Int), k + g = n - 1 ∧ s11 = .int .i64 k ∧ s6 = .int .i64 m ∧ 1 ≤ m ∧ Hid (cutAt n a b = cutFrom g m a b) ∧ Hid (m = 64 ^ k) ∧ Box2 wx w.heap.size (a, b) ∧ Below w.heap.size w wx)
  case atStart => exact ⟨0, 1, by omega, rfl, rfl, by omega, Lib.hid rfl, Lib.hid rfl, bx, hbl⟩
  case round =>
    obtain ⟨k, m, hkg, rfl, rfl, hm, HC, HM, hB, hbw⟩ := hrel
    clear bx hbl
    cases gk with
    | zero =>
      have hkz : ¬ ((k : Int) < (n : Int) - 1) := by omega
      have HC0 : cutAt n a b = none := HC.out
      go_wp2
      go_ret2
      exact ⟨by rw [HC0]; rfl, hbw⟩
    | succ g =>
      have hkz : ((k : Int) < (n : Int) - 1) := by omega
      have hms := pow_small HM.out (by omega)
      have c0 := hB.c0
      have c1 := hB.c1
      go_wp2
      go_quiet (fail)
      have hB6 := hB.drewN nq
      have c60 := hB6.c0
      have c61 := hB6.c1
      have hb6 : Below w.heap.size w (wr.drewN nq) := ⟨hbw.os, hbw.tape, hbw.output, hbw.size, hbw.block⟩
      obtain ⟨M, hM⟩ : ∃ M, M = m * 64 := ⟨_, rfl⟩
      have HCK := Lib.hid (fun (x : Int) (h : cutK (m * 64) a b = some x) => cutFrom_some (k := g) h)
      have HCN := Lib.hid (fun (h : cutK (m * 64) a b = none) => cutFrom_none (k := g) h)
      have hM1 : 64 ≤ M := by omega
      have hM2 : M ≤ 262144 := by omega
      have HM2 : Hid (M = 64 ^ (k + 1)) := Lib.hid (by rw [hM, HM.out, Int.pow_succ])
      rw [← hM] at HCK HCN ⊢
      clear c0 c1 hB hbw hM HM hms hm
      generalize wr.drewN nq = w6 at *
      clear wr
      have e1 := Int.mul_ediv_add_emod a M
      have e2 := Int.mul_ediv_add_emod b M
      have r1 := Int.emod_nonneg a (show M ≠ 0 by omega)
      have r2 := Int.emod_nonneg b (show M ≠ 0 by omega)
      have s1 := Int.emod_lt_of_pos a (show 0 < M by omega)
      have s2 := Int.emod_lt_of_pos b (show 0 < M by omega)
      have hq0 : 0 ≤ a / M := Int.ediv_nonneg ha (by omega)
      have hp0 : 0 ≤ b / M := Int.ediv_nonneg (by omega) (by omega)
      have hq1 : a / M ≤ a := Int.ediv_le_self _ ha
      have hp1 : b / M ≤ b := Int.ediv_le_self _ (by omega)
      have HCF : Hid (∀ x, cutK M a b = x → cutK M a b = x) := Lib.hid (fun _ h => h)
      by_cases hqp : a / M = b / M
      · have hn : cutK M a b = none := by unfold cutK; rw [if_pos hqp]
        have HN := Lib.hid (HC.out.trans (HCN.out hn))
        clear hn e1 e2 r1 r2 s1 s2 HC HCK HCN HCF
        generalize a / M = q at *
        generalize b / M = p at *
        subst hqp
        go_wp2
        go_roundg g
        case measure => omega
        case rel => exact ⟨k + 1, M, by omega, by go_num, rfl, by omega, HN, HM2, hB6, hb6⟩
      · by_cases hr : a % M = 0
        · by_cases hs : b % M = M - 1
          · have hn : cutK M a b = none := by unfold cutK; rw [if_neg hqp, if_neg (by omega), if_neg (by omega)]
            have HN := Lib.hid (HC.out.trans (HCN.out hn))
            clear hn e1 e2 r1 r2 s1 s2 HC HCK HCN HCF
            go_wp2
            go_roundg g
            case measure => omega
            case rel => exact ⟨k + 1, M, by omega, by go_num, rfl, by omega, HN, HM2, hB6, hb6⟩
          · obtain ⟨X, hX⟩ : ∃ X, b / M * M = X := ⟨_, rfl⟩
            have hn : cutK M a b = some X := by unfold cutK; rw [if_neg hqp, if_neg (by omega), if_pos (by omega), hX]
            have HN := Lib.hid (HC.out.trans (HCK.out _ hn))
            have hX0 := Int.mul_nonneg hp0 (show 0 ≤ M by omega)
            have hX1 : 0 ≤ X ∧ X ≤ 2000000 := by rw [hX] at hX0; rw [Int.mul_comm] at hX; omega
            clear hn e1 e2 r1 r2 s1 s2 HC HCK HCN HCF hX0
            go_wp2
            go_ret2
            exact ⟨by rw [HN.out]; rfl, hb6⟩
        · obtain ⟨X, hX⟩ : ∃ X, (a / M + 1) * M = X := ⟨_, rfl⟩
          have hn : cutK M a b = some X := by unfold cutK; rw [if_neg hqp, if_pos hr, hX]
          have HN := Lib.hid (HC.out.trans (HCK.out _ hn))
          have hX0 := Int.mul_nonneg (show 0 ≤ a / M + 1 by omega) (show 0 ≤ M by omega)
          have hX1 : 0 ≤ X ∧ X ≤ 2000000 := by rw [hX] at hX0; rw [Int.add_mul, Int.one_mul, Int.mul_comm] at hX; omega
          clear hn e1 e2 r1 r2 s1 s2 HC HCK HCN HCF hX0
          go_wp2
          go_ret2
          exact ⟨by rw [HN.out]; rfl, hb6⟩
end Go.Proofs.YtgaalkcociifmaaDoor
