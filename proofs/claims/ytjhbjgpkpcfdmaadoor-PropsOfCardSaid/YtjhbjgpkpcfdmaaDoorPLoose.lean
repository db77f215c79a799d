/- props.Loose: a name as it is compared. -/
import Derived.Test.YtjhbjgpkpcfdmaaDoorPBuild
import Derived.Test.YtjhbjgpkpcfdmaaDoorPMath
import Derived.Test.YtjhbjgpkpcfdmaaDoorWords
import Derived.Lib.Hide
import Derived.WalkKit
import Derived.WalkMore
import Derived.Outline
import Derived.Deep.LoopGhost
import Derived.Deep.QuietTactic
import Derived.BigQuiet
import Derived.Deep.DeepCutAuto
namespace Go.Proofs.YtjhbjgpkpcfdmaaDoor
open Go.RowKit Go.Shelf SetM PropsM

theorem str_ix (s : ByteArray) (k : Nat) (h : k < s.data.toList.length) : ∀ w, (Instr.index 9 (.string s) (.int .i64 (k : Int))).run Tryd.prog w = .ok (.int .u8 ((s.data.toList[k].toNat : Nat) : Int)) w := by
  intro w
  have h1 : k < s.size := h
  rw [run_index_string w 9 s .i64 k Tryd.underlying9, dif_pos ⟨by omega, by omega⟩]
  rfl
theorem size_data (s : ByteArray) : s.size = s.data.toList.length := rfl
theorem has_is (l : Bs) : Lib.hasPrefix l [105, 115] = decide (l.take 2 = [105, 115]) := by
  unfold Lib.hasPrefix
  match l with
  | [] => rfl
  | [a] => simp [List.isPrefixOf]
  | a :: b :: t =>
    have e1 : (105 == a) = decide (a = 105) := by rw [Bool.eq_iff_iff, beq_iff_eq, decide_eq_true_iff]; exact eq_comm
    have e2 : (115 == b) = decide (b = 115) := by rw [Bool.eq_iff_iff, beq_iff_eq, decide_eq_true_iff]; exact eq_comm
    simp [List.isPrefixOf, e1, e2]

theorem cut_c (q : Bs) : ∃ (r : Bs) (p : Bool), (p = false → cutIs q = q) ∧ (p = true → r ≠ [] → cutIs q = r) ∧ (p = true → r = [] → cutIs q = q) ∧
    ∀ w, Calls Tryd.prog 34 #[.string ⟨q.toArray⟩, .string ⟨#[105, 115]⟩] w fun e w' => e = .returned (.tuple #[.string ⟨r.toArray⟩, .bool p]) ∧ w' = w := by
  refine ⟨Lib.trimPrefix q [105, 115], Lib.hasPrefix q [105, 115], ?_, ?_, ?_, fun w => Tryd.strings_CutPrefix ⟨q.toArray⟩ ⟨#[105, 115]⟩ w⟩
  · rw [has_is]; intro h; unfold cutIs; rw [if_neg]; rintro ⟨_, h2⟩; simp [h2] at h
  · unfold Lib.trimPrefix; intro h1 h2; rw [if_pos h1] at h2 ⊢
    rw [has_is] at h1
    have h3 : q.drop 2 ≠ [] := h2
    have h4 := List.length_pos_iff.2 h3
    rw [List.length_drop] at h4
    exact if_pos ⟨by omega, by simpa using h1⟩
  · unfold Lib.trimPrefix; intro h1 h2; rw [if_pos h1] at h2
    unfold cutIs
    rw [if_neg]
    rintro ⟨h3, _⟩
    have h4 : q.drop 2 = [] := h2
    have := congrArg List.length h4
    rw [List.length_drop] at this; simp at this; omega

set_option maxRecDepth 100000 in
set_option maxHeartbeats 2000000 in
theorem loose_any (s : ByteArray) (hs : s.data.toList.length ≤ 1000000) (w : World) :
    Calls Tryd.prog 20 #[.string s] w fun e w' => e = .returned (.string ⟨(looseL s.data.toList).toArray⟩) ∧ Below w.heap.size w w' := by
  have HIX := Lib.hid (str_ix s)
  have HSZ := Lib.hid (size_data s)
  go_enter Tryd.func20, Tryd.ntmps20
  go_wp2
  go_loopg [10] s.size (fun g s10 wx => ∃ k : Nat, k + g = s.size ∧ s10 = .int .i64 k ∧ Lib.IsBuilder 60 5 w.heap.size w.heap.size (Lib.byteCells (sq (s.data.toList.take k))) wx ∧ Below w.heap.size w wx)
  case atStart => exact ⟨0, by omega, rfl, Lib.fresh_isBuilder _ _ _, (Below.refl _ w).alloc (Nat.le_refl _) _⟩
  case round =>
    obtain ⟨k, hkg, rfl, hB, hb⟩ := hrel
    cases gk with
    | zero =>
      have hkz : ¬ ((k : Int) < (s.size : Int)) := by omega
      obtain ⟨q, hq⟩ : ∃ q, q = sq s.data.toList := ⟨_, rfl⟩
      rw [List.take_of_length_le (by have := HSZ.out; omega), ← hq] at hB
      have HL := Lib.hid (show looseL s.data.toList = cutIs q by rw [hq]; rfl)
      clear hq
      have HF := Lib.hid (Lib.IsBuilderF.of hB)
      have hbz := hb.size
      clear hB HIX
      obtain ⟨r, p, f1, f2, f3, hcut⟩ := cut_c q
      have F1 := Lib.hid f1
      have F2 := Lib.hid f2
      have F3 := Lib.hid f3
      have HCUT := Lib.hid hcut
      clear f1 f2 f3 hcut
      go_wp2_with fail
      refine (Tryd.Builder_String_any_f w.heap.size w.heap.size q _ HF.out hbz).mono ?_
      rintro e w1 ⟨rfl, hF1, b1⟩
      have HF1 := Lib.hid hF1
      have hbz1 : w.heap.size ≤ w1.heap.size := by have := b1.size; omega
      clear hF1
      go_wp2_with fail
      refine (HCUT.out _).mono ?_
      rintro e w1' ⟨rfl, rfl⟩
      cases p with
      | false =>
        have G := Lib.hid (HL.out.trans (F1.out rfl))
        go_wp2_with fail
        refine (Tryd.Builder_String_any_f w.heap.size w.heap.size q _ HF1.out hbz1).mono ?_
        rintro e w2 ⟨rfl, _, b2⟩
        go_wp2
        go_ret
        exact ⟨by rw [G.out]; rfl, hb.trans (b1.trans b2)⟩
      | true =>
        cases r with
        | nil =>
          have G := Lib.hid (HL.out.trans (F3.out rfl rfl))
          go_wp2_with fail
          refine (Tryd.Builder_String_any_f w.heap.size w.heap.size q _ HF1.out hbz1).mono ?_
          rintro e w2 ⟨rfl, _, b2⟩
          go_wp2
          go_ret
          exact ⟨by rw [G.out]; rfl, hb.trans (b1.trans b2)⟩
        | cons y t =>
          have G := Lib.hid (HL.out.trans (F2.out rfl (by simp)))
          go_wp2
          go_ret
          exact ⟨by rw [G.out]; rfl, hb.trans b1⟩
    | succ g =>
      have hk : k < s.data.toList.length := by have := HSZ.out; omega
      have hkz : (k : Int) < (s.size : Int) := by omega
      have hix := HIX.out k hk
      have HT := Lib.hid (sq_take hk)
      have HLE : (sq (s.data.toList.take k)).length ≤ 1000000 := Nat.le_trans (sq_len _) (by rw [List.length_take]; omega)
      have HBW := hb.size
      generalize s.data.toList[k] = x at *
      have hx0 : (0 : Int) ≤ (x.toNat : Int) := by omega
      have hx1 : (x.toNat : Int) ≤ 255 := by have := x.toNat_lt; omega
      by_cases h1 : (x.toNat : Int) = 45
      · rw [sq1_skip (.inl h1), List.append_nil] at HT
        have g1 : ((x.toNat : Int) == 45) = true := by simpa using h1
        clear h1
        go_wp2
        go_roundg g
        case measure => omega
        case rel => exact ⟨k + 1, by omega, by go_num, by rw [HT.out]; exact hB, hb⟩
      · have g1 : ((x.toNat : Int) == 45) = false := by simpa using h1
        by_cases h2 : (x.toNat : Int) = 95
        · rw [sq1_skip (.inr (.inl h2)), List.append_nil] at HT
          have g2 : ((x.toNat : Int) == 95) = true := by simpa using h2
          clear h1 h2
          go_wp2
          go_roundg g
          case measure => omega
          case rel => exact ⟨k + 1, by omega, by go_num, by rw [HT.out]; exact hB, hb⟩
        · have g2 : ((x.toNat : Int) == 95) = false := by simpa using h2
          by_cases h3 : (x.toNat : Int) = 32
          · rw [sq1_skip (.inr (.inr h3)), List.append_nil] at HT
            have g3 : ((x.toNat : Int) == 32) = true := by simpa using h3
            clear h1 h2 h3
            go_wp2
            go_roundg g
            case measure => omega
            case rel => exact ⟨k + 1, by omega, by go_num, by rw [HT.out]; exact hB, hb⟩
          · have g3 : ((x.toNat : Int) == 32) = false := by simpa using h3
            by_cases h4 : (65 : Int) ≤ (x.toNat : Int)
            · by_cases h5 : (x.toNat : Int) ≤ 90
              · obtain ⟨e1, e2⟩ := sq1_low h4 h5
                rw [e1] at HT
                have E2 := Lib.hid e2
                clear e1 e2 h1 h2 h3
                go_wp2_with fail
                rw [show ((x.toNat : Int) - 65 + 97) = (((x + 32).toNat : Nat) : Int) from by have := E2.out; omega]
                refine (writeByte_any w.heap.size w.heap.size _ _ _ hB (by rw [Lib.byteCells_length]; omega) HBW).mono ?_
                rintro e w2 ⟨rfl, hB2, b2⟩
                go_wp2
                go_roundg g
                case measure => omega
                case rel => exact ⟨k + 1, by omega, by go_num, by rw [HT.out, Lib.byteCells_append]; exact .inr hB2, hb.trans b2⟩
              · rw [sq1_stay h1 h2 h3 (fun h => h5 h.2)] at HT
                clear h1 h2 h3
                go_wp2_with fail
                refine (writeByte_any w.heap.size w.heap.size _ _ _ hB (by rw [Lib.byteCells_length]; omega) HBW).mono ?_
                rintro e w2 ⟨rfl, hB2, b2⟩
                go_wp2
                go_roundg g
                case measure => omega
                case rel => exact ⟨k + 1, by omega, by go_num, by rw [HT.out, Lib.byteCells_append]; exact .inr hB2, hb.trans b2⟩
            · rw [sq1_stay h1 h2 h3 (fun h => h4 h.1)] at HT
              clear h1 h2 h3
              go_wp2_with fail
              refine (writeByte_any w.heap.size w.heap.size _ _ _ hB (by rw [Lib.byteCells_length]; omega) HBW).mono ?_
              rintro e w2 ⟨rfl, hB2, b2⟩
              go_wp2
              go_roundg g
              case measure => omega
              case rel => exact ⟨k + 1, by omega, by go_num, by rw [HT.out, Lib.byteCells_append]; exact .inr hB2, hb.trans b2⟩
end Go.Proofs.YtjhbjgpkpcfdmaaDoor
