/- The document's Loose. -/
import Derived.Test.YtjhbjgpkpcfdmaaDoorPLoose
import Derived.Laws.BytesArg
import Derived.Laws.Concat
import Derived.Laws.Strings2
namespace Go.Proofs.YtjhbjgpkpcfdmaaDoor
open Go.RowKit Go.Shelf SetM PropsM

theorem one_conv (w : World) (x : UInt8) : (convert 36 9 (.slice (some ⟨w.heap.size, 0, none⟩) 1 1)).run Tryd.prog (w.alloc (.cells #[.int .u8 ((x.toNat : Nat) : Int)] 5)) = .ok (.string ⟨#[x]⟩) (w.alloc (.cells #[.int .u8 ((x.toNat : Nat) : Int)] 5)) := by
  have h := run_convert_bytes_arg (w.alloc (.cells #[.int .u8 ((x.toNat : Nat) : Int)] 5)) 36 5 Tryd.underlying36 Tryd.underlying5 w.heap.size 0 1 1 [((x.toNat : Nat) : Int)] rfl (fun i hi => by
    rw [cell_of_row _ w.heap.size _ _ _ _ (heap_alloc_new w _)]
    match i, hi with
    | 0, _ => rfl) 9 Tryd.underlying9
  rw [h]
  have e : strOfNums [((x.toNat : Nat) : Int)] = ⟨#[x]⟩ := by simp [strOfNums]
  rw [e]
theorem str_add (acc y : Bs) (h : acc.length ≤ 1000000) (hy : y.length ≤ 1000000) : ∀ w t, (binOp .add t (.string ⟨acc.toArray⟩) (.string ⟨y.toArray⟩)).run Tryd.prog w = .ok (.string ⟨(acc ++ y).toArray⟩) w := by
  intro w t
  rw [binOp_string_add]
  exact run_string_add_lists w acc y (by omega) (by omega)

set_option maxRecDepth 100000 in
set_option maxHeartbeats 2000000 in
theorem rloose_any (s : ByteArray) (hs : s.data.toList.length ≤ 1000000) (w : World) :
    Calls Tryd.prog 21 #[.string s] w fun e w' => e = .returned (.string ⟨(looseL s.data.toList).toArray⟩) ∧ Below w.heap.size w w' := by
  have HIX := Lib.hid (str_ix s)
  have HSZ := Lib.hid (size_data s)
  go_enter Tryd.func21, Tryd.ntmps21
  go_wp2
  go_loopg [3, 4] s.size (fun g s3 s4 wx => ∃ k : Nat, k + g = s.size ∧ s4 = .int .i64 k ∧ s3 = .string ⟨(sq (s.data.toList.take k)).toArray⟩ ∧ Below w.heap.size w wx)
  case atStart => exact ⟨0, by omega, rfl, rfl, Below.refl _ w⟩
  case round =>
    obtain ⟨k, hkg, rfl, rfl, hb⟩ := hrel
    cases gk with
    | zero =>
      have hkz : ¬ ((k : Int) < (s.size : Int)) := by omega
      have HT : s.data.toList.take k = s.data.toList := List.take_of_length_le (by have := HSZ.out; omega)
      have HQ : (sq s.data.toList).length ≤ 1000000 := Nat.le_trans (sq_len _) hs
      have HL := Lib.hid (show looseL s.data.toList = cutIs (sq s.data.toList) from rfl)
      rw [HT]
      generalize sq s.data.toList = q at *
      clear HT HIX
      have hx1 : ({ data := q.toArray } : ByteArray).extract 0 2 = ⟨(q.take 2).toArray⟩ := by rw [ByteArray.extract_mk]; rfl
      have hx2 : ({ data := q.toArray } : ByteArray).extract 2 q.length = ⟨(q.drop 2).toArray⟩ := by rw [ByteArray.extract_mk, List.take_of_length_le (by rw [List.length_drop]; omega)]
      by_cases h2 : 2 < q.length
      · by_cases h1 : q.take 2 = [105, 115]
        · have G := Lib.hid (HL.out.trans (if_pos ⟨h2, h1⟩))
          go_wp2
          go_ret
          exact ⟨by rw [G.out]; rfl, hb⟩
        · have G := Lib.hid (HL.out.trans (if_neg (fun h => h1 h.2)))
          have h1' : (q.take 2 == [105, 115]) = false := by simpa using h1
          clear h1
          go_wp2
          go_ret
          exact ⟨by rw [G.out]; rfl, hb⟩
      · have G := Lib.hid (HL.out.trans (if_neg (fun h => h2 h.1)))
        have hz : ¬ ((2 : Int) < (q.length : Int)) := by omega
        go_wp2
        go_ret
        exact ⟨by rw [G.out]; rfl, hb⟩
    | succ g =>
      have hk : k < s.data.toList.length := by have := HSZ.out; omega
      have hkz : (k : Int) < (s.size : Int) := by omega
      have hix := HIX.out k hk
      have HT := Lib.hid (sq_take hk)
      have HLE : (sq (s.data.toList.take k)).length ≤ 1000000 := Nat.le_trans (sq_len _) (by rw [List.length_take]; omega)
      have HBW := hb.size
      generalize s.data.toList[k] = x at *
      generalize sq (s.data.toList.take k) = acc at *
      have hx0 : (0 : Int) ≤ (x.toNat : Int) := by omega
      have hx1 : (x.toNat : Int) ≤ 255 := by have := x.toNat_lt; omega
      by_cases h1 : (x.toNat : Int) = 45
      · rw [sq1_skip (.inl h1), List.append_nil] at HT
        have g1 : ((x.toNat : Int) == 45) = true := by simpa using h1
        clear h1
        go_wp2
        go_roundg g
        case measure => omega
        case rel => exact ⟨k + 1, by omega, by go_num, by rw [HT.out], hb⟩
      · have g1 : ((x.toNat : Int) == 45) = false := by simpa using h1
        by_cases h2 : (x.toNat : Int) = 95
        · rw [sq1_skip (.inr (.inl h2)), List.append_nil] at HT
          have g2 : ((x.toNat : Int) == 95) = true := by simpa using h2
          clear h1 h2
          go_wp2
          go_roundg g
          case measure => omega
          case rel => exact ⟨k + 1, by omega, by go_num, by rw [HT.out], hb⟩
        · have g2 : ((x.toNat : Int) == 95) = false := by simpa using h2
          by_cases h3 : (x.toNat : Int) = 32
          · rw [sq1_skip (.inr (.inr h3)), List.append_nil] at HT
            have g3 : ((x.toNat : Int) == 32) = true := by simpa using h3
            clear h1 h2 h3
            go_wp2
            go_roundg g
            case measure => omega
            case rel => exact ⟨k + 1, by omega, by go_num, by rw [HT.out], hb⟩
          · have g3 : ((x.toNat : Int) == 32) = false := by simpa using h3
            by_cases h4 : (65 : Int) ≤ (x.toNat : Int)
            · by_cases h5 : (x.toNat : Int) ≤ 90
              · obtain ⟨e1, e2⟩ := sq1_low h4 h5
                rw [e1] at HT
                have hcv := one_conv wr (x + 32)
                rw [e2] at hcv
                have had := str_add acc [x + 32] HLE (by simp)
                clear e1 e2 h1 h2 h3
                go_wp2
                go_roundg g
                case measure => omega
                case rel => exact ⟨k + 1, by omega, by go_num, by rw [HT.out]; exact congrArg Value.string (ByteArray.mk_append_mk acc [_]), hb.alloc HBW _⟩
              · rw [sq1_stay h1 h2 h3 (fun h => h5 h.2)] at HT
                have hcv := one_conv wr x
                have had := str_add acc [x] HLE (by simp)
                clear h1 h2 h3
                go_wp2
                go_roundg g
                case measure => omega
                case rel => exact ⟨k + 1, by omega, by go_num, by rw [HT.out]; exact congrArg Value.string (ByteArray.mk_append_mk acc [_]), hb.alloc HBW _⟩
            · rw [sq1_stay h1 h2 h3 (fun h => h4 h.1)] at HT
              have hcv := one_conv wr x
              have had := str_add acc [x] HLE (by simp)
              clear h1 h2 h3
              go_wp2
              go_roundg g
              case measure => omega
              case rel => exact ⟨k + 1, by omega, by go_num, by rw [HT.out]; exact congrArg Value.string (ByteArray.mk_append_mk acc [_]), hb.alloc HBW _⟩
end Go.Proofs.YtjhbjgpkpcfdmaaDoor
