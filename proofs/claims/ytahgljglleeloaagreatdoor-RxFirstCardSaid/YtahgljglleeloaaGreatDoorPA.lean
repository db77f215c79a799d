/- PBuild, PLoose, in one text. -/
import Derived.Test.YtahgljglleeloaaGreatDoorPShelf
import Derived.Handy
import Derived.Test.YtahgljglleeloaaGreatDoorMathA
import Derived.Test.YtahgljglleeloaaGreatDoorSA
import Derived.Lib.Hide
import Derived.WalkKit
import Derived.WalkMore
import Derived.Outline
import Derived.Deep.LoopGhost
import Derived.Deep.QuietTactic
import Derived.BigQuiet
import Derived.Deep.DeepCutAuto
/- strings.Builder: WriteByte at this program. -/
namespace Go.Proofs.YtahgljglleeloaaGreatDoor
open Go.RowKit Go.Shelf

set_option maxHeartbeats 1000000 in
set_option maxRecDepth 100000 in
theorem copyCheck_used (b : Nat) (w : World) (h0 : w.cell? ⟨b, 0, none⟩ = some (.pointer (some ⟨b, 0, none⟩))) :
    Calls Tryz.prog 169 #[.pointer (some ⟨b, 0, none⟩)] w fun e w' => e = .returned (.tuple #[]) ∧ w' = w := by
  obtain ⟨j, hj, _⟩ := Option.map_eq_some_iff.1 (show (Tryz.prog.info? 195).map (·.size) = some 2 by kernel_rfl)
  go_enter Tryz.func169, Tryz.ntmps169
  go_wp2
  rw [Lib.run_neq_ptr_same w _ Tryz.underlying193 hj]
  go_wp2
  go_end0
  exact ⟨rfl, rfl⟩

set_option maxHeartbeats 1000000 in
set_option maxRecDepth 100000 in
theorem copyCheck_fresh (b : Nat) (w : World) (h0 : w.cell? ⟨b, 0, none⟩ = some (.pointer none)) (hsh : w.shape? b = some (195, 2)) (hfz : w.frozen? ⟨b, 0, none⟩ = false) :
    Calls Tryz.prog 169 #[.pointer (some ⟨b, 0, none⟩)] w fun e w' => e = .returned (.tuple #[]) ∧ w' = w.setCell ⟨b, 0, none⟩ (.pointer (some ⟨b, 0, none⟩)) := by
  obtain ⟨j, hj, hjs⟩ := Option.map_eq_some_iff.1 (show (Tryz.prog.info? 195).map (·.size) = some 2 by kernel_rfl)
  go_enter Tryz.func169, Tryz.ntmps169
  go_wp2
  rw [Lib.run_to_unsafe w ⟨b, 0, none⟩ Tryz.underlying193 Tryz.underlying224 hj (by rw [hjs]; decide) hsh (Nat.zero_lt_succ 1)]
  simp only [Result.andThen]
  rw [Oper.upon_value]
  go_wp2
  rw [run_callFunc_extern Tryz.func183 (by kernel_rfl) (by kernel_rfl) (by kernel_rfl) (e := Extern.AbiNoEscape.same) (by kernel_rfl)]
  rw [Lib.run_noEscape]
  simp only [Result.andThen]
  rw [Oper.upon_value]
  go_wp2
  rw [Lib.run_from_unsafe w ⟨b, 0, none⟩ Tryz.underlying224 Tryz.underlying193 hj hsh (by kernel_rfl)]
  simp only [Result.andThen]
  rw [Oper.upon_value]
  go_wp2
  go_end0
  exact ⟨rfl, rfl⟩

theorem copyCheck_any (B b : Nat) (bs : List Value) (w : World) (h : Lib.IsBuilder 195 5 B b bs w) :
    Calls Tryz.prog 169 #[.pointer (some ⟨b, 0, none⟩)] w fun e w' => e = .returned (.tuple #[]) ∧ (Lib.BuilderAt 195 5 B b (.pointer (some ⟨b, 0, none⟩)) bs w' ∧ Below B w w') := by
  rcases h with h | h
  · refine (copyCheck_fresh b w h.cell0 h.shape h.frozen0).mono ?_
    rintro e w' ⟨rfl, rfl⟩
    exact ⟨rfl, h.used _, (Below.refl B w).setCell (p := ⟨b, 0, none⟩) h.1 _⟩
  · refine (copyCheck_used b w h.cell0).mono ?_
    rintro e w' ⟨rfl, rfl⟩
    exact ⟨rfl, h, Below.refl B _⟩
theorem infoByte : (Tryz.prog.info? 5).map (fun i => (i.zero, i.size, i.bytes)) = some (some (.int .u8 0), 1, 1) := by kernel_rfl

set_option maxHeartbeats 2000000 in
set_option maxRecDepth 100000 in
theorem writeByte_any (B b : Nat) (bs : List Value) (c : Int) (w : World) (h : Lib.IsBuilder 195 5 B b bs w) (hlen : bs.length + 1 ≤ 140737488355328) (hBw : B ≤ w.heap.size) :
    Calls Tryz.prog 154 #[.pointer (some ⟨b, 0, none⟩), .int .u8 c] w fun e w' => e = .returned .nilIface ∧ (Lib.BuilderAt 195 5 B b (.pointer (some ⟨b, 0, none⟩)) (bs ++ [.int .u8 c]) w' ∧ Below B w w') := by
  obtain ⟨i0, hi, hz0, hz1, hz2⟩ := info_parts infoByte
  go_enter Tryz.func154, Tryz.ntmps154
  go_wp2_with (go_at_call 169; refine (copyCheck_any B b bs _ h).mono ?_)
  rintro e w1 ⟨rfl, h1, hb1⟩
  obtain ⟨hB, v, hbk, hown, hne⟩ := h1
  have c0 : w1.cell? ⟨b, 0, none⟩ = some (.pointer (some ⟨b, 0, none⟩)) := by rw [Lib.cell_of_heap hbk]; rfl
  have c1 : w1.cell? ⟨b, 1, none⟩ = some v := by rw [Lib.cell_of_heap hbk]; rfl
  go_wp2_with (at_builtin; refine wpList_append_own _ rfl _ _ 38 rfl B 5 i0 (.int .u8 0) 1 1 Tryz.underlying38 hi hz0 hz1 hz2 rfl (by decide) _ _ _ rfl (hown.alloc _) ⟨w1.heap.size, 0, none⟩ 1 1 [.int .u8 c] rfl rfl ?c1 ?c2 ?c3 ?c4 ?c5 ?_)
  case c1 =>
    intro j u hj
    match j, hj with
    | 0, hj => simp at hj; subst hj; simp [Addr.add]
  case c2 => intro u hu; simp at hu; subst hu; rfl
  case c3 => unfold maxLen; omega
  case c4 => omega
  case c5 => have := hb1.size; simp; omega
  intro v' w2 hown' hgrow _
  have hlt : b < w1.heap.size := by
    rcases Nat.lt_or_ge b w1.heap.size with h' | h'
    · exact h'
    · simp [Array.getElem?_eq_none h'] at hbk
  have hb2 : w2.heap[b]? = some (.cells #[.pointer (some ⟨b, 0, none⟩), v] 195 (0, 0)) := by
    rw [hgrow.block b (by simp; omega) (fun e => hne e.symm), Lib.alloc_old w1 _ b hlt]
    exact hbk
  have d0 : w2.cell? ⟨b, 0, none⟩ = some (.pointer (some ⟨b, 0, none⟩)) := by rw [Lib.cell_of_heap hb2]; rfl
  have d1 : w2.cell? ⟨b, 1, none⟩ = some v := by rw [Lib.cell_of_heap hb2]; rfl
  have f1 : w2.frozen? ⟨b, 1, none⟩ = false := Lib.frozen_of_heap hb2 1
  obtain ⟨g, cap, rfl⟩ : ∃ g cap, v' = .slice (some ⟨g, 0, none⟩) (bs.length + 1) cap := by
    rcases hown'.2 with ⟨_, h0⟩ | ⟨g, cap, cur, hv, _⟩
    · omega
    · exact ⟨g, cap, hv⟩
  go_wp2
  go_ret
  refine ⟨rfl, ?_, ?_⟩
  · exact Lib.BuilderAt.put (T := 195) (e := 5) hB hb2 (bs' := bs ++ [.int .u8 c]) (by simpa using hown') (by decide)
  · exact ((hb1.alloc (by have := hb1.size; omega) _).grown hgrow (by have := hb1.size; simp; omega) (fun k hk => (hown.lt k hk).1)).setCell (p := ⟨b, 1, none⟩) hB _
end Go.Proofs.YtahgljglleeloaaGreatDoor

/- props.Loose: a name as it is compared. -/
namespace Go.Proofs.YtahgljglleeloaaGreatDoor
open Go.RowKit Go.Shelf SetM PropsM

theorem str_ix (s : ByteArray) (k : Nat) (h : k < s.data.toList.length) : ∀ w, (Instr.index 9 (.string s) (.int .i64 (k : Int))).run Tryz.prog w = .ok (.int .u8 ((s.data.toList[k].toNat : Nat) : Int)) w := by
  intro w
  have h1 : k < s.size := h
  rw [run_index_string w 9 s .i64 k Tryz.underlying9, dif_pos ⟨by omega, by omega⟩]
  rfl
theorem size_data (s : ByteArray) : s.size = s.data.toList.length := rfl
theorem has_is (l : Bs) : Lib.hasPrefix l [105, 115] = decide (l.take 2 = [105, 115]) := by
  unfold Lib.hasPrefix
  match l with
  | [] => rfl
  | [a] => simp [List.isPrefixOf]
  | a :: b :: t =>
    have e1 : (105 == a) = decide (a = 105) := by rw [Bool.eq_iff_iff, beq_iff_eq, decide_eq_true_iff]; exact eq_comm
    have e2 : (115 == b) = decide (b = 115) := by rw [Bool.eq_iff_iff, beq_iff_eq, decide_eq_true_iff]; exact eq_comm
    simp [List.isPrefixOf, e1, e2]

theorem cut_c (q : Bs) : ∃ (r : Bs) (p : Bool), (p = false → cutIs q = q) ∧ (p = true → r ≠ [] → cutIs q = r) ∧ (p = true → r = [] → cutIs q = q) ∧
    ∀ w, Calls Tryz.prog 155 #[.string ⟨q.toArray⟩, .string ⟨#[105, 115]⟩] w fun e w' => e = .returned (.tuple #[.string ⟨r.toArray⟩, .bool p]) ∧ w' = w := by
  refine ⟨Lib.trimPrefix q [105, 115], Lib.hasPrefix q [105, 115], ?_, ?_, ?_, fun w => Tryz.strings_CutPrefix ⟨q.toArray⟩ ⟨#[105, 115]⟩ w⟩
  · rw [has_is]; intro h; unfold cutIs; rw [if_neg]; rintro ⟨_, h2⟩; simp [h2] at h
  · unfold Lib.trimPrefix; intro h1 h2; rw [if_pos h1] at h2 ⊢
    rw [has_is] at h1
    have h3 : q.drop 2 ≠ [] := h2
    have h4 := List.length_pos_iff.2 h3
    rw [List.length_drop] at h4
    exact if_pos ⟨by omega, by simpa using h1⟩
  · unfold Lib.trimPrefix; intro h1 h2; rw [if_pos h1] at h2
    unfold cutIs
    rw [if_neg]
    rintro ⟨h3, _⟩
    have h4 : q.drop 2 = [] := h2
    have := congrArg List.length h4
    rw [List.length_drop] at this; simp at this; omega

set_option maxRecDepth 100000 in
set_option maxHeartbeats 2000000 in
theorem loose_any (s : ByteArray) (hs : s.data.toList.length ≤ 1000000) (w : World) :
    Calls Tryz.prog 136 #[.string s] w fun e w' => e = .returned (.string ⟨(looseL s.data.toList).toArray⟩) ∧ Below w.heap.size w w' := by
  have HIX := Lib.hid (str_ix s)
  have HSZ := Lib.hid (size_data s)
  go_enter Tryz.func136, Tryz.ntmps136
  go_wp2
  go_loopg [10] s.size (fun g s10 wx => ∃ k : Nat, k + g = s.size ∧ s10 = .int .i64 k ∧ Lib.IsBuilder 195 5 w.heap.size w.heap.size (Lib.byteCells (sq (s.data.toList.take k))) wx ∧ Below w.heap.size w wx)
  case atStart => exact ⟨0, by omega, rfl, Lib.fresh_isBuilder _ _ _, (Below.refl _ w).alloc (Nat.le_refl _) _⟩
  case round =>
    obtain ⟨k, hkg, rfl, hB, hb⟩ := hrel
    cases gk with
    | zero =>
      have hkz : ¬ ((k : Int) < (s.size : Int)) := by omega
      obtain ⟨q, hq⟩ : ∃ q, q = sq s.data.toList := ⟨_, rfl⟩
      rw [List.take_of_length_le (by have := HSZ.out; omega), ← hq] at hB
      have HL := Lib.hid (show looseL s.data.toList = cutIs q by rw [hq]; rfl)
      clear hq
      have HF := Lib.hid (Lib.IsBuilderF.of hB)
      have hbz := hb.size
      clear hB HIX
      obtain ⟨r, p, f1, f2, f3, hcut⟩ := cut_c q
      have F1 := Lib.hid f1
      have F2 := Lib.hid f2
      have F3 := Lib.hid f3
      have HCUT := Lib.hid hcut
      clear f1 f2 f3 hcut
      go_wp2_with fail
      refine (Tryz.Builder_String_any_f w.heap.size w.heap.size q _ HF.out hbz).mono ?_
      rintro e w1 ⟨rfl, hF1, b1⟩
      have HF1 := Lib.hid hF1
      have hbz1 : w.heap.size ≤ w1.heap.size := by have := b1.size; omega
      clear hF1
      go_wp2_with fail
      refine (HCUT.out _).mono ?_
      rintro e w1' ⟨rfl, rfl⟩
      cases p with
      | false =>
        have G := Lib.hid (HL.out.trans (F1.out rfl))
        go_wp2_with fail
        refine (Tryz.Builder_String_any_f w.heap.size w.heap.size q _ HF1.out hbz1).mono ?_
        rintro e w2 ⟨rfl, _, b2⟩
        go_wp2
        go_ret
        exact ⟨by rw [G.out]; rfl, hb.trans (b1.trans b2)⟩
      | true =>
        cases r with
        | nil =>
          have G := Lib.hid (HL.out.trans (F3.out rfl rfl))
          go_wp2_with fail
          refine (Tryz.Builder_String_any_f w.heap.size w.heap.size q _ HF1.out hbz1).mono ?_
          rintro e w2 ⟨rfl, _, b2⟩
          go_wp2
          go_ret
          exact ⟨by rw [G.out]; rfl, hb.trans (b1.trans b2)⟩
        | cons y t =>
          have G := Lib.hid (HL.out.trans (F2.out rfl (by simp)))
          go_wp2
          go_ret
          exact ⟨by rw [G.out]; rfl, hb.trans b1⟩
    | succ g =>
      have hk : k < s.data.toList.length := by have := HSZ.out; omega
      have hkz : (k : Int) < (s.size : Int) := by omega
      have hix := HIX.out k hk
      have HT := Lib.hid (sq_take hk)
      have HLE : (sq (s.data.toList.take k)).length ≤ 1000000 := Nat.le_trans (sq_len _) (by rw [List.length_take]; omega)
      have HBW := hb.size
      generalize s.data.toList[k] = x at *
      have hx0 : (0 : Int) ≤ (x.toNat : Int) := by omega
      have hx1 : (x.toNat : Int) ≤ 255 := by have := x.toNat_lt; omega
      by_cases h1 : (x.toNat : Int) = 45
      · rw [sq1_skip (.inl h1), List.append_nil] at HT
        have g1 : ((x.toNat : Int) == 45) = true := by simpa using h1
        clear h1
        go_wp2
        go_roundg g
        case measure => omega
        case rel => exact ⟨k + 1, by omega, by go_num, by rw [HT.out]; exact hB, hb⟩
      · have g1 : ((x.toNat : Int) == 45) = false := by simpa using h1
        by_cases h2 : (x.toNat : Int) = 95
        · rw [sq1_skip (.inr (.inl h2)), List.append_nil] at HT
          have g2 : ((x.toNat : Int) == 95) = true := by simpa using h2
          clear h1 h2
          go_wp2
          go_roundg g
          case measure => omega
          case rel => exact ⟨k + 1, by omega, by go_num, by rw [HT.out]; exact hB, hb⟩
        · have g2 : ((x.toNat : Int) == 95) = false := by simpa using h2
          by_cases h3 : (x.toNat : Int) = 32
          · rw [sq1_skip (.inr (.inr h3)), List.append_nil] at HT
            have g3 : ((x.toNat : Int) == 32) = true := by simpa using h3
            clear h1 h2 h3
            go_wp2
            go_roundg g
            case measure => omega
            case rel => exact ⟨k + 1, by omega, by go_num, by rw [HT.out]; exact hB, hb⟩
          · have g3 : ((x.toNat : Int) == 32) = false := by simpa using h3
            by_cases h4 : (65 : Int) ≤ (x.toNat : Int)
            · by_cases h5 : (x.toNat : Int) ≤ 90
              · obtain ⟨e1, e2⟩ := sq1_low h4 h5
                rw [e1] at HT
                have E2 := Lib.hid e2
                clear e1 e2 h1 h2 h3
                go_wp2_with fail
                rw [show ((x.toNat : Int) - 65 + 97) = (((x + 32).toNat : Nat) : Int) from by have := E2.out; omega]
                refine (writeByte_any w.heap.size w.heap.size _ _ _ hB (by rw [Lib.byteCells_length]; omega) HBW).mono ?_
                rintro e w2 ⟨rfl, hB2, b2⟩
                go_wp2
                go_roundg g
                case measure => omega
                case rel => exact ⟨k + 1, by omega, by go_num, by rw [HT.out, Lib.byteCells_append]; exact .inr hB2, hb.trans b2⟩
              · rw [sq1_stay h1 h2 h3 (fun h => h5 h.2)] at HT
                clear h1 h2 h3
                go_wp2_with fail
                refine (writeByte_any w.heap.size w.heap.size _ _ _ hB (by rw [Lib.byteCells_length]; omega) HBW).mono ?_
                rintro e w2 ⟨rfl, hB2, b2⟩
                go_wp2
                go_roundg g
                case measure => omega
                case rel => exact ⟨k + 1, by omega, by go_num, by rw [HT.out, Lib.byteCells_append]; exact .inr hB2, hb.trans b2⟩
            · rw [sq1_stay h1 h2 h3 (fun h => h4 h.1)] at HT
              clear h1 h2 h3
              go_wp2_with fail
              refine (writeByte_any w.heap.size w.heap.size _ _ _ hB (by rw [Lib.byteCells_length]; omega) HBW).mono ?_
              rintro e w2 ⟨rfl, hB2, b2⟩
              go_wp2
              go_roundg g
              case measure => omega
              case rel => exact ⟨k + 1, by omega, by go_num, by rw [HT.out, Lib.byteCells_append]; exact .inr hB2, hb.trans b2⟩
end Go.Proofs.YtahgljglleeloaaGreatDoor
