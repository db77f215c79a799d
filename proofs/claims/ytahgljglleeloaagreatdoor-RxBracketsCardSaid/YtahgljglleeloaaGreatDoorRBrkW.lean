/- RxBrackets' walk: a pattern in brackets is that pattern, as long as there is room. -/
import Derived.Test.YtahgljglleeloaaGreatDoorRPar
import Derived.Test.YtahgljglleeloaaGreatDoorRTS
import Derived.Test.YtahgljglleeloaaGreatDoorRBM
namespace Go.Proofs.YtahgljglleeloaaGreatDoor
open Go.RowKit Go.Shelf Go.Maps SetM PropsM RxM

set_option maxRecDepth 100000 in
set_option maxHeartbeats 4000000 in
theorem rxBrackets_any (A : Option Addr) (ca : Nat) (cs : List Int) (n : Int) (h0 : 0 ≤ n) (w : World) (hU : U8s w.heap.size w A cs) (hC : Cf w w) :
    Calls Tryz.prog 6 #[.slice A cs.length ca, .int .u8 n] w fun e w' => e = .returned (.bool true) ∧ Below w.heap.size w w' := by
  have HC := Lib.hid hC
  have HT := Lib.hid (text_c A ca cs w hU)
  obtain ⟨k, hk, hk4⟩ : ∃ k : Nat, n.tmod 4 = (k : Int) ∧ k < 4 := ⟨(n.tmod 4).toNat, by rw [Int.tmod_eq_emod_of_nonneg h0]; omega, by rw [Int.tmod_eq_emod_of_nonneg h0]; omega⟩
  clear hU hC h0
  go_enter Tryz.func6, Tryz.ntmps6
  go_wp2_with fail
  refine HT.out.mono ?_
  rintro e w1 ⟨t, rfl, ⟨l, ht⟩, hts, b1⟩
  have HTI := Lib.hid ht
  have HTS := Lib.hid hts
  have HB1 := Lib.hid b1
  have HC1 := Lib.hid (HC.out.step b1)
  have HD := Lib.hid (defs_c w1)
  clear b1 ht HT hts
  go_wp2_with fail
  refine HD.out.mono ?_
  rintro e w2 ⟨g, rfl, hD, b2⟩
  have HB2 := Lib.hid (HB1.out.trans (b2.mono HB1.out.size))
  have HC2 := Lib.hid (HC1.out.step b2)
  have HP := Lib.hid (parG_c HTI.out.1 HTI.out.2.1 HC2.out.here hD)
  clear b2 hD HD HC1 HB1
  go_wp2_with fail
  refine HP.out.mono ?_
  rintro e w3 ⟨b3, ka, spa, sna, sca, kpa, kna, kca, mna, mxa, na, za, rfl, h3⟩
  obtain ⟨V, hV⟩ : ∃ V, V = w3.alloc (N5 ka spa sna sca kpa kna kca mna mxa) := ⟨_, rfl⟩
  have hbv : Below w3.heap.size w3 V := by rw [hV]; exact (Below.refl _ _).alloc (Nat.le_refl _) _
  obtain ⟨X, hX⟩ : ∃ X, X = w3.heap.size := ⟨_, rfl⟩
  have HBX : Hid (V.heap[X]? = some (N5 ka spa sna sca kpa kna kca mna mxa)) := Lib.hid (by rw [hX, hV]; exact heap_alloc_new w3 _)
  have HB3 := Lib.hid ((HB2.out.trans (b3.mono HB2.out.size)).trans (hbv.mono (HB2.out.trans (b3.mono HB2.out.size)).size))
  have HC3 := Lib.hid ((HC2.out.step b3).step hbv)
  have H3 : Hid ((200 < t.size ∧ na = 63) ∨ (t.size ≤ 200 ∧ match wholeF D8 l with
    | .ok x _ => na = 0 ∧ NV V (fun _ => True) (.agg #[.int .u8 ka, .slice spa sna sca, .slice kpa kna kca, .int .i64 mna, .int .i64 mxa]) x
    | .err m _ => na = m)) := Lib.hid (h3.imp id (fun ⟨h1, h2⟩ => ⟨h1, by
      revert h2
      cases wholeF D8 l with
      | ok x r => exact fun h => ⟨h.1, h.2.imp (fun b hA hlt => ⟨hA, hbv.block b hlt⟩) hbv.size⟩
      | err m r => exact fun h => h.1⟩))
  have e0 := hX
  have e1 := hV
  clear b3 HP h3 hbv hX hV HB2 HC2
  go_upto_region 3 with fail
  rw [← e0, ← e1]
  clear e0 e1
  go_wp2_with fail
  try simp only [hk]
  go_loopg [10, 11] k (fun gk s10 s11 wx => ∃ (i : Nat) (u : ByteArray), i + gk = k ∧ s11 = .int .i64 i ∧ s10 = .string u ∧ Hid (bs u = U.UtfM.wr (brk i l) ∧ ∀ c ∈ brk i l, U.UtfM.Sc c) ∧ u.size = t.size + 2 * i ∧ V = wx)
  case atStart => exact ⟨0, t, by omega, rfl, rfl, Lib.hid ⟨HTI.out.1, HTI.out.2.1⟩, rfl, rfl⟩
  case round =>
    obtain ⟨i, u, hig, rfl, rfl, HU, hus, rfl⟩ := hrel
    cases gk with
    | zero =>
      have hik : i = k := by omega
      subst hik
      have hiz : ¬ ((i : Int) < (i : Int)) := by omega
      have HUS := Lib.hid hus
      have HD4 := Lib.hid (defs_c V)
      clear hus hig
      go_wp2_with fail
      refine HD4.out.mono ?_
      rintro e w5 ⟨g5, rfl, hD5, b5⟩
      have HB5 := Lib.hid (HB3.out.trans (b5.mono HB3.out.size))
      have HC5 := Lib.hid (HC3.out.step b5)
      have HP5 := Lib.hid (parG_c HU.out.1 HU.out.2 HC5.out.here hD5)
      have HV5 := Lib.hid b5
      clear b5 hD5 HD4
      go_wp2_with fail
      refine HP5.out.mono ?_
      rintro e w6 ⟨b6, kb, spb, snb, scb, kpb, knb, kcb, mnb, mxb, nb, zb, rfl, h6⟩
      obtain ⟨V7, hV7⟩ : ∃ V7, V7 = w6.alloc (N5 kb spb snb scb kpb knb kcb mnb mxb) := ⟨_, rfl⟩
      have hb7 : Below w6.heap.size w6 V7 := by rw [hV7]; exact (Below.refl _ _).alloc (Nat.le_refl _) _
      obtain ⟨Y, hY⟩ : ∃ Y, Y = w6.heap.size := ⟨_, rfl⟩
      have HBY : Hid (V7.heap[Y]? = some (N5 kb spb snb scb kpb knb kcb mnb mxb)) := Lib.hid (by rw [hY, hV7]; exact heap_alloc_new w6 _)
      have hb57 : Below w5.heap.size w5 V7 := b6.trans (hb7.mono b6.size)
      have hbV7 : Below V.heap.size V V7 := HV5.out.trans (hb57.mono HV5.out.size)
      have HB7 := Lib.hid (HB3.out.trans (hbV7.mono HB3.out.size))
      have HC7 := Lib.hid (HC5.out.step hb57)
      have HBX7 : Hid (V7.heap[X]? = some (N5 ka spa sna sca kpa kna kca mna mxa)) := Lib.hid ((hbV7.block X (Array.getElem?_eq_some_iff.1 HBX.out).1).trans HBX.out)
      have H37 : Hid ((200 < t.size ∧ na = 63) ∨ (t.size ≤ 200 ∧ match wholeF D8 l with
        | .ok x _ => na = 0 ∧ NV V7 (fun _ => True) (.agg #[.int .u8 ka, .slice spa sna sca, .slice kpa kna kca, .int .i64 mna, .int .i64 mxa]) x
        | .err m _ => na = m)) := Lib.hid (H3.out.imp id (fun ⟨h1, h2⟩ => ⟨h1, by
          revert h2
          cases wholeF D8 l with
          | ok x r => exact fun h => ⟨h.1, h.2.imp (fun b hA hlt => ⟨hA, hbV7.block b hlt⟩) hbV7.size⟩
          | err m r => exact id⟩))
      have H6 : Hid ((200 < u.size ∧ nb = 63) ∨ (u.size ≤ 200 ∧ match wholeF D8 (brk i l) with
        | .ok x _ => nb = 0 ∧ NV V7 (fun _ => True) (.agg #[.int .u8 kb, .slice spb snb scb, .slice kpb knb kcb, .int .i64 mnb, .int .i64 mxb]) x
        | .err m _ => nb = m ∧ kb = 0 ∧ spb = none ∧ snb = 0 ∧ scb = 0 ∧ kpb = none ∧ knb = 0 ∧ kcb = 0 ∧ mnb = 0 ∧ mxb = 0)) := Lib.hid (h6.imp id (fun ⟨h1, h2⟩ => ⟨h1, by
          revert h2
          cases wholeF D8 (brk i l) with
          | ok x r => exact fun h => ⟨h.1, h.2.imp (fun b hA hlt => ⟨hA, hb7.block b hlt⟩) hb7.size⟩
          | err m r => exact id⟩))
      have HK7 := Lib.hid (known_c HC7.out)
      have e0 := hY
      have e1 := hV7
      clear b6 h6 hb7 hY hV7 hb57 hbV7 HP5 HV5 HBX H3 HB5 HC5 HB3 HC3 hiz
      go_upto_region 10 with fail
      rw [← e0, ← e1]
      clear e0 e1
      by_cases hu : u.size > 200
      · have hui : (u.size : Int) > 200 := by omega
        have hnb : nb = 63 := by
          rcases H6.out with h | h
          · exact h.2
          · omega
        subst hnb
        clear H6 hu
        go_wp2_with fail
        refine HK7.out.mono ?_
        rintro e w8 ⟨rfl, b8⟩
        go_wp2
        go_ret
        exact ⟨rfl, HB7.out.trans (b8.mono HB7.out.size)⟩
      · have hui : ¬ (u.size : Int) > 200 := by omega
        have ht200 : ¬ (t.size : Int) > 200 := by have := HUS.out; omega
        have h3 := H37.out.resolve_left (fun h => by have := h.1; omega)
        have h6 := H6.out.resolve_left (fun h => by have := h.1; omega)
        have H3' := Lib.hid h3
        have H6' := Lib.hid h6
        clear H37 H6 hu h3 h6
        by_cases hn : na = 0
        · subst hn
          have hok : ∃ x r, wholeF D8 l = .ok x r := by
            cases hw : wholeF D8 l with
            | ok x r => exact ⟨x, r, rfl⟩
            | err m r =>
              have := H3'.out.2
              rw [hw] at this
              dsimp only at this
              subst this
              have hlen : l.length ≤ 200 := len_wr HTI.out.1 HTI.out.2.1 H3'.out.1
              exact (whole_0 D8 l r hlen hw).elim
          obtain ⟨x, r, hw⟩ := hok
          have h3 := H3'.out.2
          rw [hw] at h3
          have HVA := Lib.hid h3.2
          have a0 : V7.cell? ⟨X, 0, none⟩ = some (.int .u8 ka) := cell_of_row V7 X 0 _ _ _ HBX7.out
          have a1 : V7.cell? ⟨X, 1, none⟩ = some (.slice spa sna sca) := cell_of_row V7 X 1 _ _ _ HBX7.out
          have a2 : V7.cell? ⟨X, 2, none⟩ = some (.slice kpa kna kca) := cell_of_row V7 X 2 _ _ _ HBX7.out
          have a3 : V7.cell? ⟨X, 3, none⟩ = some (.int .i64 mna) := cell_of_row V7 X 3 _ _ _ HBX7.out
          have a4 : V7.cell? ⟨X, 4, none⟩ = some (.int .i64 mxa) := cell_of_row V7 X 4 _ _ _ HBX7.out
          have c0 : V7.cell? ⟨Y, 0, none⟩ = some (.int .u8 kb) := cell_of_row V7 Y 0 _ _ _ HBY.out
          have c1 : V7.cell? ⟨Y, 1, none⟩ = some (.slice spb snb scb) := cell_of_row V7 Y 1 _ _ _ HBY.out
          have c2 : V7.cell? ⟨Y, 2, none⟩ = some (.slice kpb knb kcb) := cell_of_row V7 Y 2 _ _ _ HBY.out
          have c3 : V7.cell? ⟨Y, 3, none⟩ = some (.int .i64 mnb) := cell_of_row V7 Y 3 _ _ _ HBY.out
          have c4 : V7.cell? ⟨Y, 4, none⟩ = some (.int .i64 mxb) := cell_of_row V7 Y 4 _ _ _ HBY.out
          rcases brk_ok D8 l x r hw i with ⟨r2, hw2⟩ | ⟨_, y, hw2⟩
          · have h6 := H6'.out.2
            rw [hw2] at h6
            obtain ⟨rfl, hvb⟩ := h6
            have HS := Lib.hid (same_any x _ _ V7 HVA.out hvb)
            clear hvb h3 hw hw2
            go_wp2_with fail
            refine HS.out.mono ?_
            rintro e w8 ⟨rfl, b8⟩
            have HB8 := Lib.hid (HB7.out.trans (b8.mono HB7.out.size))
            have HK8 := Lib.hid (known_c (HC7.out.step b8))
            clear b8
            go_wp2_with fail
            refine HK8.out.mono ?_
            rintro e w9 ⟨rfl, b9⟩
            go_wp2
            go_ret
            exact ⟨rfl, HB8.out.trans (b9.mono HB8.out.size)⟩
          · have h6 := H6'.out.2
            rw [hw2] at h6
            obtain ⟨rfl, rfl, rfl, rfl, rfl, rfl, rfl, rfl, rfl, rfl⟩ := h6
            have HS := Lib.hid (same_zero HVA.out)
            clear h3 hw hw2
            go_wp2_with fail
            refine HS.out.mono ?_
            rintro e w8 ⟨q, rfl, b8⟩
            have HB8 := Lib.hid (HB7.out.trans (b8.mono HB7.out.size))
            have HK8 := Lib.hid (known_c (HC7.out.step b8))
            clear b8
            go_wp2_with fail
            refine HK8.out.mono ?_
            rintro e w9 ⟨rfl, b9⟩
            go_wp2
            go_ret
            exact ⟨rfl, HB8.out.trans (b9.mono HB8.out.size)⟩
        · have hn1 : ¬ (na : Int) = 0 := by omega
          have hn2 : ((na : Int) == 0) = false := by simp [hn]
          by_cases h63 : na = 63
          · subst h63
            go_wp2_with fail
            refine HK7.out.mono ?_
            rintro e w8 ⟨rfl, b8⟩
            go_wp2
            go_ret
            exact ⟨rfl, HB7.out.trans (b8.mono HB7.out.size)⟩
          · have h63' : ¬ (na : Int) = 63 := by omega
            have h63b : ((na : Int) == 63) = false := by rw [beq_eq_false_iff_ne]; exact h63'
            go_wp2_with fail
            refine HK7.out.mono ?_
            rintro e w8 ⟨rfl, b8⟩
            go_wp2
            go_ret
            exact ⟨rfl, HB7.out.trans (b8.mono HB7.out.size)⟩
    | succ gk =>
      have hiz : (i : Int) < (k : Int) := by omega
      have hs1 : ¬ 9223372036854775807 < 1 + u.size := by have := HTS.out; omega
      have hs2 : ¬ 9223372036854775807 < 1 + u.size + 1 := by have := HTS.out; omega
      have HN := Lib.hid (brk_next (t := u) HU.out)
      go_wp2_with fail
      go_roundg gk
      case measure => omega
      case rel => exact ⟨i + 1, (⟨#[40]⟩ ++ u) ++ ⟨#[41]⟩, by omega, by go_num, rfl, HN, by simp only [ByteArray.size_append]; rw [hus]; show 1 + (t.size + 2 * i) + 1 = _; omega, rfl⟩
end Go.Proofs.YtahgljglleeloaaGreatDoor
