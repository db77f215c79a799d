/- RxFirst's walk: what is wrong is told at its place: what stands behind does not matter. -/
import Derived.Test.YtahgljglleeloaaGreatDoorRPar
namespace Go.Proofs.YtahgljglleeloaaGreatDoor
open Go.RowKit Go.Shelf Go.Maps SetM PropsM RxM

theorem wr_pos {r : List Int} (h : r ≠ []) (hs : ∀ c ∈ r, U.UtfM.Sc c) : 0 < (U.UtfM.wr r).length := by
  cases r with
  | nil => exact absurd rfl h
  | cons c t => have := wr_len_pos (hs c (by simp)) t; omega
set_option maxRecDepth 100000 in
set_option maxHeartbeats 4000000 in
theorem rxFirst_any (A : Option Addr) (ca : Nat) (cs : List Int) (m : ByteArray) (hmz : m.size ≤ 4611686018427387904) (w : World) (hU : U8s w.heap.size w A cs) (hC : Cf w w) :
    Calls Tryz.prog 8 #[.slice A cs.length ca, .string m] w fun e w' => e = .returned (.bool true) ∧ Below w.heap.size w w' := by
  have HC := Lib.hid hC
  have HT := Lib.hid (text_c A ca cs w hU)
  have HMZ := Lib.hid hmz
  clear hU hC hmz
  go_enter Tryz.func8, Tryz.ntmps8
  go_wp2_with fail
  refine HT.out.mono ?_
  rintro e w1 ⟨t, rfl, ⟨l, ht⟩, hts, b1⟩
  have HTI := Lib.hid ht
  have HTS := Lib.hid hts
  have HB1 := Lib.hid b1
  have HC1 := Lib.hid (HC.out.step b1)
  have HD := Lib.hid (defs_c w1)
  clear b1 ht HT hts
  go_wp2_with fail
  refine HD.out.mono ?_
  rintro e w2 ⟨g, rfl, hD, b2⟩
  have HD2 := Lib.hid hD
  have HB2 := Lib.hid (HB1.out.trans (b2.mono HB1.out.size))
  have HC2 := Lib.hid (HC1.out.step b2)
  clear b2 hD HD HC1 HB1
  by_cases h200 : t.size ≤ 200
  · have HP := Lib.hid (par_c HTI.out.1 HTI.out.2.1 h200 HC2.out.here HD2.out)
    go_wp2_with fail
    refine HP.out.mono ?_
    rintro e w3 ⟨b3, k, sp, sn, sc, kp, kn, kc, mn, mx, n, z, rfl, h3⟩
    have HB3 := Lib.hid (alloc_below (HB2.out.trans (b3.mono HB2.out.size)) (N5 k sp sn sc kp kn kc mn mx))
    have HC3 := Lib.hid ((HC2.out.step b3).step ((Below.refl _ _).alloc (Nat.le_refl _) (N5 k sp sn sc kp kn kc mn mx)))
    have HK3 := Lib.hid (known_c HC3.out)
    obtain ⟨V, hV⟩ : ∃ V, V = w3.alloc (N5 k sp sn sc kp kn kc mn mx) := ⟨_, rfl⟩
    rw [← hV] at HB3 HC3 HK3
    clear b3 HP
    by_cases hn : n = 0
    · subst hn
      clear h3
      go_wp2_with fail
      rw [← hV]
      refine HK3.out.mono ?_
      rintro e w4 ⟨rfl, b4⟩
      go_wp2
      go_ret
      exact ⟨rfl, HB3.out.trans (b4.mono HB3.out.size)⟩
    · cases hw : wholeF D8 l with
      | ok x r => rw [hw] at h3; exact absurd h3.1 hn
      | err e0 r =>
      rw [hw] at h3
      obtain ⟨rfl, hz, rfl, rfl, rfl, rfl, rfl, rfl, rfl, rfl, rfl⟩ := h3
      have HW := Lib.hid hw
      have HZ := Lib.hid hz
      have hn0 : ¬ (n : Int) = 0 := by omega
      have hn1 : ((n : Int) == 0) = false := by simp [hn]
      have hu : (U.UtfM.wr r).length ≤ t.size ∨ True := .inr trivial
      clear hw hn hu
      by_cases hr : 0 < (U.UtfM.wr r).length
      · have g1 : ¬ z ≥ (t.size : Int) := by omega
        have g1' : ¬ (t.size : Int) ≤ z := by omega
        have HR := Lib.hid hr
        clear hz hr
        by_cases hs : t.size + m.size > 200
        · have hwr : IntKind.i64.wrap ((t.size : Int) + (m.size : Int)) = (t.size : Int) + (m.size : Int) := by have := HMZ.out; have := HTS.out; exact IntWalk.i64_in _ (by omega)
          have g2 : (200 : Int) < (t.size : Int) + (m.size : Int) := by omega
          have g2' : (t.size : Int) + (m.size : Int) > 200 := g2
          have g2n : ¬ (t.size : Int) + (m.size : Int) ≤ 200 := by omega
          clear hs
          go_wp2_with fail
          rw [← hV]
          refine HK3.out.mono ?_
          rintro e w4 ⟨rfl, b4⟩
          go_wp2
          go_ret
          exact ⟨rfl, HB3.out.trans (b4.mono HB3.out.size)⟩
        · have hwr : IntKind.i64.wrap ((t.size : Int) + (m.size : Int)) = (t.size : Int) + (m.size : Int) := by have := HMZ.out; have := HTS.out; exact IntWalk.i64_in _ (by omega)
          have g2 : ¬ (200 : Int) < (t.size : Int) + (m.size : Int) := by omega
          have g2' : ¬ (t.size : Int) + (m.size : Int) > 200 := g2
          have g2n : (t.size : Int) + (m.size : Int) ≤ 200 := by omega
          have HS := Lib.hid hs
          clear hs
          go_wp2_with fail
          rw [← hV]
          refine HK3.out.mono ?_
          rintro e w4 ⟨rfl, b4⟩
          have HB4 := Lib.hid (HB3.out.trans (b4.mono HB3.out.size))
          have HC4 := Lib.hid (HC3.out.step b4)
          clear b4 hV HK3
          go_wp2_with fail
          go_loopg [9] m.size (fun g s9 wx => ∃ i : Nat, i + g = m.size ∧ s9 = .int .i64 i ∧ Hid (∀ j, j < i → ∀ c, (bs m)[j]? = some c → 0 ≤ c ∧ c < 127) ∧ w4 = wx)
          case atStart => exact ⟨0, by omega, rfl, Lib.hid (fun j hj => by omega), rfl⟩
          case round =>
            obtain ⟨i, hig, rfl, HI, rfl⟩ := hrel
            have hbl : (bs m).length = m.size := bs_len m
            cases gk with
            | zero =>
              have hi : ¬ (i : Int) < (m.size : Int) := by omega
              have him : i = m.size := by omega
              have hm : ∀ c ∈ bs m, 0 ≤ c ∧ c < 127 := fun c hc => by
                obtain ⟨j, hj, e⟩ := List.mem_iff_getElem.1 hc
                exact HI.out j (by omega) c (by rw [List.getElem?_eq_getElem hj, e])
              have hmo := HTI.out.more hm
              have hwl : U.UtfM.wr (bs m) = bs m := wr_low _ (fun c hc => ⟨(hm c hc).1, by have := (hm c hc).2; omega⟩)
              have hrn : r ≠ [] := fun e => by have := HR.out; rw [e] at this; simp [U.UtfM.wr] at this
              have HW2 := Lib.hid (whole_st D8 l HTI.out.2.2 (bs m) _ _ HW.out hrn)
              have hsz : (t ++ m).size = t.size + m.size := ByteArray.size_append
              have HPM := Lib.hid (fun (g : Nat) (W : World) (hC : Cf W W) (hD : DefsIn W (some ⟨g, 0, none⟩) D8) => par_c (W := W) (g := g) hmo.1 hmo.2 (by have := HS.out; omega) hC hD)
              have hzz : ((t ++ m).size : Int) - ((U.UtfM.wr (r ++ bs m)).length : Nat) = z := by
                rw [U.UtfM.wr_append, hwl, List.length_append, hsz, HZ.out]; omega
              have HZZ := Lib.hid hzz
              have hs1 : ¬ 9223372036854775807 < t.size + m.size := by have := HS.out; omega
              have HD4 := Lib.hid (defs_c w4)
              clear him hm hmo hwl hrn hsz hzz hbl
              go_wp2_with fail
              refine HD4.out.mono ?_
              rintro e w5 ⟨g5, rfl, hD5, b5⟩
              have HB5 := Lib.hid (HB4.out.trans (b5.mono HB4.out.size))
              have HP5 := Lib.hid (HPM.out g5 w5 (HC4.out.step b5).here hD5)
              clear b5 hD5 HD4
              go_wp2_with fail
              refine HP5.out.mono ?_
              rintro e w6 ⟨b6, k, sp, sn, sc, kp, kn, kc, mn, mx, n', z', rfl, h6⟩
              rw [HW2.out] at h6
              obtain ⟨rfl, hz6, rfl, rfl, rfl, rfl, rfl, rfl, rfl, rfl, rfl⟩ := h6
              obtain rfl : z' = z := hz6.trans HZZ.out
              have HB6 := Lib.hid (alloc_below (HB5.out.trans (b6.mono HB5.out.size)) (N5 0 none 0 0 none 0 0 0 0))
              clear b6 hz6 HP5
              go_wp2
              go_ret
              exact ⟨rfl, HB6.out⟩
            | succ gk =>
              have hi : (i : Int) < (m.size : Int) := by omega
              have him : i < m.size := by omega
              obtain ⟨b, hb⟩ : ∃ b : Int, b = (((m.data.toList[i]'(by exact him)).toNat : Nat) : Int) := ⟨_, rfl⟩
              have hix : ∀ w, (Instr.index 9 (.string m) (.int .i64 (i : Int))).run Tryz.prog w = .ok (.int .u8 b) w := fun w => by rw [hb]; exact str_ix m i (by exact him) w
              have HBI : Hid ((bs m)[i]? = some b) := Lib.hid (by unfold bs; rw [List.getElem?_map, List.getElem?_eq_getElem (by exact him), hb]; rfl)
              have hb0 : 0 ≤ b := by omega
              have HI0 : Hid (0 ≤ b) := Lib.hid hb0
              have i0 : (0 : Int) ≤ (i : Int) := by omega
              clear hb him hbl
              by_cases hbig : b > 126
              · go_wp2
                go_ret
                exact ⟨rfl, HB4.out⟩
              · go_wp2_with fail
                go_roundg gk
                case measure => omega
                case rel => exact ⟨i + 1, by omega, by go_num, Lib.hid (fun j hj c hc => by
                  rcases Nat.lt_or_ge j i with h | h
                  · exact HI.out j h c hc
                  · have e : j = i := by omega
                    subst e
                    rw [HBI.out] at hc
                    cases hc
                    exact ⟨HI0.out, by omega⟩), rfl⟩
      · have hz1 : z = (t.size : Int) := by omega
        have g1 : z ≥ (t.size : Int) := by omega
        have g1' : (t.size : Int) ≤ z := by omega
        clear hz hr hz1
        go_wp2_with fail
        rw [← hV]
        refine HK3.out.mono ?_
        rintro e w4 ⟨rfl, b4⟩
        go_wp2
        go_ret
        exact ⟨rfl, HB3.out.trans (b4.mono HB3.out.size)⟩
  · have HP := Lib.hid (parse_long t (.slice (some ⟨g, 0, none⟩) 1 1) w2 (by omega))
    go_wp2_with fail
    refine HP.out.mono ?_
    rintro e w3 ⟨rfl, b3⟩
    have HB3 := Lib.hid (alloc_below (HB2.out.trans (b3.mono HB2.out.size)) (N5 0 none 0 0 none 0 0 0 0))
    have HC3 := Lib.hid ((HC2.out.step b3).step ((Below.refl _ _).alloc (Nat.le_refl _) (N5 0 none 0 0 none 0 0 0 0)))
    have HK3 := Lib.hid (known_c HC3.out)
    clear b3 HP
    have g1 : ¬ (0 : Int) ≥ (t.size : Int) := by omega
    have g1e : ¬ t = ByteArray.empty := fun e => by rw [e] at h200; exact h200 (by decide)
    have g1n : ¬ t.size = 0 := by omega
    have hwr : IntKind.i64.wrap ((t.size : Int) + (m.size : Int)) = (t.size : Int) + (m.size : Int) := by have := HMZ.out; have := HTS.out; exact IntWalk.i64_in _ (by omega)
    have g2 : (200 : Int) < (t.size : Int) + (m.size : Int) := by omega
    have g2' : (t.size : Int) + (m.size : Int) > 200 := g2
    have g2n : ¬ (t.size : Int) + (m.size : Int) ≤ 200 := by omega
    go_wp2_with fail
    refine HK3.out.mono ?_
    rintro e w4 ⟨rfl, b4⟩
    go_wp2
    go_ret
    exact ⟨rfl, HB3.out.trans (b4.mono HB3.out.size)⟩
end Go.Proofs.YtahgljglleeloaaGreatDoor
