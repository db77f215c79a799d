/- The walk of SimGoes. -/
import Derived.Test.YtioahgklplbinaaDoorGKnown
import Derived.Test.YtioahgklplbinaaDoorGMac
import Derived.Test.YtioahgklplbinaaDoorGStp
import Derived.Test.YtioahgklplbinaaDoorGRStep
import Derived.Test.YtioahgklplbinaaDoorGRTags
import Derived.Test.YtioahgklplbinaaDoorGRLg
import Derived.Deep.RegionHeld3
import Derived.RegionTactic
import Derived.BigQuiet
namespace SimM
open SetM NfaM
theorem goes_len (m : Mc) (s : List Int) : (goF m s).length ≤ m.tg.length := by
  rcases snoc_cases s with rfl | ⟨u, x, rfl⟩
  · rw [go_zero]; exact stL_len _ _
  · rw [go_snoc]; exact stL_len _ _
theorem tags_is (m : Mc) (l : List Int) : ∃ T, IsTags m l T ∧ T.length ≤ m.tg.length := ⟨_, tgl_is m l, Nat.le_trans (tgs_le _) (Nat.le_trans (tgl_len _ _) (stL_len _ _))⟩
end SimM
namespace Go.Proofs.YtioahgklplbinaaDoor
open Go.RowKit Go.Shelf SetM NfaM SimM
set_option maxRecDepth 100000 in
set_option maxHeartbeats 16000000 in
theorem simGoes_any {W : World} {PL PT P3 P4 : Option Addr} {nL nT cL cT n3 n4 q3 q4 : Nat} {k : Int} {tags : List Int} (hk0 : 0 ≤ k) (hk1 : k ≤ 255) {arcs : List (Int × Int × List Int × Bool)} (hT : I8s W PT tags) (hnT : nT = tags.length) (hL : AsR W PL arcs) (hnL : nL = arcs.length)
    {a u : List Int} (hI3 : InR W P3 a) (hn3 : n3 = a.length) (h83 : n3 ≤ 9223372036854775807) (hU4 : U16s W.heap.size W P4 u) (hn4 : n4 = u.length) (h84 : n4 ≤ 9223372036854775807) (hA : Aw W) :
    Calls Tryd.prog 5 #[.int .u8 k, .slice PL nL cL, .slice PT nT cT, .slice P3 n3 q3, .slice P4 n4 q4] W fun e W' => e = .returned (.bool true) ∧ Below W.heap.size W W' := by
  have HMC := Lib.hid (fun (U : World) (hU : Below W.heap.size W U) => machine_c (cL := cL) (cT := cT) hk0 hk1 (hT.step hU) hnT (hL.step hU) hnL (hA.step hU))
  have HKN := Lib.hid (known9 hA)
  have HA := Lib.hid hA
  have HI3 := Lib.hid (And.intro hI3 hn3)
  have HU4 := Lib.hid (And.intro hU4 hn4)
  have H83 := Lib.hid h83
  clear hk0 hk1 hT hnT hL hnL hA hI3 hn3 hU4 hn4 h83 h84
  go_enter Tryd.func5, Tryd.ntmps5
  go_upto_region 1 with fail
  by_cases hbig : 50 < n3 ∨ 20 < n4
  · rcases (show 50 < n3 ∨ (¬ 50 < n3 ∧ 20 < n4) by omega) with q | ⟨q1, q⟩
    · have g2 : (50 : Int) < (n3 : Int) := by omega
      clear hbig q
      go_wp2_with fail
      refine HKN.out.mono ?_
      rintro e w1 ⟨rfl, b1⟩
      have HE1 := Lib.hid b1
      clear b1
      go_wp2_with fail
      go_ret
      exact ⟨rfl, HE1.out⟩
    · have g1 : ¬ (50 : Int) < (n3 : Int) := by omega
      have g2 : (20 : Int) < (n4 : Int) := by omega
      clear hbig q q1
      go_wp2_with fail
      refine HKN.out.mono ?_
      rintro e w1 ⟨rfl, b1⟩
      have HE1 := Lib.hid b1
      clear b1
      go_wp2_with fail
      go_ret
      exact ⟨rfl, HE1.out⟩
  have g1 : ¬ (50 : Int) < (n3 : Int) := by omega
  have g2 : ¬ (20 : Int) < (n4 : Int) := by omega
  have HN8 : Hid (n3 ≤ 50 ∧ n4 ≤ 20) := Lib.hid (by omega)
  clear hbig
  go_wp2_with fail
  refine HKN.out.mono ?_
  rintro e w1 ⟨rfl, b1⟩
  have HB1 := Lib.hid b1
  clear b1 HKN g1 g2
  go_wp2_with fail
  refine (HMC.out w1 HB1.out).mono ?_
  rintro e w2 ⟨p0, p1, p2, c0, c1, c2, n, m, rfl, hM, hs, h12, b2⟩
  obtain ⟨V, hV⟩ : ∃ V, V = w2.alloc (.cells #[.slice p0 n c0, .slice p1 n c1, .slice p2 n c2] 30) := ⟨_, rfl⟩
  have HX : Hid (Boxed w2 V p0 p1 p2 n c0 c1 c2 m) := Lib.hid (by rw [hV]; exact boxed_of hM)
  have HS := Lib.hid hs
  have HML := Lib.hid (show m.tg.length ≤ 12 by rw [← hM.e2]; exact h12)
  have hbV : Below W.heap.size W V := (HB1.out.trans (b2.mono HB1.out.size)).trans (HX.out.bel.mono (Nat.le_trans HB1.out.size b2.size))
  have HBV := Lib.hid hbV
  have HA3 := Lib.hid (fun (U : World) (hU : Below V.heap.size V U) => InR.step (InR.step HI3.out.1 HBV.out) hU)
  have HPT := Lib.hid (fun (U : World) (hU : Below V.heap.size V U) => ptags_c (c0 := c0) (c1 := c1) (c2 := c2) (c := q3) (HX.out.mv U hU) (HA3.out U hU) HI3.out.2 H83.out)
  have HRT := Lib.hid (fun (U : World) (hU : Below V.heap.size V U) => rtags_c (c0 := c0) (c1 := c1) (c2 := c2) (c := q3) (HX.out.mv U hU) (HA3.out U hU) HI3.out.2 (by have := HN8.out; omega))
  have HS4 := Lib.hid (scalars_c (W := V) (ca := q4) (U16s.step HU4.out.1 HBV.out) HU4.out.2 (by have := HN8.out; omega))
  clear hM hs h12 b2 hbV HMC
  go_upto_region 4 with fail
  rw [← hV]
  clear hV
  go_wp2_with fail
  refine HS4.out.mono ?_
  rintro e w4 ⟨v4, rfl, hO4, b4⟩
  obtain ⟨Q4, k4, rfl, hI4, -, -, -⟩ := hO4.form
  obtain ⟨s, hs⟩ : ∃ s, s = scF u := ⟨_, rfl⟩
  rw [← hs] at hI4
  obtain ⟨l4, hl4⟩ : ∃ l4, l4 = s.length := ⟨_, rfl⟩
  rw [← hs, ← hl4]
  have HL4 : Hid (l4 = s.length ∧ l4 ≤ 20) := Lib.hid ⟨hl4, by rw [hl4, hs, scf_len, ← HU4.out.2]; exact HN8.out.2⟩
  have HI4 := Lib.hid hI4
  have HB4 := Lib.hid b4
  have HST := Lib.hid (pstart_c (c0 := c0) (c1 := c1) (c2 := c2) (HX.out.mv _ b4))
  obtain ⟨a0, a1, a2⟩ := HX.out.at_ _ b4
  clear hO4 b4 hI4 hl4 hs HS4
  go_wp2_with fail
  refine HST.out.mono ?_
  rintro e w5 ⟨v5, o5, rfl, hO5, h5, _, b5⟩
  obtain rfl := h5 HS.out
  have HO5 := Lib.hid (show OwI w5 V.heap.size v5 (goF m (s.take 0)) by rw [List.take_zero, go_zero]; exact hO5.low HB4.out.size)
  have hV5 := HB4.out.trans (b5.mono HB4.out.size)
  have HV5 := Lib.hid hV5
  have HI5 := Lib.hid (InR.step HI4.out b5)
  have hb45 := b5
  have HRS := Lib.hid (fun (U : World) (hU : Below V.heap.size V U) => rstart_c (c0 := c0) (c1 := c1) (c2 := c2) (HX.out.mv U hU))
  obtain ⟨Q5, k5, e5, hJ5, -, -, -⟩ := hO5.form
  obtain ⟨T, hT, hT8⟩ := tags_is m a
  have HT := Lib.hid hT
  have HT8 : Hid (T.length ≤ 9223372036854775807) := Lib.hid (by have := HML.out; omega)
  have HL5 : Hid ((startF m).length ≤ 9223372036854775807) := Lib.hid (by have := goes_len m []; rw [go_zero] at this; have := HML.out; omega)
  subst e5
  clear hO5 h5 b5 hT hT8 a0 a1 a2 HST hV5
  go_upto_region 6 with fail
  go_cut [54] (fun s54 wc => s54 = .bool false ∧ Hid (Below w5.heap.size w5 wc))
  case first =>
    have hr : Below w5.heap.size w5 w5.drew := (Below.refl _ _).drew
    have hJ5 := InR.step hJ5 hr
    go_region_held3 (fun U => U.cell? ⟨w2.heap.size, 0, none⟩ = some (.slice p0 n c0) ∧ U.cell? ⟨w2.heap.size, 1, none⟩ = some (.slice p1 n c1) ∧ U.cell? ⟨w2.heap.size, 2, none⟩ = some (.slice p2 n c2))
      (exact HX.out.at_ _ (HV5.out.trans (hr.mono HV5.out.size)))
      (first
        | (go_at_call 16; (refine (HRS.out _ (HV5.out.trans (hr.mono HV5.out.size))).mono ?_); rintro ee w6 ⟨v6, o6, rfl, hO6, h6, _, b6⟩; obtain rfl := h6 HS.out; obtain ⟨Q6, k6, rfl, hJ6, _, _, _⟩ := hO6.form; have hJ5 := InR.step hJ5 b6; have hr := hr.trans (b6.mono hr.size))
        | (go_at_call 15; (with_reducible refine (lsame_c rfl HL5.out hJ5 hJ6).mono ?_); rintro ee w7 ⟨rfl, b7⟩; have hr := hr.trans (b7.mono hr.size))
        | (go_at_call 17; (refine (HPT.out _ (HV5.out.trans (hr.mono HV5.out.size))).mono ?_); rintro ee w8 ⟨v8, o8, rfl, hO8, _, h8, _, b8⟩; rw [(h8 HS.out).unique HT.out] at hO8; obtain ⟨Q8, k8, rfl, hJ8, _, _, _⟩ := hO8.form; (try have hJ9 := InR.step hJ9 b8); have hr := hr.trans (b8.mono hr.size))
        | (go_at_call 18; (refine (HRT.out _ (HV5.out.trans (hr.mono HV5.out.size))).mono ?_); rintro ee w9 ⟨v9, o9, rfl, hO9, h9, _, b9⟩; rw [(h9 HS.out).unique HT.out] at hO9; obtain ⟨Q9, k9, rfl, hJ9, _, _, _⟩ := hO9.form; (try have hJ8 := InR.step hJ8 b9); have hr := hr.trans (b9.mono hr.size))
        | (go_at_call 15; (with_reducible refine (lsame_c rfl HT8.out hJ8 hJ9).mono ?_); rintro ee w10 ⟨rfl, b10⟩; have hr := hr.trans (b10.mono hr.size)))
    all_goals
      have HR := Lib.hid hr
      clear hr
      go_wp2_with fail
      go_meet
      exact ⟨rfl, HR.out⟩
  case rest =>
    obtain ⟨rfl, HC⟩ := hcut
    have HO := Lib.hid (HO5.out.below HC.out)
    have HV := Lib.hid (HV5.out.trans (HC.out.mono HV5.out.size))
    have HIS := Lib.hid (fun (U : World) (hU : Below w4.heap.size w4 U) => InR.step HI4.out hU)
    have HW4 := Lib.hid ((show Below w4.heap.size w4 w5 from hb45).trans (HC.out.mono hb45.size))
    clear hJ5 HO5 HI5 HRS HT HT8 HL5 HPT HRT hb45
    go_wp2_with fail
    go_loopg [13, 14] l4 (fun gk s13 s14 wx => ∃ (r : Nat) (v : Value), r + gk = l4 ∧ s14 = .int .i64 r ∧ v = s13 ∧ Hid (OwI wx V.heap.size v (goF m (s.take r))) ∧ Hid (Below V.heap.size V wx) ∧ Hid (Below w4.heap.size w4 wx))
    case atStart => exact ⟨0, _, by omega, rfl, rfl, HO, HV, HW4⟩
    case round =>
      obtain ⟨r, v, hrg, rfl, rfl, HOX, HVX, HWX⟩ := hrel
      clear HO HV HW4 HC
      have hlx := goes_len m (s.take r)
      obtain ⟨xl, hxl⟩ : ∃ xl, xl = goF m (s.take r) := ⟨_, rfl⟩
      rw [← hxl] at hlx
      have hOX := HOX.out
      rw [← hxl] at hOX
      obtain ⟨Qx, kx, rfl, hJx, -, -, -⟩ := hOX.form
      have HXL := Lib.hid (And.intro hxl (show xl.length ≤ 12 from Nat.le_trans hlx HML.out))
      cases gk with
      | zero =>
        obtain rfl : r = l4 := by omega
        have hlt : ¬ (r : Int) < (r : Int) := by omega
        have HG1 := Lib.hid (fun (U : World) (hU : Below V.heap.size V U) (hW : Below w4.heap.size w4 U) => plong_c (c0 := c0) (c1 := c1) (c2 := c2) (c := k4) (HA.out.step (HBV.out.trans (hU.mono HBV.out.size))) (HX.out.mv U hU) (HIS.out U hW) HL4.out.1 (by have := HL4.out; omega))
        have HG2 := Lib.hid (fun (U : World) (hU : Below V.heap.size V U) (hW : Below w4.heap.size w4 U) => rlong_c (c0 := c0) (c1 := c1) (c2 := c2) (c := k4) (HX.out.mv U hU) HS.out (HIS.out U hW) HL4.out.1 (by have := HL4.out; omega))
        obtain ⟨a0, a1, a2⟩ := HX.out.at_ _ HVX.out
        clear hlx hxl hOX hJx
        go_wp2_with fail
        refine (HG1.out _ HVX.out HWX.out).mono ?_
        rintro e w6 ⟨x, p, rfl, hg1, _, b6⟩
        have HLa := Lib.hid (hg1 HS.out)
        have HV6 := Lib.hid (HVX.out.trans (b6.mono HVX.out.size))
        have HW6 := Lib.hid (HWX.out.trans (b6.mono HWX.out.size))
        clear hg1 b6 a0 a1 a2
        obtain ⟨a0, a1, a2⟩ := HX.out.at_ _ HV6.out
        go_wp2_with fail
        refine (HG2.out _ HV6.out HW6.out).mono ?_
        rintro e w7 ⟨y, q, rfl, hg2, b7⟩
        obtain ⟨rfl, rfl⟩ := HLa.out.unique hg2
        have HE := Lib.hid (HBV.out.trans ((HV6.out.trans (b7.mono HV6.out.size)).mono HBV.out.size))
        clear hg2 b7 a0 a1 a2
        go_wp2_with fail
        go_ret
        exact ⟨rfl, HE.out⟩
      | succ gk =>
        have hlt : (r : Int) < (l4 : Int) := by omega
        have h0 : (0 : Int) ≤ (r : Int) := by omega
        have hwr : wrap64 ((r : Int) + 1) = ((r + 1 : Nat) : Int) := by rw [IntWalk.wrap64_in _ (by have := HL4.out; omega)]; omega
        have hrl : r < s.length := Nat.lt_of_lt_of_le (show r < l4 by omega) (Nat.le_of_eq HL4.out.1)
        obtain ⟨y, hy⟩ : ∃ y, y = s[r] := ⟨_, rfl⟩
        have HGT : Hid (goF m (s.take (r + 1)) = stepF m xl y) := Lib.hid (by rw [go_take m hrl, hy, hxl])
        obtain ⟨gs, os, rfl, hgs, hcs⟩ := HIS.out wr HWX.out r hrl
        rw [← hy] at hcs
        have HBS := Lib.hid (fun (U : World) (hU : Below wr.heap.size wr U) => (⟨(HX.out.at_ U (HVX.out.trans (hU.mono HVX.out.size))).1, (HX.out.at_ U (HVX.out.trans (hU.mono HVX.out.size))).2.1, (HX.out.at_ U (HVX.out.trans (hU.mono HVX.out.size))).2.2, (hU.cell (p := ⟨gs, os + r, none⟩) hgs).trans hcs⟩ : U.cell? ⟨w2.heap.size, 0, none⟩ = some (.slice p0 n c0) ∧ U.cell? ⟨w2.heap.size, 1, none⟩ = some (.slice p1 n c1) ∧ U.cell? ⟨w2.heap.size, 2, none⟩ = some (.slice p2 n c2) ∧ U.cell? ⟨gs, os + r, none⟩ = some (.int .i64 y)))
        have HJX := Lib.hid (fun (U : World) (hU : Below wr.heap.size wr U) => InR.step hJx hU)
        have HVU := Lib.hid (fun (U : World) (hU : Below wr.heap.size wr U) => (HVX.out.trans (hU.mono HVX.out.size) : Below V.heap.size V U))
        have HPS := Lib.hid (fun (U : World) (hU : Below wr.heap.size wr U) => pstep_c (c0 := c0) (c1 := c1) (c2 := c2) (c := q3) (r := y) (HA.out.step (HBV.out.trans ((HVU.out U hU).mono HBV.out.size))) (HX.out.mv U (HVU.out U hU)) (HA3.out U (HVU.out U hU)) HI3.out.2 H83.out)
        have HRS := Lib.hid (fun (U : World) (hU : Below wr.heap.size wr U) => rstep_c (c0 := c0) (c1 := c1) (c2 := c2) (c := q3) (r := y) (HX.out.mv U (HVU.out U hU)) (HA3.out U (HVU.out U hU)) HI3.out.2 H83.out)
        have HPT := Lib.hid (fun (U : World) (hU : Below wr.heap.size wr U) => ptags_c (c0 := c0) (c1 := c1) (c2 := c2) (c := kx) (HX.out.mv U (HVU.out U hU)) (HJX.out U hU) rfl (by have := HXL.out; omega))
        have HRT := Lib.hid (fun (U : World) (hU : Below wr.heap.size wr U) => rtags_c (c0 := c0) (c1 := c1) (c2 := c2) (c := kx) (HX.out.mv U (HVU.out U hU)) (HJX.out U hU) rfl (by have := HXL.out; omega))
        have HPX := Lib.hid (fun (U : World) (hU : Below wr.heap.size wr U) => pstep_c (c0 := c0) (c1 := c1) (c2 := c2) (c := kx) (r := y) (HA.out.step (HBV.out.trans ((HVU.out U hU).mono HBV.out.size))) (HX.out.mv U (HVU.out U hU)) (HJX.out U hU) rfl (by have := HXL.out; omega))
        obtain ⟨T, hT, hT8⟩ := tags_is m xl
        have HT := Lib.hid hT
        have HT8 : Hid (T.length ≤ 9223372036854775807) := Lib.hid (by have := HML.out; omega)
        have HL5 : Hid ((stepF m a y).length ≤ 9223372036854775807) := Lib.hid (by have : (stepF m a y).length ≤ m.tg.length := stL_len _ _; have := HML.out; omega)
        clear hlx hxl hOX hJx hgs hcs hy hT hT8 hrl HOX
        go_upto_region 11 with fail
        go_cut [86] (fun s86 wc => s86 = .bool false ∧ Hid (Below wr.heap.size wr wc))
        case first =>
          have hr : Below wr.heap.size wr wr.drew := (Below.refl _ _).drew
          go_region_held3 (fun U => U.cell? ⟨w2.heap.size, 0, none⟩ = some (.slice p0 n c0) ∧ U.cell? ⟨w2.heap.size, 1, none⟩ = some (.slice p1 n c1) ∧ U.cell? ⟨w2.heap.size, 2, none⟩ = some (.slice p2 n c2) ∧ U.cell? ⟨gs, os + r, none⟩ = some (.int .i64 y))
            (exact HBS.out _ hr)
            (first
              | (go_at_call 10; (refine (HPS.out _ hr).mono ?_); rintro ee w6 ⟨v6, o6, rfl, hO6, h6, _, b6⟩; obtain rfl := h6 HS.out; obtain ⟨Q6, k6, rfl, hJ6, _, _, _⟩ := hO6.form; (try have hJ7 := InR.step hJ7 b6); have hr := hr.trans (b6.mono hr.size))
              | (go_at_call 19; (refine (HRS.out _ hr).mono ?_); rintro ee w7 ⟨v7, o7, rfl, hO7, h7, _, b7⟩; obtain rfl := h7 HS.out; obtain ⟨Q7, k7, rfl, hJ7, _, _, _⟩ := hO7.form; (try have hJ6 := InR.step hJ6 b7); have hr := hr.trans (b7.mono hr.size))
              | (go_at_call 15; (with_reducible refine (lsame_c rfl HL5.out hJ6 hJ7).mono ?_); rintro ee w10 ⟨rfl, b10⟩; have hr := hr.trans (b10.mono hr.size))
              | (go_at_call 17; (refine (HPT.out _ hr).mono ?_); rintro ee w8 ⟨v8, o8, rfl, hO8, _, h8, _, b8⟩; rw [(h8 HS.out).unique HT.out] at hO8; obtain ⟨Q8, k8, rfl, hJ8, _, _, _⟩ := hO8.form; (try have hJ9 := InR.step hJ9 b8); have hr := hr.trans (b8.mono hr.size))
              | (go_at_call 18; (refine (HRT.out _ hr).mono ?_); rintro ee w9 ⟨v9, o9, rfl, hO9, h9, _, b9⟩; rw [(h9 HS.out).unique HT.out] at hO9; obtain ⟨Q9, k9, rfl, hJ9, _, _, _⟩ := hO9.form; (try have hJ8 := InR.step hJ8 b9); have hr := hr.trans (b9.mono hr.size))
              | (go_at_call 15; (with_reducible refine (lsame_c rfl HT8.out hJ8 hJ9).mono ?_); rintro ee w11 ⟨rfl, b11⟩; have hr := hr.trans (b11.mono hr.size)))
          all_goals
            have HR := Lib.hid hr
            clear hr
            go_wp2_with fail
            go_meet
            exact ⟨rfl, HR.out⟩
        case rest =>
          obtain ⟨rfl, HC⟩ := hcut
          clear HPS HRS HPT HRT HT HT8 HL5
          go_upto_region 13 with fail
          have hr : Below wr.heap.size wr wc.drew := HC.out.drew
          go_region_held3 (fun U => U.cell? ⟨w2.heap.size, 0, none⟩ = some (.slice p0 n c0) ∧ U.cell? ⟨w2.heap.size, 1, none⟩ = some (.slice p1 n c1) ∧ U.cell? ⟨w2.heap.size, 2, none⟩ = some (.slice p2 n c2) ∧ U.cell? ⟨gs, os + r, none⟩ = some (.int .i64 y))
            (exact HBS.out _ hr)
            (first
              | (go_at_call 10; (refine (HPX.out _ hr).mono ?_); rintro ee w6 ⟨v6, o6, rfl, hO6, h6, _, b6⟩; obtain rfl := h6 HS.out; rw [← HGT.out] at hO6; have HO6 := Lib.hid (hO6.low (Nat.le_trans HVX.out.size hr.size)); have hr := hr.trans (b6.mono hr.size); clear hO6))
          all_goals
            have HVN := Lib.hid (HVX.out.trans (hr.mono HVX.out.size))
            have HWN := Lib.hid (HWX.out.trans (hr.mono HWX.out.size))
            clear hr
            go_wp2_with fail
            go_roundg gk
            case measure => omega
            case rel => exact ⟨r + 1, _, by omega, by first | rw [hwr] | rfl | simp, rfl, HO6, HVN, HWN⟩
end Go.Proofs.YtioahgklplbinaaDoor
