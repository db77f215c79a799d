/- The walk of SimFronts. -/
import Derived.Test.YtioahgklplbinaaDoorGKnown
import Derived.Test.YtioahgklplbinaaDoorGMac
import Derived.Test.YtioahgklplbinaaDoorGStp
import Derived.Test.YtioahgklplbinaaDoorGEach
namespace Go.Proofs.YtioahgklplbinaaDoor
open Go.RowKit Go.Shelf SetM NfaM SimM
set_option maxRecDepth 100000 in
set_option maxHeartbeats 16000000 in
theorem simFronts_any {W : World} {PL PT P3 P4 : Option Addr} {nL nT cL cT n3 n4 q3 q4 : Nat} {k : Int} {tags : List Int} (hk0 : 0 ≤ k) (hk1 : k ≤ 255) {arcs : List (Int × Int × List Int × Bool)} (hT : I8s W PT tags) (hnT : nT = tags.length) (hL : AsR W PL arcs) (hnL : nL = arcs.length)
    {r u : List Int} (hU3 : U16s W.heap.size W P3 r) (hn3 : n3 = r.length) (h83 : n3 ≤ 9223372036854775807) (hU4 : U16s W.heap.size W P4 u) (hn4 : n4 = u.length) (h84 : n4 ≤ 9223372036854775807) (hA : Aw W) :
    Calls Tryd.prog 7 #[.int .u8 k, .slice PL nL cL, .slice PT nT cT, .slice P3 n3 q3, .slice P4 n4 q4] W fun e W' => e = .returned (.bool true) ∧ Below W.heap.size W W' := by
  have HMC := Lib.hid (fun (U : World) (hU : Below W.heap.size W U) => machine_c (cL := cL) (cT := cT) hk0 hk1 (hT.step hU) hnT (hL.step hU) hnL (hA.step hU))
  have HKN := Lib.hid (known9 hA)
  have HA := Lib.hid hA
  have HU3 := Lib.hid (And.intro hU3 hn3)
  have HU4 := Lib.hid (And.intro hU4 hn4)
  clear hk0 hk1 hT hnT hL hnL hA hU3 hn3 hU4 hn4
  go_enter Tryd.func7, Tryd.ntmps7
  go_upto_region 1 with fail
  by_cases hbig : 20 < n3 ∨ 20 < n4
  · rcases (show 20 < n3 ∨ (¬ 20 < n3 ∧ 20 < n4) by omega) with q | ⟨q1, q⟩
    · have g2 : (20 : Int) < (n3 : Int) := by omega
      clear hbig q
      go_wp2_with fail
      refine HKN.out.mono ?_
      rintro e w1 ⟨rfl, b1⟩
      have HE1 := Lib.hid b1
      clear b1
      go_wp2_with fail
      go_ret
      exact ⟨rfl, HE1.out⟩
    · have g1 : ¬ (20 : Int) < (n3 : Int) := by omega
      have g2 : (20 : Int) < (n4 : Int) := by omega
      clear hbig q q1
      go_wp2_with fail
      refine HKN.out.mono ?_
      rintro e w1 ⟨rfl, b1⟩
      have HE1 := Lib.hid b1
      clear b1
      go_wp2_with fail
      go_ret
      exact ⟨rfl, HE1.out⟩
  have g1 : ¬ (20 : Int) < (n3 : Int) := by omega
  have g2 : ¬ (20 : Int) < (n4 : Int) := by omega
  have HN8 : Hid (n3 ≤ 20 ∧ n4 ≤ 20) := Lib.hid (by omega)
  clear hbig
  go_wp2_with fail
  refine HKN.out.mono ?_
  rintro e w1 ⟨rfl, b1⟩
  have HB1 := Lib.hid b1
  clear b1 HKN g1 g2
  go_wp2_with fail
  refine (HMC.out w1 HB1.out).mono ?_
  rintro e w2 ⟨p0, p1, p2, c0, c1, c2, n, m, rfl, hM, hs, h12, b2⟩
  obtain ⟨V, hV⟩ : ∃ V, V = w2.alloc (.cells #[.slice p0 n c0, .slice p1 n c1, .slice p2 n c2] 30) := ⟨_, rfl⟩
  have HX : Hid (Boxed w2 V p0 p1 p2 n c0 c1 c2 m) := Lib.hid (by rw [hV]; exact boxed_of hM)
  have HS := Lib.hid hs
  have hbV : Below W.heap.size W V := (HB1.out.trans (b2.mono HB1.out.size)).trans (HX.out.bel.mono (Nat.le_trans HB1.out.size b2.size))
  have HBV := Lib.hid hbV
  have HS3 := Lib.hid (fun (U : World) (hU : Below V.heap.size V U) => scalars_c (W := U) (ca := q3) (U16s.step (U16s.step HU3.out.1 HBV.out) hU) HU3.out.2 (by have := HN8.out; omega))
  have HS4 := Lib.hid (fun (U : World) (hU : Below V.heap.size V U) => scalars_c (W := U) (ca := q4) (U16s.step (U16s.step HU4.out.1 HBV.out) hU) HU4.out.2 (by have := HN8.out; omega))
  clear hM hs h12 b2 hbV HMC
  go_upto_region 4 with fail
  rw [← hV]
  clear hV
  go_wp2_with fail
  refine (HS3.out V (Below.refl _ _)).mono ?_
  rintro e w3 ⟨v3, rfl, hO3, b3⟩
  obtain ⟨Q3, k3, rfl, hI3, _, _, _⟩ := hO3.form
  have HI3 := Lib.hid hI3
  have HB3 := Lib.hid b3
  obtain ⟨l3, hl3⟩ : ∃ l3, l3 = (scF r).length := ⟨_, rfl⟩
  rw [← hl3]
  have HL3 : Hid (l3 = (scF r).length ∧ l3 ≤ 20) := Lib.hid ⟨hl3, by rw [hl3, scf_len, ← HU3.out.2]; exact HN8.out.1⟩
  clear hO3 hI3 b3 hl3
  go_wp2_with fail
  refine (HS3.out w3 HB3.out).mono ?_
  rintro e w4 ⟨v4, rfl, hO4, b4⟩
  have HO4 := Lib.hid hO4
  have HB4 := Lib.hid b4
  clear hO4 b4
  go_wp2_with fail
  refine (HS4.out w4 (HB3.out.trans (HB4.out.mono HB3.out.size))).mono ?_
  rintro e w5 ⟨v5, rfl, hO5, b5⟩
  have HCP := Lib.hid hO5
  obtain ⟨Q5, k5, rfl, hI5, _, _, _⟩ := hO5.form
  have HNC := Lib.hid (OwI.nilcap HCP.out)
  have HI5 := Lib.hid hI5
  have HB5 := Lib.hid (HB4.out.trans (b5.mono HB4.out.size))
  have HO5 := Lib.hid (HO4.out.below b5)
  obtain ⟨l5, hl5⟩ : ∃ l5, l5 = (scF u).length := ⟨_, rfl⟩
  rw [← hl5]
  have HL5 : Hid (l5 = (scF u).length ∧ l5 ≤ 20) := Lib.hid ⟨hl5, by rw [hl5, scf_len, ← HU4.out.2]; exact HN8.out.2⟩
  clear hO5 hI5 b5 hl5 HCP HO4
  go_upto_region 7 with (at_builtin; refine wpList_append_inr rfl (.tmp 39) (.tmp 41) rfl w3.heap.size v4 (scF r) rfl HO5.out Q5 l5 k5 (scF u) HL5.out.1 rfl HI5.out HNC.out (by have := HL3.out; have := HL5.out; omega) HB5.out.size ?_; intro v6 w6 hO6 hg6; have HO6 := Lib.hid hO6; have HB6 := Lib.hid (HB5.out.grown hg6 HB5.out.size (fun j hj => (World.ownsRow.lt HO5.out j hj).1)); clear hO6 hg6)
  have hO6 := HO6.out
  obtain ⟨Q6, k6, rfl, hI6, _, _, _⟩ := hO6.form
  have HI6 := Lib.hid hI6
  obtain ⟨l6, hl6⟩ : ∃ l6, l6 = (scF r ++ scF u).length := ⟨_, rfl⟩
  rw [← hl6]
  have HL6 : Hid (l6 = (scF r ++ scF u).length ∧ l6 ≤ 40) := Lib.hid ⟨hl6, by rw [hl6, List.length_append]; have := HL3.out; have := HL5.out; omega⟩
  clear hO6 hI6 hl6 HO5 HO6 HI5 HNC
  have hV6 := HB3.out.trans (HB6.out.mono HB3.out.size)
  have HV6 := Lib.hid hV6
  have HG1 := Lib.hid (plong_c (c0 := c0) (c1 := c1) (c2 := c2) (c := k3) (HA.out.step (HBV.out.trans (hV6.mono HBV.out.size))) (HX.out.mv _ hV6) (InR.step HI3.out HB6.out) HL3.out.1 (by have := HL3.out; omega))
  obtain ⟨a0, a1, a2⟩ := HX.out.at_ _ hV6
  clear hV6
  go_wp2_with fail
  refine HG1.out.mono ?_
  rintro e w7 ⟨a, p, rfl, hg1, _, b7⟩
  have HLa := Lib.hid (hg1 HS.out)
  have hV7 := HV6.out.trans (b7.mono HV6.out.size)
  have HV7 := Lib.hid hV7
  have HG2 := Lib.hid (plong_c (c0 := c0) (c1 := c1) (c2 := c2) (c := k6) (HA.out.step (HBV.out.trans (hV7.mono HBV.out.size))) (HX.out.mv _ hV7) (InR.step HI6.out b7) HL6.out.1 (by have := HL6.out; omega))
  clear hg1 b7 HG1 a0 a1 a2
  obtain ⟨a0, a1, a2⟩ := HX.out.at_ _ hV7
  clear hV7
  go_wp2_with fail
  refine HG2.out.mono ?_
  rintro e w8 ⟨b, q, rfl, hg2, _, b8⟩
  have HF := Lib.hid (HLa.out.front (hg2 HS.out))
  have HE := Lib.hid (HBV.out.trans ((HV7.out.trans (b8.mono HV7.out.size)).mono HBV.out.size))
  clear hg2 b8 HG2 a0 a1 a2
  have g1 : a ≤ b := HF.out.1
  by_cases g2 : (l3 : Int) < b
  · go_wp2_with fail
    go_ret
    exact ⟨rfl, HE.out⟩
  · obtain ⟨rfl, rfl⟩ : b = a ∧ p = q := by
      rcases HF.out.2 with h | h
      · rw [← HL3.out.1] at h; exact absurd h g2
      · exact h
    go_wp2_with fail
    go_ret
    exact ⟨rfl, HE.out⟩
end Go.Proofs.YtioahgklplbinaaDoor
