/- The walk of SimFree. -/
import Derived.Test.YtioahgklplbinaaDoorGKnown
import Derived.Test.YtioahgklplbinaaDoorGMac
import Derived.Test.YtioahgklplbinaaDoorGStp
import Derived.Deep.RegionHeld3
import Derived.RegionTactic
import Derived.BigQuiet
namespace Go.Proofs.YtioahgklplbinaaDoor
open Go.RowKit Go.Shelf SetM NfaM SimM
set_option maxRecDepth 100000 in
set_option maxHeartbeats 16000000 in
theorem simFree_any {W : World} {PL PT : Option Addr} {nL nT cL cT : Nat} {k : Int} {tags : List Int} (hk0 : 0 ≤ k) (hk1 : k ≤ 255) {arcs : List (Int × Int × List Int × Bool)} (hT : I8s W PT tags) (hnT : nT = tags.length) (hL : AsR W PL arcs) (hnL : nL = arcs.length) (hA : Aw W) :
    Calls Tryd.prog 4 #[.int .u8 k, .slice PL nL cL, .slice PT nT cT] W fun e W' => e = .returned (.bool true) ∧ Below W.heap.size W W' := by
  have HMC := Lib.hid (machine_c (cL := cL) (cT := cT) hk0 hk1 hT hnT hL hnL hA)
  have HA := Lib.hid hA
  clear hk0 hk1 hT hnT hL hnL hA
  go_enter Tryd.func4, Tryd.ntmps4
  go_wp2_with fail
  refine HMC.out.mono ?_
  rintro e w1 ⟨p0, p1, p2, c0, c1, c2, n, m, rfl, hM, hs, h12, b1⟩
  obtain ⟨V, hV⟩ : ∃ V, V = w1.alloc (.cells #[.slice p0 n c0, .slice p1 n c1, .slice p2 n c2] 30) := ⟨_, rfl⟩
  have HX : Hid (Boxed w1 V p0 p1 p2 n c0 c1 c2 m) := Lib.hid (by rw [hV]; exact boxed_of hM)
  have HS := Lib.hid hs
  have HB := Lib.hid (b1.trans (HX.out.bel.mono b1.size))
  have HST := Lib.hid (pstart_c (c0 := c0) (c1 := c1) (c2 := c2) (HX.out.mv _ (Below.refl _ _)))
  have HKN := Lib.hid (fun (U : World) (hU : Below V.heap.size V U) => known9 ((HA.out.step HB.out).step hU))
  have HG := Lib.hid (gm_of hM.bd hs)
  have HN := Lib.hid hM.e2
  have HF := Lib.hid hM.e1
  obtain ⟨a0, a1, a2⟩ := HX.out.at_ V (Below.refl _ _)
  clear hM hs b1 HMC HA
  go_upto_region 2 with fail
  rw [← hV]
  clear hV
  go_wp2_with fail
  refine HST.out.mono ?_
  rintro e w2 ⟨v, o, rfl, hO, h1, _, b2⟩
  obtain rfl := h1 HS.out
  obtain ⟨z, hz⟩ : ∃ z, z = startF m := ⟨_, rfl⟩
  rw [← hz] at hO
  obtain ⟨Q, q, rfl, hI, _, _, _⟩ := hO.form
  obtain ⟨lz, hlz⟩ : ∃ lz, lz = z.length := ⟨_, rfl⟩
  have hz12 : lz ≤ 12 := by rw [hlz, hz]; exact Nat.le_trans (stL_len _ _) (by show m.tg.length ≤ 12; rw [← HN.out]; exact h12)
  obtain ⟨tl, htl⟩ := start_head (m := m) (by show 0 < m.tg.length; exact HG.out.k1)
  have hz0 : 0 < z.length := by rw [hz, htl]; simp
  obtain ⟨g5, o5, rfl, hg5, hc5⟩ := hI 0 hz0
  have hc0 : w2.cell? ⟨g5, o5, none⟩ = some (.int .i64 0) := by
    have : z[0] = 0 := by simp only [hz, htl]; rfl
    rw [this] at hc5
    exact hc5
  rw [← hlz]
  have g1 : ((lz : Int) == 0) = false := by rw [beq_eq_false_iff_ne]; omega
  have g2 : (0 : Int) < (lz : Int) := by omega
  have HZ := Lib.hid (And.intro hz hlz)
  have HI := Lib.hid hI
  have HB2 := Lib.hid b2
  clear h1 hO hz hlz htl hz0 hc5 hI hg5 b2 HST a0 a1 a2
  go_upto_region 5 with fail
  clear hc0 g1 g2
  go_wp2_with fail
  go_loopg [9] lz (fun gk s9 wx => ∃ r : Nat, r + gk = lz ∧ s9 = .int .i64 r ∧ Hid (Below w2.heap.size w2 wx))
  case atStart => exact ⟨0, by omega, rfl, Lib.hid (Below.refl _ _)⟩
  case round =>
    obtain ⟨r, hrg, rfl, HBW⟩ := hrel
    cases gk with
    | zero =>
      obtain rfl : r = lz := by omega
      have hlt : ¬ (r : Int) < (r : Int) := by omega
      go_wp2_with fail
      refine (HKN.out _ (HB2.out.trans (HBW.out.mono HB2.out.size))).mono ?_
      rintro e w3 ⟨rfl, b3⟩
      have HE := Lib.hid (HB.out.trans ((HB2.out.trans ((HBW.out.trans (b3.mono HBW.out.size)).mono HB2.out.size)).mono HB.out.size))
      clear b3
      go_wp2_with fail
      go_ret
      exact ⟨rfl, HE.out⟩
    | succ gk =>
      have hlt : (r : Int) < (lz : Int) := by omega
      have h0 : (0 : Int) ≤ (r : Int) := by omega
      have hwr : wrap64 ((r : Int) + 1) = ((r + 1 : Nat) : Int) := by rw [IntWalk.wrap64_in _ (by omega)]; omega
      have hrl : r < z.length := by have := HZ.out.2; omega
      have hmem : z[r] ∈ startF m := by rw [← HZ.out.1]; exact List.getElem_mem hrl
      obtain ⟨kk, hkm, _, hkz⟩ := mem_stL.1 (show z[r] ∈ stL m.len (Cl m (· = 0)) from hmem)
      rw [hkz] at hmem
      obtain ⟨gz, oz, ez, hgz, hcz⟩ := HI.out r hrl
      cases ez
      rw [hkz] at hcz
      have hkf : kk < m.fr.length := by rw [← HF.out, HN.out]; exact hkm
      obtain ⟨g6, o6, P6, c6, rfl, hg6, hc6, hI6⟩ := (HX.out.mv _ HB2.out).mr.fr kk hkf
      obtain ⟨l6, hl6⟩ : ∃ l6, l6 = (m.fr[kk]).length := ⟨_, rfl⟩
      rw [← hl6] at hc6
      have hsub : ∀ t ∈ m.fr[kk], t ∈ z := fun t ht => by
        rw [HZ.out.1]
        refine start_free (k := kk) HG.out.fr.1 hmem t ?_
        rw [row_at hkf]; exact ht
      have h68 : l6 ≤ 9223372036854775807 := by have := HG.out.fr.2.2 kk hkf; rw [row_at hkf] at this; omega
      have HWI := Lib.hid (fun (U : World) (hU : Below w2.heap.size w2 U) => within_c (W := U) (c := c6) (d := q) hl6 HZ.out.2 ⟨h68, by omega⟩ (InR.step hI6 hU) (InR.step HI.out hU) hsub)
      have HBS := Lib.hid (fun (U : World) (hU : Below w2.heap.size w2 U) => (⟨(HX.out.at_ U (HB2.out.trans (hU.mono HB2.out.size))).2.1, (HX.out.at_ U (HB2.out.trans (hU.mono HB2.out.size))).2.2, (hU.cell (p := ⟨g5, o5 + r, none⟩) hgz).trans hcz, (hU.cell (p := ⟨g6, o6 + kk, none⟩) hg6).trans hc6⟩ : U.cell? ⟨w1.heap.size, 1, none⟩ = some (.slice (some ⟨g6, o6, none⟩) n c1) ∧ U.cell? ⟨w1.heap.size, 2, none⟩ = some (.slice p2 n c2) ∧ U.cell? ⟨g5, o5 + r, none⟩ = some (.int .i64 kk) ∧ U.cell? ⟨g6, o6 + kk, none⟩ = some (.slice P6 l6 c6)))
      have k0 : (0 : Int) ≤ (kk : Int) := by omega
      have k1 : ¬ (kk : Int) < 0 := by omega
      have k2 : (kk : Int) < (n : Int) := by rw [HN.out]; exact Int.ofNat_lt.2 hkm
      have k3 : ¬ (n : Int) ≤ (kk : Int) := by omega
      clear hrl hmem hkz hgz hcz hkf hg6 hc6 hI6 hl6 hsub h68 hkm
      go_upto_region 8 with fail
      have hr : Below w2.heap.size w2 wr.drew := HBW.out.drew
      go_region_held3 (fun U => U.cell? ⟨w1.heap.size, 1, none⟩ = some (.slice (some ⟨g6, o6, none⟩) n c1) ∧ U.cell? ⟨w1.heap.size, 2, none⟩ = some (.slice p2 n c2) ∧ U.cell? ⟨g5, o5 + r, none⟩ = some (.int .i64 kk) ∧ U.cell? ⟨g6, o6 + kk, none⟩ = some (.slice P6 l6 c6))
        (exact HBS.out _ hr)
        (first
          | (go_at_call 11; (refine (HWI.out _ hr).mono ?_); rintro ee w6 ⟨rfl, b6⟩; have hr := hr.trans (b6.mono hr.size)))
      have HBN := Lib.hid hr
      clear hr
      go_wp2_with fail
      go_roundg gk
      case measure => omega
      case rel => exact ⟨r + 1, by omega, by first | rw [hwr] | rfl | simp, HBN⟩
end Go.Proofs.YtioahgklplbinaaDoor
