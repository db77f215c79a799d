/- The walk of SimBad. -/
import Derived.Test.YtioahgklplbinaaDoorGKnown
import Derived.Test.YtioahgklplbinaaDoorGLaw
import Derived.Test.YtioahgklplbinaaDoorGRef
namespace Go.Proofs.YtioahgklplbinaaDoor
open Go.RowKit Go.Shelf SetM NfaM SimM
set_option maxRecDepth 100000 in
set_option maxHeartbeats 16000000 in
theorem simBad_any {W : World} {p0 p1 p2 P : Option Addr} {n0 n1 n2 c0 c1 c2 n c : Nat} {m : Mc} {l : List Int} {x : Int} (h : MR W p0 p1 p2 m) (e0 : n0 = m.ed.length) (e1 : n1 = m.fr.length) (e2 : n2 = m.tg.length) (hed : ∀ i < m.ed.length, (m.ed.getD i []).length ≤ 9223372036854775807 ∧ ∀ e ∈ m.ed.getD i [], e.2.length ≤ 9223372036854775807 ∧ Wide e.2) (hfr : ∀ i < m.fr.length, (m.fr.getD i []).length ≤ 9223372036854775807) (hl : InR W P l) (hn : n = l.length) (hA : Aw W) :
    Calls Tryd.prog 6 #[.agg #[.slice p0 n0 c0, .slice p1 n1 c1, .slice p2 n2 c2], .slice P n c, .int .i64 x] W fun e W' => e = .returned (.bool true) ∧ Below W.heap.size W W' := by
  obtain ⟨V, hV⟩ : ∃ V, V = W.alloc (.cells #[.slice p0 n0 c0, .slice p1 n1 c1, .slice p2 n2 c2] 30) := ⟨_, rfl⟩
  have hb : Below W.heap.size W V := by rw [hV]; exact (Below.refl _ _).alloc (Nat.le_refl _) _
  have x0 : V.heap[W.heap.size]? = some (.cells #[.slice p0 n0 c0, .slice p1 n1 c1, .slice p2 n2 c2] 30 (0, 0)) := by rw [hV]; exact heap_alloc_new W _
  obtain ⟨⟨a0, a1, a2⟩, _⟩ := cells3 x0
  have HX := Lib.hid x0
  have HLT := Lib.hid (Array.getElem?_eq_some_iff.1 x0).1
  have HB0 := Lib.hid hb
  have HM := Lib.hid (h.step hb)
  have HL := Lib.hid (InR.step hl hb)
  have HN := Lib.hid hn
  have HA := Lib.hid (hA.step hb)
  have HE := Lib.hid (And.intro e0 (And.intro e1 e2))
  have HED := Lib.hid hed
  have HFR := Lib.hid hfr
  have HKN := Lib.hid (known9 (hA.step hb))
  clear h e0 e1 e2 hed hfr hb x0 hA hl hn
  go_enter Tryd.func6, Tryd.ntmps6
  go_upto_region 1 with fail
  rw [← hV]
  clear hV
  by_cases hbig : 100 < n2 ∨ 100 < n0 ∨ 100 < n1 ∨ 50 < n
  · rcases (show 100 < n2 ∨ (¬ 100 < n2 ∧ 100 < n0) ∨ (¬ 100 < n2 ∧ ¬ 100 < n0 ∧ 100 < n1) ∨ (¬ 100 < n2 ∧ ¬ 100 < n0 ∧ ¬ 100 < n1 ∧ 50 < n) by omega) with q | ⟨q1, q⟩ | ⟨q1, q2, q⟩ | ⟨q1, q2, q3, q⟩
    · have g2 : (100 : Int) < (n2 : Int) := by omega
      clear hbig q
      go_wp2_with fail
      refine HKN.out.mono ?_
      rintro e w1 ⟨rfl, b1⟩
      have HE1 := Lib.hid (HB0.out.trans (b1.mono HB0.out.size))
      clear b1
      go_wp2_with fail
      go_ret
      exact ⟨rfl, HE1.out⟩
    · have g1 : ¬ (100 : Int) < (n2 : Int) := by omega
      have g2 : (100 : Int) < (n0 : Int) := by omega
      clear hbig q q1
      go_wp2_with fail
      refine HKN.out.mono ?_
      rintro e w1 ⟨rfl, b1⟩
      have HE1 := Lib.hid (HB0.out.trans (b1.mono HB0.out.size))
      clear b1
      go_wp2_with fail
      go_ret
      exact ⟨rfl, HE1.out⟩
    · have g1 : ¬ (100 : Int) < (n2 : Int) := by omega
      have g2 : ¬ (100 : Int) < (n0 : Int) := by omega
      have g3 : (100 : Int) < (n1 : Int) := by omega
      clear hbig q q1 q2
      go_wp2_with fail
      refine HKN.out.mono ?_
      rintro e w1 ⟨rfl, b1⟩
      have HE1 := Lib.hid (HB0.out.trans (b1.mono HB0.out.size))
      clear b1
      go_wp2_with fail
      go_ret
      exact ⟨rfl, HE1.out⟩
    · have g1 : ¬ (100 : Int) < (n2 : Int) := by omega
      have g2 : ¬ (100 : Int) < (n0 : Int) := by omega
      have g3 : ¬ (100 : Int) < (n1 : Int) := by omega
      have g4 : (50 : Int) < (n : Int) := by omega
      clear hbig q q1 q2 q3
      go_wp2_with fail
      refine HKN.out.mono ?_
      rintro e w1 ⟨rfl, b1⟩
      have HE1 := Lib.hid (HB0.out.trans (b1.mono HB0.out.size))
      clear b1
      go_wp2_with fail
      go_ret
      exact ⟨rfl, HE1.out⟩
  have g1 : ¬ (100 : Int) < (n2 : Int) := by omega
  have g2 : ¬ (100 : Int) < (n0 : Int) := by omega
  have g3 : ¬ (100 : Int) < (n1 : Int) := by omega
  have g4 : ¬ (50 : Int) < (n : Int) := by omega
  have hn0 : n0 ≤ 100 := by omega
  have HN8 : Hid (n ≤ 50) := Lib.hid (by omega)
  clear hbig
  go_wp2_with fail
  refine HKN.out.mono ?_
  rintro e w1 ⟨rfl, b1⟩
  have HB1 := Lib.hid b1
  clear b1 HKN a0 a1 a2
  have HBC := Lib.hid (fun (U : World) (hU : Below V.heap.size V U) => (cells3 ((hU.block _ HLT.out).trans HX.out)).1)
  go_wp2_with fail
  go_loopg [7] n0 (fun gk s7 wx => ∃ r : Nat, r + gk = n0 ∧ s7 = .int .i64 r ∧ Hid (∀ i < r, (m.ed.getD i []).length ≤ 20 ∧ ∀ e ∈ m.ed.getD i [], e.2.length ≤ 20) ∧ Hid (Below V.heap.size V wx))
  case atStart => exact ⟨0, by omega, rfl, Lib.hid (fun i hi => absurd hi (Nat.not_lt_zero i)), HB1⟩
  case round =>
    obtain ⟨r, hrg, rfl, HS, HB⟩ := hrel
    obtain ⟨w2, hw2⟩ : ∃ w2, w2 = wr := ⟨_, rfl⟩
    subst hw2
    clear g1 g2 g3 g4
    obtain ⟨a0, a1, a2⟩ := HBC.out _ HB.out
    cases gk with
    | zero =>
      obtain rfl : r = n0 := by omega
      have hlt : ¬ (r : Int) < (r : Int) := by omega
      have hSm := HS.out
      have HBD : Hid (Bd m) := Lib.hid ⟨fun i hi => ⟨(HED.out i hi).1, fun e he => by have := (hSm i (by have := HE.out.1; omega)).2 e he; omega⟩, HFR.out, fun i hi e he => ((HED.out i hi).2 e he).2⟩
      have HMV := Lib.hid (fun (U : World) (hU : Below V.heap.size V U) => (⟨HM.out.step hU, HE.out.1, HE.out.2.1, HE.out.2.2, HBD.out⟩ : MachV U p0 p1 p2 r n1 n2 m))
      have HRS := Lib.hid ((HMV.out _ HB.out).rsound (c0 := c0) (c1 := c1) (c2 := c2))
      obtain ⟨q, hq⟩ : ∃ q, q = sndM m := ⟨_, rfl⟩
      rw [← hq] at HRS
      have HQ : Hid (sndM m = q) := Lib.hid hq.symm
      clear hSm hq
      go_wp2_with fail
      refine HRS.out.mono ?_
      rintro e w3 ⟨rfl, b3⟩
      have HB3 := Lib.hid (HB.out.trans (b3.mono HB.out.size))
      clear b3 HRS a0 a1 a2
      cases q with
      | true =>
        have HST := Lib.hid (fun (U : World) (hU : Below V.heap.size V U) => pstart_c (c0 := c0) (c1 := c1) (c2 := c2) (HMV.out U hU))
        have HRT := Lib.hid (fun (U : World) (hU : Below V.heap.size V U) => rstart_c (c0 := c0) (c1 := c1) (c2 := c2) (HMV.out U hU))
        obtain ⟨a0, a1, a2⟩ := HBC.out _ HB3.out
        go_upto_region 14 with fail
        clear a0 a1 a2
        have hr : Below V.heap.size V w3.drew := HB3.out.drew
        go_region_held3 (fun U => U.cell? ⟨W.heap.size, 0, none⟩ = some (.slice p0 r c0) ∧ U.cell? ⟨W.heap.size, 1, none⟩ = some (.slice p1 n1 c1) ∧ U.cell? ⟨W.heap.size, 2, none⟩ = some (.slice p2 n2 c2))
          (exact HBC.out _ hr)
          (first
            | (go_at_call 13; (refine (HST.out _ hr).mono ?_); rintro ee w4 ⟨v4, o4, rfl, hO4, h4, _, b4⟩; obtain rfl := h4 HQ.out; obtain ⟨Q4, k4, rfl, hI4, _, _, _⟩ := hO4.form; (try have hI5 := InR.step hI5 b4); have hr := hr.trans (b4.mono hr.size))
            | (go_at_call 16; (refine (HRT.out _ hr).mono ?_); rintro ee w5 ⟨v5, o5, rfl, hO5, h5, _, b5⟩; obtain rfl := h5 HQ.out; obtain ⟨Q5, k5, rfl, hI5, _, _, _⟩ := hO5.form; (try have hI4 := InR.step hI4 b5); have hr := hr.trans (b5.mono hr.size))
            | (go_at_call 15; (refine (lsame_c rfl (Nat.le_trans (stL_len _ _) (by have := (gm_of HBD.out HQ.out).k2; show m.tg.length ≤ _; omega)) hI4 hI5).mono ?_); rintro ee w6 ⟨rfl, b6⟩; have hr := hr.trans (b6.mono hr.size)))
        have HBE := Lib.hid (HB0.out.trans (hr.mono HB0.out.size))
        go_wp2_with fail
        go_ret
        exact ⟨rfl, HBE.out⟩
      | false =>
        have HLG := Lib.hid (plong_c (c0 := c0) (c1 := c1) (c2 := c2) (c := c) (HA.out.step HB3.out) (HMV.out _ HB3.out) (InR.step HL.out HB3.out) HN.out (by have := HN8.out; omega))
        obtain ⟨a0, a1, a2⟩ := HBC.out _ HB3.out
        go_wp2_with fail
        refine HLG.out.mono ?_
        rintro e w4 ⟨a, b, rfl, _, h4, b4⟩
        obtain ⟨rfl, rfl⟩ := h4 HQ.out
        have HB4 := Lib.hid (HB3.out.trans (b4.mono HB3.out.size))
        have HST := Lib.hid (pstart_c (c0 := c0) (c1 := c1) (c2 := c2) (HMV.out _ HB4.out))
        clear h4 b4 HLG a0 a1 a2
        obtain ⟨a0, a1, a2⟩ := HBC.out _ HB4.out
        go_wp2_with fail
        refine HST.out.mono ?_
        rintro e w5 ⟨v5, o5, rfl, hO5, _, h5, b5⟩
        obtain rfl := h5 HQ.out
        obtain ⟨Q5, k5, rfl, _, _, _, _⟩ := hO5.form
        have HB5 := Lib.hid (HB4.out.trans (b5.mono HB4.out.size))
        have HSP := Lib.hid (pstep_c (c0 := c0) (c1 := c1) (c2 := c2) (c := c) (r := x) (HA.out.step HB5.out) (HMV.out _ HB5.out) (InR.step HL.out HB5.out) HN.out (by have := HN8.out; omega))
        have hl0 : List.length ([] : List Int) = 0 := rfl
        rw [hl0]
        clear hO5 h5 b5 HST a0 a1 a2
        obtain ⟨a0, a1, a2⟩ := HBC.out _ HB5.out
        go_wp2_with fail
        refine HSP.out.mono ?_
        rintro e w6 ⟨v6, o6, rfl, hO6, _, h6, b6⟩
        obtain rfl := h6 HQ.out
        obtain ⟨Q6, k6, rfl, _, _, _, _⟩ := hO6.form
        have HB6 := Lib.hid (HB5.out.trans (b6.mono HB5.out.size))
        have HTG := Lib.hid (ptags_c (c0 := c0) (c1 := c1) (c2 := c2) (c := c) (HMV.out _ HB6.out) (InR.step HL.out HB6.out) HN.out (by have := HN8.out; omega))
        rw [hl0]
        clear hO6 h6 b6 HSP a0 a1 a2
        obtain ⟨a0, a1, a2⟩ := HBC.out _ HB6.out
        go_wp2_with fail
        refine HTG.out.mono ?_
        rintro e w7 ⟨v7, o7, rfl, hO7, _, _, h7, b7⟩
        obtain rfl := h7 HQ.out
        obtain ⟨Q7, k7, rfl, _, _, _, _⟩ := hO7.form
        have HBE := Lib.hid (HB0.out.trans ((HB6.out.trans (b7.mono HB6.out.size)).mono HB0.out.size))
        rw [hl0]
        clear hO7 h7 b7 HTG a0 a1 a2 hl0
        go_wp2_with fail
        go_ret
        exact ⟨rfl, HBE.out⟩
    | succ gko =>
      have hlt : (r : Int) < (n0 : Int) := by omega
      have h0 : (0 : Int) ≤ (r : Int) := by omega
      have hwr : wrap64 ((r : Int) + 1) = ((r + 1 : Nat) : Int) := by rw [IntWalk.wrap64_in _ (by omega)]; omega
      have hre : r < m.ed.length := by have := HE.out; omega
      obtain ⟨g, o, Pe, ce, rfl, hg, hc0, hedr⟩ := HM.out.ed r hre
      have hed8 := (HED.out r hre).1
      have HSR : Hid ((m.ed[r].length ≤ 20 ∧ ∀ e ∈ m.ed[r], e.2.length ≤ 20) → ∀ i < r + 1, (m.ed.getD i []).length ≤ 20 ∧ ∀ e ∈ m.ed.getD i [], e.2.length ≤ 20) := Lib.hid (fun hh i hi => by
        by_cases e : i = r
        · subst e; rw [row_at hre]; exact hh
        · exact HS.out i (by omega))
      rw [row_at hre] at hed8
      have HSL := Lib.hid (fun e (he : e ∈ m.ed[r]) => ((HED.out r hre).2 e (by rw [row_at hre]; exact he)).1)
      generalize m.ed[r] = es at hc0 hedr HSR hed8 HSL
      obtain ⟨le, hle⟩ : ∃ le, le = es.length := ⟨_, rfl⟩
      rw [← hle] at hc0 hed8
      have HLE := Lib.hid hle
      have HCR := Lib.hid (fun (U : World) (hU : Below V.heap.size V U) => ((hU.cell (p := ⟨g, o + r, none⟩) hg).trans hc0 : U.cell? ⟨g, o + r, none⟩ = some (.slice Pe le ce)))
      have HEDR := Lib.hid hedr
      have HBW := Lib.hid (HB0.out.trans (HB.out.mono HB0.out.size))
      have d5 := HCR.out _ HB.out
      clear hedr hle hg hre hc0
      by_cases h20 : 20 < le
      · have g20 : (20 : Int) < (le : Int) := by omega
        clear h20
        go_wp2_with fail
        go_ret
        exact ⟨rfl, HBW.out⟩
      · have g20 : ¬ (20 : Int) < (le : Int) := by omega
        have hle20 : le ≤ 20 := by omega
        clear h20
        go_wp2_with fail
        go_loopg [8] le (fun gk s8 wx => ∃ j : Nat, j + gk = le ∧ s8 = .int .i64 j ∧ Hid (∀ e ∈ es.take j, e.2.length ≤ 20) ∧ Hid (Below V.heap.size V wx))
        case atStart => exact ⟨0, by omega, rfl, Lib.hid (fun e he => by rw [List.take_zero] at he; cases he), HB⟩
        case round =>
          obtain ⟨j, hjg, rfl, HJ, HB2⟩ := hrel
          clear a0 a1 a2 d5 g20
          obtain ⟨a0, a1, a2⟩ := HBC.out _ HB2.out
          have d5 := HCR.out _ HB2.out
          cases gk with
          | zero =>
            obtain rfl : j = le := by omega
            have hlt2 : ¬ (j : Int) < (j : Int) := by omega
            have HS2 := Lib.hid (HSR.out ⟨by rw [← HLE.out]; exact hle20, fun e he => HJ.out e (by rw [List.take_of_length_le (by have := HLE.out; omega)]; exact he)⟩)
            go_wp2_with fail
            go_roundg gko
            case measure => omega
            case rel => exact ⟨r + 1, by omega, by first | rw [hwr] | rfl | simp, HS2, HB2⟩
          | succ gk =>
            have hlt2 : (j : Int) < (le : Int) := by omega
            have hj0 : (0 : Int) ≤ (j : Int) := by omega
            have hwj : wrap64 ((j : Int) + 1) = ((j + 1 : Nat) : Int) := by rw [IntWalk.wrap64_in _ (by omega)]; omega
            have hjl : j < es.length := by have := HLE.out; omega
            obtain ⟨ga, oa, sp, sc, rfl, hga, c1', c2', hsl5⟩ := HEDR.out.step HB2.out j hjl
            have hl8 := HSL.out es[j] (List.getElem_mem hjl)
            have HTK : Hid (∀ e ∈ es.take (j + 1), e ∈ es.take j ∨ e.2.length = es[j].2.length) := Lib.hid (fun e he => by
              rw [List.take_succ_eq_append_getElem hjl, List.mem_append] at he
              rcases he with he | he
              · exact .inl he
              · simp at he; right; rw [he])
            generalize es[j].2.length = ln at c2' hl8 HTK
            have HBX := Lib.hid (HB0.out.trans (HB2.out.mono HB0.out.size))
            clear c1' hga hsl5 hjl
            by_cases h2 : 20 < ln
            · have g2 : (20 : Int) < (ln : Int) := by omega
              clear h2
              go_wp2_with fail
              go_ret
              exact ⟨rfl, HBX.out⟩
            · have g2 : ¬ (20 : Int) < (ln : Int) := by omega
              have HJ2 : Hid (∀ e ∈ es.take (j + 1), e.2.length ≤ 20) := Lib.hid (fun e he => by
                rcases HTK.out e he with h | h
                · exact HJ.out e h
                · omega)
              clear h2
              go_wp2_with fail
              go_roundg gk
              case measure => omega
              case rel => exact ⟨j + 1, by omega, by first | rw [hwj] | rfl | simp, HJ2, HB2⟩
end Go.Proofs.YtioahgklplbinaaDoor
