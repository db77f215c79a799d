/- The program's Longest, of any machine. -/
import Derived.Test.YtioahgklplbinaaDoorGPub
import Derived.Test.YtioahgklplbinaaDoorGLong
import Derived.Deep.RegionHeld3
import Derived.RegionTactic
import Derived.BigQuiet
namespace Go.Proofs.YtioahgklplbinaaDoor
open Go.RowKit Go.Shelf SetM NfaM SimM
set_option maxRecDepth 100000 in
set_option maxHeartbeats 16000000 in
theorem plong_c {W : World} {p0 p1 p2 P : Option Addr} {n0 n1 k c0 c1 c2 n c : Nat} {m : Mc} {s : List Int} (hA : Aw W) (h : MachV W p0 p1 p2 n0 n1 k m) (hl : InR W P s) (hn : n = s.length) (h8 : n ≤ 9223372036854775807) :
    Calls Tryd.prog 20 #[.agg #[.slice p0 n0 c0, .slice p1 n1 c1, .slice p2 k c2], .slice P n c] W fun e W' => ∃ a b : Int, e = .returned (.tuple #[.int .i64 a, .int .i64 b]) ∧ (sndM m = true → Lng m s s.length a b) ∧ (sndM m = false → a = 0 ∧ b = -1) ∧ Below W.heap.size W W' := by
  obtain ⟨V, hV⟩ : ∃ V, V = W.alloc (.cells #[.slice p0 n0 c0, .slice p1 n1 c1, .slice p2 k c2] 30) := ⟨_, rfl⟩
  have hb : Below W.heap.size W V := by rw [hV]; exact (Below.refl _ _).alloc (Nat.le_refl _) _
  have x0 : V.heap[W.heap.size]? = some (.cells #[.slice p0 n0 c0, .slice p1 n1 c1, .slice p2 k c2] 30 (0, 0)) := by rw [hV]; exact heap_alloc_new W _
  obtain ⟨⟨a0, a1, a2⟩, _⟩ := cells3 x0
  have HMV := Lib.hid (h.step hb)
  have HSN := Lib.hid ((h.step hb).sound (c0 := c0) (c1 := c1) (c2 := c2))
  have HB := Lib.hid hb
  have HX := Lib.hid x0
  have HLT := Lib.hid (Array.getElem?_eq_some_iff.1 x0).1
  have HA := Lib.hid (hA.step hb)
  have HL := Lib.hid (InR.step hl hb)
  have HN := Lib.hid hn
  clear h hb x0 hA hl hn
  obtain ⟨q, hq⟩ : ∃ q, q = sndM m := ⟨_, rfl⟩
  rw [← hq] at HSN
  have HQ : Hid (sndM m = q) := Lib.hid hq.symm
  clear hq
  go_enter Tryd.func20, Tryd.ntmps20
  go_upto_region 1 with fail
  rw [← hV]
  clear hV
  go_step3
  go_wp2_with fail
  refine HSN.out.mono ?_
  rintro e w1 ⟨rfl, b1⟩
  have HB1 := Lib.hid (HB.out.trans (b1.mono HB.out.size))
  have HV1 := Lib.hid b1
  obtain ⟨⟨d0, d1, d2⟩, _⟩ := cells3 ((b1.block _ HLT.out).trans HX.out)
  have HM1 := Lib.hid (HMV.out.step b1)
  clear a0 a1 a2 b1 HSN
  cases q with
  | false =>
    go_wp2_with fail
    try rw [Exit.noGoto_ret]
    go_ret2
    exact ⟨_, _, rfl, fun h => by rw [HQ.out] at h; (cases h), fun _ => ⟨rfl, rfl⟩, HB1.out⟩
  | true =>
    have hg := gm_of HM1.out.bd HQ.out
    have HG := Lib.hid hg
    have HEQ : Hid (n0 = k ∧ n1 = k ∧ k = m.tg.length) := Lib.hid (by have := HM1.out.e0; have := HM1.out.e1; have := HM1.out.e2; have := hg.fr.2.1; have := hg.ed; omega)
    have HST := Lib.hid (start_c (n0 := n0) (n1 := n1) (c0 := c0) (c1 := c1) (c2 := c2) HM1.out.mr hg HEQ.out.2.2 HEQ.out.2.1)
    clear hg
    go_wp2_with fail
    refine HST.out.mono ?_
    rintro e w2 ⟨v, rfl, hO, b2⟩
    have HO := Lib.hid (show OwI w2 w1.heap.size v (goF m (s.take 0)) by rw [List.take_zero, go_zero]; exact hO)
    have HB2 := Lib.hid b2
    have HLE : Hid (∀ r, (goF m (s.take r)).length ≤ 100000) := Lib.hid (fun r => by
      have h1 : ∀ (u : List Int), (goF m u).length ≤ m.len := fun u => by
        rcases snoc_cases u with rfl | ⟨u', x, rfl⟩
        · rw [go_zero]; exact stL_len _ _
        · rw [go_snoc]; exact stL_len _ _
      have h2 := HG.out.k2
      have h3 := h1 (s.take r)
      have h4 : m.len = m.tg.length := rfl
      omega)
    clear hO b2 d0 d1 d2 HST
    go_wp2_with fail
    go_step3
    go_wp2_with fail
    go_loopg [6, 7, 8, 19] n (fun gk s6 s7 s8 s19 wx => ∃ (r : Nat) (a b : Int) (v : Value), r + gk = n ∧ s19 = .int .i64 r ∧ s6 = .int .i64 a ∧ s7 = .int .i64 b ∧ v = s8 ∧ Hid (Lng m s r a b) ∧ Hid (OwI wx w1.heap.size v (goF m (s.take r))) ∧ Hid (Below w1.heap.size w1 wx))
    case atStart => exact ⟨0, 0, -1, _, by omega, rfl, rfl, rfl, rfl, Lib.hid (Lng.zero m s), HO, HB2⟩
    case round =>
      obtain ⟨r, a, b, v8, hrg, rfl, rfl, rfl, rfl, HLG, HO8, HW⟩ := hrel
      cases gk with
      | zero =>
        obtain rfl : r = n := by omega
        have hlt : ¬ (r : Int) < (r : Int) := by omega
        have HE : Hid (Lng m s s.length a b) := Lib.hid (by rw [← HN.out]; exact HLG.out)
        have HBE := Lib.hid (HB1.out.trans (HW.out.mono HB1.out.size))
        go_wp2_with fail
        try rw [Exit.noGoto_ret]
        go_ret2
        exact ⟨_, _, rfl, fun _ => HE.out, fun h => by rw [HQ.out] at h; (cases h), HBE.out⟩
      | succ gk =>
        have hlt : (r : Int) < (n : Int) := by omega
        have hrl : r < s.length := by have := HN.out; omega
        have h0 : (0 : Int) ≤ (r : Int) := by omega
        have hwr : wrap64 ((r : Int) + 1) = ((r + 1 : Nat) : Int) := by rw [IntWalk.wrap64_in _ (by omega)]; omega
        have hVW : Below V.heap.size V wr := HV1.out.trans (HW.out.mono HV1.out.size)
        obtain ⟨⟨d0, d1, d2⟩, _⟩ := cells3 ((hVW.block _ HLT.out).trans HX.out)
        obtain ⟨g5, o5, rfl, hg5, hc5⟩ := HL.out r hrl
        have hc6 := (hVW.cell (p := ⟨g5, o5 + r, none⟩) hg5).trans hc5
        clear hc5
        obtain ⟨x, hx⟩ : ∃ x, x = s[r] := ⟨_, rfl⟩
        rw [← hx] at hc6
        obtain ⟨Q8, c8, rfl, hIn, _, _, _⟩ := HO8.out.form
        have hl8 := HLE.out r
        have HGT : Hid (goF m (s.take (r + 1)) = stepF m (goF m (s.take r)) x) := Lib.hid (by rw [go_take m hrl, hx])
        have HST := Lib.hid (step_c (n0 := n0) (n1 := n1) (c0 := c0) (c1 := c1) (c2 := c2) (c := c8) (r := x) (HA.out.step hVW) (HMV.out.mr.step hVW) HG.out HEQ.out.2.2 HEQ.out.1 HEQ.out.2.1 hIn rfl (by omega))
        obtain ⟨l8, hl8e⟩ : ∃ l8, l8 = (goF m (s.take r)).length := ⟨_, rfl⟩
        rw [← hl8e] at HST ⊢
        have HBW := Lib.hid hVW
        clear hg5 hx hIn hl8 hVW hrl hl8e
        go_wp2_with fail
        refine HST.out.mono ?_
        rintro e w3 ⟨v3, rfl, hO3, b3⟩
        rw [← HGT.out] at hO3
        obtain ⟨Q3, c3, rfl, hIn3, _, _, _⟩ := hO3.form
        have hl3 := HLE.out (r + 1)
        have hV3 : Below V.heap.size V w3 := HBW.out.trans (b3.mono HBW.out.size)
        obtain ⟨⟨f0, f1, f2⟩, _⟩ := cells3 ((hV3.block _ HLT.out).trans HX.out)
        have HTG := Lib.hid (tags_c (n0 := n0) (n1 := n1) (c0 := c0) (c1 := c1) (c2 := c2) (c := c3) (HMV.out.mr.step hV3) (by have := HG.out.k2; have := HEQ.out; omega) HEQ.out.2.2 hIn3 rfl (by omega))
        obtain ⟨l3, hl3e⟩ : ∃ l3, l3 = (goF m (s.take (r + 1))).length := ⟨_, rfl⟩
        have HO3 := Lib.hid (hO3.low (show w1.heap.size ≤ wr.heap.size from HW.out.size))
        rw [← hl3e] at HTG HO3 ⊢
        have HL3 := Lib.hid hl3e
        have HW3 := Lib.hid (HW.out.trans (b3.mono HW.out.size))
        clear hO3 hIn3 hl3 hV3 b3 d0 d1 d2 hc6 HST hl3e
        go_wp2_with fail
        refine HTG.out.mono ?_
        rintro e w4 ⟨v4, o, rfl, hO4, hle4, hI4, b4⟩
        obtain ⟨Q4, c4, rfl, hIn4, _, _, _⟩ := hO4.form
        have HW4 := Lib.hid (HW3.out.trans (b4.mono HW3.out.size))
        have HO4 := Lib.hid (OwI.below HO3.out b4)
        have HI4 := Lib.hid hI4
        have HIN4 := Lib.hid hIn4
        obtain ⟨lo, hlo⟩ : ∃ lo, lo = o.length := ⟨_, rfl⟩
        rw [← hlo]
        have HLO := Lib.hid hlo
        clear hO4 hle4 hI4 hIn4 b4 f0 f1 f2 HTG hlo
        by_cases hz : l3 = 0
        · have HE : Hid (Lng m s s.length a b) := Lib.hid (by
            have hnil : goF m (s.take (r + 1)) = [] := List.eq_nil_of_length_eq_zero (by rw [← HL3.out]; exact hz)
            have h1 : Lng m s (r + 1) a b := HLG.out.no (fun t => by rw [hnil]; exact no_tag m t)
            rcases h1.stop hnil with h2 | h2
            · exact h2
            · have := HN.out; omega)
          have HBE := Lib.hid (HB1.out.trans (HW4.out.mono HB1.out.size))
          have g1 : ((l3 : Int) == 0) = true := by rw [beq_iff_eq]; omega
          clear hz
          go_wp2_with fail
          try rw [Exit.noGoto_ret]
          go_ret2
          exact ⟨_, _, rfl, fun _ => HE.out, fun h => by rw [HQ.out] at h; (cases h), HBE.out⟩
        · have g1 : ((l3 : Int) == 0) = false := by rw [beq_eq_false_iff_ne]; omega
          clear hz
          cases o with
          | nil =>
            have e0 : lo = 0 := HLO.out
            have g2 : ¬ (0 : Int) < (lo : Int) := by omega
            have HL5 : Hid (Lng m s (r + 1) a b) := Lib.hid (HLG.out.no (fun t ht => by have := (HI4.out.mem t).2 ht; cases this))
            clear e0
            go_wp2_with fail
            go_roundg gk
            case measure => omega
            case rel => exact ⟨r + 1, a, b, _, by omega, by first | rw [hwr] | rfl | simp, rfl, rfl, rfl, HL5, HO4, HW4⟩
          | cons t o =>
            have g2 : (0 : Int) < (lo : Int) := by have : lo = (t :: o).length := HLO.out; rw [List.length_cons] at this; omega
            obtain ⟨g6, o6, rfl, hg6, hc6⟩ := HIN4.out 0 (by simp)
            have hc7 : w4.cell? ⟨g6, o6, none⟩ = some (.int .i64 t) := hc6
            have HL5 : Hid (Lng m s (r + 1) ((r : Int) + 1) t) := Lib.hid (Lng.yes ((HI4.out.mem t).1 (by simp)) (fun u hu => by
              rcases List.mem_cons.1 ((HI4.out.mem u).2 hu) with h | h
              · omega
              · have := (List.pairwise_cons.1 HI4.out.rise).1 u h; omega))
            have hr1 : wrap64 ((r : Int) + 1) = (r : Int) + 1 := IntWalk.wrap64_in _ (by omega)
            clear hg6 hc6
            go_wp2_with fail
            go_region
            all_goals
              clear hc7
              go_wp2_with fail
              go_roundg gk
              case measure => omega
              case rel => exact ⟨r + 1, (r : Int) + 1, t, _, by omega, by first | rw [hwr] | rfl | simp, by first | rfl | rw [hr1] | simp, rfl, rfl, HL5, HO4, HW4.out.drew |> Lib.hid⟩
end Go.Proofs.YtioahgklplbinaaDoor
