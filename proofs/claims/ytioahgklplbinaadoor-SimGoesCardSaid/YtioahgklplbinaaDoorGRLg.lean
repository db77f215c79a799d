/- The document's Longest, of a machine that may be. -/
import Derived.Test.YtioahgklplbinaaDoorGRTags
import Derived.Test.YtioahgklplbinaaDoorGRStep
import Derived.Test.YtioahgklplbinaaDoorGLong
import Derived.Deep.RegionHeld3
import Derived.RegionTactic
import Derived.BigQuiet
namespace Go.Proofs.YtioahgklplbinaaDoor
open Go.RowKit Go.Shelf SetM NfaM SimM
set_option maxRecDepth 100000 in
set_option maxHeartbeats 16000000 in
theorem rlong_c {W : World} {p0 p1 p2 P : Option Addr} {n0 n1 k c0 c1 c2 n c : Nat} {m : Mc} {s : List Int} (h : MachV W p0 p1 p2 n0 n1 k m) (hs : sndM m = true) (hl : InR W P s) (hn : n = s.length) (h8 : n ≤ 100000) :
    Calls Tryd.prog 21 #[.agg #[.slice p0 n0 c0, .slice p1 n1 c1, .slice p2 k c2], .slice P n c] W fun e W' => ∃ a b : Int, e = .returned (.tuple #[.int .i64 a, .int .i64 b]) ∧ Lng m s s.length a b ∧ Below W.heap.size W W' := by
  obtain ⟨V, hV⟩ : ∃ V, V = W.alloc (.cells #[.slice p0 n0 c0, .slice p1 n1 c1, .slice p2 k c2] 30) := ⟨_, rfl⟩
  have hb : Below W.heap.size W V := by rw [hV]; exact (Below.refl _ _).alloc (Nat.le_refl _) _
  have x0 : V.heap[W.heap.size]? = some (.cells #[.slice p0 n0 c0, .slice p1 n1 c1, .slice p2 k c2] 30 (0, 0)) := by rw [hV]; exact heap_alloc_new W _
  obtain ⟨⟨a0, a1, a2⟩, _⟩ := cells3 x0
  have HMV := Lib.hid (h.step hb)
  have HB := Lib.hid hb
  have HLT := Lib.hid (Array.getElem?_eq_some_iff.1 x0).1
  have HL := Lib.hid (InR.step hl hb)
  have HN := Lib.hid hn
  have HS := Lib.hid hs
  have HG := Lib.hid (gm_of h.bd hs)
  have HBC : Hid (∀ U, Below V.heap.size V U → U.cell? ⟨W.heap.size, 0, none⟩ = some (.slice p0 n0 c0) ∧ U.cell? ⟨W.heap.size, 1, none⟩ = some (.slice p1 n1 c1) ∧ U.cell? ⟨W.heap.size, 2, none⟩ = some (.slice p2 k c2)) := Lib.hid (fun U hU => (cells3 ((hU.block _ (Array.getElem?_eq_some_iff.1 x0).1).trans x0)).1)
  have HST := Lib.hid (rstart_c (c0 := c0) (c1 := c1) (c2 := c2) (h.step hb))
  have HLE : Hid (∀ r, (goF m (s.take r)).length ≤ 100000) := Lib.hid (fun r => by
    have h1 : ∀ (u : List Int), (goF m u).length ≤ m.len := fun u => by
      rcases snoc_cases u with rfl | ⟨u', x, rfl⟩
      · rw [go_zero]; exact stL_len _ _
      · rw [go_snoc]; exact stL_len _ _
    have h2 := HG.out.k2
    have h3 := h1 (s.take r)
    have h4 : m.len = m.tg.length := rfl
    omega)
  clear h hb x0 hl hn hs
  go_enter Tryd.func21, Tryd.ntmps21
  go_upto_region 1 with fail
  rw [← hV]
  clear hV
  go_wp2_with fail
  refine HST.out.mono ?_
  rintro e w2 ⟨v, o, rfl, hO, h1, _, b2⟩
  obtain rfl := h1 HS.out
  have HO := Lib.hid (show OwI w2 V.heap.size v (goF m (s.take 0)) by rw [List.take_zero, go_zero]; exact hO)
  have HB2 := Lib.hid b2
  clear hO h1 b2 a0 a1 a2 HST
  go_wp2_with fail
  try go_step3
  go_loopg [6, 7, 8, 9] n (fun gk s6 s7 s8 s9 wx => ∃ (r : Nat) (a b : Int) (v : Value), r + gk = n ∧ s9 = .int .i64 r ∧ s7 = .int .i64 a ∧ s8 = .int .i64 b ∧ v = s6 ∧ Hid (Lng m s r a b) ∧ Hid (OwI wx V.heap.size v (goF m (s.take r))) ∧ Hid (Below V.heap.size V wx))
  case atStart => exact ⟨0, 0, -1, _, by omega, rfl, rfl, rfl, rfl, Lib.hid (Lng.zero m s), HO, HB2⟩
  case round =>
    obtain ⟨r, a, b, v8, hrg, rfl, rfl, rfl, rfl, HLG, HO8, HW⟩ := hrel
    cases gk with
    | zero =>
      obtain rfl : r = n := by omega
      have hlt : ¬ (r : Int) < (r : Int) := by omega
      have HE : Hid (Lng m s s.length a b) := Lib.hid (by rw [← HN.out]; exact HLG.out)
      have HBE := Lib.hid (HB.out.trans (HW.out.mono HB.out.size))
      go_wp2_with fail
      try rw [Exit.noGoto_ret]
      go_ret2
      exact ⟨_, _, rfl, HE.out, HBE.out⟩
    | succ gk =>
      have hlt : (r : Int) < (n : Int) := by omega
      have hrl : r < s.length := by have := HN.out; omega
      have h0 : (0 : Int) ≤ (r : Int) := by omega
      have hwr : wrap64 ((r : Int) + 1) = ((r + 1 : Nat) : Int) := by rw [IntWalk.wrap64_in _ (by omega)]; omega
      obtain ⟨g5, o5, rfl, hg5, hc5⟩ := HL.out r hrl
      obtain ⟨x, hx⟩ : ∃ x, x = s[r] := ⟨_, rfl⟩
      rw [← hx] at hc5
      have HCL : Hid (∀ U, Below V.heap.size V U → (U.cell? ⟨W.heap.size, 0, none⟩ = some (.slice p0 n0 c0) ∧ U.cell? ⟨W.heap.size, 1, none⟩ = some (.slice p1 n1 c1) ∧ U.cell? ⟨W.heap.size, 2, none⟩ = some (.slice p2 k c2)) ∧ U.cell? ⟨g5, o5 + r, none⟩ = some (.int .i64 x)) := Lib.hid (fun U hU => ⟨HBC.out U hU, (hU.cell (p := ⟨g5, o5 + r, none⟩) hg5).trans hc5⟩)
      obtain ⟨Q8, c8, rfl, hIn, _, _, _⟩ := HO8.out.form
      have HGT : Hid (goF m (s.take (r + 1)) = stepF m (goF m (s.take r)) x) := Lib.hid (by rw [go_take m hrl, hx])
      have HST := Lib.hid (fun (U : World) (hU : Below V.heap.size V U) (hU2 : Below wr.heap.size wr U) => rstep_c (c0 := c0) (c1 := c1) (c2 := c2) (c := c8) (r := x) (HMV.out.step hU) (InR.step hIn hU2) rfl (by have := HLE.out r; omega))
      obtain ⟨l8, hl8e⟩ : ∃ l8, l8 = (goF m (s.take r)).length := ⟨_, rfl⟩
      rw [← hl8e] at HST ⊢
      clear hg5 hx hIn hrl hl8e hc5
      go_upto_region 7 with fail
      have hr : Below V.heap.size V wr.drew := HW.out.drew
      have hr2 : Below wr.heap.size wr wr.drew := (Below.refl _ _).drew
      obtain ⟨⟨a0, a1, a2⟩, a3⟩ := HCL.out _ hr
      go_region_held3 (fun U => (U.cell? ⟨W.heap.size, 0, none⟩ = some (.slice p0 n0 c0) ∧ U.cell? ⟨W.heap.size, 1, none⟩ = some (.slice p1 n1 c1) ∧ U.cell? ⟨W.heap.size, 2, none⟩ = some (.slice p2 k c2)) ∧ U.cell? ⟨g5, o5 + r, none⟩ = some (.int .i64 x))
        (exact HCL.out _ hr)
        (first
          | (go_at_call 19; (refine (HST.out _ hr hr2).mono ?_); rintro ee w4 ⟨v4, o4, rfl, hO4, h4, _, b4⟩; obtain rfl := h4 HS.out; have hr := hr.trans (b4.mono hr.size); have HW4 := Lib.hid b4))
      all_goals
        rw [← HGT.out] at hO4
        have HR := Lib.hid hr
        obtain ⟨Q3, c3, rfl, hIn3, _, _, _⟩ := hO4.form
        have HTG := Lib.hid (rtags_c (c0 := c0) (c1 := c1) (c2 := c2) (c := c3) (HMV.out.step hr) hIn3 rfl (HLE.out (r + 1)))
        obtain ⟨l3, hl3e⟩ : ∃ l3, l3 = (goF m (s.take (r + 1))).length := ⟨_, rfl⟩
        have HO3 := Lib.hid (hO4.low (show V.heap.size ≤ wr.heap.size from HW.out.size))
        rw [← hl3e] at HTG HO3 ⊢
        clear hO4 h4 hIn3 b4 a0 a1 a2 a3 HST hl3e hr hr2
        obtain ⟨a0, a1, a2⟩ := HBC.out _ HR.out
        go_wp2_with fail
        refine HTG.out.mono ?_
        rintro e w5 ⟨v5, o, rfl, hO5, h5, _, b5⟩
        have hI5 := h5 HS.out
        obtain ⟨Q5, c5, rfl, hIn5, _, _, _⟩ := hO5.form
        have HW5 := Lib.hid (HR.out.trans (b5.mono HR.out.size))
        have HO5 := Lib.hid (OwI.below HO3.out b5)
        have HI5 := Lib.hid hI5
        have HIN5 := Lib.hid hIn5
        obtain ⟨lo, hlo⟩ : ∃ lo, lo = o.length := ⟨_, rfl⟩
        rw [← hlo]
        have HLO := Lib.hid hlo
        clear hO5 h5 hI5 hIn5 b5 a0 a1 a2 HTG hlo
        cases o with
        | nil =>
          have e0 : lo = 0 := HLO.out
          have g2 : ¬ (0 : Int) < (lo : Int) := by omega
          have HL5 : Hid (Lng m s (r + 1) a b) := Lib.hid (HLG.out.no (fun t ht => by have := (HI5.out.mem t).2 ht; cases this))
          clear e0
          go_wp2_with fail
          go_roundg gk
          case measure => omega
          case rel => exact ⟨r + 1, a, b, _, by omega, by first | rw [hwr] | rfl | simp, rfl, rfl, rfl, HL5, HO5, HW5⟩
        | cons t o =>
          have g2 : (0 : Int) < (lo : Int) := by have : lo = (t :: o).length := HLO.out; rw [List.length_cons] at this; omega
          obtain ⟨g6, o6, rfl, hg6, hc6⟩ := HIN5.out 0 (by simp)
          have hc7 : w5.cell? ⟨g6, o6, none⟩ = some (.int .i64 t) := hc6
          have HL5 : Hid (Lng m s (r + 1) ((r : Int) + 1) t) := Lib.hid (Lng.yes ((HI5.out.mem t).1 (by simp)) (fun u hu => by
            rcases List.mem_cons.1 ((HI5.out.mem u).2 hu) with h | h
            · omega
            · have := (List.pairwise_cons.1 HI5.out.rise).1 u h; omega))
          have hr1 : wrap64 ((r : Int) + 1) = (r : Int) + 1 := IntWalk.wrap64_in _ (by omega)
          clear hg6 hc6
          go_wp2_with fail
          go_roundg gk
          case measure => omega
          case rel => exact ⟨r + 1, (r : Int) + 1, t, _, by omega, by first | rw [hwr] | rfl | simp, by first | rfl | rw [hr1] | simp, rfl, rfl, HL5, HO5, HW5⟩
end Go.Proofs.YtioahgklplbinaaDoor
