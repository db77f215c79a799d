/- fold.gather by the runs' way back. -/
import Derived.Test.YtmmghgfkpndokaaDoorFGather
namespace Go.Proofs.YtmmghgfkpndokaaDoor
open Go.RowKit Go.Shelf SetM

set_option maxRecDepth 100000 in
set_option maxHeartbeats 4000000 in
theorem gather_back (A : Option Addr) (ca : Nat) (xs : List Sp) (hlen : xs.length ≤ 100000000) (hca : A = none → ca = 0) (w : World) (hR : Runs w) (hS : Sl w A xs) :
    Calls Tryd.prog 24 #[.slice A xs.length ca, .func (.func 27) #[] #[]] w fun e w' => ∃ v, e = .returned v ∧ w'.ownsRow w.heap.size 30 2 v (gatherL backS xs).length (cellsS (gatherL backS xs)) ∧ Below w.heap.size w w' := by
  obtain ⟨i0, hi, hz0, hz1, hz2⟩ := info_parts infoS
  have HR := Lib.hid hR
  have HS := Lib.hid hS
  have HCA := Lib.hid hca
  clear hR hS hca
  go_enter Tryd.func24, Tryd.ntmps24
  go_wp2_with (refine wpList_load_runs rfl _ rfl rfl HR.out ?_)
  have HIX := Lib.hid runs_ix
  generalize runsV = V at *
  go_loopg [5, 14] 13 (fun g s5 s14 wx => ∃ k : Nat, k + g = 13 ∧ s14 = .int .i64 k ∧ wx.ownsRow w.heap.size 30 2 s5 (outL backS xs k).length (cellsS (outL backS xs k)) ∧ Below w.heap.size w wx)
  case atStart => exact ⟨0, by omega, rfl, World.ownsRow_nil _ _ _ _, Below.refl _ _⟩
  case round =>
    obtain ⟨k, hkg, rfl, hown, hb⟩ := hrel
    cases gk with
    | zero =>
      have hkz : ¬ ((k : Int) < 13) := by omega
      obtain rfl : k = 13 := by omega
      have hlo := outL_len backS (fun u s => moveS_len _ _ _ _) xs 13 (Nat.le_refl _)
      have hsl : Sl wr A xs := (HS.out.step hb)
      have hsz := hb.size
      go_wp2_with (at_builtin; refine wpList_append_spans rfl _ _ rfl w.heap.size _ _ _ rfl hown A ca xs rfl hsl HCA.out (by omega) hsz ?_; intro v' w2 hown2 hg2)
      go_ret
      exact ⟨_, rfl, by rw [gatherL_out, cellsS_append, List.length_append]; exact hown2, hb.grown hg2 hsz (fun j hj => (hown.lt j hj).1)⟩
    | succ g =>
      have hk : k < 13 := by omega
      have hkz : (k : Int) < 13 := by omega
      have hix := HIX.out k hk
      have hbd := run_bounds (runAt_mem k hk)
      have HN := Lib.hid (outL_succ backS xs k hk)
      have HLO := Lib.hid (outL_len backS (fun u s => moveS_len _ _ _ _) xs k (by omega))
      have HW := Lib.hid (back_any (runAt k) hbd)
      generalize runAt k = u at *
      obtain ⟨a, b, c⟩ := u
      dsimp only at hix hbd
      have hsz := hb.size
      have hb1 := hb.alloc hsz (.cells #[.int .i64 a, .int .i64 b, .int .i64 c] 46)
      have hown1 := hown.alloc (.cells #[.int .i64 a, .int .i64 b, .int .i64 c] 46)
      clear hb
      go_wp2_with (go_at_call 27; refine (HW.out _).mono ?_; rintro e w2 ⟨v2, rfl, hmv, hb2⟩)
      obtain ⟨b1, b2, b3, rfl, hmb⟩ := hmv
      have hown2 := own_belowF hown1 hb2
      have hbw := hb1.trans (hb2.mono hb1.size)
      have HST := Lib.hid (step_bd (show 65 ≤ (a, b, c).1 ∧ (a, b, c).1 ≤ (a, b, c).2.1 ∧ (a, b, c).2.1 ≤ 8491 ∧ 97 ≤ (a, b, c).2.2 ∧ (a, b, c).2.2 ≤ 1104 from hbd))
      have HAS : Hid (∀ s, backS (a, b, c) s = moveS (a + stepR (a, b, c)) (b + stepR (a, b, c)) (-stepR (a, b, c)) s) := Lib.hid (fun _ => rfl)
      have hone := Lib.hid (fun l : List Sp => flatMap_len (backS (a, b, c)) (fun s => moveS_len _ _ _ _) l)
      obtain ⟨h1, h2, h3, h4⟩ : 0 ≤ (a + stepR (a, b, c)) ∧ (b + stepR (a, b, c)) ≤ 20000 ∧ -20000 ≤ (-stepR (a, b, c)) ∧ (-stepR (a, b, c)) ≤ 20000 := by have := HST.out; dsimp only at this ⊢; omega
      have HTN := Lib.hid (fun j hj => take_next (backS (a, b, c)) xs j hj)
      have hmb : MovB w2 b1 b2 b3 (a + stepR (a, b, c)) (b + stepR (a, b, c)) (-stepR (a, b, c)) := hmb
      clear hown1 hb1 hb2 hown hix hbd HST
      generalize outL backS xs k = Lk at *
      generalize backS (a, b, c) = way at *
      generalize hst : (-stepR (a, b, c)) = st0 at *
      generalize hlo : (a + stepR (a, b, c)) = lo0 at *
      generalize hhi : (b + stepR (a, b, c)) = hi0 at *
      clear hlo hhi
      clear hst hsz HW hkz
      go_loopg [5, 22] xs.length (fun g2 s5 s22 wy => ∃ j : Nat, j + g2 = xs.length ∧ s22 = .int .i64 j ∧ wy.ownsRow w.heap.size 30 2 s5 (Lk ++ (xs.take j).flatMap way).length (cellsS (Lk ++ (xs.take j).flatMap way)) ∧ Below w.heap.size w wy ∧ MovB wy b1 b2 b3 lo0 hi0 st0)
      case atStart => exact ⟨0, by omega, rfl, by simpa using hown2, hbw, hmb⟩
      case round =>
        obtain ⟨j, hjg, rfl, hown3, hb3, hm3⟩ := hrel
        clear hown2 hbw hmb
        cases gk with
        | zero =>
          have hjz : ¬ ((j : Int) < (xs.length : Int)) := by omega
          rw [List.take_of_length_le (by omega), ← HN.out] at hown3
          go_wp2
          go_roundg g
          case measure => omega
          case rel => exact ⟨k + 1, by omega, by go_num, hown3, hb3⟩
        | succ g2 =>
          have hj : j < xs.length := by omega
          have hjz : (j : Int) < (xs.length : Int) := by omega
          obtain ⟨bb, off, rfl, hbb, hc⟩ := (HS.out.step hb3) (by intro h; rw [h] at hj; simp at hj)
          obtain ⟨c0, c1⟩ := hc j hj
          have HNX := Lib.hid (HTN.out j hj)
          have hlen1 := hone.out (xs.take j)
          have hlt : (xs.take j).length ≤ xs.length := by rw [List.length_take]; omega
          have hll : (Lk ++ (xs.take j).flatMap way).length ≤ 14 * xs.length := by rw [List.length_append]; have := HLO.out; omega
          clear hc hlen1 hlt
          generalize xs[j] = s at *
          obtain ⟨x, y⟩ := s
          dsimp only at c0 c1
          have hsz := hb3.size
          have hb4 := hb3.alloc hsz (.cells #[.int .i64 x, .int .i64 y] 30)
          have hm4 := hm3.alloc (.cells #[.int .i64 x, .int .i64 y] 30)
          have hown4 := hown3.alloc (.cells #[.int .i64 x, .int .i64 y] 30)
          have HMV := Lib.hid (move_any lo0 hi0 st0 (x, y) b1 b2 b3 _ hm4 h1 h2 h3 h4)
          generalize hL : (Lk ++ (xs.take j).flatMap way) = L at *
          have HL := Lib.hid hL
          clear hL
          clear hm3 hown3 hb3
          by_cases hmn : max x lo0 ≤ min y hi0
          · have hmv : movedV lo0 hi0 st0 (x, y) = .tuple #[.agg #[.int .i64 (max x lo0 + st0), .int .i64 (min y hi0 + st0)], .bool true] := by unfold movedV; rw [if_pos hmn]
            rw [hmv] at HMV
            have HWY : Hid (way (x, y) = [(max x lo0 + st0, min y hi0 + st0)]) := Lib.hid (by rw [HAS.out]; unfold moveS; rw [if_pos hmn])
            generalize max x lo0 + st0 = m0 at *
            generalize min y hi0 + st0 = m1 at *
            clear hmv hmn
            go_wp2_with (first | (go_at_call 37; refine HMV.out.mono ?_; rintro e w5 ⟨rfl, hb5⟩; have ho5 := (own_belowF hown4 hb5).alloc (.cells #[.int .i64 m0, .int .i64 m1] 30); have hz5 := hb5.size) | (at_builtin; refine wpList_append_own _ rfl _ _ 26 rfl w.heap.size 30 i0 (.agg #[.int .i64 0, .int .i64 0]) 2 16 Tryd.underlying26 hi hz0 hz1 hz2 rfl (by decide) _ _ _ rfl (ho5.alloc _) ⟨w5.heap.size + 1, 0, none⟩ 1 1 [.int .i64 m0, .int .i64 m1] rfl rfl (news_after w5 _ _ _) (by simp [Value.oneCell']) (by unfold maxLen; omega) (by omega) (by have := hb4.size; rw [World.size_alloc, World.size_alloc]; omega) ?_; intro v' w6 hown' hgrow _))
            go_roundg g2
            case measure => omega
            case rel =>
              have hb6 : Below w.heap.size w ((w5.alloc (.cells #[.int .i64 m0, .int .i64 m1] 30)).alloc (.cells #[.int .i64 m0, .int .i64 m1] 30)) := ((hb4.trans (hb5.mono hb4.size)).alloc (by have := hb4.size; omega) _).alloc (by have := hb4.size; rw [World.size_alloc]; omega) _
              refine ⟨j + 1, by omega, by go_num, ?_, hb6.grown hgrow hb6.size (fun j hj => (ho5.lt j hj).1), (((hm4.below hb5).alloc _).alloc _).kept hgrow (fun r hr => ?_)⟩
              · rw [HNX.out, HWY.out, ← List.append_assoc, HL.out, cellsS_append, List.length_append]; exact hown'
              · obtain ⟨cs, h⟩ := own_rowAtF (ho5.alloc _) r hr
                exact ⟨cs, _, h, by decide⟩
          · have hmv : movedV lo0 hi0 st0 (x, y) = .tuple #[.agg #[.int .i64 0, .int .i64 0], .bool false] := by unfold movedV; rw [if_neg hmn]
            rw [hmv] at HMV
            have HWY : Hid (way (x, y) = []) := Lib.hid (by rw [HAS.out]; unfold moveS; rw [if_neg hmn])
            clear hmv hmn
            go_wp2_with (go_at_call 37; refine HMV.out.mono ?_; rintro e w5 ⟨rfl, hb5⟩)
            go_roundg g2
            case measure => omega
            case rel => exact ⟨j + 1, by omega, by go_num, by rw [HNX.out, HWY.out, List.append_nil, HL.out]; exact (own_belowF hown4 hb5).alloc _, (hb4.trans (hb5.mono hb4.size)).alloc (by have := hb4.size; have := hb5.size; omega) _, (hm4.below hb5).alloc _⟩
end Go.Proofs.YtmmghgfkpndokaaDoor
