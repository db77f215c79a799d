/- FGather, FAhead, FBack, FClose, in one text. -/
import Derived.Test.YtahgljglleeloaaGreatDoorFA
import Derived.Test.YtahgljglleeloaaGreatDoorSD
import Derived.Laws.AppendOwnNone
import Derived.Test.YtahgljglleeloaaGreatDoorMathA
/- fold.gather: a list, and what each run moves of it. -/
namespace Go.Proofs.YtahgljglleeloaaGreatDoor
open Go.RowKit Go.Shelf SetM

theorem news_after (w : World) (o : Obj) (cs : List Value) (t : TypeId) : ∀ j u, cs[j]? = some u → ((w.alloc o).alloc (.cells cs.toArray t)).cell? ((⟨w.heap.size + 1, 0, none⟩ : Addr).add j) = some u := by
  have h := cell_news (w.alloc o) cs t
  rw [World.size_alloc] at h
  exact h
/-- What the first k runs move of a list; of j spans by one run more. -/
def outL (way : Rn → Sp → List Sp) (l : List Sp) (k : Nat) : List Sp := (runsL.take k).flatMap fun u => l.flatMap (way u)
theorem gatherL_out (way : Rn → Sp → List Sp) (l : List Sp) : gatherL way l = outL way l 13 ++ l := rfl
theorem outL_succ (way : Rn → Sp → List Sp) (l : List Sp) (k : Nat) (hk : k < 13) : outL way l (k + 1) = outL way l k ++ l.flatMap (way (runAt k)) := by
  unfold outL runAt
  rw [List.getElem?_eq_getElem (by exact hk), List.take_succ_eq_append_getElem (by exact hk), List.flatMap_append]
  simp
theorem flatMap_len (way : Sp → List Sp) (hw : ∀ s, (way s).length ≤ 1) (l : List Sp) : (l.flatMap way).length ≤ l.length := by
  induction l with
  | nil => simp
  | cons s t ih => rw [List.flatMap_cons, List.length_append, List.length_cons]; have := hw s; omega
theorem outL_len (way : Rn → Sp → List Sp) (hw : ∀ u s, (way u s).length ≤ 1) (l : List Sp) (k : Nat) (hk : k ≤ 13) : (outL way l k).length ≤ 13 * l.length := by
  have h2 : ∀ m : List Rn, (m.flatMap fun u => l.flatMap (way u)).length ≤ m.length * l.length := by
    intro m
    induction m with
    | nil => simp
    | cons u t ih => rw [List.flatMap_cons, List.length_append, List.length_cons, Nat.add_mul]; have := flatMap_len (way u) (hw u) l; omega
  have h3 := h2 (runsL.take k)
  have h4 : (runsL.take k).length = k := by rw [List.length_take]; show min k 13 = k; omega
  rw [h4] at h3
  exact Nat.le_trans h3 (Nat.mul_le_mul_right _ hk)
theorem step_bd {u : Rn} (h : 65 ≤ u.1 ∧ u.1 ≤ u.2.1 ∧ u.2.1 ≤ 8491 ∧ 97 ≤ u.2.2 ∧ u.2.2 ≤ 1104) : 65 ≤ u.1 ∧ u.2.1 ≤ 8491 ∧ 0 ≤ u.1 + stepR u ∧ u.2.1 + stepR u ≤ 20000 ∧ -10000 ≤ stepR u ∧ stepR u ≤ 10000 := by
  obtain ⟨a, b, c⟩ := u
  unfold stepR
  dsimp only at *
  omega
theorem take_next (way : Sp → List Sp) (l : List Sp) (j : Nat) (hj : j < l.length) : (l.take (j + 1)).flatMap way = (l.take j).flatMap way ++ way l[j] := by
  rw [List.take_succ_eq_append_getElem hj, List.flatMap_append]; simp

theorem one_cellsF (l : List Sp) : ∀ u ∈ cellsS l, u.oneCell' = true := by
  intro u hu
  obtain ⟨s, _, hs⟩ := List.mem_flatMap.1 hu
  simp only [encS, List.mem_cons, List.not_mem_nil, or_false] at hs
  rcases hs with rfl | rfl <;> rfl
theorem spans_newsF {W : World} {a : Addr} {l : List Sp} (hs : Sl W (some a) l) : ∀ j u, (cellsS l)[j]? = some u → W.cell? (a.add j) = some u := by
  intro j u hj
  have hlt : j < l.length * 2 := by
    rcases Nat.lt_or_ge j (l.length * 2) with h | h
    · exact h
    · rw [List.getElem?_eq_none (by rw [cellsS_len]; exact h)] at hj; cases hj
  obtain ⟨b, off, e, _, hc⟩ := hs (by intro h; rw [h] at hlt; simp at hlt)
  cases e
  have e1 : (⟨b, off, none⟩ : Addr).add j = ⟨b, off + j, none⟩ := by unfold Addr.add; split <;> simp_all
  have hj2 : j / 2 < l.length := by omega
  obtain ⟨c0, c1⟩ := hc (j / 2) hj2
  rw [cellsS_get l j hlt, List.getElem?_eq_getElem hj2] at hj
  rw [e1]
  rcases (show j % 2 = 0 ∨ j % 2 = 1 by omega) with h | h
  · rw [h] at hj
    rw [show off + j = off + j / 2 * 2 from by omega, c0]
    exact hj
  · rw [h] at hj
    rw [show off + j = off + j / 2 * 2 + 1 from by omega, c1]
    exact hj
theorem grown_reflF (w : World) (row : Option Nat) : w.grownBy w row := ⟨rfl, rfl, rfl, Nat.le_refl _, fun _ _ _ => rfl⟩
/-- Spans appended to a slice of the call's own. -/
theorem wpList_append_spans {w : World} {ops : Array Oper} {rest : List Oper} {o : Oper} {a : Act} {Q : Exit → Act → World → Prop} (hgd : o.guard = none) (s x : Operand)
    (ho : o.op = .call { callee := .builtin .append, args := #[s, x], argTypes := #[24, 24] }) (base : Nat)
    (v : Value) (n : Nat) (xs : List Value) (hs : a.eval s = v) (hown : w.ownsRow base 53 2 v n xs)
    (P : Option Addr) (c : Nat) (l : List Sp) (hx : a.eval x = .slice P l.length c) (hb : Sl w P l) (hP : P = none → c = 0)
    (h63 : n + l.length ≤ 2000000000) (hbase : base ≤ w.heap.size)
    (h : ∀ v' w', w'.ownsRow base 53 2 v' (n + l.length) (xs ++ cellsS l) → w.grownBy w' v.ownBlock → wpList Tryz.prog ops Q rest (a.put o.dst v') w') : wpList Tryz.prog ops Q (o :: rest) a w := by
  obtain ⟨i0, hi, hz0, hz1, hz2⟩ := info_parts infoS
  cases P with
  | none =>
    have hl : l = [] := by
      by_cases hl : l = []
      · exact hl
      · obtain ⟨_, _, e, _⟩ := hb hl; cases e
    subst hl
    rw [hP rfl] at hx
    refine wpList_append_own_none hgd s x 24 ho base 53 i0 2 Tryz.underlying24 hi v n xs hs hown hx ?_
    exact h v w (by simpa [cellsS] using hown) (grown_reflF _ _)
  | some ad =>
    refine wpList_append_own _ hgd s x 24 ho base 53 i0 (.agg #[.int .i64 0, .int .i64 0]) 2 16 Tryz.underlying24 hi hz0 hz1 hz2 rfl (by decide) v n xs hs hown ad l.length c (cellsS l) hx (cellsS_len l) (spans_newsF hb) (one_cellsF l) (by unfold maxLen; omega) (by omega) hbase ?_
    intro v' w' h1 h2 _
    exact h v' w' h1 h2
end Go.Proofs.YtahgljglleeloaaGreatDoor

/- fold.gather by the runs' way ahead. -/
namespace Go.Proofs.YtahgljglleeloaaGreatDoor
open Go.RowKit Go.Shelf SetM

set_option maxRecDepth 100000 in
set_option maxHeartbeats 4000000 in
theorem gather_ahead (A : Option Addr) (ca : Nat) (xs : List Sp) (hlen : xs.length ≤ 100000000) (hca : A = none → ca = 0) (w : World) (hR : Runs w) (hS : Sl w A xs) :
    Calls Tryz.prog 110 #[.slice A xs.length ca, .func (.func 111) #[] #[]] w fun e w' => ∃ v, e = .returned v ∧ w'.ownsRow w.heap.size 53 2 v (gatherL aheadS xs).length (cellsS (gatherL aheadS xs)) ∧ Below w.heap.size w w' := by
  obtain ⟨i0, hi, hz0, hz1, hz2⟩ := info_parts infoS
  have HR := Lib.hid hR
  have HS := Lib.hid hS
  have HCA := Lib.hid hca
  clear hR hS hca
  go_enter Tryz.func110, Tryz.ntmps110
  go_wp2_with (refine wpList_load_runs rfl _ rfl rfl HR.out ?_)
  have HIX := Lib.hid runs_ix
  generalize runsV = V at *
  go_loopg [5, 14] 13 (fun g s5 s14 wx => ∃ k : Nat, k + g = 13 ∧ s14 = .int .i64 k ∧ wx.ownsRow w.heap.size 53 2 s5 (outL aheadS xs k).length (cellsS (outL aheadS xs k)) ∧ Below w.heap.size w wx)
  case atStart => exact ⟨0, by omega, rfl, World.ownsRow_nil _ _ _ _, Below.refl _ _⟩
  case round =>
    obtain ⟨k, hkg, rfl, hown, hb⟩ := hrel
    cases gk with
    | zero =>
      have hkz : ¬ ((k : Int) < 13) := by omega
      obtain rfl : k = 13 := by omega
      have hlo := outL_len aheadS (fun u s => moveS_len _ _ _ _) xs 13 (Nat.le_refl _)
      have hsl : Sl wr A xs := (HS.out.step hb)
      have hsz := hb.size
      go_wp2_with (at_builtin; refine wpList_append_spans rfl _ _ rfl w.heap.size _ _ _ rfl hown A ca xs rfl hsl HCA.out (by omega) hsz ?_; intro v' w2 hown2 hg2)
      go_ret
      exact ⟨_, rfl, by rw [gatherL_out, cellsS_append, List.length_append]; exact hown2, hb.grown hg2 hsz (fun j hj => (hown.lt j hj).1)⟩
    | succ g =>
      have hk : k < 13 := by omega
      have hkz : (k : Int) < 13 := by omega
      have hix := HIX.out k hk
      have hbd := run_bounds (runAt_mem k hk)
      have HN := Lib.hid (outL_succ aheadS xs k hk)
      have HLO := Lib.hid (outL_len aheadS (fun u s => moveS_len _ _ _ _) xs k (by omega))
      have HW := Lib.hid (ahead_any (runAt k) hbd)
      generalize runAt k = u at *
      obtain ⟨a, b, c⟩ := u
      dsimp only at hix hbd
      have hsz := hb.size
      have hb1 := hb.alloc hsz (.cells #[.int .i64 a, .int .i64 b, .int .i64 c] 133)
      have hown1 := hown.alloc (.cells #[.int .i64 a, .int .i64 b, .int .i64 c] 133)
      clear hb
      go_wp2_with (go_at_call 111; refine (HW.out _).mono ?_; rintro e w2 ⟨v2, rfl, hmv, hb2⟩)
      obtain ⟨b1, b2, b3, rfl, hmb⟩ := hmv
      have hown2 := own_belowF hown1 hb2
      have hbw := hb1.trans (hb2.mono hb1.size)
      have HST := Lib.hid (step_bd (show 65 ≤ (a, b, c).1 ∧ (a, b, c).1 ≤ (a, b, c).2.1 ∧ (a, b, c).2.1 ≤ 8491 ∧ 97 ≤ (a, b, c).2.2 ∧ (a, b, c).2.2 ≤ 1104 from hbd))
      have HAS : Hid (∀ s, aheadS (a, b, c) s = moveS a b (stepR (a, b, c)) s) := Lib.hid (fun _ => rfl)
      have hone := Lib.hid (fun l : List Sp => flatMap_len (aheadS (a, b, c)) (fun s => moveS_len _ _ _ _) l)
      obtain ⟨h1, h2, h3, h4⟩ : 0 ≤ a ∧ b ≤ 20000 ∧ -20000 ≤ (stepR (a, b, c)) ∧ (stepR (a, b, c)) ≤ 20000 := by have := HST.out; dsimp only at this ⊢; omega
      have HTN := Lib.hid (fun j hj => take_next (aheadS (a, b, c)) xs j hj)
      have hmb : MovB w2 b1 b2 b3 a b (stepR (a, b, c)) := hmb
      clear hown1 hb1 hb2 hown hix hbd HST
      generalize outL aheadS xs k = Lk at *
      generalize aheadS (a, b, c) = way at *
      generalize hst : (stepR (a, b, c)) = st0 at *
      clear hst hsz HW hkz
      go_loopg [5, 22] xs.length (fun g2 s5 s22 wy => ∃ j : Nat, j + g2 = xs.length ∧ s22 = .int .i64 j ∧ wy.ownsRow w.heap.size 53 2 s5 (Lk ++ (xs.take j).flatMap way).length (cellsS (Lk ++ (xs.take j).flatMap way)) ∧ Below w.heap.size w wy ∧ MovB wy b1 b2 b3 a b st0)
      case atStart => exact ⟨0, by omega, rfl, by simpa using hown2, hbw, hmb⟩
      case round =>
        obtain ⟨j, hjg, rfl, hown3, hb3, hm3⟩ := hrel
        clear hown2 hbw hmb
        cases gk with
        | zero =>
          have hjz : ¬ ((j : Int) < (xs.length : Int)) := by omega
          rw [List.take_of_length_le (by omega), ← HN.out] at hown3
          go_wp2
          go_roundg g
          case measure => omega
          case rel => exact ⟨k + 1, by omega, by go_num, hown3, hb3⟩
        | succ g2 =>
          have hj : j < xs.length := by omega
          have hjz : (j : Int) < (xs.length : Int) := by omega
          obtain ⟨bb, off, rfl, hbb, hc⟩ := (HS.out.step hb3) (by intro h; rw [h] at hj; simp at hj)
          obtain ⟨c0, c1⟩ := hc j hj
          have HNX := Lib.hid (HTN.out j hj)
          have hlen1 := hone.out (xs.take j)
          have hlt : (xs.take j).length ≤ xs.length := by rw [List.length_take]; omega
          have hll : (Lk ++ (xs.take j).flatMap way).length ≤ 14 * xs.length := by rw [List.length_append]; have := HLO.out; omega
          clear hc hlen1 hlt
          generalize xs[j] = s at *
          obtain ⟨x, y⟩ := s
          dsimp only at c0 c1
          have hsz := hb3.size
          have hb4 := hb3.alloc hsz (.cells #[.int .i64 x, .int .i64 y] 53)
          have hm4 := hm3.alloc (.cells #[.int .i64 x, .int .i64 y] 53)
          have hown4 := hown3.alloc (.cells #[.int .i64 x, .int .i64 y] 53)
          have HMV := Lib.hid (move_any a b st0 (x, y) b1 b2 b3 _ hm4 h1 h2 h3 h4)
          generalize hL : (Lk ++ (xs.take j).flatMap way) = L at *
          have HL := Lib.hid hL
          clear hL
          clear hm3 hown3 hb3
          by_cases hmn : max x a ≤ min y b
          · have hmv : movedV a b st0 (x, y) = .tuple #[.agg #[.int .i64 (max x a + st0), .int .i64 (min y b + st0)], .bool true] := by unfold movedV; rw [if_pos hmn]
            rw [hmv] at HMV
            have HWY : Hid (way (x, y) = [(max x a + st0, min y b + st0)]) := Lib.hid (by rw [HAS.out]; unfold moveS; rw [if_pos hmn])
            generalize max x a + st0 = m0 at *
            generalize min y b + st0 = m1 at *
            clear hmv hmn
            go_wp2_with (first | (go_at_call 143; refine HMV.out.mono ?_; rintro e w5 ⟨rfl, hb5⟩; have ho5 := (own_belowF hown4 hb5).alloc (.cells #[.int .i64 m0, .int .i64 m1] 53); have hz5 := hb5.size) | (at_builtin; refine wpList_append_own _ rfl _ _ 24 rfl w.heap.size 53 i0 (.agg #[.int .i64 0, .int .i64 0]) 2 16 Tryz.underlying24 hi hz0 hz1 hz2 rfl (by decide) _ _ _ rfl (ho5.alloc _) ⟨w5.heap.size + 1, 0, none⟩ 1 1 [.int .i64 m0, .int .i64 m1] rfl rfl (news_after w5 _ _ _) (by simp [Value.oneCell']) (by unfold maxLen; omega) (by omega) (by have := hb4.size; rw [World.size_alloc, World.size_alloc]; omega) ?_; intro v' w6 hown' hgrow _))
            go_roundg g2
            case measure => omega
            case rel =>
              have hb6 : Below w.heap.size w ((w5.alloc (.cells #[.int .i64 m0, .int .i64 m1] 53)).alloc (.cells #[.int .i64 m0, .int .i64 m1] 53)) := ((hb4.trans (hb5.mono hb4.size)).alloc (by have := hb4.size; omega) _).alloc (by have := hb4.size; rw [World.size_alloc]; omega) _
              refine ⟨j + 1, by omega, by go_num, ?_, hb6.grown hgrow hb6.size (fun j hj => (ho5.lt j hj).1), (((hm4.below hb5).alloc _).alloc _).kept hgrow (fun r hr => ?_)⟩
              · rw [HNX.out, HWY.out, ← List.append_assoc, HL.out, cellsS_append, List.length_append]; exact hown'
              · obtain ⟨cs, h⟩ := own_rowAtF (ho5.alloc _) r hr
                exact ⟨cs, _, h, by decide⟩
          · have hmv : movedV a b st0 (x, y) = .tuple #[.agg #[.int .i64 0, .int .i64 0], .bool false] := by unfold movedV; rw [if_neg hmn]
            rw [hmv] at HMV
            have HWY : Hid (way (x, y) = []) := Lib.hid (by rw [HAS.out]; unfold moveS; rw [if_neg hmn])
            clear hmv hmn
            go_wp2_with (go_at_call 143; refine HMV.out.mono ?_; rintro e w5 ⟨rfl, hb5⟩)
            go_roundg g2
            case measure => omega
            case rel => exact ⟨j + 1, by omega, by go_num, by rw [HNX.out, HWY.out, List.append_nil, HL.out]; exact (own_belowF hown4 hb5).alloc _, (hb4.trans (hb5.mono hb4.size)).alloc (by have := hb4.size; have := hb5.size; omega) _, (hm4.below hb5).alloc _⟩
end Go.Proofs.YtahgljglleeloaaGreatDoor

/- fold.gather by the runs' way back. -/
namespace Go.Proofs.YtahgljglleeloaaGreatDoor
open Go.RowKit Go.Shelf SetM

set_option maxRecDepth 100000 in
set_option maxHeartbeats 4000000 in
theorem gather_back (A : Option Addr) (ca : Nat) (xs : List Sp) (hlen : xs.length ≤ 100000000) (hca : A = none → ca = 0) (w : World) (hR : Runs w) (hS : Sl w A xs) :
    Calls Tryz.prog 110 #[.slice A xs.length ca, .func (.func 112) #[] #[]] w fun e w' => ∃ v, e = .returned v ∧ w'.ownsRow w.heap.size 53 2 v (gatherL backS xs).length (cellsS (gatherL backS xs)) ∧ Below w.heap.size w w' := by
  obtain ⟨i0, hi, hz0, hz1, hz2⟩ := info_parts infoS
  have HR := Lib.hid hR
  have HS := Lib.hid hS
  have HCA := Lib.hid hca
  clear hR hS hca
  go_enter Tryz.func110, Tryz.ntmps110
  go_wp2_with (refine wpList_load_runs rfl _ rfl rfl HR.out ?_)
  have HIX := Lib.hid runs_ix
  generalize runsV = V at *
  go_loopg [5, 14] 13 (fun g s5 s14 wx => ∃ k : Nat, k + g = 13 ∧ s14 = .int .i64 k ∧ wx.ownsRow w.heap.size 53 2 s5 (outL backS xs k).length (cellsS (outL backS xs k)) ∧ Below w.heap.size w wx)
  case atStart => exact ⟨0, by omega, rfl, World.ownsRow_nil _ _ _ _, Below.refl _ _⟩
  case round =>
    obtain ⟨k, hkg, rfl, hown, hb⟩ := hrel
    cases gk with
    | zero =>
      have hkz : ¬ ((k : Int) < 13) := by omega
      obtain rfl : k = 13 := by omega
      have hlo := outL_len backS (fun u s => moveS_len _ _ _ _) xs 13 (Nat.le_refl _)
      have hsl : Sl wr A xs := (HS.out.step hb)
      have hsz := hb.size
      go_wp2_with (at_builtin; refine wpList_append_spans rfl _ _ rfl w.heap.size _ _ _ rfl hown A ca xs rfl hsl HCA.out (by omega) hsz ?_; intro v' w2 hown2 hg2)
      go_ret
      exact ⟨_, rfl, by rw [gatherL_out, cellsS_append, List.length_append]; exact hown2, hb.grown hg2 hsz (fun j hj => (hown.lt j hj).1)⟩
    | succ g =>
      have hk : k < 13 := by omega
      have hkz : (k : Int) < 13 := by omega
      have hix := HIX.out k hk
      have hbd := run_bounds (runAt_mem k hk)
      have HN := Lib.hid (outL_succ backS xs k hk)
      have HLO := Lib.hid (outL_len backS (fun u s => moveS_len _ _ _ _) xs k (by omega))
      have HW := Lib.hid (back_any (runAt k) hbd)
      generalize runAt k = u at *
      obtain ⟨a, b, c⟩ := u
      dsimp only at hix hbd
      have hsz := hb.size
      have hb1 := hb.alloc hsz (.cells #[.int .i64 a, .int .i64 b, .int .i64 c] 133)
      have hown1 := hown.alloc (.cells #[.int .i64 a, .int .i64 b, .int .i64 c] 133)
      clear hb
      go_wp2_with (go_at_call 112; refine (HW.out _).mono ?_; rintro e w2 ⟨v2, rfl, hmv, hb2⟩)
      obtain ⟨b1, b2, b3, rfl, hmb⟩ := hmv
      have hown2 := own_belowF hown1 hb2
      have hbw := hb1.trans (hb2.mono hb1.size)
      have HST := Lib.hid (step_bd (show 65 ≤ (a, b, c).1 ∧ (a, b, c).1 ≤ (a, b, c).2.1 ∧ (a, b, c).2.1 ≤ 8491 ∧ 97 ≤ (a, b, c).2.2 ∧ (a, b, c).2.2 ≤ 1104 from hbd))
      have HAS : Hid (∀ s, backS (a, b, c) s = moveS (a + stepR (a, b, c)) (b + stepR (a, b, c)) (-stepR (a, b, c)) s) := Lib.hid (fun _ => rfl)
      have hone := Lib.hid (fun l : List Sp => flatMap_len (backS (a, b, c)) (fun s => moveS_len _ _ _ _) l)
      obtain ⟨h1, h2, h3, h4⟩ : 0 ≤ (a + stepR (a, b, c)) ∧ (b + stepR (a, b, c)) ≤ 20000 ∧ -20000 ≤ (-stepR (a, b, c)) ∧ (-stepR (a, b, c)) ≤ 20000 := by have := HST.out; dsimp only at this ⊢; omega
      have HTN := Lib.hid (fun j hj => take_next (backS (a, b, c)) xs j hj)
      have hmb : MovB w2 b1 b2 b3 (a + stepR (a, b, c)) (b + stepR (a, b, c)) (-stepR (a, b, c)) := hmb
      clear hown1 hb1 hb2 hown hix hbd HST
      generalize outL backS xs k = Lk at *
      generalize backS (a, b, c) = way at *
      generalize hst : (-stepR (a, b, c)) = st0 at *
      generalize hlo : (a + stepR (a, b, c)) = lo0 at *
      generalize hhi : (b + stepR (a, b, c)) = hi0 at *
      clear hlo hhi
      clear hst hsz HW hkz
      go_loopg [5, 22] xs.length (fun g2 s5 s22 wy => ∃ j : Nat, j + g2 = xs.length ∧ s22 = .int .i64 j ∧ wy.ownsRow w.heap.size 53 2 s5 (Lk ++ (xs.take j).flatMap way).length (cellsS (Lk ++ (xs.take j).flatMap way)) ∧ Below w.heap.size w wy ∧ MovB wy b1 b2 b3 lo0 hi0 st0)
      case atStart => exact ⟨0, by omega, rfl, by simpa using hown2, hbw, hmb⟩
      case round =>
        obtain ⟨j, hjg, rfl, hown3, hb3, hm3⟩ := hrel
        clear hown2 hbw hmb
        cases gk with
        | zero =>
          have hjz : ¬ ((j : Int) < (xs.length : Int)) := by omega
          rw [List.take_of_length_le (by omega), ← HN.out] at hown3
          go_wp2
          go_roundg g
          case measure => omega
          case rel => exact ⟨k + 1, by omega, by go_num, hown3, hb3⟩
        | succ g2 =>
          have hj : j < xs.length := by omega
          have hjz : (j : Int) < (xs.length : Int) := by omega
          obtain ⟨bb, off, rfl, hbb, hc⟩ := (HS.out.step hb3) (by intro h; rw [h] at hj; simp at hj)
          obtain ⟨c0, c1⟩ := hc j hj
          have HNX := Lib.hid (HTN.out j hj)
          have hlen1 := hone.out (xs.take j)
          have hlt : (xs.take j).length ≤ xs.length := by rw [List.length_take]; omega
          have hll : (Lk ++ (xs.take j).flatMap way).length ≤ 14 * xs.length := by rw [List.length_append]; have := HLO.out; omega
          clear hc hlen1 hlt
          generalize xs[j] = s at *
          obtain ⟨x, y⟩ := s
          dsimp only at c0 c1
          have hsz := hb3.size
          have hb4 := hb3.alloc hsz (.cells #[.int .i64 x, .int .i64 y] 53)
          have hm4 := hm3.alloc (.cells #[.int .i64 x, .int .i64 y] 53)
          have hown4 := hown3.alloc (.cells #[.int .i64 x, .int .i64 y] 53)
          have HMV := Lib.hid (move_any lo0 hi0 st0 (x, y) b1 b2 b3 _ hm4 h1 h2 h3 h4)
          generalize hL : (Lk ++ (xs.take j).flatMap way) = L at *
          have HL := Lib.hid hL
          clear hL
          clear hm3 hown3 hb3
          by_cases hmn : max x lo0 ≤ min y hi0
          · have hmv : movedV lo0 hi0 st0 (x, y) = .tuple #[.agg #[.int .i64 (max x lo0 + st0), .int .i64 (min y hi0 + st0)], .bool true] := by unfold movedV; rw [if_pos hmn]
            rw [hmv] at HMV
            have HWY : Hid (way (x, y) = [(max x lo0 + st0, min y hi0 + st0)]) := Lib.hid (by rw [HAS.out]; unfold moveS; rw [if_pos hmn])
            generalize max x lo0 + st0 = m0 at *
            generalize min y hi0 + st0 = m1 at *
            clear hmv hmn
            go_wp2_with (first | (go_at_call 143; refine HMV.out.mono ?_; rintro e w5 ⟨rfl, hb5⟩; have ho5 := (own_belowF hown4 hb5).alloc (.cells #[.int .i64 m0, .int .i64 m1] 53); have hz5 := hb5.size) | (at_builtin; refine wpList_append_own _ rfl _ _ 24 rfl w.heap.size 53 i0 (.agg #[.int .i64 0, .int .i64 0]) 2 16 Tryz.underlying24 hi hz0 hz1 hz2 rfl (by decide) _ _ _ rfl (ho5.alloc _) ⟨w5.heap.size + 1, 0, none⟩ 1 1 [.int .i64 m0, .int .i64 m1] rfl rfl (news_after w5 _ _ _) (by simp [Value.oneCell']) (by unfold maxLen; omega) (by omega) (by have := hb4.size; rw [World.size_alloc, World.size_alloc]; omega) ?_; intro v' w6 hown' hgrow _))
            go_roundg g2
            case measure => omega
            case rel =>
              have hb6 : Below w.heap.size w ((w5.alloc (.cells #[.int .i64 m0, .int .i64 m1] 53)).alloc (.cells #[.int .i64 m0, .int .i64 m1] 53)) := ((hb4.trans (hb5.mono hb4.size)).alloc (by have := hb4.size; omega) _).alloc (by have := hb4.size; rw [World.size_alloc]; omega) _
              refine ⟨j + 1, by omega, by go_num, ?_, hb6.grown hgrow hb6.size (fun j hj => (ho5.lt j hj).1), (((hm4.below hb5).alloc _).alloc _).kept hgrow (fun r hr => ?_)⟩
              · rw [HNX.out, HWY.out, ← List.append_assoc, HL.out, cellsS_append, List.length_append]; exact hown'
              · obtain ⟨cs, h⟩ := own_rowAtF (ho5.alloc _) r hr
                exact ⟨cs, _, h, by decide⟩
          · have hmv : movedV lo0 hi0 st0 (x, y) = .tuple #[.agg #[.int .i64 0, .int .i64 0], .bool false] := by unfold movedV; rw [if_neg hmn]
            rw [hmv] at HMV
            have HWY : Hid (way (x, y) = []) := Lib.hid (by rw [HAS.out]; unfold moveS; rw [if_neg hmn])
            clear hmv hmn
            go_wp2_with (go_at_call 143; refine HMV.out.mono ?_; rintro e w5 ⟨rfl, hb5⟩)
            go_roundg g2
            case measure => omega
            case rel => exact ⟨j + 1, by omega, by go_num, by rw [HNX.out, HWY.out, List.append_nil, HL.out]; exact (own_belowF hown4 hb5).alloc _, (hb4.trans (hb5.mono hb4.size)).alloc (by have := hb4.size; have := hb5.size; omega) _, (hm4.below hb5).alloc _⟩
end Go.Proofs.YtahgljglleeloaaGreatDoor


/- fold.Close: the set of all that is alike. -/
namespace Go.Proofs.YtahgljglleeloaaGreatDoor
open Go.RowKit Go.Shelf SetM

/-- Where a law's walk stands: as Ctx, and the table of runs is there. -/
structure Cf (w W : World) : Prop where
  ctx : Ctx w W
  runs : Runs W
  pos : 1 < W.heap.size
theorem Cf.start {w : World} (h0 : 2 < w.heap.size) (hA : Areas w) (h1 : 1 < w.heap.size) (hR : Runs w) : Cf w w := ⟨Ctx.start h0 hA, hR, h1⟩
theorem Cf.step {w W W' : World} (h : Cf w W) (hb : Below W.heap.size W W') : Cf w W' :=
  ⟨h.ctx.step hb, h.runs.below hb h.pos, by have := hb.size; have := h.pos; omega⟩
variable {w W : World}
theorem spans_of0 {W : World} {base : Nat} {v : Value} {l : List Sp} (h : W.ownsRow base 53 2 v l.length (cellsS l)) : ∃ P c, v = .slice P l.length c ∧ Sl W P l ∧ (P = none → c = 0) := by
  obtain ⟨P, c, rfl, hs⟩ := spans_of h
  refine ⟨P, c, rfl, hs, fun hP => ?_⟩
  rcases h.2 with ⟨e1, _⟩ | ⟨g, cap, cur, e1, _⟩
  · injection e1
  · subst hP; injection e1 with e1; cases e1
theorem closed_tells {l out : List Sp} (h : IsSet out (fun r => Tells l r)) (r : Int) : Tells (closeL out) r ↔ ClosedK (Tells l) r := by
  unfold ClosedK
  constructor
  · rintro ⟨h1, h2⟩
    obtain ⟨x, h3, h4⟩ := (mem_close out r).1 h2
    exact ⟨h1, x, (h.2 x).1 h3, h4⟩
  · rintro ⟨h1, x, h3, h4⟩
    exact ⟨h1, (mem_close out r).2 ⟨x, (h.2 x).2 h3, h4⟩⟩

set_option maxRecDepth 100000 in
set_option maxHeartbeats 1000000 in
theorem close_c {w W : World} {P : Option Addr} {c : Nat} {l : List Sp} (hC : Cf w W) (hs : Sl W P l) (hl : l.length ≤ 100000) :
    Calls Tryz.prog 91 #[.slice P l.length c] W (SetStep W (ClosedK (Tells l)) (1572 + 784 * l.length)) := by
  obtain ⟨u, hu⟩ : ∃ u, u = W := ⟨_, rfl⟩
  rw [← hu] at hC hs ⊢
  clear hu W
  have HC := Lib.hid hC
  have HN := Lib.hid (norm_c (c := c) hC.ctx hs (by omega))
  clear hC hs
  go_enter Tryz.func91, Tryz.ntmps91
  go_wp2_with fail
  refine HN.out.mono ?_
  rintro e w1 ⟨P1, c1, o1, rfl, i1, n1, s1, z1, b1⟩
  have hl1 : o1.length ≤ 4 + 2 * l.length := nf_len i1.1 i1.2
  have HI := Lib.hid i1
  have HC1 := Lib.hid (HC.out.step b1)
  have HG := Lib.hid (gather_ahead P1 c1 o1 (by omega) z1 w1 HC1.out.runs s1)
  clear i1 s1 z1 n1 HN
  go_wp2_with fail
  refine HG.out.mono ?_
  rintro e w2 ⟨v2, rfl, ho2, hb2⟩
  have hl2 := gather_len aheadS (fun u s => moveS_len _ _ _ _) o1
  obtain ⟨P2, c2, rfl, s2, z2⟩ := spans_of0 ho2
  have HC2 := Lib.hid (HC1.out.step hb2)
  have b2 := b1.trans (hb2.mono b1.size)
  have HG2 := Lib.hid (gather_back P2 c2 (gatherL aheadS o1) (by omega) z2 w2 HC2.out.runs s2)
  have hl3 := gather_len backS (fun u s => moveS_len _ _ _ _) (gatherL aheadS o1)
  have HCL : Hid (closeL o1 = gatherL backS (gatherL aheadS o1)) := Lib.hid rfl
  clear ho2 s2 z2 hb2 b1 HG HC1
  go_wp2_with fail
  refine HG2.out.mono ?_
  rintro e w3 ⟨v3, rfl, ho3, hb3⟩
  obtain ⟨P3, c3, rfl, s3, z3⟩ := spans_of0 ho3
  have HC3 := Lib.hid (HC2.out.step hb3)
  have b3 := b2.trans (hb3.mono b2.size)
  have HN3 := Lib.hid ((norm_any P3 c3 (gatherL backS (gatherL aheadS o1)) (by omega) w3 HC3.out.ctx.pos HC3.out.ctx.areas s3))
  clear ho3 s3 z3 hb3 b2 HG2 HC2
  go_wp2_with fail
  refine HN3.out.mono ?_
  rintro e w4 hp
  obtain ⟨P4, c4, o4, rfl, i4, n4, s4, z4, b4⟩ := hp.toStep
  have hl4 : o4.length ≤ 4 + 2 * (gatherL backS (gatherL aheadS o1)).length := nf_len i4.1 i4.2
  rw [← HCL.out] at i4
  have HI4 := Lib.hid (i4.congr (closed_tells HI.out))
  have H4 := Lib.hid (And.intro s4 z4)
  clear i4 s4 z4 HN3
  go_wp2
  go_ret
  exact ⟨P4, c4, o4, rfl, HI4.out, by omega, H4.out.1, H4.out.2, b3.trans (b4.mono b3.size)⟩
end Go.Proofs.YtahgljglleeloaaGreatDoor
