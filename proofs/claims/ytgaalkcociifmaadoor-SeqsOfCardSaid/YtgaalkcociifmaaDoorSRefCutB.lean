/- The document's own cut, whole. -/
import Derived.Test.YtgaalkcociifmaaDoorSRefCut
import Derived.Test.YtgaalkcociifmaaDoorSCut
import Derived.Deep.AppendLies
import Derived.Deep.RegionLaw
namespace Go.Proofs.YtgaalkcociifmaaDoor
open Go.RowKit Go.Shelf SeqM
open U.UtfM (enc)

theorem own_low {w : World} {base base' : Nat} {e : TypeId} {size : Nat} {v : Value} {n : Nat} {xs : List Value} (h : w.ownsRow base e size v n xs) (hb : base' ≤ base) : w.ownsRow base' e size v n xs := by
  refine ⟨h.1, ?_⟩
  rcases h.2 with h2 | ⟨g, cap, cur, h1, h2, h3⟩
  · exact .inl h2
  · exact .inr ⟨g, cap, cur, h1, Nat.le_trans hb h2, h3⟩
theorem CutP.from {w W w' : World} {L : List Sp} {e : Ending} (h : CutP W L e w') (hb : Below w.heap.size w W) : CutP w L e w' := by
  obtain ⟨v, zs, h1, h2, h3, h4, h5⟩ := h
  exact ⟨v, zs, h1, own_low h2 hb.size, h3, h4, hb.trans (h5.mono hb.size)⟩
/-- One row, in a slice of its own. -/
theorem cut_one {w W : World} {v : Value} {a b : Int} {n : Nat} (hl : (rowOf (a, b)).length = n) (hn : 0 < n) (h : W.ownsRow w.heap.size 64 2 v n (cellsR (rowOf (a, b)))) (hb : Below w.heap.size w W) :
    CutP w [(a, b)] (.returned (.slice (some ⟨W.heap.size, 0, none⟩) 1 1)) (W.alloc (.cells #[v] 37)) := by
  obtain ⟨g, cap, rfl⟩ := own_form h hn
  refine ⟨_, [(g, cap, (a, b))], rfl, ⟨rfl, .inr ⟨W.heap.size, 1, #[.slice (some ⟨g, 0, none⟩) n cap], rfl, hb.size, heap_alloc_new W _, by simp, by unfold maxLen; omega, rfl, ?_⟩⟩, fun z hz => ?_, rfl, hb.alloc hb.size _⟩
  · simp [sv, hl]
  · obtain rfl := List.mem_singleton.1 hz
    rcases h.2 with ⟨h1, _⟩ | ⟨g', cap', cur, e, h2, h3, h4, h5, h6, h7⟩
    · cases h1
    · cases e
      exact ⟨cur, (Below.heap_alloc W _ g (Array.getElem?_eq_some_iff.1 h3).1).trans h3, by rw [hl]; exact h7⟩
/-- Encode, the bytes under a name. -/
theorem renc_lit (r : Int) (l : List Int) (n : Nat) (h : enc r = l) (hn : l.length = n) (w : World) : Calls Tryd.prog 15 #[.int .i64 r] w fun e w' => ∃ P c, e = .returned (.slice P n c) ∧ U.By w' P l ∧ Below w.heap.size w w' := by
  refine (U.renc_c r w).mono ?_
  rintro e w' ⟨P, c, h1, h2, _, _, _, _, h3⟩
  rw [h] at h1 h2
  rw [hn] at h1
  exact ⟨P, c, h1, h2, h3⟩
theorem rcells {W : World} {A : Option Addr} {l : List Int} (h : U.By W A l) (hne : 0 < l.length) : ∃ b off, A = some ⟨b, off, none⟩ ∧ b < W.heap.size ∧ ∀ j (h : j < l.length), W.cell? ⟨b, off + j, none⟩ = some (.int .u8 l[j]) := h.2 (by intro h0; rw [h0] at hne; simp at hne)

set_option maxRecDepth 100000 in
set_option maxHeartbeats 4000000 in
theorem rcut_step (n : Nat) (a b : Int) (hg : SeqM.Good (n, a, b)) (hrec : ∀ x, cutAt n a b = some x → ∀ w, Calls Tryd.prog 62 #[.int .i64 a, .int .i64 x, .int .i64 b, .int .i64 n] w (CutP w (leaves n a b))) (w : World) :
    Calls Tryd.prog 42 #[.int .i64 a, .int .i64 b, .int .i64 n] w (CutP w (leaves n a b)) := by
  obtain ⟨i0, hi, hz0, hz1, hz2⟩ := info_parts infoRg
  obtain ⟨ha, hab, hb⟩ := hg.in
  obtain ⟨l1, hl1⟩ : ∃ l, enc a = l := ⟨_, rfl⟩
  obtain ⟨l2, hl2⟩ : ∃ l, enc b = l := ⟨_, rfl⟩
  have hn1 : l1.length = n := by rw [← hl1]; exact hg.len (Int.le_refl _) hab
  have hn2 : l2.length = n := by rw [← hl2]; exact hg.len hab (Int.le_refl _)
  have h1 : 1 ≤ n := hg.1
  have h4 : n ≤ 4 := hg.2.1
  have HR := Lib.hid (show rowOf (a, b) = l1.zip l2 by unfold rowOf; rw [hl1, hl2])
  have HA := Lib.hid (fun w => renc_lit a l1 n hl1 hn1 w)
  have HB := Lib.hid (fun w => renc_lit b l2 n hl2 hn2 w)
  have HN := Lib.hid (And.intro hn1 hn2)
  have HREC := Lib.hid hrec
  clear hg hl1 hl2 hn1 hn2 hrec
  go_enter Tryd.func42, Tryd.ntmps42
  go_wp2
  go_loopg [7, 8] (n - 1) (fun g s7 s8 wx => ∃ (j i : Nat) (m : Int), i + g = n ∧ Hid (i = j + 1) ∧ 1 ≤ i ∧ s8 = .int .i64 i ∧ s7 = .int .i64 m ∧ 1 ≤ m ∧ Hid (cutAt n a b = cutFrom g m a b) ∧ Hid (m = 64 ^ j) ∧ Below w.heap.size w wx)
  case atStart => exact ⟨0, 1, 1, by omega, Lib.hid rfl, by omega, rfl, rfl, by omega, Lib.hid rfl, Lib.hid rfl, Below.refl _ _⟩
  case round =>
    obtain ⟨j, i, m, hkg, HI, hi1, rfl, rfl, hm, HC, HM, hbw⟩ := hrel
    cases gk with
    | zero =>
      have hkz : ¬ ((i : Int) < (n : Int)) := by omega
      have HC0 : cutAt n a b = none := HC.out
      have HL := Lib.hid (leaves_none HC0)
      clear HC HM HI HC0 HREC
      go_wp2_with fail
      refine (HA.out _).mono ?_
      rintro e W1 ⟨P1, c1, rfl, y1, b1⟩
      have HY1 := Lib.hid y1
      clear y1
      go_wp2_with fail
      refine (HB.out _).mono ?_
      rintro e W2 ⟨P2, c2, rfl, y2, b2⟩
      have hb2 : Below w.heap.size w W2 := hbw.trans ((b1.mono hbw.size).trans (b2.mono (Nat.le_trans hbw.size b1.size)))
      obtain ⟨g1, o1, rfl, lt1, hc1⟩ := rcells (HY1.out.step b2) (by have := HN.out; omega)
      obtain ⟨g2, o2, rfl, lt2, hc2⟩ := rcells y2 (by have := HN.out; omega)
      have HC1 := Lib.hid hc1
      have HC2 := Lib.hid hc2
      have HB2 := Lib.hid hb2
      clear HY1 y2 hc1 hc2 b1 b2 hb2 HA HB hbw hkz
      go_wp2
      go_loopg [11, 12] n (fun g s11 s12 wx => ∃ k : Nat, k + g = n ∧ s12 = .int .i64 k ∧ wx.ownsRow W2.heap.size 64 2 s11 k (cellsR ((l1.zip l2).take k)) ∧ Below W2.heap.size W2 wx)
      case atStart => exact ⟨0, by omega, rfl, World.ownsRow_nil _ _ _ _, Below.refl _ _⟩
      case round =>
        obtain ⟨k, hkg2, rfl, hown, hbx⟩ := hrel
        cases gk with
        | zero =>
          have hkz : ¬ ((k : Int) < (n : Int)) := by omega
          obtain ⟨gz, cz, rfl⟩ := own_form hown (by omega)
          go_wp2
          go_ret
          rw [HL.out]
          have hlen : (rowOf (a, b)).length = n := by rw [HR.out, List.length_zip]; have := HN.out; omega
          refine cut_one hlen (by omega) ?_ (HB2.out.trans (hbx.mono HB2.out.size))
          rw [HR.out]
          have e : (l1.zip l2).take k = l1.zip l2 := List.take_of_length_le (by rw [List.length_zip]; have := HN.out; omega)
          rw [e] at hown
          have hkn : k = n := by omega
          subst hkn
          exact own_low hown HB2.out.size
        | succ g =>
          have hkz : ((k : Int) < (n : Int)) := by omega
          have hk1 : k < l1.length := by have := HN.out; omega
          have hk2 : k < l2.length := by have := HN.out; omega
          have c1 := (hbx.cell (p := ⟨g1, o1 + k, none⟩) lt1).trans (HC1.out k hk1)
          have c2 := (hbx.cell (p := ⟨g2, o2 + k, none⟩) lt2).trans (HC2.out k hk2)
          have hz : (l1.zip l2).take (k + 1) = (l1.zip l2).take k ++ [(l1[k], l2[k])] := by
            rw [List.take_succ_eq_append_getElem (by rw [List.length_zip]; omega), List.getElem_zip]
          have HZ := Lib.hid hz
          have HOW := Lib.hid hown
          clear hz hown
          generalize l1[k] = x at *
          generalize l2[k] = y at *
          go_wp2
          have hsz := hbx.size
          go_region_law ((refine step_append_lies _ (by rfl) _ _ _ (by rfl) W2.heap.size 64 i0 _ 2 2 Tryd.underlying37 hi hz0 hz1 hz2 rfl (by omega) _ k _ (by rfl) ((HOW.out.alloc _).drew) ⟨wr.heap.size, 0, none⟩ 1 1 [.int .u8 x, .int .u8 y] (by rfl) (by rfl) (World.news_of_block (cs := #[.int .u8 x, .int .u8 y]) (t := 64) (fr := (0, 0)) (heap_alloc_new wr _)) (by simp [Value.oneCell']) (by omega) (by unfold maxLen; omega) (by omega) (by simp; omega) (wr.heap.size + 1) (by simp) ?_; intro gg cap w4 hown' hgrow hat hlt))
          all_goals
            have hbn : Below W2.heap.size W2 w4 := (((hbx.alloc hsz _).drew).grown hgrow (by simp; omega) (fun j hj => (HOW.out.lt j hj).1))
            go_wp2
            go_roundg g
            case measure => omega
            case rel => exact ⟨k + 1, by omega, by go_num, by rw [HZ.out, cellsR_append]; exact hown', hbn⟩
    | succ g =>
      have hkz : ((i : Int) < (n : Int)) := by omega
      have hms := pow_small HM.out (by have := HI.out; omega)
      clear HA HB HN HR
      go_wp2
      go_quiet (fail)
      have hb6 : Below w.heap.size w (wr.drewN nq) := ⟨hbw.os, hbw.tape, hbw.output, hbw.size, hbw.block⟩
      obtain ⟨M, hM⟩ : ∃ M, M = m * 64 := ⟨_, rfl⟩
      have HCK := Lib.hid (fun (x : Int) (h : cutK (m * 64) a b = some x) => cutFrom_some (k := g) h)
      have HCN := Lib.hid (fun (h : cutK (m * 64) a b = none) => cutFrom_none (k := g) h)
      have hM1 : 64 ≤ M := by omega
      have hM2 : M ≤ 262144 := by omega
      have HM2 : Hid (M = 64 ^ (j + 1)) := Lib.hid (by rw [hM, HM.out, Int.pow_succ])
      rw [← hM] at HCK HCN ⊢
      clear hbw hM HM hms hm
      generalize wr.drewN nq = w6 at *
      clear wr
      have e1 := Int.mul_ediv_add_emod a M
      have e2 := Int.mul_ediv_add_emod b M
      have r1 := Int.emod_nonneg a (show M ≠ 0 by omega)
      have r2 := Int.emod_nonneg b (show M ≠ 0 by omega)
      have s1 := Int.emod_lt_of_pos a (show 0 < M by omega)
      have s2 := Int.emod_lt_of_pos b (show 0 < M by omega)
      have hq0 : 0 ≤ a / M := Int.ediv_nonneg ha (by omega)
      have hp0 : 0 ≤ b / M := Int.ediv_nonneg (by omega) (by omega)
      have hq1 : a / M ≤ a := Int.ediv_le_self _ ha
      have hp1 : b / M ≤ b := Int.ediv_le_self _ (by omega)
      by_cases hqp : a / M = b / M
      · have hn : cutK M a b = none := by unfold cutK; rw [if_pos hqp]
        have HN := Lib.hid (HC.out.trans (HCN.out hn))
        clear hn e1 e2 r1 r2 s1 s2 HC HCK HCN HREC
        generalize a / M = q at *
        generalize b / M = p at *
        subst hqp
        go_wp2
        go_roundg g
        case measure => omega
        case rel => exact ⟨j + 1, i + 1, M, by omega, Lib.hid (by have := HI.out; omega), by omega, by go_num, rfl, by omega, HN, HM2, hb6⟩
      · by_cases hr : a % M = 0
        · by_cases hs : b % M = M - 1
          · have hn : cutK M a b = none := by unfold cutK; rw [if_neg hqp, if_neg (by omega), if_neg (by omega)]
            have HN := Lib.hid (HC.out.trans (HCN.out hn))
            clear hn e1 e2 r1 r2 s1 s2 HC HCK HCN HREC
            go_wp2
            go_roundg g
            case measure => omega
            case rel => exact ⟨j + 1, i + 1, M, by omega, Lib.hid (by have := HI.out; omega), by omega, by go_num, rfl, by omega, HN, HM2, hb6⟩
          · have hX : b / M * M = b - b % M := by rw [Int.mul_comm]; omega
            have hn : cutK M a b = some (b - b % M) := by unfold cutK; rw [if_neg hqp, if_neg (by omega), if_pos (by omega), hX]
            have HREC2 := Lib.hid (HREC.out _ (HC.out.trans (HCK.out _ hn)))
            clear hn hX e1 e2 HC HCK HCN HREC
            go_wp2_with fail
            refine (HREC2.out _).mono ?_
            rintro e W1 hP
            obtain ⟨v, zs, rfl, hP⟩ := hP
            have HP : Hid (CutP w6 (leaves n a b) (.returned v) W1) := Lib.hid ⟨v, zs, rfl, hP⟩
            clear hP
            go_wp2
            go_ret
            exact HP.out.from hb6
        · have hX : (a / M + 1) * M = a - a % M + M := by rw [Int.add_mul, Int.one_mul, Int.mul_comm]; omega
          have hn : cutK M a b = some (a - a % M + M) := by unfold cutK; rw [if_neg hqp, if_pos hr, hX]
          have HREC2 := Lib.hid (HREC.out _ (HC.out.trans (HCK.out _ hn)))
          clear hn hX e1 e2 HC HCK HCN HREC
          go_wp2_with fail
          refine (HREC2.out _).mono ?_
          rintro e W1 hP
          obtain ⟨v, zs, rfl, hP⟩ := hP
          have HP : Hid (CutP w6 (leaves n a b) (.returned v) W1) := Lib.hid ⟨v, zs, rfl, hP⟩
          clear hP
          go_wp2
          go_ret
          exact HP.out.from hb6
end Go.Proofs.YtgaalkcociifmaaDoor
