/- The law's rise: its contract; SeqsRise: the walk. -/
import Derived.Test.YtgaalkcociifmaaDoorSRise
import Derived.Test.YtgaalkcociifmaaDoorSCountsWalk
namespace Go.Proofs.YtgaalkcociifmaaDoor
open Go.RowKit Go.Shelf SeqM
open U.UtfM (enc)

theorem blk_ne {W : World} {base : Nat} {e t : TypeId} {size k b : Nat} {v : Value} {xs : List Value} {cs : Array Value} {fr : Nat × Nat} (h : W.ownsRow base e size v k xs) (hb : W.heap[b]? = some (.cells cs t fr)) (ht : t ≠ e) : some b ≠ v.ownBlock := fun he => by
  rcases h.2 with ⟨rfl, _⟩ | ⟨g, cap, cur, rfl, _, hgb, _⟩
  · simp [Value.ownBlock] at he
  · obtain rfl : b = g := by simpa [Value.ownBlock] using he
    rw [hgb] at hb; cases hb; exact ht rfl
theorem kept_apart {W W' : World} {base : Nat} {e : TypeId} {size k : Nat} {v u : Value} {xs : List Value} (h : W.ownsRow base e size u k xs) (hg : W.grownBy W' v.ownBlock) (hd : v.ownBlock = none ∨ v.ownBlock ≠ u.ownBlock) : W'.ownsRow base e size u k xs := by
  refine h.kept hg ?_
  rcases hd with hd | hd
  · rw [hd]
    cases hu : u.ownBlock with
    | none => exact .inl rfl
    | some g => exact .inr (by simp)
  · exact .inr (fun h => hd h.symm)
def nums (l : List Int) : List Value := l.map (Value.int .u8)
/-- The lower and the upper ends of the first k ranges, in two slices of the call's own. -/
structure RO (w W : World) (r : List Rg) (k : Nat) (v5 v6 : Value) : Prop where
  low : W.ownsRow w.heap.size 5 1 v5 k (nums ((lowF r).take k))
  high : W.ownsRow w.heap.size 5 1 v6 k (nums ((highF r).take k))
  apart : v5.ownBlock = none ∨ v5.ownBlock ≠ v6.ownBlock
  below : Below w.heap.size w W
theorem RO.start {w W : World} (r : List Rg) (h : Below w.heap.size w W) : RO w W r 0 (.slice none 0 0) (.slice none 0 0) := ⟨World.ownsRow_nil _ _ _ _, World.ownsRow_nil _ _ _ _, .inl rfl, h⟩
theorem RO.alloc {w W : World} {r : List Rg} {k : Nat} {v5 v6 : Value} (h : RO w W r k v5 v6) (o : Obj) : RO w (W.alloc o) r k v5 v6 := ⟨h.low.alloc o, h.high.alloc o, h.apart, h.below.alloc h.below.size o⟩
theorem nums_low {r : List Rg} {k : Nat} (hk : k < r.length) : nums ((lowF r).take (k + 1)) = nums ((lowF r).take k) ++ [.int .u8 r[k].1] := by
  unfold nums lowF; rw [List.take_succ_eq_append_getElem (by simpa using hk), List.map_append]; simp
theorem nums_high {r : List Rg} {k : Nat} (hk : k < r.length) : nums ((highF r).take (k + 1)) = nums ((highF r).take k) ++ [.int .u8 r[k].2] := by
  unfold nums highF; rw [List.take_succ_eq_append_getElem (by simpa using hk), List.map_append]; simp
theorem RO.next {w w1 W5 W6 : World} {r : List Rg} {k : Nat} {v5 v6 : Value} {t1 t2 : Obj} {g5 c5 g6 c6 : Nat} (hk : k < r.length) (h : RO w w1 r k v5 v6)
    (h5 : W5.ownsRow w.heap.size 5 1 (.slice (some ⟨g5, 0, none⟩) (k + 1) c5) (k + 1) (nums ((lowF r).take k) ++ [.int .u8 r[k].1])) (hg5 : (w1.alloc t1).grownBy W5 v5.ownBlock) (hl5 : v5.ownBlock = some g5 ∨ g5 = (w1.alloc t1).heap.size) (hlt5 : g5 < W5.heap.size)
    (h6 : W6.ownsRow w.heap.size 5 1 (.slice (some ⟨g6, 0, none⟩) (k + 1) c6) (k + 1) (nums ((highF r).take k) ++ [.int .u8 r[k].2])) (hg6 : (W5.alloc t2).grownBy W6 v6.ownBlock) (hl6 : v6.ownBlock = some g6 ∨ g6 = (W5.alloc t2).heap.size) :
    RO w W6 r (k + 1) (.slice (some ⟨g5, 0, none⟩) (k + 1) c5) (.slice (some ⟨g6, 0, none⟩) (k + 1) c6) := by
  have hd : v6.ownBlock = none ∨ v6.ownBlock ≠ some g5 := by
    rcases hl5 with hl5 | hl5
    · rcases h.apart with ha | ha
      · rw [ha] at hl5; cases hl5
      · exact .inr (fun e => ha (hl5.trans e.symm))
    · cases hv : v6.ownBlock with
      | none => exact .inl rfl
      | some g => exact .inr (fun e => by cases e; have := (h.high.lt _ hv).2; rw [World.size_alloc] at hl5; omega)
  have hd2 : g5 ≠ g6 := by
    rcases hl6 with hl6 | hl6
    · rcases hd with hd | hd
      · rw [hd] at hl6; cases hl6
      · intro e; subst e; exact hd hl6
    · rw [World.size_alloc] at hl6; omega
  refine ⟨?_, by rw [nums_high hk]; exact h6, .inr (by simp [Value.ownBlock]; exact hd2), ?_⟩
  · rw [nums_low hk]
    refine kept_apart (h5.alloc t2) hg6 ?_
    rcases hd with hd | hd
    · exact .inl hd
    · exact .inr (by simpa [Value.ownBlock] using hd)
  · have b1 := (h.below.alloc h.below.size t1).grown hg5 (by have := h.below.size; rw [World.size_alloc]; omega) (fun j e => (h.low.lt j e).1)
    have hs := b1.size
    exact (b1.alloc hs t2).grown hg6 (by rw [World.size_alloc]; omega) (fun j e => (h.high.lt j e).1)
theorem RO.mid {w w1 W5 : World} {r : List Rg} {k : Nat} {v5 v6 : Value} {t1 : Obj} (h : RO w w1 r k v5 v6) (hg5 : (w1.alloc t1).grownBy W5 v5.ownBlock) : W5.ownsRow w.heap.size 5 1 v6 k (nums ((highF r).take k)) := kept_apart (h.high.alloc t1) hg5 h.apart
theorem box_mid {w1 W5 : World} {bx base k : Nat} {x : Rg} {v : Value} {xs : List Value} {t : Obj} (hb : BoxR w1 bx x) (h : w1.ownsRow base 5 1 v k xs) (hg : (w1.alloc t).grownBy W5 v.ownBlock) : BoxR W5 bx x := by
  have hlt : bx < w1.heap.size := (Array.getElem?_eq_some_iff.1 hb).1
  exact (hg.block bx (by rw [World.size_alloc]; omega) (blk_ne h hb (by decide))).trans ((Below.heap_alloc w1 t bx hlt).trans hb)
theorem lex_anti : ∀ {l m : List Int}, U.UtfM.lexLt l m = true → U.UtfM.lexLt m l = false
  | [], [], h => by cases h
  | [], _ :: _, _ => rfl
  | _ :: _, [], h => by cases h
  | a :: s, b :: t, h => by
    simp only [U.UtfM.lexLt, Bool.or_eq_true, Bool.and_eq_true, decide_eq_true_eq, beq_iff_eq, Bool.or_eq_false_iff, Bool.and_eq_false_iff, decide_eq_false_iff_not, beq_eq_false_iff_ne] at h ⊢
    rcases h with h | ⟨h1, h2⟩
    · exact ⟨by omega, .inl (by omega)⟩
    · exact ⟨by omega, .inr (lex_anti h2)⟩
/-- The upper ends of the row ahead. -/
def lastF (rs : List (List Rg)) : Nat → List Int
  | 0 => []
  | i + 1 => highF (rs.getD i [])

theorem lastF_succ {rs : List (List Rg)} {i : Nat} (h : i < rs.length) : lastF rs (i + 1) = highF rs[i] := by
  show highF (rs.getD i []) = _
  rw [List.getD_eq_getElem?_getD, List.getElem?_eq_getElem h]; rfl
theorem lastF_bytes {rs : List (List Rg)} (ho : RiseOk rs) : ∀ i, i ≤ rs.length → U.UtfM.IsBytes (lastF rs i)
  | 0, _ => U.UtfM.IsBytes.nil
  | i + 1, h => by
    rw [lastF_succ (show i < rs.length by omega)]
    intro c hc
    obtain ⟨x, hx, rfl⟩ := List.mem_map.1 hc
    have := (ho.each _ (List.getElem_mem (show i < rs.length by omega))).2.2.2 x hx
    exact ⟨this.2.2.1, this.2.2.2⟩
theorem lastF_up {rs : List (List Rg)} (ho : RiseOk rs) {i : Nat} (h : i < rs.length) (h0 : 0 < i) : U.UtfM.lexLt (lastF rs i) (lowF rs[i]) = true := by
  obtain ⟨j, rfl⟩ : ∃ j, i = j + 1 := ⟨i - 1, by omega⟩
  rw [lastF_succ (show j < rs.length by omega)]
  exact ho.up j h

set_option maxRecDepth 100000 in
set_option maxHeartbeats 8000000 in
theorem rise_c (A : Option Addr) (ca : Nat) (rs : List (List Rg)) (hlen : rs.length ≤ 9223372036854775807) (hok : RiseOk rs) (w : World) (hR : Rws w A rs) :
    Calls Tryd.prog 28 #[.slice A rs.length ca] w fun e w' => e = .returned (.bool true) ∧ Below w.heap.size w w' := by
  have HR := Lib.hid hR
  have HO := Lib.hid hok
  obtain ⟨iB, hiB, hzB0, hzB1, hzB2⟩ := info_parts U.infoB
  clear hR hok
  go_enter Tryd.func28, Tryd.ntmps28
  go_wp2
  go_loopg [3, 4] rs.length (fun g s3 s4 wx => ∃ i : Nat, i + g = rs.length ∧ s4 = .int .i64 i ∧ s3 = .string (strOfNums (lastF rs i)) ∧ Below w.heap.size w wx)
  case atStart => exact ⟨0, by omega, rfl, rfl, Below.refl _ _⟩
  case round =>
    obtain ⟨i, hig, rfl, rfl, hb⟩ := hrel
    cases gk with
    | zero =>
      have hiz : ¬ ((i : Int) < (rs.length : Int)) := by omega
      go_wp2
      go_ret
      exact ⟨rfl, hb⟩
    | succ g =>
      have hi : i < rs.length := by omega
      have hiz : (i : Int) < (rs.length : Int) := by omega
      obtain ⟨b, off, rfl, hbb, hrow⟩ := HR.out (by intro h; rw [h] at hi; simp at hi)
      obtain ⟨Q, d, h1, h2⟩ := hrow i hi
      have HC0 := Lib.hid h1
      have HQ := Lib.hid h2
      obtain ⟨ho1, ho2, ho3, ho4⟩ := HO.out.each rs[i] (List.getElem_mem hi)
      have HOK := Lib.hid (okR_at rs[i] false ho1)
      have HNX : Hid (lastF rs (i + 1) = highF rs[i]) := Lib.hid (lastF_succ hi)
      have HUP : Hid (0 < i → U.UtfM.lexLt (lastF rs i) (lowF rs[i]) = true) := Lib.hid (fun h0 => lastF_up HO.out hi h0)
      have HBL : Hid (U.UtfM.IsBytes (lastF rs i)) := Lib.hid (lastF_bytes HO.out i (by omega))
      have HB4 := Lib.hid ho4
      clear hrow h1 h2 ho1 ho4
      generalize hLST : lastF rs i = lst at *
      generalize rs[i] = r at *
      clear hLST
      obtain ⟨wo, rfl⟩ : ∃ wo : World, wo = wr := ⟨_, rfl⟩
      have HRO := Lib.hid (RO.start r hb)
      go_wp2
      go_loopg [5, 6, 7, 8] r.length (fun g2 s5 s6 s7 s8 wx => ∃ k : Nat, k + g2 = r.length ∧ s8 = .int .i64 k ∧ s7 = .bool (wideL (r.take k)) ∧ RO w wx r k s5 s6)
      case atStart => exact ⟨0, by omega, rfl, rfl, HRO.out⟩
      case round =>
        clear hb HRO
        obtain ⟨k, hkg, rfl, rfl, hro⟩ := hrel
        have c0 := (hro.below.cell (p := ⟨b, off + i, none⟩) hbb).trans HC0.out
        cases gk with
        | zero =>
          obtain rfl : k = r.length := by omega
          have hkz : ¬ ((r.length : Int) < (r.length : Int)) := by omega
          have hlb : U.UtfM.IsBytes (lowF r) := fun c hc => by obtain ⟨x, hx, rfl⟩ := List.mem_map.1 hc; have := HB4.out x hx; exact ⟨this.1, this.2.1⟩
          have hhb : U.UtfM.IsBytes (highF r) := fun c hc => by obtain ⟨x, hx, rfl⟩ := List.mem_map.1 hc; have := HB4.out x hx; exact ⟨this.2.2.1, this.2.2.2⟩
          have hl5 := hro.low
          have hl6 := hro.high
          have el : (lowF r).length = r.length := by unfold lowF; simp
          have eh : (highF r).length = r.length := by unfold highF; simp
          rw [List.take_of_length_le (by omega), ← el] at hl5
          rw [List.take_of_length_le (by omega), ← eh] at hl6
          obtain ⟨P5, c5, rfl, by5, _, _⟩ := U.bytes_of hlb hl5
          obtain ⟨P6, c6, rfl, by6, _, _⟩ := U.bytes_of hhb hl6
          have hn5 : lowF r ≠ [] := by intro h; rw [h] at el; simp at el; omega
          have hn6 : highF r ≠ [] := by intro h; rw [h] at eh; simp at eh; omega
          have cv5 := U.conv_c (c := c5) by5 (fun h => absurd h hn5)
          have cv6 := U.conv_c (c := c6) by6 (fun h => absurd h hn6)
          have hbw := hro.below
          have HLT := Lib.hid (fun h0 => (U.less_strs HBL.out hlb).trans (HUP.out h0))
          have HLS := Lib.hid (fun h0 => (U.less_strs hlb HBL.out).trans (lex_anti (HUP.out h0)))
          have HEQ : Hid (0 < i → ((strOfNums (lowF r)).toList == (strOfNums lst).toList) = false) := Lib.hid (fun h0 => by
            rw [beq_eq_false_iff_ne]
            intro e
            have h1 := HLT.out h0
            rw [e] at h1
            rw [U.less_strs HBL.out HBL.out] at h1
            have h2 := lex_anti h1
            rw [h1] at h2
            cases h2)
          clear hl5 hl6 by5 by6 hlb hhb hro hn5 hn6
          rw [el] at cv5 ⊢
          rw [eh] at cv6 ⊢
          by_cases h0 : 0 < i
          · have h0z : (0 : Int) < (i : Int) := by omega
            have hlt := HLT.out h0
            have hl1 : Op.bytesLess (strOfNums (lowF r)).toList (strOfNums lst).toList = false := HLS.out h0
            have hl2 : ((strOfNums (lowF r)).toList == (strOfNums lst).toList) = false := HEQ.out h0
            clear hlt
            go_wp2
            go_roundg g
            case measure => omega
            case rel => exact ⟨i + 1, by omega, by go_num, by rw [HNX.out], hbw⟩
          · have h0z : ¬ ((0 : Int) < (i : Int)) := by omega
            go_wp2
            go_roundg g
            case measure => omega
            case rel => exact ⟨i + 1, by omega, by go_num, by rw [HNX.out], hbw⟩
        | succ g2 =>
          have hk : k < r.length := by omega
          have hkz : (k : Int) < (r.length : Int) := by omega
          obtain ⟨b2, off2, rfl, hbb2, hcell⟩ := HQ.out.2 (by intro h; rw [h] at hk; simp at hk)
          obtain ⟨e0, e1⟩ := hcell k hk
          have d0 := (hro.below.cell (p := ⟨b2, off2 + k * 2, none⟩) hbb2).trans e0
          have d1 := (hro.below.cell (p := ⟨b2, off2 + k * 2 + 1, none⟩) hbb2).trans e1
          obtain ⟨k1, k2⟩ := HOK.out k hk
          rw [Bool.false_or] at k2
          have HWT := Lib.hid (wideL_take hk)
          have HNEXT : Hid (∀ (w1 W5 W6 : World) (v5 v6 : Value) (t1 t2 : Obj) (g5 c5 g6 c6 : Nat), RO w w1 r k v5 v6 → W5.ownsRow w.heap.size 5 1 (.slice (some ⟨g5, 0, none⟩) (k + 1) c5) (k + 1) (nums ((lowF r).take k) ++ [.int .u8 r[k].1]) → (w1.alloc t1).grownBy W5 v5.ownBlock → (v5.ownBlock = some g5 ∨ g5 = (w1.alloc t1).heap.size) → g5 < W5.heap.size →
              W6.ownsRow w.heap.size 5 1 (.slice (some ⟨g6, 0, none⟩) (k + 1) c6) (k + 1) (nums ((highF r).take k) ++ [.int .u8 r[k].2]) → (W5.alloc t2).grownBy W6 v6.ownBlock → (v6.ownBlock = some g6 ∨ g6 = (W5.alloc t2).heap.size) → RO w W6 r (k + 1) (.slice (some ⟨g5, 0, none⟩) (k + 1) c5) (.slice (some ⟨g6, 0, none⟩) (k + 1) c6)) := Lib.hid (fun w1 W5 W6 v5 v6 t1 t2 g5 c5 g6 c6 a1 a2 a3 a4 a5 a6 a7 a8 => RO.next hk a1 a2 a3 a4 a5 a6 a7 a8)
          have bx := BoxR.new wr r[k]
          have hro1 := hro.alloc (.cells #[.int .u8 r[k].1, .int .u8 r[k].2] 64)
          have HRO1 := Lib.hid hro1
          have HBX := Lib.hid bx
          clear hcell e0 e1 hro hro1 bx
          generalize r[k] = x at *
          obtain ⟨lo, hi'⟩ := x
          dsimp only at *
          have hlh : ¬ (hi' < lo) := by omega
          have hsplit : (wideL (r.take k) = true ∧ lo = 128 ∧ hi' = 191) ∨ (wideL (r.take k) = false ∧ lo < hi') ∨ (wideL (r.take k) = false ∧ ¬ lo < hi') := by
            cases hw : wideL (r.take k)
            · by_cases h : lo < hi'
              · exact .inr (.inl ⟨rfl, h⟩)
              · exact .inr (.inr ⟨rfl, h⟩)
            · exact .inl ⟨rfl, k2 hw⟩
          clear k2
          rcases hsplit with ⟨hw, rfl, rfl⟩ | ⟨hw, hlt⟩ | ⟨hw, hlt⟩
          · have HW : Hid (wideL (r.take (k + 1)) = true) := Lib.hid (by rw [HWT.out, hw]; simp)
            rw [hw]
            go_upto_region 14 with (fail)
            generalize wr.alloc (.cells #[.int .u8 128, .int .u8 191] 64) = w1 at *
            have q0 := HBX.out.c0
            have hzw : w.heap.size ≤ w1.heap.size := HRO1.out.below.size
            clear d0 d1 c0 HWT hw
            go_wp2_with (first | (at_builtin; refine wpList_append_lies _ rfl (.tmp 58) (.tmp 61) 30 rfl w.heap.size 5 iB (.int .u8 0) 1 1 Tryd.underlying30 hiB hzB0 hzB1 hzB2 rfl (by decide) _ _ _ rfl (HRO1.out.low.alloc _) ⟨w1.heap.size, 0, none⟩ 1 1 [.int .u8 128] rfl rfl (cell_news _ _ _) (by simp [Value.oneCell']) (by decide) (by unfold maxLen; omega) (by omega) (by rw [World.size_alloc]; omega) _ rfl ?_; intro g5 c5 W5 h5 hg5 hl5 hlt5; have q1 := (box_mid HBX.out HRO1.out.low hg5).c1; have h6m := HRO1.out.mid hg5; have hz5 : w.heap.size ≤ W5.heap.size := Nat.le_trans hzw (Nat.le_trans (by rw [World.size_alloc]; omega) hg5.size); have H5 := Lib.hid h5; have HG5 := Lib.hid hg5; have HL5 := Lib.hid hl5; clear h5 hg5 hl5) | (at_builtin; refine wpList_append_lies _ rfl (.tmp 63) (.tmp 66) 30 rfl w.heap.size 5 iB (.int .u8 0) 1 1 Tryd.underlying30 hiB hzB0 hzB1 hzB2 rfl (by decide) _ _ _ rfl (h6m.alloc _) ⟨W5.heap.size, 0, none⟩ 1 1 [.int .u8 191] rfl rfl (cell_news _ _ _) (by simp [Value.oneCell']) (by decide) (by unfold maxLen; omega) (by omega) (by rw [World.size_alloc]; omega) _ rfl ?_; intro g6 c6 W6 h6 hg6 hl6 hlt6; have H6 := Lib.hid h6; have HG6 := Lib.hid hg6; have HL6 := Lib.hid hl6; clear h6 hg6 hl6 q1 h6m) | fail)
            have hfin := HNEXT.out _ _ _ _ _ _ _ _ _ _ _ HRO1.out H5.out HG5.out HL5.out hlt5 H6.out HG6.out HL6.out
            go_roundg g2
            case measure => omega
            case rel => exact ⟨k + 1, by omega, by go_num, by rw [HW.out], hfin⟩
          · have HW : Hid (wideL (r.take (k + 1)) = true) := Lib.hid (by rw [HWT.out, hw]; simp; omega)
            rw [hw]
            go_upto_region 14 with (fail)
            generalize wr.alloc (.cells #[.int .u8 lo, .int .u8 hi'] 64) = w1 at *
            have q0 := HBX.out.c0
            have hzw : w.heap.size ≤ w1.heap.size := HRO1.out.below.size
            clear d0 d1 c0 HWT hw
            go_wp2_with (first | (at_builtin; refine wpList_append_lies _ rfl (.tmp 58) (.tmp 61) 30 rfl w.heap.size 5 iB (.int .u8 0) 1 1 Tryd.underlying30 hiB hzB0 hzB1 hzB2 rfl (by decide) _ _ _ rfl (HRO1.out.low.alloc _) ⟨w1.heap.size, 0, none⟩ 1 1 [.int .u8 lo] rfl rfl (cell_news _ _ _) (by simp [Value.oneCell']) (by decide) (by unfold maxLen; omega) (by omega) (by rw [World.size_alloc]; omega) _ rfl ?_; intro g5 c5 W5 h5 hg5 hl5 hlt5; have q1 := (box_mid HBX.out HRO1.out.low hg5).c1; have h6m := HRO1.out.mid hg5; have hz5 : w.heap.size ≤ W5.heap.size := Nat.le_trans hzw (Nat.le_trans (by rw [World.size_alloc]; omega) hg5.size); have H5 := Lib.hid h5; have HG5 := Lib.hid hg5; have HL5 := Lib.hid hl5; clear h5 hg5 hl5) | (at_builtin; refine wpList_append_lies _ rfl (.tmp 63) (.tmp 66) 30 rfl w.heap.size 5 iB (.int .u8 0) 1 1 Tryd.underlying30 hiB hzB0 hzB1 hzB2 rfl (by decide) _ _ _ rfl (h6m.alloc _) ⟨W5.heap.size, 0, none⟩ 1 1 [.int .u8 hi'] rfl rfl (cell_news _ _ _) (by simp [Value.oneCell']) (by decide) (by unfold maxLen; omega) (by omega) (by rw [World.size_alloc]; omega) _ rfl ?_; intro g6 c6 W6 h6 hg6 hl6 hlt6; have H6 := Lib.hid h6; have HG6 := Lib.hid hg6; have HL6 := Lib.hid hl6; clear h6 hg6 hl6 q1 h6m) | fail)
            have hfin := HNEXT.out _ _ _ _ _ _ _ _ _ _ _ HRO1.out H5.out HG5.out HL5.out hlt5 H6.out HG6.out HL6.out
            go_roundg g2
            case measure => omega
            case rel => exact ⟨k + 1, by omega, by go_num, by rw [HW.out], hfin⟩
          · have HW : Hid (wideL (r.take (k + 1)) = false) := Lib.hid (by rw [HWT.out, hw]; simp; omega)
            rw [hw]
            go_upto_region 14 with (fail)
            generalize wr.alloc (.cells #[.int .u8 lo, .int .u8 hi'] 64) = w1 at *
            have q0 := HBX.out.c0
            have hzw : w.heap.size ≤ w1.heap.size := HRO1.out.below.size
            clear d0 d1 c0 HWT hw
            go_wp2_with (first | (at_builtin; refine wpList_append_lies _ rfl (.tmp 58) (.tmp 61) 30 rfl w.heap.size 5 iB (.int .u8 0) 1 1 Tryd.underlying30 hiB hzB0 hzB1 hzB2 rfl (by decide) _ _ _ rfl (HRO1.out.low.alloc _) ⟨w1.heap.size, 0, none⟩ 1 1 [.int .u8 lo] rfl rfl (cell_news _ _ _) (by simp [Value.oneCell']) (by decide) (by unfold maxLen; omega) (by omega) (by rw [World.size_alloc]; omega) _ rfl ?_; intro g5 c5 W5 h5 hg5 hl5 hlt5; have q1 := (box_mid HBX.out HRO1.out.low hg5).c1; have h6m := HRO1.out.mid hg5; have hz5 : w.heap.size ≤ W5.heap.size := Nat.le_trans hzw (Nat.le_trans (by rw [World.size_alloc]; omega) hg5.size); have H5 := Lib.hid h5; have HG5 := Lib.hid hg5; have HL5 := Lib.hid hl5; clear h5 hg5 hl5) | (at_builtin; refine wpList_append_lies _ rfl (.tmp 63) (.tmp 66) 30 rfl w.heap.size 5 iB (.int .u8 0) 1 1 Tryd.underlying30 hiB hzB0 hzB1 hzB2 rfl (by decide) _ _ _ rfl (h6m.alloc _) ⟨W5.heap.size, 0, none⟩ 1 1 [.int .u8 hi'] rfl rfl (cell_news _ _ _) (by simp [Value.oneCell']) (by decide) (by unfold maxLen; omega) (by omega) (by rw [World.size_alloc]; omega) _ rfl ?_; intro g6 c6 W6 h6 hg6 hl6 hlt6; have H6 := Lib.hid h6; have HG6 := Lib.hid hg6; have HL6 := Lib.hid hl6; clear h6 hg6 hl6 q1 h6m) | fail)
            have hfin := HNEXT.out _ _ _ _ _ _ _ _ _ _ _ HRO1.out H5.out HG5.out HL5.out hlt5 H6.out HG6.out HL6.out
            go_roundg g2
            case measure => omega
            case rel => exact ⟨k + 1, by omega, by go_num, by rw [HW.out], hfin⟩
end Go.Proofs.YtgaalkcociifmaaDoor
