/- The program's rows of marks: made, marked, told. -/
import Derived.Test.YtioahgklplbinaaDoorGMk
import Derived.Deep.AppendLies
namespace Go.Proofs.YtioahgklplbinaaDoor
open Go.RowKit Go.Shelf SetM NfaM SimM
abbrev MkB := MkG 4 (.bool true) (.bool false)
set_option maxRecDepth 100000 in
set_option maxHeartbeats 4000000 in
theorem unmarked_c {W : World} {p0 p1 p2 : Option Addr} {n0 n1 k c0 c1 c2 : Nat} (hk : k ≤ 100000) : Calls Tryd.prog 39 #[.agg #[.slice p0 n0 c0, .slice p1 n1 c1, .slice p2 k c2]] W fun e W' => ∃ g, e = .returned (.slice (some ⟨g, 0, none⟩) k k) ∧ MkG 4 (.bool true) (.bool false) W' W.heap.size g k (fun _ => False) ∧ Below W.heap.size W W' := by
  obtain ⟨V, hV⟩ : ∃ V, V = W.alloc (.cells #[.slice p0 n0 c0, .slice p1 n1 c1, .slice p2 k c2] 30) := ⟨_, rfl⟩
  have hb : Below W.heap.size W V := by rw [hV]; exact (Below.refl _ _).alloc (Nat.le_refl _) _
  have zV : V.heap.size = W.heap.size + 1 := by rw [hV, World.size_alloc]
  have x0 : V.heap[W.heap.size]? = some (.cells #[.slice p0 n0 c0, .slice p1 n1 c1, .slice p2 k c2] 30 (0, 0)) := by rw [hV]; exact heap_alloc_new W _
  obtain ⟨⟨a0, a1, a2⟩, _⟩ := cells3 x0
  obtain ⟨i0, hi, hz0, hz1, hz2⟩ := info_parts infoBo
  obtain ⟨W1, hmk, h2, h3⟩ := run_makeSlice_full (P := Tryd.prog) (w := V) 0 67 4 i0 _ 1 Tryd.underlying67 hi hz0 hz1 .i64 .i64 k (by omega) (by rw [hz2]; omega) (by unfold maxLen; omega) (Nat.zero_le _)
  have e1 : (madeCells (Value.bool false).cells (k * 1)).toList = mksV (.bool true) (.bool false) k (fun _ => False) := by
    rw [mks_none, Nat.mul_one]
    exact toList_madeCells_one _ _
  rw [e1] at h2
  have HE : Hid (MkG 4 (.bool true) (.bool false) W1 W.heap.size V.heap.size k (fun _ => False)) := Lib.hid (by
    refine ⟨h2.1, ?_⟩
    rcases h2.2 with ⟨h4, _⟩ | ⟨g', cap, cur, h4, _, h6⟩
    · cases h4
    · have h5 := h4
      simp only [Value.slice.injEq, Option.some.injEq, Addr.mk.injEq, and_true, true_and] at h5
      exact .inr ⟨g', cap, cur, h4, by omega, h6⟩)
  have HB := Lib.hid (hb.grown h3 hb.size (fun j hj => by cases hj))
  have hk0 : (0 : Int) ≤ (k : Int) := by omega
  clear x0 e1 h2 h3 hb zV hi hz0 hz1 hz2
  go_enter Tryd.func39, Tryd.ntmps39
  go_upto_region 1 with fail
  rw [← hV]
  clear hV
  go_wp2
  go_ret
  exact ⟨_, rfl, HE.out, HB.out⟩
set_option maxRecDepth 100000 in
set_option maxHeartbeats 8000000 in
theorem marked_c {W : World} {p0 p1 p2 P : Option Addr} {n0 n1 k c0 c1 c2 n c : Nat} {l : List Int} (hl : InR W P l) (hn : n = l.length) (h8 : n ≤ 9223372036854775807) (hk : k ≤ 100000) :
    Calls Tryd.prog 40 #[.agg #[.slice p0 n0 c0, .slice p1 n1 c1, .slice p2 k c2], .slice P n c] W fun e W' => ∃ g, e = .returned (.slice (some ⟨g, 0, none⟩) k k) ∧ MkG 4 (.bool true) (.bool false) W' W.heap.size g k (Inn k l) ∧ Below W.heap.size W W' := by
  obtain ⟨V, hV⟩ : ∃ V, V = W.alloc (.cells #[.slice p0 n0 c0, .slice p1 n1 c1, .slice p2 k c2] 30) := ⟨_, rfl⟩
  have hb : Below W.heap.size W V := by rw [hV]; exact (Below.refl _ _).alloc (Nat.le_refl _) _
  have x0 : V.heap[W.heap.size]? = some (.cells #[.slice p0 n0 c0, .slice p1 n1 c1, .slice p2 k c2] 30 (0, 0)) := by rw [hV]; exact heap_alloc_new W _
  obtain ⟨⟨a0, a1, a2⟩, _⟩ := cells3 x0
  have HU := Lib.hid (unmarked_c (W := V) (p0 := p0) (p1 := p1) (p2 := p2) (n0 := n0) (n1 := n1) (c0 := c0) (c1 := c1) (c2 := c2) hk)
  have HL := Lib.hid hl
  have HN := Lib.hid hn
  have HB := Lib.hid hb
  clear hl hn hb x0
  go_enter Tryd.func40, Tryd.ntmps40
  go_upto_region 1 with fail
  rw [← hV]
  clear hV
  go_wp2_with fail
  refine HU.out.mono ?_
  rintro e w1 ⟨g, rfl, hM, b1⟩
  have HM := Lib.hid (hM.low HB.out.size)
  have HB1 := Lib.hid (HB.out.trans (b1.mono HB.out.size))
  have hg0 := hM.lt
  have HG : Hid (W.heap.size ≤ g) := Lib.hid (by have := HB.out.size; omega)
  clear a0 a1 a2 hM b1 HU hg0
  go_wp2_with fail
  go_loopg [12] n (fun gk s12 wx => ∃ r : Nat, r + gk = n ∧ s12 = .int .i64 r ∧ Hid (MkG 4 (.bool true) (.bool false) wx W.heap.size g k (Inn k (l.take r))) ∧ Hid (Below W.heap.size W wx))
  case atStart => exact ⟨0, by omega, rfl, Lib.hid (HM.out.congr (fun j _ => (inn_zero k l j).symm)), HB1⟩
  case round =>
    obtain ⟨r, hrg, rfl, HR, HW⟩ := hrel
    cases gk with
    | zero =>
      obtain rfl : r = n := by omega
      have hlt : ¬ (r : Int) < (r : Int) := by omega
      have HE : Hid (MkG 4 (.bool true) (.bool false) wr W.heap.size g k (Inn k l)) := Lib.hid (by have := HR.out; rw [List.take_of_length_le (by have := HN.out; omega)] at this; exact this)
      go_wp2
      go_ret
      exact ⟨_, rfl, HE.out, HW.out⟩
    | succ gk =>
      have hlt : (r : Int) < (n : Int) := by omega
      have hrl : r < l.length := by have := HN.out; omega
      have h0 : (0 : Int) ≤ (r : Int) := by omega
      have hwr : wrap64 ((r : Int) + 1) = ((r + 1 : Nat) : Int) := by rw [IntWalk.wrap64_in _ (by omega)]; omega
      have hb := HW.out
      have HLR := Lib.hid (HL.out r hrl)
      obtain ⟨g2, o, rfl, hg, c1⟩ := HLR.out
      have c1' := (hb.cell (p := ⟨g2, o + r, none⟩) hg).trans c1
      have HS := Lib.hid (fun (s : Nat) (hs : l[r] = (s : Int)) (hk : s < k) (j : Nat) => inn_add hrl hs hk j)
      have HN2 := Lib.hid (fun (h : ¬ (0 ≤ l[r] ∧ l[r] < k)) (j : Nat) => inn_skip hrl h j)
      clear c1 hb
      generalize l[r] = x at *
      by_cases hx : 0 ≤ x
      · by_cases hx2 : x < (k : Int)
        · obtain ⟨s, rfl⟩ : ∃ s : Nat, x = (s : Int) := ⟨x.toNat, by omega⟩
          have hsk : s < k := by omega
          have hc := HR.out.ex hsk
          obtain ⟨u, hc⟩ := hc
          have hf := HR.out.frz s
          have HR2 : Hid (MkG 4 (.bool true) (.bool false) (wr.setCell ⟨g, s, none⟩ (.bool true)) W.heap.size g k (Inn k (l.take (r + 1)))) := Lib.hid ((HR.out.set hsk).1.congr (fun j _ => HS.out s rfl hsk j))
          have HW2 : Hid (Below W.heap.size W (wr.setCell ⟨g, s, none⟩ (.bool true))) := Lib.hid (HW.out.grown (HR.out.set hsk).2 HW.out.size (fun j hj => by have := Option.some.inj hj; have := HG.out; omega))
          clear hsk hg HLR
          go_wp2
          go_roundg gk
          case measure => omega
          case rel => exact ⟨r + 1, by omega, by first | rw [hwr] | rfl | simp, HR2, HW2⟩
        · have HR2 : Hid (MkG 4 (.bool true) (.bool false) wr W.heap.size g k (Inn k (l.take (r + 1)))) := Lib.hid (HR.out.congr (fun j _ => (HN2.out (fun h => hx2 h.2) j).symm))
          clear hg HLR
          go_wp2
          go_roundg gk
          case measure => omega
          case rel => exact ⟨r + 1, by omega, by first | rw [hwr] | rfl | simp, HR2, HW⟩
      · have HR2 : Hid (MkG 4 (.bool true) (.bool false) wr W.heap.size g k (Inn k (l.take (r + 1)))) := Lib.hid (HR.out.congr (fun j _ => (HN2.out (fun h => hx h.1) j).symm))
        clear hg HLR
        go_wp2
        go_roundg gk
        case measure => omega
        case rel => exact ⟨r + 1, by omega, by first | rw [hwr] | rfl | simp, HR2, HW⟩
set_option maxRecDepth 100000 in
set_option maxHeartbeats 8000000 in
theorem states_c {W : World} {base g k : Nat} {M : Nat → Prop} (h : MkG 4 (.bool true) (.bool false) W base g k M) (hk : k ≤ 100000) :
    Calls Tryd.prog 41 #[.slice (some ⟨g, 0, none⟩) k k] W fun e W' => ∃ v, e = .returned v ∧ OwI W' W.heap.size v (stL k M) ∧ Below W.heap.size W W' := by
  obtain ⟨i0, hi, hz0, hz1, hz2⟩ := info_parts infoIn
  have HM := Lib.hid h
  have HG := Lib.hid h.lt
  clear h
  go_enter Tryd.func41, Tryd.ntmps41
  go_wp2_with fail
  go_loopg [3, 8] k (fun gk s3 s8 wx => ∃ (r : Nat) (v : Value), r + gk = k ∧ s8 = .int .i64 r ∧ v = s3 ∧ Hid (OwI wx W.heap.size v (stL r M)) ∧ Hid (Below W.heap.size W wx))
  case atStart => exact ⟨0, _, by omega, rfl, rfl, Lib.hid (OwI.nil _ _), Lib.hid (Below.refl _ _)⟩
  case round =>
    obtain ⟨r, v3, hrg, rfl, rfl, HO, HB⟩ := hrel
    cases gk with
    | zero =>
      obtain rfl : r = k := by omega
      have hlt : ¬ (r : Int) < (r : Int) := by omega
      go_wp2
      go_ret
      exact ⟨_, rfl, HO.out, HB.out⟩
    | succ gk =>
      have hlt : (r : Int) < (k : Int) := by omega
      have hrk : r < k := by omega
      have h0 : (0 : Int) ≤ (r : Int) := by omega
      have hwr : wrap64 ((r : Int) + 1) = ((r + 1 : Nat) : Int) := by rw [IntWalk.wrap64_in _ (by omega)]; omega
      have hb := HB.out
      by_cases hm : M r
      · have c1 := (hb.cell (p := ⟨g, r, none⟩) HG.out.2).trans (HM.out.yes hrk hm)
        have hown := HO.out
        have HS := Lib.hid (stL_yes hm)
        have hle := stL_len r M
        generalize stL r M = L at *
        unfold OwI at hown
        have hwz := hb.size
        go_wp2_with (at_builtin; refine wpList_append_own _ rfl _ _ 24 rfl W.heap.size 3 i0 (.int .i64 0) 1 8 Tryd.underlying24 hi hz0 hz1 hz2 rfl (by decide) _ _ _ rfl (hown.alloc _) ⟨wr.heap.size, 0, none⟩ 1 1 [.int .i64 r] rfl rfl (cell_news _ _ _) (by simp [Value.oneCell']) (by unfold maxLen; omega) (by omega) (by rw [World.size_alloc]; omega) ?_; intro v' w2 hown' hgrow _)
        go_roundg gk
        case measure => omega
        case rel => exact ⟨r + 1, _, by omega, by first | rw [hwr] | rfl | simp, rfl, Lib.hid (by rw [HS.out]; unfold OwI; rw [List.map_append, List.length_append]; exact hown'), Lib.hid ((hb.alloc hwz _).grown hgrow (by rw [World.size_alloc]; omega) (fun j hj => (hown.lt j hj).1))⟩
      · have c1 := (hb.cell (p := ⟨g, r, none⟩) HG.out.2).trans (HM.out.no hrk hm)
        have HO2 : Hid (OwI wr W.heap.size v3 (stL (r + 1) M)) := Lib.hid (by rw [stL_no hm]; exact HO.out)
        go_wp2
        go_roundg gk
        case measure => omega
        case rel => exact ⟨r + 1, _, by omega, by first | rw [hwr] | rfl | simp, rfl, HO2, HB⟩
end Go.Proofs.YtioahgklplbinaaDoor
