/- The law's small functions: same, within, each, scalars. -/
import Derived.Test.YtioahgklplbinaaDoorGPub
import Derived.Test.YtioahgklplbinaaDoorGLong
import Derived.Test.YtioahgklplbinaaDoorDB
import Derived.Laws.AppendOwnNone
import Derived.RegionTactic
namespace Go.Proofs.YtioahgklplbinaaDoor
open Go.RowKit Go.Shelf SetM NfaM SimM
set_option maxRecDepth 100000 in
set_option maxHeartbeats 8000000 in
theorem lsame_c {W : World} {P Q : Option Addr} {n c d : Nat} {l : List Int} (hn : n = l.length) (h8 : n ≤ 9223372036854775807) (hp : InR W P l) (hq : InR W Q l) : Calls Tryd.prog 15 #[.slice P n c, .slice Q n d] W fun e W' => e = .returned (.bool true) ∧ Below W.heap.size W W' := by
  have HP := Lib.hid hp
  have HQ := Lib.hid hq
  have HN := Lib.hid hn
  have hnn : ((n : Int) != (n : Int)) = false := by rw [bne_eq_false_iff_eq]
  clear hn hp hq
  go_enter Tryd.func15, Tryd.ntmps15
  go_wp2_with fail
  go_loopg [5] n (fun gk s5 wx => ∃ r : Nat, r + gk = n ∧ s5 = .int .i64 r ∧ Hid (Below W.heap.size W wx))
  case atStart => exact ⟨0, by omega, rfl, Lib.hid (Below.refl _ _)⟩
  case round =>
    obtain ⟨r, hrg, rfl, HB⟩ := hrel
    clear hnn
    cases gk with
    | zero =>
      obtain rfl : r = n := by omega
      have hlt : ¬ (r : Int) < (r : Int) := by omega
      go_wp2
      go_ret
      exact ⟨rfl, HB.out⟩
    | succ gk =>
      have hlt : (r : Int) < (n : Int) := by omega
      have hrl : r < l.length := by have := HN.out; omega
      have h0 : (0 : Int) ≤ (r : Int) := by omega
      have hwr : wrap64 ((r : Int) + 1) = ((r + 1 : Nat) : Int) := by rw [IntWalk.wrap64_in _ (by omega)]; omega
      have hb := HB.out.drew
      obtain ⟨g, o, rfl, hg, c1⟩ := (InR.step HP.out hb) r hrl
      obtain ⟨g', o', rfl, hg', c2⟩ := (InR.step HQ.out hb) r hrl
      generalize l[r] = x at c1 c2
      have hxx : (x != x) = false := by rw [bne_eq_false_iff_eq]
      have HBD := Lib.hid hb
      clear hb hg hg'
      go_wp2_with fail
      go_region
      all_goals
        clear c1 c2
        go_wp2
        go_roundg gk
        case measure => omega
        case rel => exact ⟨r + 1, by omega, by first | rw [hwr] | rfl | simp, HBD⟩
/-- Is it among them? -/
def Seen (q : Bool) (x : Int) (l : List Int) : Prop := q = true ↔ x ∈ l
set_option maxRecDepth 100000 in
set_option maxHeartbeats 8000000 in
theorem within_c {W : World} {P Q : Option Addr} {n k c d : Nat} {a b : List Int} (hn : n = a.length) (hk : k = b.length) (h8 : n ≤ 9223372036854775807 ∧ k ≤ 1000000) (hp : InR W P a) (hq : InR W Q b) (hin : ∀ x ∈ a, x ∈ b) : Calls Tryd.prog 11 #[.slice P n c, .slice Q k d] W fun e W' => e = .returned (.bool true) ∧ Below W.heap.size W W' := by
  have HP := Lib.hid hp
  have HQ := Lib.hid hq
  have HN := Lib.hid (And.intro hn hk)
  have HIN := Lib.hid hin
  have hn8 := h8.1
  have hk8 := h8.2
  clear hn hk hp hq hin h8
  go_enter Tryd.func11, Tryd.ntmps11
  go_wp2_with fail
  go_loopg [5] n (fun gk s5 wx => ∃ r : Nat, r + gk = n ∧ s5 = .int .i64 r ∧ Hid (Below W.heap.size W wx))
  case atStart => exact ⟨0, by omega, rfl, Lib.hid (Below.refl _ _)⟩
  case round =>
    obtain ⟨r, hrg, rfl, HB⟩ := hrel
    cases gk with
    | zero =>
      obtain rfl : r = n := by omega
      have hlt : ¬ (r : Int) < (r : Int) := by omega
      go_wp2_with fail
      go_ret
      exact ⟨rfl, HB.out⟩
    | succ gko =>
      have hlt : (r : Int) < (n : Int) := by omega
      have hrl : r < a.length := by have := HN.out; omega
      have h0 : (0 : Int) ≤ (r : Int) := by omega
      have hwr : wrap64 ((r : Int) + 1) = ((r + 1 : Nat) : Int) := by rw [IntWalk.wrap64_in _ (by omega)]; omega
      obtain ⟨x, hx⟩ : ∃ x, x = a[r] := ⟨_, rfl⟩
      have HXI : Hid (x ∈ b) := Lib.hid (HIN.out x (by rw [hx]; exact List.getElem_mem hrl))
      have HRX := Lib.hid (show ∃ h : r < a.length, a[r] = x from ⟨hrl, hx.symm⟩)
      clear hx hrl
      go_wp2_with fail
      go_loopg [6, 7] k (fun gk s6 s7 wx => ∃ (j : Nat) (q : Bool), j + gk = k ∧ s7 = .int .i64 j ∧ s6 = .bool q ∧ Hid (Seen q x (b.take j)) ∧ Hid (Below W.heap.size W wx))
      case atStart => exact ⟨0, false, by omega, rfl, rfl, Lib.hid (show Seen false x (b.take 0) by unfold Seen; simp), HB⟩
      case round =>
        obtain ⟨j, q, hjg, rfl, rfl, HJ, HB2⟩ := hrel
        cases gk with
        | zero =>
          obtain rfl : j = k := by omega
          have hlt2 : ¬ (j : Int) < (j : Int) := by omega
          obtain rfl : q = true := HJ.out.2 (by rw [List.take_of_length_le (by have := HN.out; omega)]; exact HXI.out)
          go_wp2_with fail
          go_roundg gko
          case measure => omega
          case rel => exact ⟨r + 1, by omega, by first | rw [hwr] | rfl | simp, HB2⟩
        | succ gk =>
          have hlt2 : (j : Int) < (k : Int) := by omega
          have hjl : j < b.length := by have := HN.out; omega
          have hj0 : (0 : Int) ≤ (j : Int) := by omega
          have hwj : wrap64 ((j : Int) + 1) = ((j + 1 : Nat) : Int) := by rw [IntWalk.wrap64_in _ (by omega)]; omega
          have hb := HB2.out.drew
          have HBD := Lib.hid hb
          cases q with
          | true =>
            have HJ2 : Hid (Seen true x (b.take (j + 1))) := Lib.hid ⟨fun _ => by rw [List.take_succ_eq_append_getElem hjl, List.mem_append]; exact .inl (HJ.out.1 rfl), fun _ => rfl⟩
            clear hb hjl
            go_wp2_with fail
            go_region
            all_goals
              go_wp2_with fail
              go_roundg gk
              case measure => omega
              case rel => exact ⟨j + 1, true, by omega, by first | rw [hwj] | rfl | simp, rfl, HJ2, HBD⟩
          | false =>
            obtain ⟨hrl, hxe⟩ := HRX.out
            obtain ⟨g, o, rfl, hg, c1⟩ := (InR.step HP.out hb) r hrl
            obtain ⟨g', o', rfl, hg', c2⟩ := (InR.step HQ.out hb) j hjl
            rw [hxe] at c1
            obtain ⟨y, hy⟩ : ∃ y, y = b[j] := ⟨_, rfl⟩
            have HTK : Hid (b.take (j + 1) = b.take j ++ [y]) := Lib.hid (by rw [List.take_succ_eq_append_getElem hjl, hy])
            rw [← hy] at c2
            clear hb hg hg' hrl hxe hy hjl
            by_cases hxy : y = x
            · have d1 : (y == x) = true := by rw [beq_iff_eq]; exact hxy
              have HJ2 : Hid (Seen true x (b.take (j + 1))) := Lib.hid ⟨fun _ => by rw [HTK.out, List.mem_append]; right; simp [hxy], fun _ => rfl⟩
              clear hxy
              go_wp2_with fail
              go_region
              all_goals
                clear c1 c2 d1
                go_wp2_with fail
                go_roundg gk
                case measure => omega
                case rel => exact ⟨j + 1, true, by omega, by first | rw [hwj] | rfl | simp, rfl, HJ2, HBD⟩
            · have d1 : (y == x) = false := by rw [beq_eq_false_iff_ne]; exact hxy
              have HJ2 : Hid (Seen false x (b.take (j + 1))) := Lib.hid ⟨fun h => (by cases h), fun h => by
                rw [HTK.out, List.mem_append] at h
                rcases h with h | h
                · exact HJ.out.2 h
                · simp at h; exact absurd h.symm hxy⟩
              clear hxy
              go_wp2_with fail
              go_region
              all_goals
                clear c1 c2 d1
                go_wp2_with fail
                go_roundg gk
                case measure => omega
                case rel => exact ⟨j + 1, false, by omega, by first | rw [hwj] | rfl | simp, rfl, HJ2, HBD⟩
/-- Scalars, as choices say. -/
def scF (cs : List Int) : List Int := cs.map (fun c => c % 230)
set_option maxRecDepth 100000 in
set_option maxHeartbeats 8000000 in
theorem scalars_c {W : World} {A : Option Addr} {n ca : Nat} {cs : List Int} (hU : U16s W.heap.size W A cs) (hn : n = cs.length) (h8 : n ≤ 100000) : Calls Tryd.prog 14 #[.slice A n ca] W fun e W' => ∃ v, e = .returned v ∧ OwI W' W.heap.size v (scF cs) ∧ Below W.heap.size W W' := by
  obtain ⟨i0, hi, hz0, hz1, hz2⟩ := info_parts infoIn
  have HU := Lib.hid hU
  have HN := Lib.hid hn
  clear hU hn
  go_enter Tryd.func14, Tryd.ntmps14
  go_wp2_with fail
  go_loopg [3, 4] n (fun gk s3 s4 wx => ∃ (r : Nat) (v : Value), r + gk = n ∧ s4 = .int .i64 r ∧ v = s3 ∧ Hid (OwI wx W.heap.size v (scF (cs.take r))) ∧ Hid (Below W.heap.size W wx))
  case atStart => exact ⟨0, _, by omega, rfl, rfl, Lib.hid (OwI.nil _ _), Lib.hid (Below.refl _ _)⟩
  case round =>
    obtain ⟨r, v3, hrg, rfl, rfl, HO, HB⟩ := hrel
    cases gk with
    | zero =>
      obtain rfl : r = n := by omega
      have hlt : ¬ (r : Int) < (r : Int) := by omega
      have HE : Hid (OwI wr W.heap.size v3 (scF cs)) := Lib.hid (by have := HO.out; rw [List.take_of_length_le (by have := HN.out; omega)] at this; exact this)
      go_wp2_with fail
      go_ret
      exact ⟨_, rfl, HE.out, HB.out⟩
    | succ gk =>
      have hlt : (r : Int) < (n : Int) := by omega
      have hrl : r < cs.length := by have := HN.out; omega
      have h0 : (0 : Int) ≤ (r : Int) := by omega
      have hwr : wrap64 ((r : Int) + 1) = ((r + 1 : Nat) : Int) := by rw [IntWalk.wrap64_in _ (by omega)]; omega
      obtain ⟨g, o, rfl, hg, hc⟩ := HU.out.2 (by intro e; rw [e] at hrl; cases hrl)
      have c1 := (HB.out.cell (p := ⟨g, o + r, none⟩) hg).trans (hc r hrl)
      have hxb := HU.out.1 cs[r] (List.getElem_mem hrl)
      obtain ⟨x, hx⟩ : ∃ x, x = cs[r] := ⟨_, rfl⟩
      rw [← hx] at c1 hxb
      obtain ⟨hx0, hx1⟩ := hxb
      have HTK : Hid (scF (cs.take (r + 1)) = scF (cs.take r) ++ [x % 230]) := Lib.hid (by unfold scF; rw [List.take_succ_eq_append_getElem hrl, List.map_append, hx]; rfl)
      have hown := HO.out
      have hle : (scF (cs.take r)).length ≤ 100000 := by unfold scF; rw [List.length_map]; exact Nat.le_trans (List.length_take_le _ _) (by omega)
      generalize scF (cs.take r) = L at *
      unfold OwI at hown
      have hb := HB.out
      have hwz := hb.size
      clear hc hg hx hrl
      go_wp2_with (at_builtin; refine wpList_append_own _ rfl _ _ 24 rfl W.heap.size 3 i0 (.int .i64 0) 1 8 Tryd.underlying24 hi hz0 hz1 hz2 rfl (by decide) _ _ _ rfl (hown.alloc _) ⟨wr.heap.size, 0, none⟩ 1 1 [.int .i64 (x % 230)] rfl rfl (cell_news _ _ _) (by simp [Value.oneCell']) (by unfold maxLen; omega) (by omega) (by rw [World.size_alloc]; omega) ?_; intro v' w2 hown' hgrow _)
      go_roundg gk
      case measure => omega
      case rel => exact ⟨r + 1, _, by omega, by first | rw [hwr] | rfl | simp, rfl, Lib.hid (by rw [HTK.out]; unfold OwI; rw [List.map_append, List.length_append]; exact hown'), Lib.hid ((hb.alloc hwz _).grown hgrow (by rw [World.size_alloc]; omega) (fun j hj => (hown.lt j hj).1))⟩
end Go.Proofs.YtioahgklplbinaaDoor
