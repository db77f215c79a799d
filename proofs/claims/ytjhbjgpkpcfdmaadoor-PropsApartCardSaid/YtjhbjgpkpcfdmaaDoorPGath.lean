/- props.gather: a class's spans, with its parts'. -/
import Derived.Test.YtjhbjgpkpcfdmaaDoorPLook
import Derived.Test.YtjhbjgpkpcfdmaaDoorPApp
import Derived.WalkSmall
namespace Go.Proofs.YtjhbjgpkpcfdmaaDoor
open Go.RowKit Go.Shelf Go.Maps SetM PropsM

theorem field_runs (a b : Value) : ∀ w, (Instr.field 48 (.agg #[a, b]) 0).run Tryd.prog w = .ok a w := by
  intro w
  simp [Instr.field, run_underlying Tryd.underlying48, go_sem, asAgg]
theorem field_parts (a b : Value) : ∀ w, (Instr.field 48 (.agg #[a, b]) 1).run Tryd.prog w = .ok b w := by
  intro w
  simp [Instr.field, run_underlying Tryd.underlying48, go_sem, asAgg]
/-- What gather hands back for a class. -/
def GathOk (i : Nat) : Prop := ∀ (w : World) (B : Nat), Cls w B → Calls Tryd.prog 28 #[.map (some B), .string ⟨(nameOf i).toArray⟩] w fun e w' => ∃ v, e = .returned v ∧ w'.ownsRow w.heap.size 39 2 v (gathOf i).length (cellsS (gathOf i)) ∧ Below w.heap.size w w'

set_option maxRecDepth 100000 in
set_option maxHeartbeats 4000000 in
theorem gather_step (i : Nat) (hi : i < 13) (hp : ∀ j ∈ partsOf i, j < 13 ∧ GathOk j) : GathOk i := by
  intro w B hcls
  obtain ⟨i0, hi0, hz0, hz1, hz2⟩ := info_parts infoS
  have HCLS := Lib.hid hcls
  obtain ⟨vs, hv, hacc, hown⟩ := hcls
  obtain ⟨P, c, Q, d, hval, hSp, hSt⟩ := hacc i (by omega)
  have hlk0 := look_c hv hown i hi
  have HLK : Hid (∀ U, Below w.heap.size w U → (Instr.lookup 45 (.map (some B)) (.string ⟨(nameOf i).toArray⟩) false).run Tryd.prog U = .ok (.agg #[.slice P (runsOf i).length c, .slice Q (partsOf i).length d]) U) := Lib.hid (fun U hU => by
    have h1 : U.ownsMap Tryd.prog 9 Rv B 13 (mkD vs) := by
      have hlt := hown.lt
      obtain ⟨es, clock, hh, rest⟩ := hown
      exact ⟨es, clock, (hU.block B hlt).trans hh, rest⟩
    rw [look_c hv h1 i hi, hval])
  have HSP : Hid (Sl w P (runsOf i)) := Lib.hid hSp
  have HST := Lib.hid hSt
  have HP := Lib.hid hp
  have HG := Lib.hid (gath_eq i hi)
  have HPL := (runs_len i hi).2
  have HRL := (runs_len i hi).1
  have HGL := Lib.hid (gath_len i hi)
  clear hp hSp hSt hacc hlk0 hown hval
  have hlk := HLK.out w (Below.refl _ _)
  generalize hrs : runsOf i = rs at *
  generalize hps : partsOf i = ps at *
  clear hrs hps
  have hf0 := field_runs
  have hf1 := field_parts
  go_enter Tryd.func28, Tryd.ntmps28
  go_wp2
  go_loopg [5, 15] rs.length (fun g s5 s15 wx => ∃ k : Nat, k + g = rs.length ∧ s15 = .int .i64 k ∧ wx.ownsRow w.heap.size 39 2 s5 (rs.take k).length (cellsS (rs.take k)) ∧ Below w.heap.size w wx)
  case atStart => exact ⟨0, by omega, rfl, World.ownsRow_nil _ _ _ _, Below.refl _ _⟩
  case round =>
    obtain ⟨k, hkg, rfl, hown, hb⟩ := hrel
    clear hlk
    cases gk with
    | zero =>
      have hkz : ¬ ((k : Int) < (rs.length : Int)) := by omega
      rw [List.take_of_length_le (by omega)] at hown
      have hlk := HLK.out _ hb
      go_wp2
      go_loopg [5, 33] ps.length (fun g s5 s33 wy => ∃ k : Nat, k + g = ps.length ∧ s33 = .int .i64 k ∧ wy.ownsRow w.heap.size 39 2 s5 (rs ++ (ps.take k).flatMap gathOf).length (cellsS (rs ++ (ps.take k).flatMap gathOf)) ∧ Below w.heap.size w wy)
      case atStart => exact ⟨0, by omega, rfl, by simpa using hown, hb⟩
      case round =>
        clear hown hb hlk
        obtain ⟨k2, hkg2, rfl, hown, hb⟩ := hrel
        cases gk with
        | zero =>
          have hkz2 : ¬ ((k2 : Int) < (ps.length : Int)) := by omega
          rw [List.take_of_length_le (by omega), ← HG.out] at hown
          go_wp2
          go_ret
          exact ⟨_, rfl, hown, hb⟩
        | succ g2 =>
          have hk2 : k2 < ps.length := by omega
          have hkz2 : (k2 : Int) < (ps.length : Int) := by omega
          have hsz := hb.size
          obtain ⟨bb, off, rfl, hbb, hc⟩ := (Strs.below hb HST.out) (by intro h; rw [List.map_eq_nil_iff] at h; rw [h] at hk2; simp at hk2)
          have c0 := hc k2 (by rw [List.length_map]; omega)
          rw [List.getElem_map] at c0
          obtain ⟨hj, hgo⟩ := HP.out ps[k2] (List.getElem_mem hk2)
          have HT := Lib.hid (show (ps.take (k2 + 1)).flatMap gathOf = (ps.take k2).flatMap gathOf ++ gathOf ps[k2] by rw [List.take_succ_eq_append_getElem hk2, List.flatMap_append]; simp)
          have HLE : (rs ++ (ps.take k2).flatMap gathOf).length ≤ 26 := by
            have h1 := HGL.out
            rw [HG.out, ← List.take_append_drop k2 ps, List.flatMap_append, ← List.append_assoc, List.length_append] at h1
            omega
          have HGJ := Lib.hid (gath_len ps[k2] hj)
          have HC := Lib.hid (hgo wr B (HCLS.out.below hb))
          clear hc hgo
          generalize ps[k2] = j at *
          generalize hL : (rs ++ (ps.take k2).flatMap gathOf) = L at *
          have HL := Lib.hid hL
          clear hL
          go_wp2_with (first | (go_at_call 28; refine HC.out.mono ?_; rintro e w5 ⟨v5, rfl, ho5, hb5⟩; obtain ⟨P5, c5, rfl, hs5, hp5⟩ := spans_of0 ho5; have hown5 := own_belowF hown hb5; have hz5 := hb5.size) | (at_builtin; refine wpList_append_spans rfl _ _ rfl w.heap.size _ _ _ rfl hown5 P5 c5 _ rfl hs5 hp5 (by have := HGJ.out; omega) (by omega) ?_; intro v' w6 hown6 hgrow))
          go_roundg g2
          case measure => omega
          case rel =>
            refine ⟨k2 + 1, by omega, by go_num, ?_, (hb.trans (hb5.mono hsz)).grown hgrow (by omega) (fun j hj => (hown5.lt j hj).1)⟩
            rw [HT.out, ← List.append_assoc, HL.out, cellsS_append, List.length_append]; exact hown6
    | succ g =>
      have hk : k < rs.length := by omega
      have hkz : (k : Int) < (rs.length : Int) := by omega
      obtain ⟨bb, off, rfl, hbb, hc⟩ := (HSP.out.step hb) (by intro h; rw [h] at hk; simp at hk)
      obtain ⟨c0, c1⟩ := hc k hk
      have HT := Lib.hid (List.take_succ_eq_append_getElem hk)
      have HTL : (rs.take k).length ≤ 10 := by rw [List.length_take]; omega
      have hsz := hb.size
      clear hc
      generalize rs[k] = s at *
      generalize rs.take k = Lk at *
      obtain ⟨x, y⟩ := s
      dsimp only at c0 c1
      go_wp2_with (at_builtin; refine wpList_append_own _ rfl _ _ 27 rfl w.heap.size 39 i0 (.agg #[.int .i64 0, .int .i64 0]) 2 16 Tryd.underlying27 hi0 hz0 hz1 hz2 rfl (by decide) _ _ _ rfl ((hown.alloc _).alloc _) ⟨wr.heap.size + 1, 0, none⟩ 1 1 [.int .i64 x, .int .i64 y] rfl rfl (news_after wr _ _ _) (by simp [Value.oneCell']) (by unfold maxLen; omega) (by omega) (by rw [World.size_alloc, World.size_alloc]; omega) ?_; intro v' w6 hown' hgrow _)
      go_roundg g
      case measure => omega
      case rel =>
        have hb6 : Below w.heap.size w ((wr.alloc (.cells #[.int .i64 x, .int .i64 y] 70)).alloc (.cells #[.int .i64 x, .int .i64 y] 39)) := (hb.alloc hsz _).alloc (by rw [World.size_alloc]; omega) _
        refine ⟨k + 1, by omega, by go_num, ?_, hb6.grown hgrow hb6.size (fun j hj => (hown.lt j hj).1)⟩
        rw [HT.out, cellsS_append, List.length_append]; exact hown'
theorem gather_c (i : Nat) (hi : i < 13) : GathOk i := by
  have hleaf : ∀ j, j < 13 → partsOf j = [] → GathOk j := fun j hj h => gather_step j hj (fun k hk => by rw [h] at hk; simp at hk)
  have h9 : GathOk 9 := gather_step 9 (by omega) (fun k hk => by
    have : k = 8 ∨ k = 5 ∨ k = 3 ∨ k = 6 := by simpa [partsOf, partsL] using hk
    rcases this with rfl | rfl | rfl | rfl <;> exact ⟨by omega, hleaf _ (by omega) rfl⟩)
  have h12 : GathOk 12 := gather_step 12 (by omega) (fun k hk => by
    have : k = 9 ∨ k = 4 := by simpa [partsOf, partsL] using hk
    rcases this with rfl | rfl
    · exact ⟨by omega, h9⟩
    · exact ⟨by omega, hleaf _ (by omega) rfl⟩)
  rcases (show i = 0 ∨ i = 1 ∨ i = 2 ∨ i = 3 ∨ i = 4 ∨ i = 5 ∨ i = 6 ∨ i = 7 ∨ i = 8 ∨ i = 9 ∨ i = 10 ∨ i = 11 ∨ i = 12 by omega) with rfl | rfl | rfl | rfl | rfl | rfl | rfl | rfl | rfl | rfl | rfl | rfl | rfl
  all_goals first | exact h9 | exact h12 | exact hleaf _ (by omega) rfl
end Go.Proofs.YtjhbjgpkpcfdmaaDoor
