/- FoldUnion's walk: of two sets together it closes what it closes of each. -/
import Derived.Test.YtmmghgfkpndokaaDoorFGrow
import Derived.Test.YtmmghgfkpndokaaDoorRefOps
import Derived.Test.YtmmghgfkpndokaaDoorFTwiceWalk
import Derived.Test.YtmmghgfkpndokaaDoorRefUnion
import Derived.Deep.AppendLies
import Derived.Deep.RegionLaw
import Derived.IntWalk
namespace Go.Proofs.YtmmghgfkpndokaaDoor
open Go.RowKit Go.Shelf SetM

theorem closed_union {X Y Z U a b : List Sp} (hX : IsSet X (ClosedK (Tells (a ++ b)))) (hY : IsSet Y (ClosedK (Tells a))) (hZ : IsSet Z (ClosedK (Tells b))) (hU : IsSet U (fun r => ∃ l ∈ [Y, Z], Tells l r)) : X = U := by
  refine hX.eq hU (fun r => ?_)
  have h1 := hY.tells closed_sc r
  have h2 := hZ.tells closed_sc r
  have h3 : ∀ y, Tells (a ++ b) y ↔ Tells a y ∨ Tells b y := fun y => by
    unfold Tells; rw [mem_append]
    constructor
    · rintro ⟨p, q | q⟩
      · exact .inl ⟨p, q⟩
      · exact .inr ⟨p, q⟩
    · rintro (⟨p, q⟩ | ⟨p, q⟩)
      · exact ⟨p, .inl q⟩
      · exact ⟨p, .inr q⟩
  rw [show (∃ l ∈ [Y, Z], Tells l r) ↔ (Tells Y r ∨ Tells Z r) from by simp, h1, h2]
  unfold ClosedK
  constructor
  · rintro ⟨p, z, q, e⟩
    rcases (h3 z).1 q with q | q
    · exact .inl ⟨p, z, q, e⟩
    · exact .inr ⟨p, z, q, e⟩
  · rintro (⟨p, z, q, e⟩ | ⟨p, z, q, e⟩)
    · exact ⟨p, z, (h3 z).2 (.inl q), e⟩
    · exact ⟨p, z, (h3 z).2 (.inr q), e⟩

set_option maxRecDepth 100000 in
set_option maxHeartbeats 4000000 in
theorem foldUnion_any (A B : Option Addr) (ca cb : Nat) (cs ds : List Int) (w : World) (hU : U16s w.heap.size w A cs) (hV : U16s w.heap.size w B ds) (hC : Cf w w) :
    Calls Tryd.prog 4 #[.slice A cs.length ca, .slice B ds.length cb] w fun e w' => e = .returned (.bool true) ∧ Below w.heap.size w w' := by
  obtain ⟨i0, hi, hz0, hz1, hz2⟩ := info_parts infoS
  have HC := Lib.hid hC
  have HU := Lib.hid hU
  have HV := Lib.hid hV
  clear hC hU hV
  by_cases hbig : cs.length ≤ 8 ∧ ds.length ≤ 8
  case neg =>
    by_cases hb1 : cs.length ≤ 8
    · have t1 : ¬ ((8 : Int) < (cs.length : Int)) := by omega
      have t2 : (8 : Int) < (ds.length : Int) := by omega
      go_enter Tryd.func4, Tryd.ntmps4
      go_wp2_with fail
      refine (known_c HC.out).mono ?_
      rintro e w2 ⟨rfl, b2⟩
      go_wp2
      go_ret
      exact ⟨rfl, b2⟩
    · have t1 : (8 : Int) < (cs.length : Int) := by omega
      go_enter Tryd.func4, Tryd.ntmps4
      go_wp2_with fail
      refine (known_c HC.out).mono ?_
      rintro e w2 ⟨rfl, b2⟩
      go_wp2
      go_ret
      exact ⟨rfl, b2⟩
  obtain ⟨hb1, hb2⟩ := hbig
  have t1 : ¬ ((8 : Int) < (cs.length : Int)) := by omega
  have t2 : ¬ ((8 : Int) < (ds.length : Int)) := by omega
  go_enter Tryd.func4, Tryd.ntmps4
  go_wp2_with fail
  refine (known_c HC.out).mono ?_
  rintro e w1 ⟨rfl, b1⟩
  have HC1 := Lib.hid (HC.out.step b1)
  have HU1 : Hid (U16s w1.heap.size w1 A cs) := Lib.hid ((HU.out.below b1).mono b1.size)
  have HV1 : Hid (U16s w1.heap.size w1 B ds) := Lib.hid ((HV.out.below b1).mono b1.size)
  have hst1 : w1.ownsRow w1.heap.size 30 2 (.slice none 0 0) 0 [] := World.ownsRow_nil _ _ _ _
  have hst2 : Below w1.heap.size w1 w1 := Below.refl _ _
  clear HU HV HC t1 t2
  go_wp2
  go_loopg [5, 7] cs.length (fun g s5 s7 wx => ∃ k : Nat, k + g = cs.length ∧ s7 = .int .i64 k ∧ wx.ownsRow w1.heap.size 30 2 s5 (([] : List Sp) ++ nearsF 2 (cs.take k)).length (cellsS (([] : List Sp) ++ nearsF 2 (cs.take k))) ∧ Below w1.heap.size w1 wx)
  case atStart => exact ⟨0, by omega, rfl, by first | simpa [nearsF] using hst1 | simpa [nearsF, cellsS] using hst1, hst2⟩
  case round =>
    obtain ⟨k, hkg, rfl, hown, hb⟩ := hrel
    clear hst1 hst2
    cases gk with
    | succ g =>
      have hk : k < cs.length := by omega
      have hkz : (k : Int) < (cs.length : Int) := by omega
      obtain ⟨bd, off, rfl, hbd, hcd⟩ := HU1.out.2 (by intro h; rw [h] at hk; simp at hk)
      have c0 := (hb.cell (p := ⟨bd, off + k, none⟩) hbd).trans (hcd k hk)
      obtain ⟨d0, d1⟩ := HU1.out.1 cs[k] (List.getElem_mem hk)
      have HNE := Lib.hid (near_any cs[k] d0 d1)
      obtain ⟨n0, n1⟩ := nearF_in cs[k] d0 d1
      have hnx := nearsF_next 2 cs k hk
      have hll : (([] : List Sp) ++ nearsF 2 (cs.take k)).length ≤ 0 + cs.length := by rw [List.length_append, nearsF_len, List.length_take]; (try simp only [List.length_nil]); omega
      clear hcd d0 d1
      generalize nearF cs[k] = n at *
      generalize cs[k] = d at *
      have hnx2 : ([] : List Sp) ++ nearsF 2 (cs.take (k + 1)) = (([] : List Sp) ++ nearsF 2 (cs.take k)) ++ [(n, n + 2)] := by rw [hnx, ← List.append_assoc]
      have HNX := Lib.hid hnx2
      clear hnx hnx2
      generalize ([] : List Sp) ++ nearsF 2 (cs.take k) = L at *
      have HOW := Lib.hid hown
      have hsz := hb.size
      have e1 : IntKind.i64.wrap (n + 2) = n + 2 := IntWalk.i64_in _ (by omega)
      have hb2 : Below w1.heap.size w1 ((wr.alloc (.cells #[.int .i64 n, .int .i64 (n + 2)] 30)).drew) := below_drewN (hb.alloc hsz _) 1
      have HB2 := Lib.hid hb2
      clear hown hb2
      go_wp2
      go_region_law (first
        | (refine step_append_lies _ (by rfl) _ _ _ (by rfl) w1.heap.size 30 i0 _ 2 16 Tryd.underlying26 hi hz0 hz1 hz2 rfl (by omega) _ L.length _ (by rfl) ((HOW.out.alloc _).drew) ⟨wr.heap.size, 0, none⟩ 1 1 [.int .i64 n, .int .i64 (n + 2)] (by rfl) (by rfl) (World.news_of_block (cs := #[.int .i64 n, .int .i64 (n + 2)]) (t := 30) (fr := (0, 0)) (heap_alloc_new wr _)) (by simp [Value.oneCell']) (by omega) (by unfold maxLen; omega) (by omega) (by simp; omega) (wr.heap.size + 1) (by simp) ?_; intro gg cap w4 hown' hgrow hat hlt)
        | (go_simp; go_at_call 11; refine (HNE.out _).mono ?_; rintro e w' ⟨rfl, rfl⟩)
        | (go_at_call 11; refine (HNE.out _).mono ?_; rintro e w' ⟨rfl, rfl⟩))
      all_goals
        have hbn : Below w1.heap.size w1 w4 := HB2.out.grown hgrow (by simp; omega) (fun j hj => (HOW.out.lt j hj).1)
        go_wp2
        go_roundg g
        case measure => omega
        case rel => exact ⟨k + 1, by omega, by go_num, by rw [HNX.out, cellsS_append, List.length_append]; exact hown', hbn⟩
    | zero =>
      have hkz : ¬ ((k : Int) < (cs.length : Int)) := by omega
      rw [List.take_of_length_le (by omega)] at hown
      have hla : (([] : List Sp) ++ nearsF 2 cs).length ≤ 8 := by rw [List.length_append, nearsF_len]; simpa using hb1
      generalize ([] : List Sp) ++ nearsF 2 cs = a at *
      obtain ⟨P, c, rfl, hs, hz⟩ := spans_of0 hown
      have HSa := Lib.hid hs
      have HZa := Lib.hid hz
      have HC2 := Lib.hid (HC1.out.step hb)
      have HV2 : Hid (U16s wr.heap.size wr B ds) := Lib.hid ((HV1.out.below hb).mono hb.size)
      have hbw := b1.trans (hb.mono b1.size)
      have hst1 : wr.ownsRow wr.heap.size 30 2 (.slice none 0 0) 0 [] := World.ownsRow_nil _ _ _ _
      have hst2 : Below wr.heap.size wr wr := Below.refl _ _
      clear hown hs hz b1 hb HV1 HU1 HC1
      generalize hw2 : wr = w2 at *
      clear hw2 wr hkg
      go_wp2
      go_loopg [6, 8] ds.length (fun g s6 s8 wx => ∃ k : Nat, k + g = ds.length ∧ s8 = .int .i64 k ∧ wx.ownsRow w2.heap.size 30 2 s6 (([] : List Sp) ++ nearsF 0 (ds.take k)).length (cellsS (([] : List Sp) ++ nearsF 0 (ds.take k))) ∧ Below w2.heap.size w2 wx)
      case atStart => exact ⟨0, by omega, rfl, by first | simpa [nearsF] using hst1 | simpa [nearsF, cellsS] using hst1, hst2⟩
      case round =>
        obtain ⟨k, hkg, rfl, hown, hb⟩ := hrel
        clear hst1 hst2
        cases gk with
        | succ g =>
          have hk : k < ds.length := by omega
          have hkz : (k : Int) < (ds.length : Int) := by omega
          obtain ⟨bd, off, rfl, hbd, hcd⟩ := HV2.out.2 (by intro h; rw [h] at hk; simp at hk)
          have c0 := (hb.cell (p := ⟨bd, off + k, none⟩) hbd).trans (hcd k hk)
          obtain ⟨d0, d1⟩ := HV2.out.1 ds[k] (List.getElem_mem hk)
          have HNE := Lib.hid (near_any ds[k] d0 d1)
          obtain ⟨n0, n1⟩ := nearF_in ds[k] d0 d1
          have hnx := nearsF_next 0 ds k hk
          have hll : (([] : List Sp) ++ nearsF 0 (ds.take k)).length ≤ 0 + ds.length := by rw [List.length_append, nearsF_len, List.length_take]; (try simp only [List.length_nil]); omega
          clear hcd d0 d1
          generalize nearF ds[k] = n at *
          generalize ds[k] = d at *
          have hnx2 : ([] : List Sp) ++ nearsF 0 (ds.take (k + 1)) = (([] : List Sp) ++ nearsF 0 (ds.take k)) ++ [(n, n)] := by rw [hnx, ← List.append_assoc]; simp
          have HNX := Lib.hid hnx2
          clear hnx hnx2
          generalize ([] : List Sp) ++ nearsF 0 (ds.take k) = L at *
          have HOW := Lib.hid hown
          have hsz := hb.size
          have hb2 : Below w2.heap.size w2 ((wr.alloc (.cells #[.int .i64 n, .int .i64 (n)] 30)).drew) := below_drewN (hb.alloc hsz _) 1
          have HB2 := Lib.hid hb2
          clear hown hb2
          go_wp2
          go_region_law (first
            | (refine step_append_lies _ (by rfl) _ _ _ (by rfl) w2.heap.size 30 i0 _ 2 16 Tryd.underlying26 hi hz0 hz1 hz2 rfl (by omega) _ L.length _ (by rfl) ((HOW.out.alloc _).drew) ⟨wr.heap.size, 0, none⟩ 1 1 [.int .i64 n, .int .i64 (n)] (by rfl) (by rfl) (World.news_of_block (cs := #[.int .i64 n, .int .i64 (n)]) (t := 30) (fr := (0, 0)) (heap_alloc_new wr _)) (by simp [Value.oneCell']) (by omega) (by unfold maxLen; omega) (by omega) (by simp; omega) (wr.heap.size + 1) (by simp) ?_; intro gg cap w4 hown' hgrow hat hlt)
            | (go_simp; go_at_call 11; refine (HNE.out _).mono ?_; rintro e w' ⟨rfl, rfl⟩)
            | (go_at_call 11; refine (HNE.out _).mono ?_; rintro e w' ⟨rfl, rfl⟩))
          all_goals
            have hbn : Below w2.heap.size w2 w4 := HB2.out.grown hgrow (by simp; omega) (fun j hj => (HOW.out.lt j hj).1)
            go_wp2
            go_roundg g
            case measure => omega
            case rel => exact ⟨k + 1, by omega, by go_num, by rw [HNX.out, cellsS_append, List.length_append]; exact hown', hbn⟩
        | zero =>
          have hkz : ¬ ((k : Int) < (ds.length : Int)) := by omega
          rw [List.take_of_length_le (by omega)] at hown
          have hlb : (([] : List Sp) ++ nearsF 0 ds).length ≤ 8 := by rw [List.length_append, nearsF_len]; simpa using hb2
          generalize ([] : List Sp) ++ nearsF 0 ds = b at *
          obtain ⟨Q, d, rfl, hs, hz⟩ := spans_of0 hown
          have HSb := Lib.hid hs
          have HZb := Lib.hid hz
          have HSa2 := Lib.hid (HSa.out.step hb)
          have HC3 := Lib.hid (HC2.out.step hb)
          have hbw2 := hbw.trans (hb.mono hbw.size)
          clear hown hs hz hb hbw HV2 HSa HC2
          go_wp2_with (first
            | (at_builtin; refine wpList_append_spans rfl _ _ rfl wr.heap.size _ _ _ rfl (World.ownsRow_nil _ _ _ _) P c a rfl HSa2.out HZa.out (by omega) (Nat.le_refl _) ?_; intro v9 w9 ho9 hg9; have b9 : Below wr.heap.size wr w9 := (Below.refl _ _).grown hg9 (Nat.le_refl _) (fun j hj => by cases hj); have HSb9 := Lib.hid (HSb.out.step b9); have HO9 := Lib.hid ho9; have hz9 := b9.size; clear hg9 ho9)
            | (at_builtin; refine wpList_append_spans rfl _ _ rfl wr.heap.size _ _ _ rfl HO9.out Q d b rfl HSb9.out HZb.out (by omega) hz9 ?_; intro v10 w10 ho10 hg10)
            | fail)
          have b10 : Below wr.heap.size wr w10 := b9.grown hg10 hz9 (fun j hj => (HO9.out.lt j hj).1)
          have hoo : w10.ownsRow wr.heap.size 30 2 v10 (a ++ b).length (cellsS (a ++ b)) := by rw [cellsS_append, List.length_append]; simpa using ho10
          obtain ⟨R, f, rfl, hsR, _⟩ := spans_of0 hoo
          have HSR := Lib.hid hsR
          have HSA := Lib.hid (HSa2.out.step b10)
          have HSB := Lib.hid (HSb.out.step b10)
          have HC10 := Lib.hid (HC3.out.step b10)
          have hbw10 := hbw2.trans (b10.mono hbw2.size)
          have hlab : (a ++ b).length ≤ 16 := by rw [List.length_append]; omega
          clear ho10 hg10 hoo hsR b9 b10 HO9 HSb9 HSb HSa2 HC3 hbw2 hz9
          have HCLX := Lib.hid (close_c (c := f) HC10.out HSR.out (by omega))
          refine HCLX.out.mono ?_
          rintro e w11 ⟨PX, cX, X, rfl, iX, hXl, sX, _, b11⟩
          have HIX := Lib.hid iX
          have HSX := Lib.hid sX
          have HSA1 := Lib.hid (HSA.out.step b11)
          have HSB1 := Lib.hid (HSB.out.step b11)
          have HC11 := Lib.hid (HC10.out.step b11)
          have hbw11 := hbw10.trans (b11.mono hbw10.size)
          have hXl2 : X.length ≤ 20000 := by omega
          clear iX sX b11 hbw10 HC10 HSA HSB HSR HCLX hXl
          go_wp2_with fail
          refine (close_c HC11.out HSA1.out (by omega)).mono ?_
          rintro e w12 ⟨PY, cY, Y, rfl, iY, hYl, sY, zY, b12⟩
          have HIY := Lib.hid iY
          have HSY := Lib.hid sY
          have HZY := Lib.hid zY
          have HSX2 := Lib.hid (HSX.out.step b12)
          have HSB2 := Lib.hid (HSB1.out.step b12)
          have HC12 := Lib.hid (HC11.out.step b12)
          have hbw12 := hbw11.trans (b12.mono hbw11.size)
          have hYl2 : Y.length ≤ 8000 := by omega
          clear iY sY zY b12 hbw11 HC11 HSA1 HSB1 HSX hYl
          go_wp2_with fail
          refine (close_c HC12.out HSB2.out (by omega)).mono ?_
          rintro e w13 ⟨PZ, cZ, Z, rfl, iZ, hZl, sZ, zZ, b13⟩
          have HIZ := Lib.hid iZ
          have HSX3 := Lib.hid (HSX2.out.step b13)
          have HSY3 := Lib.hid (HSY.out.step b13)
          have hbw13 := hbw12.trans (b13.mono hbw12.size)
          have hZl2 : Z.length ≤ 8000 := by omega
          have hb : Below w13.heap.size w13 (w13.alloc (.cells #[.slice PY Y.length cY, .slice PZ Z.length cZ] 26)) := (Below.refl _ _).alloc (Nat.le_refl _) _
          have hzz : (w13.alloc (.cells #[.slice PY Y.length cY, .slice PZ Z.length cZ] 26)).heap.size = w13.heap.size + 1 := World.size_alloc _ _
          have hs' := HSY3.out.step hb
          have ht' := sZ.step hb
          have hR : RowsAt (w13.alloc (.cells #[.slice PY Y.length cY, .slice PZ Z.length cZ] 26)).heap.size (w13.alloc (.cells #[.slice PY Y.length cY, .slice PZ Z.length cZ] 26)) (some ⟨w13.heap.size, 0, none⟩) [Y, Z] := fun _ => ⟨_, 0, rfl, by omega, fun j hj => by
            match j, hj with
            | 0, _ => exact ⟨PY, cY, by rw [cell_of_row _ w13.heap.size _ _ _ _ (heap_alloc_new w13 _)]; rfl, hs', HZY.out⟩
            | 1, _ => exact ⟨PZ, cZ, by rw [cell_of_row _ w13.heap.size _ _ _ _ (heap_alloc_new w13 _)]; rfl, ht', zZ⟩⟩
          have htot : total [Y, Z] ≤ 20000 := by
            have : total [Y, Z] = Y.length + Z.length := by simp [total, flat]
            omega
          have HRU := Lib.hid (runion_any (some ⟨w13.heap.size, 0, none⟩) 2 [Y, Z] (by simp) htot (fun l hl => by
            rcases List.mem_cons.1 hl with rfl | hl
            · exact wide_set HIY.out closed_sc
            · rcases List.mem_cons.1 hl with rfl | hl
              · exact wide_set HIZ.out closed_sc
              · cases hl) _ hR)
          have HSX4 := Lib.hid (HSX3.out.step hb)
          have hbw14 := hbw13.trans (hb.mono hbw13.size)
          clear iZ sZ zZ b13 hbw12 HC12 HSB2 HSX2 HSY hZl hb hzz hs' ht' hR htot HSX3 hbw13 HZY
          go_wp2_with (go_at_call 14; refine HRU.out.mono ?_; rintro e w15 ⟨PU, cU, U, rfl, iU, hUl, sU, _, b15⟩)
          obtain rfl : X = U := closed_union HIX.out HIY.out HIZ.out iU
          have HSX5 := Lib.hid (HSX4.out.step b15)
          have HSU := Lib.hid sU
          have hbw15 := hbw14.trans (b15.mono hbw14.size)
          clear iU sU b15 hbw14 HSX4 HRU
          go_wp2_with fail
          refine (alike_c HSX5.out HSU.out (by omega) (by omega)).mono ?_
          rintro e w16 ⟨rfl, b16⟩
          have hdd : decide (X = X) = true := decide_eq_true rfl
          have hbw16 := hbw15.trans (b16.mono hbw15.size)
          clear b16 hbw15
          go_wp2
          go_ret
          exact ⟨by simp, hbw16⟩
end Go.Proofs.YtmmghgfkpndokaaDoor
