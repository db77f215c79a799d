/- The document's own Of. -/
import Derived.Test.YtgaalkcociifmaaDoorSRefCutC
import Derived.Test.YtgaalkcociifmaaDoorSKnown
import Derived.Test.YtgaalkcociifmaaDoorRefOps
namespace Go.Proofs.YtgaalkcociifmaaDoor
open Go.RowKit Go.Shelf SeqM
open U.UtfM (enc)

/-- A block with four numbers. -/
def I4 (W : World) (B : Nat) (x0 x1 x2 x3 : Int) : Prop := W.heap[B]? = some (.cells #[.int .i64 x0, .int .i64 x1, .int .i64 x2, .int .i64 x3] 3 (0, 0))
theorem own_rowAt {W : World} {base : Nat} {e : TypeId} {size k : Nat} {v : Value} {xs : List Value} (h : W.ownsRow base e size v k xs) : ∀ r, v.ownBlock = some r → ∃ cs, W.heap[r]? = some (.cells cs e (0, 0)) := fun r hr => by
  rcases h.2 with ⟨rfl, _⟩ | ⟨g, cap, cur, rfl, _, hgb, _⟩
  · simp [Value.ownBlock] at hr
  · obtain rfl : g = r := by simpa [Value.ownBlock] using hr
    exact ⟨_, hgb⟩
theorem I4.kept {X Y : World} {row : Option Nat} {B : Nat} {x0 x1 x2 x3 : Int} (h : I4 X B x0 x1 x2 x3) (hg : X.grownBy Y row) (hr : ∀ r, row = some r → ∃ cs, X.heap[r]? = some (.cells cs 37 (0, 0))) : I4 Y B x0 x1 x2 x3 := by
  refine (hg.block B (Array.getElem?_eq_some_iff.1 h).1 (fun he => ?_)).trans h
  obtain ⟨cs, h3⟩ := hr B he.symm
  unfold I4 at h
  rw [h3] at h; cases h
theorem RgIn.keptO {X Y : World} {row : Option Nat} {z : RowEl} (h : RgIn z X) (hg : X.grownBy Y row) (hr : ∀ r, row = some r → ∃ cs, X.heap[r]? = some (.cells cs 37 (0, 0))) : RgIn z Y :=
  h.kept hg (fun r e => by obtain ⟨cs, h3⟩ := hr r e; exact ⟨_, _, _, h3, by decide⟩)
theorem I4.lo {W : World} {B : Nat} (h : I4 W B 0 128 2048 65536) (j : Nat) (hj : j < 4) : W.cell? ⟨B, j, none⟩ = some (.int .i64 (bnd j).1) := by
  rw [cell_of_row W B j _ _ _ h]
  rcases (by omega : j = 0 ∨ j = 1 ∨ j = 2 ∨ j = 3) with rfl | rfl | rfl | rfl <;> rfl
theorem I4.hi {W : World} {B : Nat} (h : I4 W B 127 2047 65535 1114111) (j : Nat) (hj : j < 4) : W.cell? ⟨B, j, none⟩ = some (.int .i64 (bnd j).2) := by
  rw [cell_of_row W B j _ _ _ h]
  rcases (by omega : j = 0 ∨ j = 1 ∨ j = 2 ∨ j = 3) with rfl | rfl | rfl | rfl <;> rfl
theorem many_rows {p : List (Nat × Sp)} {zs : List RowEl} {m : Nat} (h : zs.map (·.2.2) = leavesP p) (hg : ∀ q ∈ p, SeqM.Good q) (hp : p.length ≤ m) : zs.length ≤ m * 1114112 := by
  have h1 := congrArg List.length h
  rw [List.length_map] at h1
  have h2 := leavesP_len p hg
  have h3 := Nat.mul_le_mul_right 1114112 hp
  omega
theorem leavesP_app (p q : List (Nat × Sp)) : leavesP (p ++ q) = leavesP p ++ leavesP q := by unfold leavesP; rw [List.flatMap_append]
theorem leavesP_one (n : Nat) (a b : Int) : leavesP [(n, a, b)] = leaves n a b := by simp [leavesP]

set_option maxRecDepth 100000 in
set_option maxHeartbeats 4000000 in
theorem rof_c {W : World} {P : Option Addr} {c : Nat} {l : List SetM.Sp} (hs : Sl W P l) (hl : l.length ≤ 1000) (hw : Wide l) : Calls Tryd.prog 22 #[.slice P l.length c] W (RowsStep W (rowsOf (nrm l))) := by
  obtain ⟨i0, hi, hz0, hz1, hz2⟩ := info_parts infoR
  have HNORM := Lib.hid (rnorm_c (c := c) hs (by omega) hw)
  clear hs hw
  go_enter Tryd.func22, Tryd.ntmps22
  go_wp2_with fail
  refine HNORM.out.mono ?_
  rintro e W1 ⟨P1, c1, out, rfl, hset, hol, hso, _, b1⟩
  have hout : out = nrm l := nrm_eq hset.1 hset.2
  have hol2 : out.length ≤ 2004 := by omega
  have HSC := Lib.hid (show ∀ s ∈ out, Scal s by rw [hout]; exact nrm_scal l)
  have HOUT := Lib.hid hout
  have HSO := Lib.hid hso
  have HB1 := Lib.hid b1
  clear hset hout hso b1 HNORM hol
  go_wp2
  go_loopg [3, 5] out.length (fun g s3 s5 wx => ∃ (k : Nat) (zs : List RowEl), k + g = out.length ∧ s5 = .int .i64 k ∧ wx.ownsRow W1.heap.size 37 1 s3 zs.length (zs.map sv) ∧ Hid (∀ z ∈ zs, RgIn z wx) ∧ Hid (zs.map (·.2.2) = leavesP (parts (out.take k))) ∧ Below W1.heap.size W1 wx)
  case atStart => exact ⟨0, [], by simp, rfl, World.ownsRow_nil _ _ _ _, Lib.hid (by simp), Lib.hid rfl, Below.refl _ _⟩
  case round =>
    obtain ⟨k, zs, hkg, rfl, hown, HIN, HZ, hb⟩ := hrel
    cases gk with
    | zero =>
      have hkz : ¬ ((k : Int) < (out.length : Int)) := by omega
      go_wp2
      go_ret
      have hz : zs.map (·.2.2) = leavesOf (nrm l) := by rw [HZ.out, List.take_of_length_le (by omega), HOUT.out]; rfl
      obtain ⟨P', c', rfl, hR⟩ := rws_of2 hown HIN.out hz
      rw [rowsOf_leaves (nrm_scal l)]
      exact ⟨P', c', rfl, hR, HB1.out.trans (hb.mono HB1.out.size)⟩
    | succ g =>
      have hkz : ((k : Int) < (out.length : Int)) := by omega
      have hk : k < out.length := by omega
      obtain ⟨bb, off, rfl, hbb, hc⟩ := HSO.out (by intro h0; rw [h0] at hk; simp at hk)
      obtain ⟨q0, q1⟩ := hc k hk
      have hsx := HSC.out out[k] (List.getElem_mem hk)
      have HPN := Lib.hid (parts_next out k hk)
      have HGT := Lib.hid (good_parts (l := out.take k) (fun s h => HSC.out s (List.mem_of_mem_take h)))
      have hpl : (parts (out.take k)).length ≤ 8016 := by have := parts_len (out.take k); rw [List.length_take] at this; omega
      have HPL := Lib.hid hpl
      have HSX := Lib.hid hsx
      have HQ := Lib.hid (And.intro q0 q1)
      have HOW := Lib.hid hown
      have HB := Lib.hid hb
      clear hc hsx hpl q0 q1 hown hb
      generalize out[k] = x at *
      go_wp2
      have f1 : I4 ((wr.alloc (.cells #[.int .i64 0, .int .i64 128, .int .i64 2048, .int .i64 65536] 3)).alloc (.cells #[.int .i64 127, .int .i64 2047, .int .i64 65535, .int .i64 1114111] 3)) wr.heap.size 0 128 2048 65536 :=
        (Below.heap_alloc _ _ _ (by rw [World.size_alloc]; omega)).trans (heap_alloc_new wr _)
      have f2 : I4 ((wr.alloc (.cells #[.int .i64 0, .int .i64 128, .int .i64 2048, .int .i64 65536] 3)).alloc (.cells #[.int .i64 127, .int .i64 2047, .int .i64 65535, .int .i64 1114111] 3)) (wr.heap.size + 1) 127 2047 65535 1114111 := by
        have := heap_alloc_new (wr.alloc (.cells #[.int .i64 0, .int .i64 128, .int .i64 2048, .int .i64 65536] 3)) (.cells #[.int .i64 127, .int .i64 2047, .int .i64 65535, .int .i64 1114111] 3)
        rwa [World.size_alloc] at this
      have f3 := (HOW.out.alloc (.cells #[.int .i64 0, .int .i64 128, .int .i64 2048, .int .i64 65536] 3)).alloc (.cells #[.int .i64 127, .int .i64 2047, .int .i64 65535, .int .i64 1114111] 3)
      have hsb := HB.out.size
      have f4 := (HB.out.alloc hsb (.cells #[.int .i64 0, .int .i64 128, .int .i64 2048, .int .i64 65536] 3)).alloc (by rw [World.size_alloc]; omega) (.cells #[.int .i64 127, .int .i64 2047, .int .i64 65535, .int .i64 1114111] 3)
      have f5 : ∀ z ∈ zs, RgIn z ((wr.alloc (.cells #[.int .i64 0, .int .i64 128, .int .i64 2048, .int .i64 65536] 3)).alloc (.cells #[.int .i64 127, .int .i64 2047, .int .i64 65535, .int .i64 1114111] 3)) := fun z hz =>
        (HIN.out z hz).step (((Below.refl _ _).alloc (Nat.le_refl _) _).alloc (by rw [World.size_alloc]; omega) _)
      have F1 := Lib.hid f1
      have F2 := Lib.hid f2
      have F3 := Lib.hid f3
      have F4 := Lib.hid f4
      have F5 := Lib.hid f5
      clear f1 f2 f3 f4 f5 HOW HB hsb HIN
      generalize hbF : wr.heap.size = bF at *
      generalize (wr.alloc (.cells #[.int .i64 0, .int .i64 128, .int .i64 2048, .int .i64 65536] 3)).alloc (.cells #[.int .i64 127, .int .i64 2047, .int .i64 65535, .int .i64 1114111] 3) = w4 at *
      clear hbF wr
      go_loopg [3, 8] 4 (fun g2 s3 s8 wx => ∃ (j : Nat) (zs : List RowEl), j + g2 = 4 ∧ s8 = .int .i64 j ∧ Hid (wx.ownsRow W1.heap.size 37 1 s3 zs.length (zs.map sv)) ∧ Hid (∀ z ∈ zs, RgIn z wx) ∧ Hid (zs.map (·.2.2) = leavesP (parts (out.take k) ++ partsTo x j)) ∧ Hid (I4 wx bF 0 128 2048 65536) ∧ Hid (I4 wx (bF + 1) 127 2047 65535 1114111) ∧ Hid (Below W1.heap.size W1 wx))
      case atStart => exact ⟨0, zs, by omega, rfl, F3, F5, Lib.hid (by rw [HZ.out, partsTo_zero, List.append_nil]), F1, F2, F4⟩
      case round =>
        obtain ⟨j, ys, hjg, rfl, HOW, HIN, HY, G1, G2, HB⟩ := hrel
        clear F1 F2 F3 F4 F5 HZ
        cases gk with
        | zero =>
          have hjz : ¬ ((j : Int) < (4 : Int)) := by omega
          go_wp2
          go_roundg g
          case measure => omega
          case rel => exact ⟨k + 1, ys, by omega, by go_num, HOW.out, HIN, Lib.hid (by rw [HY.out, HPN.out, show j = 4 from by omega]; rfl), HB.out⟩
        | succ g2 =>
          have hj4 : j < 4 := by omega
          have hjz : (j : Int) < (4 : Int) := by omega
          have a0 := G1.out.lo j hj4
          have a1 := G2.out.hi j hj4
          have x0 := (HB.out.cell (p := ⟨bb, off + k * 2, none⟩) hbb).trans HQ.out.1
          have x1 := (HB.out.cell (p := ⟨bb, off + k * 2 + 1, none⟩) hbb).trans HQ.out.2
          have HGP := Lib.hid (fun q hq => good_pieceAt HSX.out hj4 (q := q) hq)
          have HTO := Lib.hid (partsTo_succ x j)
          have hyl : ys.length ≤ 8020 * 1114112 := many_rows HY.out (fun q hq => by
            rcases List.mem_append.1 hq with hq | hq
            · exact HGT.out q hq
            · exact good_partsTo HSX.out j (by omega) q hq) (by have := HPL.out; have := partsTo_len x j; rw [List.length_append]; omega)
          have HPC : Hid (pieceAt x j = if max x.1 (bnd j).1 ≤ min x.2 (bnd j).2 then [(j + 1, (max x.1 (bnd j).1, min x.2 (bnd j).2))] else []) := Lib.hid rfl
          obtain ⟨hb3, hb4⟩ := bnd_in j
          obtain ⟨sx0, sx1, sx2, _⟩ := HSX.out
          generalize (bnd j).1 = alo at *
          generalize (bnd j).2 = ahi at *
          go_wp2
          go_region
          go_wp2
          go_region
          have HO6 := Lib.hid (show wr.drew.drew.ownsRow W1.heap.size 37 1 _ ys.length (ys.map sv) from HOW.out)
          have HI6 := Lib.hid (show ∀ z ∈ ys, RgIn z wr.drew.drew from HIN.out)
          have G16 := Lib.hid (show I4 wr.drew.drew bF 0 128 2048 65536 from G1.out)
          have G26 := Lib.hid (show I4 wr.drew.drew (bF + 1) 127 2047 65535 1114111 from G2.out)
          have hB6 : Below W1.heap.size W1 wr.drew.drew := ⟨HB.out.os, HB.out.tape, HB.out.output, HB.out.size, HB.out.block⟩
          have HB6 := Lib.hid hB6
          clear HOW HIN G1 G2 HB hB6 a0 a1 x0 x1 hb3 hb4 sx0 sx1 sx2
          generalize wr.drew.drew = w6 at *
          generalize max x.1 alo = lo at *
          generalize min x.2 ahi = hi2 at *
          clear wr
          by_cases hle : lo ≤ hi2
          · have hpc := HPC.out
            rw [if_pos hle] at hpc
            have hgood := HGP.out (j + 1, lo, hi2) (by rw [hpc]; simp)
            have hcc := rcut_c (j + 1) lo hi2 hgood
            have hin := hgood.in
            obtain ⟨hi0, hi1, hi2'⟩ := hin
            rw [show (((j + 1 : Nat)) : Int) = (j : Int) + 1 by omega] at hcc
            have HCC := Lib.hid hcc
            have HLF := Lib.hid (lvs_few hgood)
            have HLP := Lib.hid (lvs_pos (n := j + 1) hle)
            have HPC2 := Lib.hid hpc
            clear hpc hgood hcc HPC HGP
            go_wp2_with fail
            refine (HCC.out _).mono ?_
            rintro e W7 ⟨v2, zs2, rfl, o2, in2, e2, b2⟩
            have HE2 := Lib.hid e2
            have hz2l : zs2.length ≤ 1200000 ∧ 0 < zs2.length := by
              have h1 := congrArg List.length e2
              rw [List.length_map] at h1
              have := HLF.out
              have := HLP.out
              omega
            obtain ⟨gz, cz, rfl⟩ := own_form o2 hz2l.2
            have o6 := HO6.out.kept (below_grown b2) (Classical.em _)
            have hnews := o2.cells (g := gz) rfl
            have HB7 := Lib.hid (HB6.out.trans (b2.mono HB6.out.size))
            have HO7 := Lib.hid o6
            have HNW := Lib.hid hnews
            have HI7 := Lib.hid (fun z hz => (HI6.out z hz).step b2)
            have HIN2 := Lib.hid in2
            have G17 := Lib.hid (G16.out.kept (below_grown b2) (fun r e => by cases e))
            have G27 := Lib.hid (G26.out.kept (below_grown b2) (fun r e => by cases e))
            have hsz7 := HB7.out.size
            clear e2 o2 o6 hnews in2 b2 HB6 HO6 HI6 G16 G26 HCC HLF HLP
            go_wp2_with (at_builtin; refine wpList_append_own _ rfl _ _ 27 rfl W1.heap.size 37 i0 (.slice none 0 0) 1 24 Tryd.underlying27 hi hz0 hz1 hz2 rfl (by decide) _ _ _ rfl HO7.out ⟨gz, 0, none⟩ zs2.length cz (zs2.map sv) rfl (by simp) HNW.out (sv_one zs2) (by unfold maxLen; omega) (by omega) hsz7 ?_; intro v' W8 hown' hgrow _; have HOW8 := Lib.hid hown'; have HGR := Lib.hid hgrow; clear hown' hgrow)
            go_roundg g2
            case measure => omega
            case rel =>
              refine ⟨j + 1, ys ++ zs2, by omega, by go_num, Lib.hid (by rw [List.length_append, List.map_append]; exact HOW8.out), Lib.hid (fun z hz => ?_), Lib.hid ?_, Lib.hid (G17.out.kept HGR.out (own_rowAt HO7.out)), Lib.hid (G27.out.kept HGR.out (own_rowAt HO7.out)), Lib.hid (HB7.out.grown HGR.out hsz7 (fun q hq => (HO7.out.lt q hq).1))⟩
              · rcases List.mem_append.1 hz with hz | hz
                · exact (HI7.out z hz).keptO HGR.out (own_rowAt HO7.out)
                · exact (HIN2.out z hz).keptO HGR.out (own_rowAt HO7.out)
              · rw [List.map_append, HY.out, HE2.out, HTO.out, HPC2.out, ← List.append_assoc, leavesP_app _ [(j + 1, lo, hi2)], leavesP_one]
          · have hpc := HPC.out
            rw [if_neg hle] at hpc
            have HT2 := Lib.hid (HTO.out.trans (by rw [hpc, List.append_nil]))
            clear hpc HPC HGP HTO
            go_wp2
            go_roundg g2
            case measure => omega
            case rel => exact ⟨j + 1, ys, by omega, by go_num, HO6, HI6, Lib.hid (by rw [HT2.out]; exact HY.out), G16, G26, HB6⟩
end Go.Proofs.YtgaalkcociifmaaDoor
