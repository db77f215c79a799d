/- fold.Orbit: all scalars that are alike, rising. -/
import Derived.Test.YtmmghgfkpndokaaDoorFClose
import Derived.Test.YtmmghgfkpndokaaDoorFOrbM
import Derived.Test.YtmmghgfkpndokaaDoorRefLay
namespace Go.Proofs.YtmmghgfkpndokaaDoor
open Go.RowKit Go.Shelf SetM

/-- A slice of ints holds the numbers l. -/
def IntsW (W : World) (P : Option Addr) (l : List Int) : Prop := Ints W.heap.size W P l
theorem IntsW.step {W W' : World} {P : Option Addr} {l : List Int} (h : IntsW W P l) (hb : Below W.heap.size W W') : IntsW W' P l := (Ints.below hb h).mono hb.size
/-- What a call that tells an orbit hands back. -/
def OrbPost (W : World) (r : Int) (e : Ending) (W' : World) : Prop :=
  ∃ P c o, e = .returned (.slice P (List.length o) c) ∧ IsOrbit r o ∧ o.length ≤ 14 ∧ IntsW W' P o ∧ Below W.heap.size W W'
theorem cellsS_one (r : Int) : (cellsS [(r, r)]).toArray = #[.int .i64 r, .int .i64 r] := rfl

set_option maxRecDepth 100000 in
set_option maxHeartbeats 2000000 in
theorem orbit_c {w W : World} (r : Int) (hC : Cf w W) : Calls Tryd.prog 17 #[.int .i64 r] W (OrbPost W r) := by
  obtain ⟨i0, hi, hz0, hz1, hz2⟩ := info_parts infoI
  have hb0 : Below W.heap.size W (W.alloc (.cells (cellsS [(r, r)]).toArray 30)) := (Below.refl _ W).alloc (Nat.le_refl _) _
  have hz0' : (W.alloc (.cells (cellsS [(r, r)]).toArray 30)).heap.size = W.heap.size + 1 := World.size_alloc _ _
  have hs0 := spans_new W [(r, r)]
  rw [← hz0'] at hs0
  have hcl := close_c (c := 1) (hC.step hb0) hs0 (by simp)
  rw [cellsS_one] at hcl hb0
  have HCL := Lib.hid hcl
  have HB0 := Lib.hid hb0
  clear hcl hs0 hz0' hb0
  obtain ⟨u, hu⟩ : ∃ u, u = W := ⟨_, rfl⟩
  rw [← hu] at hC HCL HB0 ⊢
  clear hu hC
  go_enter Tryd.func17, Tryd.ntmps17
  go_wp2_with (go_at_call 13; refine HCL.out.mono ?_; rintro e W1 ⟨P, c, out, rfl, hI, hN, hS, hZ, hb1⟩)
  have hO := orbit_of hI.1 hI.2
  have hb2 := HB0.out.trans (hb1.mono HB0.out.size)
  have HO := Lib.hid hO
  have hol := orbit_len hO
  have HNF := Lib.hid (fun s hs => nf_le hI.1 s hs)
  have HSC : Hid (∀ s ∈ out, Sc s.1 ∧ Sc s.2) := Lib.hid (fun s hs => by
    have h1 := nf_le hI.1 s hs
    exact ⟨((hI.2 s.1).1 ⟨s, hs, Int.le_refl _, h1⟩).1, ((hI.2 s.2).1 ⟨s, hs, h1, Int.le_refl _⟩).1⟩)
  have HS := Lib.hid hS
  have hnl : out.length ≤ 3000 := by simp at hN; omega
  clear hI hN hS hZ hb1 HCL HB0 hO
  have HB2 := Lib.hid hb2
  clear hb2
  go_loopg [3, 13] out.length (fun g s3 s13 wx => ∃ k : Nat, k + g = out.length ∧ s13 = .int .i64 k ∧ wx.ownsRow W1.heap.size 3 1 s3 (numsL (out.take k)).length ((numsL (out.take k)).map (Value.int .i64)) ∧ Below W1.heap.size W1 wx)
  case atStart => exact ⟨0, by omega, rfl, World.ownsRow_nil _ _ _ _, Below.refl _ _⟩
  case round =>
    obtain ⟨k, hkg, rfl, hown, hb⟩ := hrel
    cases gk with
    | zero =>
      have hkz : ¬ ((k : Int) < (out.length : Int)) := by omega
      rw [List.take_of_length_le (by omega)] at hown
      obtain ⟨P2, c2, rfl, hi2, _⟩ := ints_of hown
      have H2 := Lib.hid hi2
      clear hi2 hown
      go_wp2
      go_ret
      exact ⟨P2, c2, _, rfl, HO.out, hol, H2.out, HB2.out.trans (hb.mono HB2.out.size)⟩
    | succ g =>
      have hk : k < out.length := by omega
      have hkz : (k : Int) < (out.length : Int) := by omega
      obtain ⟨bb, off, rfl, hbb, hc⟩ := (HS.out.step hb) (by intro h; rw [h] at hk; simp at hk)
      obtain ⟨c0, c1⟩ := hc k hk
      have HNX := Lib.hid (numsL_next out k hk)
      have hpre := numsL_pre out k hk
      obtain ⟨hsc1, hsc2⟩ := HSC.out out[k] (List.getElem_mem hk)
      have hle := HNF.out out[k] (List.getElem_mem hk)
      clear hc
      generalize out[k] = s at *
      obtain ⟨x, y⟩ := s
      dsimp only at c0 c1 hsc1 hsc2 hle
      have hx0 : 0 ≤ x ∧ x ≤ 1114111 := by unfold Sc at hsc1; omega
      have hy0 : 0 ≤ y ∧ y ≤ 1114111 := by unfold Sc at hsc2; omega
      clear hsc1 hsc2
      rw [numsS_len] at hpre
      dsimp only at hpre
      have hsz := hb.size
      have hb4 := hb.alloc hsz (.cells #[.int .i64 x, .int .i64 y] 30)
      have hown4 := hown.alloc (.cells #[.int .i64 x, .int .i64 y] 30)
      have hbx : (wr.alloc (.cells #[.int .i64 x, .int .i64 y] 30)).heap[wr.heap.size]? = some (.cells #[.int .i64 x, .int .i64 y] 30 (0, 0)) := heap_alloc_new wr _
      have HBX := Lib.hid hbx
      clear hown hb hbx
      go_wp2
      generalize numsL (out.take k) = Lk at *
      generalize hq : wr.alloc (.cells #[.int .i64 x, .int .i64 y] 30) = w4 at *
      generalize hbq : wr.heap.size = bx at *
      clear hq hbq hsz c0 c1 hbb
      clear wr
      go_loopg [3, 6] (y - x + 1).toNat (fun g2 s3 s6 wy => ∃ i : Nat, i + g2 = (y - x + 1).toNat ∧ s6 = .int .i64 (x + i) ∧ wy.ownsRow W1.heap.size 3 1 s3 (Lk ++ (numsS (x, y)).take i).length ((Lk ++ (numsS (x, y)).take i).map (Value.int .i64)) ∧ Below W1.heap.size W1 wy ∧ Hid (wy.heap[bx]? = some (.cells #[.int .i64 x, .int .i64 y] 30 (0, 0))))
      case atStart => exact ⟨0, by omega, by go_num, by simpa using hown4, hb4, HBX⟩
      case round =>
        obtain ⟨i, hig, rfl, hown5, hb5, HB5⟩ := hrel
        clear hown4 hb4 HBX
        have hbx := (Array.getElem?_eq_some_iff.1 HB5.out).1
        have q1 : wr.cell? ⟨bx, 1, none⟩ = some (.int .i64 y) := by rw [cell_of_row wr bx 1 _ _ _ HB5.out]; rfl
        cases gk with
        | zero =>
          have hiz : ¬ (x + (i : Int) ≤ y) := by omega
          rw [List.take_of_length_le (by rw [numsS_len]; omega), ← HNX.out] at hown5
          go_wp2
          go_roundg g
          case measure => omega
          case rel => exact ⟨k + 1, by omega, by go_num, hown5, hb5⟩
        | succ g2 =>
          have hiz : x + (i : Int) ≤ y := by omega
          have HN5 := Lib.hid (numsS_next (x, y) i hiz)
          have hll : (Lk ++ (numsS (x, y)).take i).length ≤ 14 := by rw [List.length_append, List.length_take, numsS_len]; dsimp only; omega
          have hsz5 := hb5.size
          generalize hL : (Lk ++ (numsS (x, y)).take i) = L at *
          have HL := Lib.hid hL
          clear hL
          go_wp2_with (at_builtin; refine wpList_append_own _ rfl _ _ 37 rfl W1.heap.size 3 i0 (.int .i64 0) 1 8 Tryd.underlying37 hi hz0 hz1 hz2 rfl (by decide) _ _ _ rfl (hown5.alloc _) ⟨wr.heap.size, 0, none⟩ 1 1 [.int .i64 (x + i)] rfl rfl (cell_news _ _ _) (by simp [Value.oneCell']) (by unfold maxLen; omega) (by omega) (by rw [World.size_alloc]; omega) ?_; intro v' w6 hown' hgrow _)
          go_roundg g2
          case measure => omega
          case rel =>
            have hb6 := hb5.alloc hsz5 (.cells #[.int .i64 (x + i)] 3)
            have hnr : ∀ rr, (Value.ownBlock u3) = some rr → ∃ cs t', (wr.alloc (.cells #[.int .i64 (x + i)] 3)).heap[rr]? = some (.cells cs t' (0, 0)) ∧ t' ≠ 30 := fun rr hr => by
              obtain ⟨cs, h⟩ := own_rowAtF (hown5.alloc _) rr hr
              exact ⟨cs, _, h, by decide⟩
            refine ⟨i + 1, by omega, by go_num, ?_, hb6.grown hgrow hb6.size (fun j hj => (hown5.lt j hj).1), Lib.hid (heap_kept ((heap_alloc_old _ _ _ hbx).trans HB5.out) hgrow hnr)⟩
            · rw [HN5.out, ← List.append_assoc, HL.out, List.map_append, List.length_append]; exact hown'
end Go.Proofs.YtmmghgfkpndokaaDoor
