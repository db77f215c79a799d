/- FoldCloses' walk: a closed set has a scalar just if one of its orbit was in the set. -/
import Derived.Test.YtmmghgfkpndokaaDoorFGrow
import Derived.Test.YtmmghgfkpndokaaDoorRefOps
import Derived.Test.YtmmghgfkpndokaaDoorFTwiceWalk
import Derived.Deep.AppendLies
import Derived.Deep.RegionLaw
import Derived.IntWalk
namespace Go.Proofs.YtmmghgfkpndokaaDoor
open Go.RowKit Go.Shelf SetM

def anyT (L : List Sp) (o : List Int) : Bool := o.any fun y => decide (Tells L y)
theorem anyT_next (L : List Sp) (o : List Int) (k : Nat) (hk : k < o.length) : anyT L (o.take (k + 1)) = (anyT L (o.take k) || decide (Tells L o[k])) := by
  unfold anyT
  rw [List.take_succ_eq_append_getElem hk, List.any_append]; simp
theorem closes_any {x : Int} {o : List Int} {L y : List Sp} (ho : IsOrbit x o) (hy : IsSet y (ClosedK (Tells L))) : decide (Tells y x) = anyT L o := by
  unfold anyT
  rw [Bool.eq_iff_iff, decide_eq_true_iff, List.any_eq_true, hy.tells closed_sc]
  unfold ClosedK
  constructor
  · rintro ⟨h1, z, h2, h3⟩
    exact ⟨z, (ho.2 z).2 ⟨h2.1, h1, h3⟩, decide_eq_true h2⟩
  · rintro ⟨z, hz, h2⟩
    obtain ⟨h3, h4, h5⟩ := (ho.2 z).1 hz
    exact ⟨h4, z, of_decide_eq_true h2, h5⟩

set_option maxRecDepth 100000 in
set_option maxHeartbeats 4000000 in
theorem foldCloses_any (A B : Option Addr) (ca cb : Nat) (cs ds : List Int) (at' : Int) (ha0 : 0 ≤ at') (ha1 : at' ≤ 65535) (w : World) (hU : U16s w.heap.size w A cs) (hV : U16s w.heap.size w B ds) (hC : Cf w w) :
    Calls Tryd.prog 7 #[.slice A cs.length ca, .slice B ds.length cb, .int .u16 at'] w fun e w' => e = .returned (.bool true) ∧ Below w.heap.size w w' := by
  obtain ⟨i0, hi, hz0, hz1, hz2⟩ := info_parts infoS
  have HC := Lib.hid hC
  have HU := Lib.hid hU
  have HV := Lib.hid hV
  have HNA := Lib.hid (near_any at' ha0 ha1)
  clear hC hU hV
  generalize nearF at' = x at *
  by_cases hbig : cs.length ≤ 20 ∧ ds.length ≤ 6
  case neg =>
    by_cases hb1 : cs.length ≤ 20
    · have t1 : ¬ ((20 : Int) < (cs.length : Int)) := by omega
      have t2 : (6 : Int) < (ds.length : Int) := by omega
      go_enter Tryd.func7, Tryd.ntmps7
      go_wp2_with fail
      refine (known_c HC.out).mono ?_
      rintro e w2 ⟨rfl, b2⟩
      go_wp2
      go_ret
      exact ⟨rfl, b2⟩
    · have t1 : (20 : Int) < (cs.length : Int) := by omega
      go_enter Tryd.func7, Tryd.ntmps7
      go_wp2_with fail
      refine (known_c HC.out).mono ?_
      rintro e w2 ⟨rfl, b2⟩
      go_wp2
      go_ret
      exact ⟨rfl, b2⟩
  obtain ⟨hb1, hb2⟩ := hbig
  have t1 : ¬ ((20 : Int) < (cs.length : Int)) := by omega
  have t2 : ¬ ((6 : Int) < (ds.length : Int)) := by omega
  go_enter Tryd.func7, Tryd.ntmps7
  go_wp2_with fail
  refine (known_c HC.out).mono ?_
  rintro e w1 ⟨rfl, b1⟩
  have HC1 := Lib.hid (HC.out.step b1)
  have HV1 : Hid (U16s w1.heap.size w1 B ds) := Lib.hid ((HV.out.below b1).mono b1.size)
  have HMK := Lib.hid (make_any A ca cs w1 ((HU.out.below b1).mono b1.size))
  have hml := makeF_len cs
  clear HU HV HC t1 t2
  go_wp2_with fail
  refine HMK.out.mono ?_
  rintro e w2 ⟨v, rfl, hst1, hst2⟩
  clear HMK
  generalize makeF cs = M at *
  go_wp2
  go_loopg [7, 8] ds.length (fun g s7 s8 wx => ∃ k : Nat, k + g = ds.length ∧ s8 = .int .i64 k ∧ wx.ownsRow w1.heap.size 30 2 s7 (M ++ nearsF 0 (ds.take k)).length (cellsS (M ++ nearsF 0 (ds.take k))) ∧ Below w1.heap.size w1 wx)
  case atStart => exact ⟨0, by omega, rfl, by simpa [nearsF] using hst1, hst2⟩
  case round =>
    obtain ⟨k, hkg, rfl, hown, hb⟩ := hrel
    clear hst1 hst2
    cases gk with
    | succ g =>
      have hk : k < ds.length := by omega
      have hkz : (k : Int) < (ds.length : Int) := by omega
      obtain ⟨bd, off, rfl, hbd, hcd⟩ := HV1.out.2 (by intro h; rw [h] at hk; simp at hk)
      have c0 := (hb.cell (p := ⟨bd, off + k, none⟩) hbd).trans (hcd k hk)
      obtain ⟨d0, d1⟩ := HV1.out.1 ds[k] (List.getElem_mem hk)
      have HNE := Lib.hid (near_any ds[k] d0 d1)
      obtain ⟨n0, n1⟩ := nearF_in ds[k] d0 d1
      have hnx := nearsF_next 0 ds k hk
      have hll : (M ++ nearsF 0 (ds.take k)).length ≤ 30 + ds.length := by rw [List.length_append, nearsF_len, List.length_take]; omega
      clear hcd d0 d1
      generalize nearF ds[k] = n at *
      generalize ds[k] = d at *
      have hnx2 : M ++ nearsF 0 (ds.take (k + 1)) = (M ++ nearsF 0 (ds.take k)) ++ [(n, n)] := by rw [hnx, ← List.append_assoc]; simp
      have HNX := Lib.hid hnx2
      clear hnx hnx2
      generalize M ++ nearsF 0 (ds.take k) = L at *
      have HOW := Lib.hid hown
      have hsz := hb.size
      have hb2 : Below w1.heap.size w1 ((wr.alloc (.cells #[.int .i64 n, .int .i64 (n)] 30)).drew) := below_drewN (hb.alloc hsz _) 1
      have HB2 := Lib.hid hb2
      clear hown hb2
      go_wp2
      go_region_law (first
        | (refine step_append_lies _ (by rfl) _ _ _ (by rfl) w1.heap.size 30 i0 _ 2 16 Tryd.underlying26 hi hz0 hz1 hz2 rfl (by omega) _ L.length _ (by rfl) ((HOW.out.alloc _).drew) ⟨wr.heap.size, 0, none⟩ 1 1 [.int .i64 n, .int .i64 (n)] (by rfl) (by rfl) (World.news_of_block (cs := #[.int .i64 n, .int .i64 (n)]) (t := 30) (fr := (0, 0)) (heap_alloc_new wr _)) (by simp [Value.oneCell']) (by omega) (by unfold maxLen; omega) (by omega) (by simp; omega) (wr.heap.size + 1) (by simp) ?_; intro gg cap w4 hown' hgrow hat hlt)
        | (go_simp; go_at_call 11; refine (HNE.out _).mono ?_; rintro e w' ⟨rfl, rfl⟩)
        | (go_at_call 11; refine (HNE.out _).mono ?_; rintro e w' ⟨rfl, rfl⟩))
      all_goals
        have hbn : Below w1.heap.size w1 w4 := HB2.out.grown hgrow (by simp; omega) (fun j hj => (HOW.out.lt j hj).1)
        go_wp2
        go_roundg g
        case measure => omega
        case rel => exact ⟨k + 1, by omega, by go_num, by rw [HNX.out, cellsS_append, List.length_append]; exact hown', hbn⟩
    | zero =>
      have hkz : ¬ ((k : Int) < (ds.length : Int)) := by omega
      rw [List.take_of_length_le (by omega)] at hown
      have HCr := Lib.hid (HC1.out.step hb)
      have hbw := b1.trans (hb.mono b1.size)
      have hLl : (M ++ nearsF 0 ds).length ≤ 36 := by rw [List.length_append, nearsF_len]; omega
      generalize M ++ nearsF 0 ds = L at *
      obtain ⟨P, c, rfl, hs, hz⟩ := spans_of0 hown
      have HS := Lib.hid hs
      clear hown hs hz HV1 HC1 b1 hb hml
      go_wp2_with fail
      refine (HNA.out _).mono ?_
      rintro e w3 ⟨rfl, rfl⟩
      go_wp2_with fail
      refine (orbit_c x HCr.out).mono ?_
      rintro e w3 ⟨P3, c3, o, rfl, io, hol, so, b3⟩
      have HIO := Lib.hid io
      have HCr3 := Lib.hid (HCr.out.step b3)
      have HS3 := Lib.hid (HS.out.step b3)
      have HO3 := Lib.hid so
      have hbw3 := hbw.trans (b3.mono hbw.size)
      clear io so b3 HCr HS hbw
      go_wp2
      go_loopg [11, 12] o.length (fun g s11 s12 wx => ∃ k : Nat, k + g = o.length ∧ s12 = .int .i64 k ∧ s11 = .bool (anyT L (o.take k)) ∧ Below w.heap.size w wx ∧ Hid (Cf w wx) ∧ Hid (Sl wx P L) ∧ Hid (IntsW wx P3 o))
      case atStart => exact ⟨0, by omega, rfl, rfl, hbw3, HCr3, HS3, HO3⟩
      case round =>
        obtain ⟨k, hkg, rfl, rfl, hb, HCx, HSx, HOx⟩ := hrel
        clear hbw3 HCr3 HS3 HO3
        cases gk with
        | zero =>
          have hkz : ¬ ((k : Int) < (o.length : Int)) := by omega
          rw [List.take_of_length_le (by omega)]
          go_wp2_with fail
          refine (close_c HCx.out HSx.out (by omega)).mono ?_
          rintro e w4 ⟨P4, c4, y, rfl, iy, hyl, sy, zy, b4⟩
          have hbw4 := hb.trans (b4.mono hb.size)
          have HE := Lib.hid (closes_any HIO.out iy)
          have HH := Lib.hid (rhas_any P4 c4 y x w4 sy (by omega))
          rw [HE.out] at HH
          generalize anyT L o = bb at *
          clear iy sy zy b4 HE
          go_wp2_with fail
          refine HH.out.mono ?_
          rintro e w5 ⟨rfl, rfl⟩
          have hbb : (bb == bb) = true := beq_self_eq_true _
          go_wp2
          go_ret
          exact ⟨by simp, hbw4⟩
        | succ g =>
          have hk : k < o.length := by omega
          have hkz : (k : Int) < (o.length : Int) := by omega
          obtain ⟨b, off, rfl, hbb, hc⟩ := HOx.out (by intro h; rw [h] at hk; simp at hk)
          have c0 := hc k hk
          have HN := Lib.hid (anyT_next L o k hk)
          have HH := Lib.hid (fun (c : Nat) => rhas_any P c L o[k] wr HSx.out (by omega))
          clear hc
          generalize o[k] = z at *
          generalize anyT L (o.take k) = m at *
          cases m
          · go_wp2_with (go_at_call 20; refine (HH.out _).mono ?_; rintro e w5 ⟨rfl, rfl⟩)
            go_roundg g
            case measure => omega
            case rel => exact ⟨k + 1, by omega, by go_num, by rw [HN.out]; rfl, hb, HCx, HSx, HOx⟩
          · go_wp2
            go_roundg g
            case measure => omega
            case rel => exact ⟨k + 1, by omega, by go_num, by rw [HN.out]; rfl, hb, HCx, HSx, HOx⟩
end Go.Proofs.YtmmghgfkpndokaaDoor
