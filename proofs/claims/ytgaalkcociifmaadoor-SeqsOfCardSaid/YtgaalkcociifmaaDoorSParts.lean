/- The iterator of parts: its contract. -/
import Derived.Test.YtgaalkcociifmaaDoorSIt
import Derived.Test.YtgaalkcociifmaaDoorSLeaf
import Derived.Test.YtgaalkcociifmaaDoorSize
import Derived.Test.YtgaalkcociifmaaDoorUnionMath
namespace Go.Proofs.YtgaalkcociifmaaDoor
open Go.RowKit Go.Shelf SetM SeqM
attribute [local go_sem] Oper.semAt_some

/-- The normal list of what spans tell. -/
theorem nrm_ex (l : List SetM.Sp) : ∃ out, Nf out ∧ ∀ r, Mem out r ↔ Tells l r := by
  have h := ref_final l [] (fun p q => p && !q)
  refine ⟨_, h.1, fun r => ?_⟩
  rw [h.2]
  have h1 := tells_empty r
  simp only [h1, decide_false, Bool.not_false, Bool.and_true, decide_eq_true_eq]
  exact ⟨fun h => h.2, fun h => ⟨h.1, h⟩⟩
noncomputable def nrm (l : List SetM.Sp) : List SetM.Sp := Classical.choose (nrm_ex l)
theorem nrm_nf (l : List SetM.Sp) : Nf (nrm l) := (Classical.choose_spec (nrm_ex l)).1
theorem nrm_mem (l : List SetM.Sp) (r : Int) : Mem (nrm l) r ↔ Tells l r := (Classical.choose_spec (nrm_ex l)).2 r
theorem nrm_eq {l out : List SetM.Sp} (hn : Nf out) (hm : ∀ r, Mem out r ↔ Tells l r) : out = nrm l := nf_unique out _ hn (nrm_nf l) (fun r => by rw [hm, nrm_mem])
theorem nrm_len (l : List SetM.Sp) : (nrm l).length ≤ 4 + 2 * l.length := nf_len (nrm_nf l) (nrm_mem l)
theorem scal_of {out : List SetM.Sp} (hn : Nf out) (hm : ∀ r, Mem out r → SetM.Sc r) : ∀ s ∈ out, Scal s := fun s hs => by
  have h1 := nf_le hn s hs
  have a := hm s.1 ⟨s, hs, Int.le_refl _, h1⟩
  have b := hm s.2 ⟨s, hs, h1, Int.le_refl _⟩
  have c : ¬ (s.1 ≤ 55296 ∧ 55296 ≤ s.2) := fun hh => by have := hm 55296 ⟨s, hs, hh.1, hh.2⟩; unfold SetM.Sc at this; omega
  unfold SetM.Sc at a b
  unfold Scal
  omega
theorem nrm_scal (l : List SetM.Sp) : ∀ s ∈ nrm l, Scal s := scal_of (nrm_nf l) (fun r h => ((nrm_mem l r).1 h).1)

/-- What the package's table of lengths holds. -/
def Lens (W : World) : Prop :=
  (W.cell? ⟨0, 0, none⟩ = some (.int .i64 0) ∧ W.cell? ⟨0, 1, none⟩ = some (.int .i64 127) ∧
  W.cell? ⟨0, 2, none⟩ = some (.int .i64 128) ∧ W.cell? ⟨0, 3, none⟩ = some (.int .i64 2047)) ∧
  (W.cell? ⟨0, 4, none⟩ = some (.int .i64 2048) ∧ W.cell? ⟨0, 5, none⟩ = some (.int .i64 65535) ∧
  W.cell? ⟨0, 6, none⟩ = some (.int .i64 65536) ∧ W.cell? ⟨0, 7, none⟩ = some (.int .i64 1114111))
theorem Lens.below {n₀ : Nat} {V W : World} (h : Below n₀ V W) (h0 : 0 < n₀) (hs : Lens V) : Lens W := by
  have k : ∀ i, W.cell? ⟨0, i, none⟩ = V.cell? ⟨0, i, none⟩ := fun i => h.cell (p := ⟨0, i, none⟩) h0
  unfold Lens
  simp only [k]
  exact hs

/-- The parts that the iterator may hand over. -/
abbrev Pt := { q : Nat × SeqM.Sp // SeqM.Good q }
def partE (x : Pt) : Array Value := #[.int .i64 x.1.1, .agg #[.int .i64 x.1.2.1, .int .i64 x.1.2.2]]
theorem parts_next (xs : List SetM.Sp) (k : Nat) (hk : k < xs.length) : parts (xs.take (k + 1)) = parts (xs.take k) ++ partsOf xs[k] := by
  rw [List.take_succ_eq_append_getElem hk, parts_append]; simp [parts]
theorem parts_pre (xs : List SetM.Sp) (k j : Nat) (hk : k < xs.length) (hj : j < 4) : ∃ t, parts xs = parts (xs.take k) ++ partsTo xs[k] j ++ pieceAt xs[k] j ++ t := by
  have h : xs = xs.take k ++ xs[k] :: xs.drop (k + 1) := by simp
  have h2 : parts xs = parts (xs.take k) ++ (partsOf xs[k] ++ parts (xs.drop (k + 1))) := by
    have h2 : parts xs = parts (xs.take k ++ xs[k] :: xs.drop (k + 1)) := by rw [← h]
    rw [h2, parts_append]; unfold parts; rw [List.flatMap_cons]
  have h3 : ∃ t, partsOf xs[k] = partsTo xs[k] j ++ pieceAt xs[k] j ++ t := by
    unfold partsOf
    rcases (show j = 0 ∨ j = 1 ∨ j = 2 ∨ j = 3 by omega) with rfl | rfl | rfl | rfl
    · exact ⟨pieceAt xs[k] 1 ++ pieceAt xs[k] 2 ++ pieceAt xs[k] 3, by rw [partsTo_succ, partsTo_succ, partsTo_succ, partsTo_succ]; simp [List.append_assoc]⟩
    · exact ⟨pieceAt xs[k] 2 ++ pieceAt xs[k] 3, by rw [partsTo_succ, partsTo_succ, partsTo_succ]; simp [List.append_assoc]⟩
    · exact ⟨pieceAt xs[k] 3, by rw [partsTo_succ, partsTo_succ]⟩
    · exact ⟨[], by rw [partsTo_succ]; simp⟩
  obtain ⟨t, ht⟩ := h3
  exact ⟨t ++ parts (xs.drop (k + 1)), by rw [h2, ht]; simp [List.append_assoc]⟩
theorem bnd_ix (j : Nat) (hj : j < 4) (w : World) : (Instr.index 91 (.agg #[.int .i64 0, .int .i64 127, .int .i64 128, .int .i64 2047, .int .i64 2048, .int .i64 65535, .int .i64 65536, .int .i64 1114111]) (.int .i64 (j : Int))).run Tryd.prog w = .ok (.agg #[.int .i64 (bnd j).1, .int .i64 (bnd j).2]) w := by
  rcases (show j = 0 ∨ j = 1 ∨ j = 2 ∨ j = 3 by omega) with rfl | rfl | rfl | rfl <;> kernel_rfl
theorem bnd_in (j : Nat) : 0 ≤ (bnd j).1 ∧ (bnd j).2 ≤ 1114111 := by
  unfold bnd; split <;> simp

set_option maxRecDepth 100000 in
set_option maxHeartbeats 1000000 in
theorem parts1 (n : Nat) (l Bs n₀ : Nat) (h0n : 1 < n₀) (h1n : 0 < n₀) (A : Option Addr) (cap : Nat) (xs : List SetM.Sp) (hlen : xs.length ≤ 1000000) (J Jx : List Pt → World → Prop) (W : World)
    (hJ : AbidesFrom W.heap.size J)
    (hY : ∀ pre x W1, J pre W1 → pre.length < (parts (nrm xs)).length → YieldAt Fence.wide (n - 1) Tryd.prog l (partE x) W1 fun e W' =>
      (e = .returned (.bool true) ∧ J (pre ++ [x]) W' ∧ Kp n₀ W1 W') ∨ (e = .returned (.bool false) ∧ Jx (pre ++ [x]) W'))
    (hBs : W.cell? ⟨Bs, 0, none⟩ = some (.slice A xs.length cap)) (hA : Areas W) (hL : Lens W) (hS : Spans n₀ W A xs) (hn0 : n₀ ≤ W.heap.size) (h0 : J [] W) :
    Calls Tryd.prog 70 #[.func (.yield l) #[] #[], .pointer (some ⟨Bs, 0, none⟩)] W fun e W' => (∃ v, e = .returned v) ∧
      ((∃ ys : List Pt, ys.map (·.1) = parts (nrm xs) ∧ J ys W') ∨ (∃ pre, Jx pre W')) := by
  have HJ := Lib.hid hJ
  have HY := Lib.hid hY
  have HN := Lib.hid (norm_any A cap xs (by omega) W (by omega) hA (hS.mono hn0))
  have HL := Lib.hid hL
  have h0J := Lib.hid h0
  have HEQ := Lib.hid (fun o h1 h2 => nrm_eq (l := xs) (out := o) h1 h2)
  have hout : (nrm xs).length ≤ 4000000 := by have := nrm_len xs; omega
  have HSC := Lib.hid (nrm_scal xs)
  clear hJ hY hS hA hL h0
  generalize nrm xs = out at *
  go_enter Tryd.func70, Tryd.ntmps70
  go_wp2_with fail
  refine HN.out.mono ?_
  rintro e W1 ⟨v, out', rfl, hnf, hmem, hol, hown, hb1⟩
  obtain ⟨P, c, rfl, hsp⟩ := spansK_of hown
  obtain rfl : out = out' := (HEQ.out _ hnf hmem).symm
  have hj1 : J [] W1 := HJ.out _ _ _ none h0J.out (below_grown hb1) (by simp)
  have hk1 : Kp n₀ W W1 := ⟨hb1.mono hn0, fun i cs fr e => (hb1.block i (Array.getElem?_eq_some_iff.1 e).1).trans e⟩
  have HS := Lib.hid (hsp n₀)
  have hz1 : n₀ ≤ W1.heap.size := Nat.le_trans hn0 hb1.size
  have HL1 := Lib.hid (HL.out.below (hb1.mono hn0) h1n)
  clear hown hsp hnf hmem hb1 HN hol h0J HL hBs HEQ hlen
  have hk0 : Kp n₀ W1 W1 := Kp.refl _ _
  clear hk1
  go_wp2
  go_loopg [11] out.length (fun g s11 wx => ∃ (k : Nat) (pre : List Pt), k + g = out.length ∧ s11 = .int .i64 k ∧ Hid (pre.map (·.1) = parts (out.take k)) ∧ J pre wx ∧ Kp n₀ W1 wx)
  case atStart => exact ⟨0, [], by omega, rfl, Lib.hid rfl, hj1, hk0⟩
  case round =>
    obtain ⟨k, pre, hkg, rfl, HP, hj, hbx⟩ := hrel
    clear hj1 hk0
    cases gk with
    | zero =>
      have hkz : ¬ ((k : Int) < (out.length : Int)) := by omega
      go_wp2
      go_end0
      refine ⟨⟨_, rfl⟩, .inl ⟨pre, ?_, hj⟩⟩
      rw [HP.out, List.take_of_length_le (by omega)]
    | succ g =>
      have hkz : (k : Int) < (out.length : Int) := by omega
      have hk : k < out.length := by omega
      obtain ⟨b, off, rfl, hbk, hc⟩ := HS.out.kp hbx (by intro h; rw [h] at hk; simp at hk)
      obtain ⟨c0', c1'⟩ := hc k hk
      have HG := Lib.hid (HSC.out out[k] (List.getElem_mem hk))
      have HPN := Lib.hid (parts_next out k hk)
      have HPP := Lib.hid (fun j hj => parts_pre out k j hk hj)
      clear hc hbk
      generalize hx : out[k] = x at *
      clear hx
      have hsz := hbx.1.size
      have hb1 : Kp n₀ W1 (wr.alloc (.cells #[.int .i64 x.1, .int .i64 x.2] 43)) := hbx.alloc (by omega) _
      obtain ⟨⟨a0, a1, a2, a3⟩, a4, a5, a6, a7⟩ := HL1.out.below hb1.1 h1n
      have hj1 : J pre (wr.alloc (.cells #[.int .i64 x.1, .int .i64 x.2] 43)) := HJ.out _ _ _ none hj (World.grownBy_alloc _ _ _) (by simp)
      go_wp2
      have hbox : (wr.alloc (.cells #[.int .i64 x.1, .int .i64 x.2] 43)).heap[wr.heap.size]? = some (.cells #[.int .i64 x.1, .int .i64 x.2] 43 (0, 0)) := heap_alloc_new wr _
      obtain ⟨bx, hbxe⟩ : ∃ bx, bx = wr.heap.size := ⟨_, rfl⟩
      rw [← hbxe] at hbox ⊢
      have HB0 := Lib.hid hbox
      clear hbox
      generalize wr.alloc (.cells #[.int .i64 x.1, .int .i64 x.2] 43) = w1 at *
      clear hj hbx c0' c1' hsz hbxe a0 a1 a2 a3 a4 a5 a6 a7
      clear wr
      go_loopg [16] 4 (fun g2 s16 wy => ∃ (j : Nat) (pre2 : List Pt), j + g2 = 4 ∧ s16 = .int .i64 j ∧ Hid (pre2.map (·.1) = parts (out.take k) ++ partsTo x j) ∧ J pre2 wy ∧ Kp n₀ W1 wy ∧ Hid (wy.heap[bx]? = some (.cells #[.int .i64 x.1, .int .i64 x.2] 43 (0, 0))))
      case atStart => exact ⟨0, pre, by omega, rfl, Lib.hid (by rw [HP.out, partsTo_zero, List.append_nil]), hj1, hb1, HB0⟩
      case round =>
        obtain ⟨j, pre2, hjg, rfl, HP2, hj2, hb2, HB⟩ := hrel
        clear hj1 hb1 HB0
        cases gk with
        | zero =>
          obtain rfl : j = 4 := by omega
          have hjz : ¬ (((4 : Nat) : Int) < (4 : Int)) := by omega
          go_wp2
          go_roundg g
          case measure => omega
          case rel => exact ⟨k + 1, pre2, by omega, by go_num, Lib.hid (by rw [HP2.out, HPN.out]; rfl), hj2, hb2⟩
        | succ g2 =>
          have hj4 : j < 4 := by omega
          have hjz : (j : Int) < (4 : Int) := by omega
          have hix := bnd_ix j hj4
          obtain ⟨hb3, hb4⟩ := bnd_in j
          have HGP := Lib.hid (fun q hq => good_pieceAt HG.out hj4 (q := q) hq)
          have HTO := Lib.hid (partsTo_succ x j)
          have HPJ := Lib.hid (HPP.out j hj4)
          have HPC : Hid (pieceAt x j = if max x.1 (bnd j).1 ≤ min x.2 (bnd j).2 then [(j + 1, (max x.1 (bnd j).1, min x.2 (bnd j).2))] else []) := Lib.hid rfl
          have HSX := HG.out
          obtain ⟨sx0, sx1, sx2, _⟩ := HSX
          generalize (bnd j).1 = alo at *
          generalize (bnd j).2 = ahi at *
          have hlt : bx < wr.heap.size := by
            have := HB.out
            exact (Array.getElem?_eq_some_iff.1 this).1
          have hc0 : (wr.alloc (.cells #[.int .i64 alo, .int .i64 ahi] 43)).cell? ⟨bx, 0, none⟩ = some (.int .i64 x.1) := by
            rw [World.cell?_alloc_lt _ _ _ hlt, cell_of_row wr bx 0 _ _ _ HB.out]; rfl
          have hc1 : (wr.alloc (.cells #[.int .i64 alo, .int .i64 ahi] 43)).cell? ⟨bx, 1, none⟩ = some (.int .i64 x.2) := by
            rw [World.cell?_alloc_lt _ _ _ hlt, cell_of_row wr bx 1 _ _ _ HB.out]; rfl
          have hb5 : Kp n₀ W1 (wr.alloc (.cells #[.int .i64 alo, .int .i64 ahi] 43)) := hb2.alloc (by have := hb2.1.size; omega) _
          have hj5 : J pre2 (wr.alloc (.cells #[.int .i64 alo, .int .i64 ahi] 43)) := HJ.out _ _ _ none hj2 (World.grownBy_alloc _ _ _) (by simp)
          have HB5 : Hid ((wr.alloc (.cells #[.int .i64 alo, .int .i64 ahi] 43)).heap[bx]? = some (.cells #[.int .i64 x.1, .int .i64 x.2] 43 (0, 0))) :=
            Lib.hid ((Below.heap_alloc wr _ bx hlt).trans HB.out)
          have hlo0 : -9223372036854775808 ≤ max x.1 alo := by omega
          go_upto_region 7 with (fail)
          generalize hlo : max x.1 alo = lo at *
          generalize hhi : min x.2 ahi = hi at *
          have hsz5 := (World.size_alloc wr (.cells #[.int .i64 alo, .int .i64 ahi] 43))
          have hbxp : ((wr.alloc (.cells #[.int .i64 alo, .int .i64 ahi] 43)).alloc (.cells #[.int .i64 lo, .int .i64 hi] 43)).heap[wr.heap.size + 1]? = some (.cells #[.int .i64 lo, .int .i64 hi] 43 (0, 0)) := by
            have := heap_alloc_new (wr.alloc (.cells #[.int .i64 alo, .int .i64 ahi] 43)) (.cells #[.int .i64 lo, .int .i64 hi] 43)
            rwa [hsz5] at this
          have hb6 : Kp n₀ W1 ((wr.alloc (.cells #[.int .i64 alo, .int .i64 ahi] 43)).alloc (.cells #[.int .i64 lo, .int .i64 hi] 43)) := hb5.alloc (by have := hb5.1.size; omega) _
          have hj6 : J pre2 ((wr.alloc (.cells #[.int .i64 alo, .int .i64 ahi] 43)).alloc (.cells #[.int .i64 lo, .int .i64 hi] 43)) := HJ.out _ _ _ none hj5 (World.grownBy_alloc _ _ _) (by simp)
          have HB6 : Hid (((wr.alloc (.cells #[.int .i64 alo, .int .i64 ahi] 43)).alloc (.cells #[.int .i64 lo, .int .i64 hi] 43)).heap[bx]? = some (.cells #[.int .i64 x.1, .int .i64 x.2] 43 (0, 0))) :=
            Lib.hid ((Below.heap_alloc _ _ bx (by omega)).trans HB5.out)
          clear hix hc0 hc1 hb5 hj5 HB5 hj2 hb2 HB hlt hlo hhi hsz5 hlo0
          generalize (wr.alloc (.cells #[.int .i64 alo, .int .i64 ahi] 43)).alloc (.cells #[.int .i64 lo, .int .i64 hi] 43) = w6 at *
          have q0 : w6.cell? ⟨wr.heap.size + 1, 0, none⟩ = some (.int .i64 lo) := by rw [cell_of_row w6 _ 0 _ _ _ hbxp]; rfl
          have q1 : w6.cell? ⟨wr.heap.size + 1, 1, none⟩ = some (.int .i64 hi) := by rw [cell_of_row w6 _ 1 _ _ _ hbxp]; rfl
          clear hbxp
          by_cases hyl : lo ≤ hi
          · have hpc := HPC.out
            rw [if_pos hyl] at hpc
            have hgood := HGP.out (j + 1, lo, hi) (by rw [hpc]; simp)
            have hlen2 : pre2.length < (parts out).length := by
              obtain ⟨t, ht⟩ := HPJ.out
              have h3 := congrArg List.length HP2.out
              have h4 := congrArg List.length ht
              rw [hpc] at h4
              simp only [List.length_map, List.length_append, List.length_cons, List.length_nil] at h3 h4
              omega
            have HPC2 := Lib.hid hpc
            obtain ⟨fn, tmps, assign, body, hy, hR⟩ := HY.out pre2 ⟨(j + 1, lo, hi), hgood⟩ w6 hj6 hlen2
            simp only [partE] at hy
            rw [show ((j + 1 : Nat) : Int) = (j : Int) + 1 from rfl] at hy
            have HR := Lib.hid hR
            clear hR hpc hlen2
            refine (wpIn_wide (n := n)).1 ?_
            gi_wp2
            refine ⟨fun h => (by simp [Fence.wide] at h), HR.out.mono ?_⟩
            rintro e3 W3 (⟨rfl, hJ3, hk3⟩ | ⟨rfl, hJx3⟩)
            · gi_wp2
              go_wp2
              go_roundg g2
              case measure => omega
              case rel => exact ⟨j + 1, _, by omega, by go_num, Lib.hid (by rw [List.map_append, HP2.out, HTO.out, HPC2.out, List.append_assoc]; rfl), hJ3, hb6.trans hk3, Lib.hid (hk3.2 _ _ _ HB6.out)⟩
            · gi_wp2
              go_wp2
              refine bodyPost_ret (results_none rfl _ _ _) rfl ?_
              exact ⟨⟨_, rfl⟩, .inr ⟨_, hJx3⟩⟩
          · have hpc := HPC.out
            rw [if_neg hyl] at hpc
            have HPC2 := Lib.hid hpc
            have hld : decide (lo ≤ hi) = false := decide_eq_false hyl
            clear hpc
            go_wp2
            go_roundg g2
            case measure => omega
            case rel => exact ⟨j + 1, pre2, by omega, by go_num, Lib.hid (by rw [HP2.out, HTO.out, HPC2.out, List.append_nil]), hj6, hb6, HB6⟩

/-- The iterator's value keeps its contract. -/
theorem parts_stops {F : Fence} (hF : Hid (F = Fence.wide)) (n Bs n₀ : Nat) (h0n : 1 < n₀) (h1n : 0 < n₀) (A : Option Addr) (cap : Nat) (xs : List SetM.Sp) (hlen : xs.length ≤ 1000000) (w : World) (hBl : Bs < w.heap.size) (hn₀ : n₀ ≤ w.heap.size)
    (hc : w.cell? ⟨Bs, 0, none⟩ = some (.slice A xs.length cap)) (hA : Areas w) (hL : Lens w) (hS : Spans n₀ w A xs) :
    SeqStopsK F n Tryd.prog 70 #[.pointer (some ⟨Bs, 0, none⟩)] partE (Kp n₀) (fun ys => ys.map (·.1) = parts (nrm xs)) (fun _ => True) (parts (nrm xs)).length w := by
  rw [hF.out]
  intro l J Jx W hW hJ _ hY h0
  refine callsIn_wide.2 ((parts1 n l Bs n₀ h0n h1n A cap xs hlen J Jx W hJ hY ((hW.cell (p := ⟨Bs, 0, none⟩) hBl).trans hc) (hA.below (hW.mono hn₀) h0n) (hL.below (hW.mono hn₀) h1n) (hS.below (hW.mono hn₀)) (Nat.le_trans hn₀ hW.size) h0).mono ?_)
  rintro e W' ⟨hv, ⟨ys, h1, h2⟩ | ⟨pre, h1⟩⟩
  · exact ⟨hv, .inl ⟨ys, h1, h2⟩⟩
  · exact ⟨hv, .inr ⟨pre, trivial, h1⟩⟩
set_option maxHeartbeats 400000 in
/-- The maker: a box with the slice, and the closure over it. -/
theorem eachPart_c (A : Option Addr) (len cap : Nat) (w : World) : Calls Tryd.prog 56 #[.slice A len cap] w fun e w' => e = .returned (.func (.func 70) #[] #[.pointer (some ⟨w.heap.size, 0, none⟩)]) ∧ w.alloc (.cells #[.slice A len cap] 25) = w' := by
  go_enter Tryd.func56, Tryd.ntmps56
  go_wp2
  go_ret
  exact ⟨rfl, rfl⟩
set_option maxHeartbeats 400000 in
theorem eachRow_c (A : Option Addr) (len cap : Nat) (w : World) : Calls Tryd.prog 35 #[.slice A len cap] w fun e w' => e = .returned (.func (.func 55) #[] #[.pointer (some ⟨w.heap.size, 0, none⟩)]) ∧ w.alloc (.cells #[.slice A len cap] 25) = w' := by
  go_enter Tryd.func35, Tryd.ntmps35
  go_wp2
  go_ret
  exact ⟨rfl, rfl⟩
end Go.Proofs.YtgaalkcociifmaaDoor
