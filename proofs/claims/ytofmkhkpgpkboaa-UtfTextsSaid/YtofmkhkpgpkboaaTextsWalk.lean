/- UtfTexts: the walk. -/
import Derived.Test.YtofmkhkpgpkboaaAppend
import Derived.Test.YtofmkhkpgpkboaaKit
namespace Go.Proofs.Ytofmkhkpgpkboaa
open Go.RowKit Go.Shelf UtfM

/-- The first k numbers, as they are written. -/
def ysOf (l : List Int) (k : Nat) : List Int := (l.take k).map (· % 1114112)
theorem ysOf_succ {l : List Int} {k : Nat} (h : k < l.length) : ysOf l (k + 1) = ysOf l k ++ [l[k] % 1114112] := by
  unfold ysOf; rw [List.take_succ_eq_append_getElem h, List.map_append]; rfl
theorem ysOf_len (l : List Int) (k : Nat) : (ysOf l k).length ≤ k := by unfold ysOf; rw [List.length_map, List.length_take]; omega
theorem wr_ys_len (l : List Int) (k : Nat) : (wr (ysOf l k)).length ≤ 4 * k := by have := wr_len_le (ysOf l k); have := ysOf_len l k; omega
def flt (ys : List Int) : List Int := ys.filter (fun x => decide (Sc x))
theorem flt_len (ys : List Int) : (flt ys).length ≤ ys.length := List.length_filter_le _ _
theorem wr_snoc (ys : List Int) (x : Int) : wr (ys ++ [x]) = wr ys ++ enc x := by rw [wr_append, wr_cons, wr_nil, List.append_nil]
theorem flt_yes (ys : List Int) {x : Int} (h : Sc x) : flt (ys ++ [x]) = flt ys ++ [x] := by simp [flt, List.filter_append, h]
theorem flt_no (ys : List Int) {x : Int} (h : ¬ Sc x) : flt (ys ++ [x]) = flt ys := by simp [flt, List.filter_append, h]
theorem chars_flt (ys : List Int) : (chars 0 (wr ys)).map (·.1) = flt ys := chars_wr_scalars ys 0

def BRow (n₀ : Nat) (W : World) (v : Value) (l : List Int) : Prop := W.ownsRow n₀ 5 1 v l.length (l.map (Value.int .u8))
def IRow (n₀ : Nat) (W : World) (v : Value) (l : List Int) : Prop := W.ownsRow n₀ 3 1 v l.length (l.map (Value.int .i64))

set_option maxRecDepth 100000 in
set_option maxHeartbeats 4000000 in
theorem utfTexts_any (w : World) (A : Option Addr) (c : Nat) (l : List Int) (hs : U32s w A l) : Calls Try.prog 7 #[.slice A l.length c] w fun e w' => e = .returned (.bool true) ∧ Below w.heap.size w w' := by
  by_cases hbig : 200 < l.length
  · have hbz : (200 : Int) < (l.length : Int) := by omega
    clear hs
    go_enter Try.func7, Try.ntmps7
    go_wp2_with fail
    refine (known_c _).mono ?_
    rintro e w1 ⟨rfl, b1⟩
    go_wp2
    go_ret
    exact ⟨rfl, b1⟩
  · have hbz : ¬ ((200 : Int) < (l.length : Int)) := by omega
    obtain ⟨iB, hiB, hzB0, hzB1, hzB2⟩ := info_parts infoB
    obtain ⟨iI, hiI, hzI0, hzI1, hzI2⟩ := info_parts infoI
    have HS := Lib.hid hs
    clear hs
    go_enter Try.func7, Try.ntmps7
    go_wp2_with fail
    refine (known_c _).mono ?_
    rintro e w1 ⟨rfl, b1⟩
    go_wp2
    go_loopg [3, 4, 5] l.length (fun g s3 s4 s5 wx => ∃ (k : Nat), k + g = l.length ∧ s5 = .int .i64 k ∧ BRow w.heap.size wx s3 (wr (ysOf l k)) ∧ IRow w.heap.size wx s4 (flt (ysOf l k)) ∧ Below w.heap.size w wx)
    case atStart => exact ⟨0, by omega, rfl, World.ownsRow_nil _ _ _ _, World.ownsRow_nil _ _ _ _, b1⟩
    case round =>
      obtain ⟨k, hkg, rfl, hB, hI, hb⟩ := hrel
      have hl1 := wr_ys_len l k
      have hl2 : (flt (ysOf l k)).length ≤ k := Nat.le_trans (flt_len _) (ysOf_len l k)
      cases gk with
      | zero =>
        have hkz : ¬ ((k : Int) < (l.length : Int)) := by omega
        have hmap := chars_flt (ysOf l k)
        have hwb := wr_bytes (ysOf l k)
        have hf1 := first_wr (ysOf l k)
        generalize UtfM.wr (ysOf l k) = bs at *
        generalize flt (ysOf l k) = wants at *
        obtain ⟨PB, cB, rfl, hBy, hBc, _⟩ := bytes_of hwb hB
        obtain ⟨PI, cI, rfl, hIn⟩ := ints_of hI
        have HMAP := Lib.hid hmap
        have hlen : (chars 0 bs).length = wants.length := by rw [← hmap, List.length_map]
        have HLEN := Lib.hid hlen
        have HF1 := Lib.hid hf1
        have HBy := Lib.hid hBy
        have HIn := Lib.hid hIn
        clear hmap hlen hf1 hBy hIn hB hI hwb
        go_wp2_with fail
        refine (chars_c HBy.out (by omega) hBc).mono ?_
        rintro e w2 ⟨PC, cC, rfl, hcs, b2⟩
        rw [HLEN.out]
        have hb2 := hb.trans (b2.mono hb.size)
        have hfc := first_c (HBy.out.step b2) (by omega) hBc
        rw [HF1.out] at hfc
        have HFC := Lib.hid hfc
        have HCS := Lib.hid hcs
        have HIn2 := Lib.hid (HIn.out.step b2)
        have tn : ((wants.length : Int) != (wants.length : Int)) = false := by simp
        clear hcs b2 HBy HIn hfc hb
        go_wp2_with fail
        refine HFC.out.mono ?_
        rintro e w3 ⟨rfl, b3⟩
        have hb3 := hb2.trans (b3.mono hb2.size)
        have HCS3 := Lib.hid (HCS.out.step b3)
        have HIn3 := Lib.hid (HIn2.out.step b3)
        clear b3 hb2 HCS HIn2 HFC tn
        go_wp2
        go_loopg [8] wants.length (fun g s8 wx => ∃ (j : Nat), j + g = wants.length ∧ s8 = .int .i64 j ∧ Below w3.heap.size w3 wx)
        case atStart => exact ⟨0, by omega, rfl, Below.refl _ _⟩
        case round =>
          obtain ⟨j, hjg, rfl, hbw⟩ := hrel
          cases gk with
          | zero =>
            have hjz : ¬ ((j : Int) < (wants.length : Int)) := by omega
            go_wp2
            go_ret
            exact ⟨rfl, hb3.trans (hbw.mono hb3.size)⟩
          | succ g =>
            have hj : j < wants.length := by omega
            have hjz : (j : Int) < (wants.length : Int) := by omega
            have hjc : j < (chars 0 bs).length := by rw [HLEN.out]; omega
            obtain ⟨b1', o1', rfl, hb1', hc1'⟩ := HCS3.out (by intro h; rw [h] at hjc; simp at hjc)
            obtain ⟨b2', o2', rfl, hb2', hc2'⟩ := HIn3.out (by intro h; rw [h] at hj; simp at hj)
            have d1 := (hbw.cell (p := ⟨b1', o1' + j * 3, none⟩) hb1').trans (hc1' j hjc).1
            have d2 := (hbw.cell (p := ⟨b2', o2' + j, none⟩) hb2').trans (hc2' j hj)
            have hee : (chars 0 bs)[j].1 = wants[j] := by
              have h1 : ((chars 0 bs).map (·.1))[j]? = wants[j]? := by rw [HMAP.out]
              rw [List.getElem?_map, List.getElem?_eq_getElem hjc, List.getElem?_eq_getElem hj] at h1
              simpa using h1
            rw [hee] at d1
            clear hee hc1' hc2' hjc
            generalize wants[j] = x at *
            have tx : (x != x) = false := by simp
            go_wp2
            go_quiet (fail)
            go_wp2
            go_roundg g
            case measure => omega
            case rel => exact ⟨j + 1, by omega, by go_num, ⟨hbw.os, hbw.tape, hbw.output, hbw.size, hbw.block⟩⟩
      | succ g =>
        have hk : k < l.length := by omega
        have hkz : (k : Int) < (l.length : Int) := by omega
        obtain ⟨hr, hcell⟩ := HS.out
        obtain ⟨b, off, rfl, hbb, hc⟩ := hcell (by intro h; rw [h] at hk; simp at hk)
        have c0 := (hb.cell (p := ⟨b, off + k, none⟩) hbb).trans (hc k hk)
        obtain ⟨x0, x1⟩ := hr l[k] (List.getElem_mem hk)
        have HY := Lib.hid (ysOf_succ hk)
        clear hc hcell hr
        generalize l[k] = u at *
        generalize hys : ysOf l k = ys at *
        have hu0 : 0 ≤ u % 1114112 := by omega
        have hu1 : u % 1114112 ≤ 1114111 := by omega
        clear hys
        go_wp2_with fail
        refine (enc_n _ _).mono ?_
        rintro e w2 ⟨P2, c2, rfl, h2, hc2, hc24, hz2, p2, n2, b2⟩
        have hb2 := hb.trans (b2.mono hb.size)
        have hB2 : BRow w.heap.size w2 _ _ := own_below hB b2
        have hI2 : IRow w.heap.size w2 _ _ := own_below hI b2
        have c02 := (b2.cell (p := ⟨b, off + k, none⟩) (by have := hb.size; show b < _; omega)).trans c0
        have hsz := hb2.size
        have hlt4 : ∀ j, u4.ownBlock = some j → j < wr.heap.size := fun j hj => (World.ownsRow.lt hI j hj).2
        have HLT := Lib.hid hlt4
        clear hB hI hb b2 c0 hlt4
        by_cases hS : Sc (u % 1114112)
        · have hpos := enc_pos hS
          have hpz : (0 : Int) < ((enc (u % 1114112)).length : Int) := by omega
          have HS2 := Lib.hid hS
          have hle := enc_len_le (u % 1114112)
          obtain ⟨bx, ox, rfl, hbx, _⟩ := h2.2 (by intro h; rw [h] at hpos; simp at hpos)
          have HB := Lib.hid h2
          clear h2 p2 hS
          unfold IRow at hI2
          unfold BRow at hB2
          have hne4 : some bx ≠ u4.ownBlock := fun h => by
            have h1 := HLT.out bx h.symm
            have h2 := n2 _ rfl
            simp only at h2
            omega
          have hF : flt (ys ++ [u % 1114112]) = flt ys ++ [u % 1114112] := flt_yes ys HS2.out
          have HF := Lib.hid hF
          have hnx : ∀ w3, (w2.alloc (.cells #[.int .i64 (u % 1114112)] 3)).grownBy w3 u4.ownBlock → w3.ownsRow w.heap.size 5 1 u3 (UtfM.wr ys).length ((UtfM.wr ys).map (Value.int .u8)) ∧ Below w.heap.size w w3 ∧ By w3 (some ⟨bx, ox, none⟩) (enc (u % 1114112)) := fun w3 hg => by
            refine ⟨(hB2.alloc _).kept hg (own_apart hB2 hI2 (by decide)), ?_, ?_⟩
            · exact (hb2.alloc hsz _).grown hg (by rw [World.size_alloc]; omega) (fun j hj => (hI2.lt j hj).1)
            · exact (HB.out.step ((Below.refl _ _).alloc (Nat.le_refl _) _)).kept hg hne4
          have HNX := Lib.hid hnx
          clear hne4 hF n2 hnx
          go_wp2_with (first | (at_builtin; refine wpList_append_own _ rfl (.tmp 33) (.tmp 40) 38 rfl w.heap.size 3 iI (.int .i64 0) 1 8 Try.underlying38 hiI hzI0 hzI1 hzI2 rfl (by decide) _ _ _ rfl (hI2.alloc _) ⟨w2.heap.size, 0, none⟩ 1 1 [.int .i64 (u % 1114112)] rfl rfl (cell_news _ _ _) (by simp [Value.oneCell']) (by unfold maxLen; omega) (by omega) (by rw [World.size_alloc]; omega) ?_; intro v' w3 hI3 hgI _; obtain ⟨hB3, hb3, hX3⟩ := HNX.out w3 hgI; have hsz3 := hb3.size) | (at_builtin; refine wpList_append_own _ rfl (.tmp 42) (.tmp 43) 23 rfl w.heap.size 5 iB (.int .u8 0) 1 1 Try.underlying23 hiB hzB0 hzB1 hzB2 rfl (by decide) _ _ _ rfl hB3 ⟨bx, ox, none⟩ (enc (u % 1114112)).length c2 ((enc (u % 1114112)).map (Value.int .u8)) rfl (by simp) (bytes_news hX3) (one_bytes _ _) (by unfold maxLen; omega) (by omega) hsz3 ?_; intro v4 w4 hB4 hgB _))
          have hI4 := hI3.kept hgB (own_apart hI3 hB3 (by decide))
          have hb4 := hb3.grown hgB hsz3 (fun j hj => (hB3.lt j hj).1)
          go_roundg g
          case measure => omega
          case rel => exact ⟨k + 1, by omega, by go_num, by rw [HY.out, wr_snoc, BRow, List.map_append, List.length_append]; exact hB4, by rw [HY.out, HF.out, IRow, List.map_append, List.length_append]; exact hI4, hb4⟩
        · have e0 := enc0 hS
          have hp2 : P2 = none := p2 e0
          have hc0 : c2 = 0 := hz2 hp2
          subst hp2 hc0
          rw [e0]
          have hF : flt (ys ++ [u % 1114112]) = flt ys := flt_no ys hS
          have hW : UtfM.wr (ys ++ [u % 1114112]) = UtfM.wr ys := by rw [wr_snoc, e0, List.append_nil]
          have HF := Lib.hid hF
          have HW := Lib.hid hW
          clear hS e0 hF hW p2 hz2 n2 h2 hc2
          unfold BRow at hB2
          go_wp2_with (at_builtin; refine wpList_append_own_none rfl (.tmp 42) (.tmp 43) 23 rfl w.heap.size 5 iB 1 Try.underlying23 hiB _ _ _ rfl hB2 rfl ?_)
          go_roundg g
          case measure => omega
          case rel => exact ⟨k + 1, by omega, by go_num, by rw [HY.out, HW.out]; exact hB2, by rw [HY.out, HF.out]; exact hI2, hb2⟩
end Go.Proofs.Ytofmkhkpgpkboaa
