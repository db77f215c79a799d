/- UtfJoins: the walk. -/
import Derived.Test.YtofmkhkpgpkboaaTextsWalk
namespace Go.Proofs.Ytofmkhkpgpkboaa
open Go.RowKit Go.Shelf UtfM

def shiftC (n : Nat) (c : Ch) : Ch := (c.1, n + c.2.1, c.2.2)
theorem chars_join (ys l : List Int) (hl : IsBytes l) : chars 0 (wr ys ++ l) = chars 0 (wr ys) ++ (chars 0 l).map (shiftC (wr ys).length) := by
  rw [chars_wr l hl ys 0, Nat.zero_add]
  have := chars_shift l hl 0 (wr ys).length
  rw [Nat.add_zero] at this
  rw [this]; rfl

set_option maxRecDepth 100000 in
set_option maxHeartbeats 4000000 in
theorem utfJoins_any (w : World) (A B : Option Addr) (ca cb : Nat) (l m : List Int) (hs : U32s w A l) (ht : By w B m) (hmc : m.length ≤ cb) (hB0 : B = none → cb = 0) : Calls Try.prog 3 #[.slice A l.length ca, .slice B m.length cb] w fun e w' => e = .returned (.bool true) ∧ Below w.heap.size w w' := by
  by_cases hbig : 100 < l.length
  · have hbz : (100 : Int) < (l.length : Int) := by omega
    clear hs ht
    go_enter Try.func3, Try.ntmps3
    go_wp2_with fail
    refine (known_c _).mono ?_
    rintro e w1 ⟨rfl, b1⟩
    go_wp2
    go_ret
    exact ⟨rfl, b1⟩
  have hbz : ¬ ((100 : Int) < (l.length : Int)) := by omega
  by_cases hbig2 : 1000 < m.length
  · have hbz2 : (1000 : Int) < (m.length : Int) := by omega
    clear hs ht
    go_enter Try.func3, Try.ntmps3
    go_wp2_with fail
    refine (known_c _).mono ?_
    rintro e w1 ⟨rfl, b1⟩
    go_wp2
    go_ret
    exact ⟨rfl, b1⟩
  have hbz2 : ¬ ((1000 : Int) < (m.length : Int)) := by omega
  have HS := Lib.hid hs
  have HM := Lib.hid ht
  clear hs ht
  go_enter Try.func3, Try.ntmps3
  go_wp2_with fail
  refine (known_c _).mono ?_
  rintro e w1 ⟨rfl, b1⟩
  go_wp2
  go_loopg [5, 6] l.length (fun g s5 s6 wx => ∃ (k : Nat), k + g = l.length ∧ s6 = .int .i64 k ∧ BRow w.heap.size wx s5 (wr (ysOf l k)) ∧ Below w.heap.size w wx)
  case atStart => exact ⟨0, by omega, rfl, World.ownsRow_nil _ _ _ _, b1⟩
  case round =>
    obtain ⟨k, hkg, rfl, hB, hb⟩ := hrel
    have hl1 := wr_ys_len l k
    cases gk with
    | zero =>
      have hkz : ¬ ((k : Int) < (l.length : Int)) := by omega
      have hjoin := chars_join (ysOf l k) m HM.out.1
      have hwb := wr_bytes (ysOf l k)
      generalize UtfM.wr (ysOf l k) = bs at *
      obtain ⟨PB, cB, rfl, hBy, hBc, hBn⟩ := bytes_of hwb hB
      have HJ := Lib.hid hjoin
      have HBy := Lib.hid hBy
      have HWB := Lib.hid hwb
      clear hjoin hBy hB hwb
      go_wp2_with fail
      refine (chars_c HBy.out (by omega) hBc).mono ?_
      rintro e w2 ⟨P2, c2, rfl, hcp, b2⟩
      have hb2 := hb.trans (b2.mono hb.size)
      have hBy2 := HBy.out.step b2
      have hM2 := HM.out.step hb2
      clear b2 hb HBy
      go_wp2_with fail
      refine (chars_c hM2 (by omega) hmc).mono ?_
      rintro e w3 ⟨P3, c3, rfl, hcq, b3⟩
      have hb3 := hb2.trans (b3.mono hb2.size)
      have HCQ := Lib.hid hcq
      have HBy3 := Lib.hid (hBy2.step b3)
      have HM3 := Lib.hid (hM2.step b3)
      clear b3 hb2 hBy2 hM2 hcq hcp
      have hlp : (chars 0 bs).length ≤ 400 := by have := chars_len_le bs HWB.out 0; omega
      have hlq : (chars 0 m).length ≤ 1000 := by have := chars_len_le m HM.out.1 0; omega
      go_wp2_with (first | (at_builtin; refine wpList_append_bytes rfl (.tmp 50) (.tmp 51) rfl w3.heap.size _ _ _ rfl (World.ownsRow_nil _ _ _ _) PB cB bs rfl HBy3.out hBn (by omega) (Nat.le_refl _) ?_; intro v4 w4 ho4 hg4; have b4 : Below w3.heap.size w3 w4 := (Below.refl _ _).grown hg4 (Nat.le_refl _) (fun j hj => by cases hj); have HM4 := Lib.hid (HM3.out.step b4)) | (at_builtin; refine wpList_append_bytes rfl (.tmp 53) (.tmp 54) rfl w3.heap.size _ _ _ rfl ho4 B cb m rfl HM4.out hB0 (by omega) b4.size ?_; intro v5 w5 ho5 hg5) | fail)
      have b5 : Below w3.heap.size w3 w5 := b4.grown hg5 b4.size (fun j hj => (ho4.lt j hj).1)
      have hall : IsBytes (bs ++ m) := HWB.out.append HM.out.1
      have hrow : w5.ownsRow w3.heap.size 5 1 v5 (bs ++ m).length ((bs ++ m).map (Value.int .u8)) := by
        rw [List.length_append, List.map_append]; simpa using ho5
      obtain ⟨P5, c5, rfl, hby5, hc5, _⟩ := bytes_of hall hrow
      have hb5 := hb3.trans (b5.mono hb3.size)
      have HCQ5 := Lib.hid (HCQ.out.step b5)
      have HBy5 := Lib.hid hby5
      have hl5 : (bs ++ m).length ≤ 1000000 := by rw [List.length_append]; omega
      clear ho4 hg4 b4 HM4 ho5 hg5 b5 hall hrow hby5 HM3 HBy3 HCQ hb3
      generalize hbm : bs ++ m = bm at *
      have HBM := Lib.hid hbm
      clear hbm
      go_wp2_with fail
      refine (chars_c HBy5.out hl5 hc5).mono ?_
      rintro e w6 ⟨P6, c6, rfl, hcr, b6⟩
      rw [HJ.out, List.length_append, List.length_map]
      rw [HJ.out] at hcr
      have hb6 := hb5.trans (b6.mono hb5.size)
      have HCR := Lib.hid hcr
      have HCQ6 := Lib.hid (HCQ5.out.step b6)
      clear hcr b6 hb5 HCQ5 HBy5
      have hlr : (chars 0 bs ++ (chars 0 m).map (shiftC bs.length)).length = (chars 0 bs).length + (chars 0 m).length := by rw [List.length_append, List.length_map]
      have HLR := Lib.hid hlr
      have hin := chars_in m HM.out.1 0
      have HIN := Lib.hid hin
      clear hlr hin
      generalize chars 0 bs = cp at *
      generalize chars 0 m = cq at *
      go_wp2
      go_loopg [13] cq.length (fun g s13 wx => ∃ (j : Nat), j + g = cq.length ∧ s13 = .int .i64 j ∧ Below w6.heap.size w6 wx)
      case atStart => exact ⟨0, by omega, rfl, Below.refl _ _⟩
      case round =>
        obtain ⟨j, hjg, rfl, hbw⟩ := hrel
        cases gk with
        | zero =>
          have hjz : ¬ ((j : Int) < (cq.length : Int)) := by omega
          go_wp2
          go_ret
          exact ⟨rfl, hb6.trans (hbw.mono hb6.size)⟩
        | succ g =>
          have hj : j < cq.length := by omega
          have hjz : (j : Int) < (cq.length : Int) := by omega
          obtain ⟨b1', o1', rfl, hb1', hc1'⟩ := HCR.out (by intro h; have := HLR.out; rw [h] at this; simp at this; omega)
          obtain ⟨b2', o2', rfl, hb2', hc2'⟩ := HCQ6.out (by intro h; rw [h] at hj; simp at hj)
          have hjr : cp.length + j < (cp ++ cq.map (shiftC bs.length)).length := by rw [HLR.out]; omega
          have hel : (cp ++ cq.map (shiftC bs.length))[cp.length + j] = shiftC bs.length cq[j] := by
            rw [List.getElem_append_right (by omega)]
            simp
          obtain ⟨d0, d1, d2⟩ := hc1' (cp.length + j) hjr
          rw [hel] at d0 d1 d2
          obtain ⟨f0, f1, f2⟩ := hc2' j hj
          obtain ⟨_, _, hin3, _, hin4⟩ := HIN.out cq[j] (List.getElem_mem hj)
          replace d0 := (hbw.cell (p := ⟨b1', o1' + (cp.length + j) * 3, none⟩) hb1').trans d0
          replace d1 := (hbw.cell (p := ⟨b1', o1' + (cp.length + j) * 3 + 1, none⟩) hb1').trans d1
          replace d2 := (hbw.cell (p := ⟨b1', o1' + (cp.length + j) * 3 + 2, none⟩) hb1').trans d2
          replace f0 := (hbw.cell (p := ⟨b2', o2' + j * 3, none⟩) hb2').trans f0
          replace f1 := (hbw.cell (p := ⟨b2', o2' + j * 3 + 1, none⟩) hb2').trans f1
          replace f2 := (hbw.cell (p := ⟨b2', o2' + j * 3 + 2, none⟩) hb2').trans f2
          clear hc1' hc2' hjr hel
          unfold shiftC at d0 d1 d2
          generalize cq[j] = y at *
          obtain ⟨r, at0, n0⟩ := y
          dsimp only at *
          rw [show ((bs.length + at0 : Nat) : Int) = (bs.length : Int) + (at0 : Int) from by omega] at d1
          have i0 : (0 : Int) ≤ (cp.length : Int) + (j : Int) := by omega
          have i1 : ((cp.length : Int) + (j : Int)).toNat = cp.length + j := by omega
          have i2 : (cp.length : Int) + (j : Int) < (cp.length : Int) + (cq.length : Int) := by omega
          have i3 : cp.length + j < cp.length + cq.length := by omega
          go_wp2
          have hbV : Below wr.heap.size wr (wr.alloc (.cells #[.int .i64 r, .int .i64 ((bs.length : Int) + (at0 : Int)), .int .i64 (n0 : Int)] 30)) := (Below.refl _ _).alloc (Nat.le_refl _) _
          have q0 : (wr.alloc (.cells #[.int .i64 r, .int .i64 ((bs.length : Int) + (at0 : Int)), .int .i64 (n0 : Int)] 30)).cell? ⟨wr.heap.size, 0, none⟩ = some (.int .i64 r) := by go_simp
          have q1 : (wr.alloc (.cells #[.int .i64 r, .int .i64 ((bs.length : Int) + (at0 : Int)), .int .i64 (n0 : Int)] 30)).cell? ⟨wr.heap.size, 1, none⟩ = some (.int .i64 ((bs.length : Int) + (at0 : Int))) := by go_simp
          have q2 : (wr.alloc (.cells #[.int .i64 r, .int .i64 ((bs.length : Int) + (at0 : Int)), .int .i64 (n0 : Int)] 30)).cell? ⟨wr.heap.size, 2, none⟩ = some (.int .i64 (n0 : Int)) := by go_simp
          have hlt2 : b2' < wr.heap.size := by have := hbw.size; omega
          replace f0 := (hbV.cell (p := ⟨b2', o2' + j * 3, none⟩) hlt2).trans f0
          replace f1 := (hbV.cell (p := ⟨b2', o2' + j * 3 + 1, none⟩) hlt2).trans f1
          replace f2 := (hbV.cell (p := ⟨b2', o2' + j * 3 + 2, none⟩) hlt2).trans f2
          have hbv := hbw.trans (hbV.mono hbw.size)
          clear d0 d1 d2 hbV hlt2
          generalize wr.alloc (.cells #[.int .i64 r, .int .i64 ((bs.length : Int) + (at0 : Int)), .int .i64 (n0 : Int)] 30) = V at *
          generalize wr.heap.size = n14 at *
          have t1 : (r != r) = false := by simp
          have i4 : IntKind.i64.wrap ((bs.length : Int) + (at0 : Int)) = (bs.length : Int) + (at0 : Int) := IntWalk.i64_in _ (by omega)
          go_quiet (fail)
          go_wp2
          go_roundg g
          case measure => omega
          case rel => exact ⟨j + 1, by omega, by go_num, ⟨hbv.os, hbv.tape, hbv.output, hbv.size, hbv.block⟩⟩
    | succ g =>
      have hk : k < l.length := by omega
      have hkz : (k : Int) < (l.length : Int) := by omega
      obtain ⟨hr, hcell⟩ := HS.out
      obtain ⟨b, off, rfl, hbb, hc⟩ := hcell (by intro h; rw [h] at hk; simp at hk)
      have c0 := (hb.cell (p := ⟨b, off + k, none⟩) hbb).trans (hc k hk)
      obtain ⟨x0, x1⟩ := hr l[k] (List.getElem_mem hk)
      have HY := Lib.hid (ysOf_succ hk)
      clear hc hcell hr
      generalize l[k] = u at *
      generalize hys : ysOf l k = ys at *
      have hu0 : 0 ≤ u % 1114112 := by omega
      have hu1 : u % 1114112 ≤ 1114111 := by omega
      clear hys
      go_wp2_with fail
      refine (enc_c _ _).mono ?_
      rintro e w2 ⟨P2, c2, rfl, h2, hc2, hc24, hz2, p2, b2⟩
      have hb2 := hb.trans (b2.mono hb.size)
      have hB2 : BRow w.heap.size w2 _ _ := own_below hB b2
      have hsz := hb2.size
      have hle := enc_len_le (u % 1114112)
      clear hB hb b2 c0 p2
      unfold BRow at hB2
      go_wp2_with (at_builtin; refine wpList_append_bytes rfl (.tmp 41) (.tmp 42) rfl w.heap.size _ _ _ rfl hB2 P2 c2 (enc (u % 1114112)) rfl h2 hz2 (by omega) hsz ?_; intro v4 w4 hB4 hgB)
      have hb4 := hb2.grown hgB hsz (fun j hj => (hB2.lt j hj).1)
      go_roundg g
      case measure => omega
      case rel => exact ⟨k + 1, by omega, by go_num, by rw [HY.out, wr_snoc, BRow, List.map_append, List.length_append]; exact hB4, hb4⟩
end Go.Proofs.Ytofmkhkpgpkboaa
