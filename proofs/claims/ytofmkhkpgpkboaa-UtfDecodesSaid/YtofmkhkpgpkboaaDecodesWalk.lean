/- UtfDecodes: the walk. -/
import Derived.Test.YtofmkhkpgpkboaaKnown
import Derived.Test.YtofmkhkpgpkboaaRchars
namespace Go.Proofs.Ytofmkhkpgpkboaa
open Go.RowKit Go.Shelf UtfM

theorem gdChar : Try.prog.eqGuardType Try.prog.depth 30 = false := by kernel_rfl
theorem eqChar (a b c : Int) (w : World) : (Op.equalIn 10000 30 (.agg #[.int .i64 a, .int .i64 b, .int .i64 c]) (.agg #[.int .i64 a, .int .i64 b, .int .i64 c])).run Try.prog w = .ok true w := by
  have u3 := Try.underlying3
  have a3 := Try.isAgg3
  have z3 := Try.sizeOf3
  have hS : Try.prog.underlying 30 = some (.struct (Try.prog.fieldsOf 30)) := by kernel_rfl
  have hp : Try.prog.stoodInHeld 30 = false := by kernel_rfl
  rw [show (10000 : Nat) = 9999 + 1 from rfl, run_equalIn_agg w 9999 30 _ _ hS hp]
  simp only [Program.fieldsOf, Try.underlying30]
  go_simp

set_option maxRecDepth 100000 in
set_option maxHeartbeats 1000000 in
theorem rsame_c (A B : Option Addr) (ca cb : Nat) (xs : List Ch) (hlb : xs.length ≤ 1000000) (w : World) (hSa : Cs w A xs) (hSb : Cs w B xs) :
    Calls Try.prog 17 #[.slice A xs.length ca, .slice B xs.length cb] w fun e w' => e = .returned (.bool true) ∧ Below w.heap.size w w' := by
  have HSA := Lib.hid hSa
  have HSB := Lib.hid hSb
  clear hSa hSb
  have hli2 : ((xs.length : Int) != (xs.length : Int)) = false := by simp
  go_enter Try.func17, Try.ntmps17
  go_wp2
  go_loopg [5] xs.length (fun g s5 wx => ∃ k : Nat, k + g = xs.length ∧ s5 = .int .i64 k ∧ Below w.heap.size w wx)
  case atStart => exact ⟨0, by omega, rfl, Below.refl _ _⟩
  case round =>
    obtain ⟨k, hkg, rfl, hb⟩ := hrel
    cases gk with
    | zero =>
      have hkz : ¬ ((k : Int) < (xs.length : Int)) := by omega
      go_wp2
      go_ret
      exact ⟨rfl, hb⟩
    | succ g =>
      have hk : k < xs.length := by omega
      have hkz : (k : Int) < (xs.length : Int) := by omega
      obtain ⟨b1, o1, rfl, hb1, hc1⟩ := HSA.out (by intro h; rw [h] at hk; simp at hk)
      obtain ⟨b2, o2, rfl, hb2, hc2⟩ := HSB.out (by intro h; rw [h] at hk; simp at hk)
      obtain ⟨c0, c1, c2⟩ := hc1 k hk
      obtain ⟨d0, d1, d2⟩ := hc2 k hk
      replace c0 := (hb.cell (p := ⟨b1, o1 + k * 3, none⟩) hb1).trans c0
      replace c1 := (hb.cell (p := ⟨b1, o1 + k * 3 + 1, none⟩) hb1).trans c1
      replace c2 := (hb.cell (p := ⟨b1, o1 + k * 3 + 2, none⟩) hb1).trans c2
      replace d0 := (hb.cell (p := ⟨b2, o2 + k * 3, none⟩) hb2).trans d0
      replace d1 := (hb.cell (p := ⟨b2, o2 + k * 3 + 1, none⟩) hb2).trans d1
      replace d2 := (hb.cell (p := ⟨b2, o2 + k * 3 + 2, none⟩) hb2).trans d2
      clear hc1 hc2
      generalize xs[k] = x at *
      obtain ⟨x1, x2, x3⟩ := x
      dsimp only at *
      have g1 := gdChar
      have g2 := eqChar x1 x2 x3
      go_wp2
      go_quiet (fail)
      go_wp2
      go_roundg g
      case measure => omega
      case rel => exact ⟨k + 1, by omega, by go_num, ⟨hb.os, hb.tape, hb.output, hb.size, hb.block⟩⟩

set_option maxRecDepth 100000 in
set_option maxHeartbeats 2000000 in
theorem utfDecodes_any (w : World) (A : Option Addr) (c : Nat) (l : List Int) (hs : By w A l) (hlc : l.length ≤ c) : Calls Try.prog 5 #[.slice A l.length c] w fun e w' => e = .returned (.bool true) ∧ Below w.heap.size w w' := by
  by_cases hbig : 1000 < l.length
  · have hbz : (1000 : Int) < (l.length : Int) := by omega
    clear hs
    go_enter Try.func5, Try.ntmps5
    go_wp2_with fail
    refine (known_c _).mono ?_
    rintro e w1 ⟨rfl, b1⟩
    go_wp2
    go_ret
    exact ⟨rfl, b1⟩
  have hbz : ¬ ((1000 : Int) < (l.length : Int)) := by omega
  have HS := Lib.hid hs
  have hcl := chars_len_le l hs.1 0
  clear hs
  go_enter Try.func5, Try.ntmps5
  go_wp2_with fail
  refine (known_c _).mono ?_
  rintro e w1 ⟨rfl, b1⟩
  go_wp2_with fail
  refine (decode_c (HS.out.step b1)).mono ?_
  rintro e w2 ⟨rfl, b2⟩
  have B2 := b1.trans (b2.mono b1.size)
  clear b1 b2
  unfold decV
  obtain ⟨p, hp⟩ : ∃ p, dec l = p := ⟨_, rfl⟩
  have hdv : decV l = .tuple #[.int .i64 p.1, .int .i64 (p.2 : Int)] := by rw [decV, hp]
  have HDV := Lib.hid hdv
  rw [hp]
  clear hp hdv
  go_wp2_with fail
  refine (rdec_c (HS.out.step B2)).mono ?_
  rintro e w3 ⟨rfl, b3⟩
  rw [HDV.out]
  have B3 := B2.trans (b3.mono B2.size)
  clear b3 B2
  obtain ⟨r, n⟩ := p
  dsimp only
  have t1 : (r == r) = true := by simp
  have t2 : ((n : Int) == (n : Int)) = true := by simp
  go_wp2_with fail
  refine (chars_c (HS.out.step B3) (by omega) hlc).mono ?_
  rintro e w4 ⟨P4, c4, rfl, h4, b4⟩
  have B4 := B3.trans (b4.mono B3.size)
  have H4 := Lib.hid h4
  clear b4 B3 h4
  go_wp2_with fail
  refine (rchars_c (HS.out.step B4) (by omega) hlc).mono ?_
  rintro e w5 ⟨P5, c5, rfl, h5, b5⟩
  have B5 := B4.trans (b5.mono B4.size)
  have HSM := Lib.hid (rsame_c P4 P5 c4 c5 _ (by omega) w5 (H4.out.step b5) h5)
  clear b5 B4 h5 H4
  go_wp2_with fail
  refine HSM.out.mono ?_
  rintro e w6 ⟨rfl, b6⟩
  have B6 := B5.trans (b6.mono B5.size)
  clear b6 B5 HSM
  go_wp2_with fail
  refine (first_c (HS.out.step B6) (by omega) hlc).mono ?_
  rintro e w7 ⟨rfl, b7⟩
  have B7 := B6.trans (b7.mono B6.size)
  have HRF := Lib.hid (rfirst_c (HS.out.step B7) (by omega) hlc)
  clear b7 B6
  have t3 : (first l == first l) = true := by simp
  generalize first l = f at *
  go_wp2_with fail
  refine HRF.out.mono ?_
  rintro e w8 ⟨rfl, b8⟩
  have B8 := B7.trans (b8.mono B7.size)
  go_wp2
  go_ret
  exact ⟨rfl, B8⟩
end Go.Proofs.Ytofmkhkpgpkboaa
