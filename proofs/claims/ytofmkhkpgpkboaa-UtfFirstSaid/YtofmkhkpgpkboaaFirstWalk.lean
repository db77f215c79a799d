/- UtfFirst: the walk. -/
import Derived.Test.YtofmkhkpgpkboaaKnown
namespace Go.Proofs.Ytofmkhkpgpkboaa
open Go.RowKit Go.Shelf UtfM

set_option maxRecDepth 100000 in
set_option maxHeartbeats 2000000 in
theorem utfFirst_any (w : World) (A : Option Addr) (c : Nat) (l : List Int) (hs : By w A l) (hlc : l.length ≤ c) : Calls Try.prog 9 #[.slice A l.length c] w fun e w' => e = .returned (.bool true) ∧ Below w.heap.size w w' := by
  by_cases hbig : 1000 < l.length
  · have hbz : (1000 : Int) < (l.length : Int) := by omega
    clear hs
    go_enter Try.func9, Try.ntmps9
    go_wp2_with fail
    refine (known_c _).mono ?_
    rintro e w1 ⟨rfl, b1⟩
    go_wp2
    go_ret
    exact ⟨rfl, b1⟩
  · have hbz : ¬ ((1000 : Int) < (l.length : Int)) := by omega
    have HS := Lib.hid hs
    have hfa := first_at l hs.1 0
    have HFA := Lib.hid hfa
    clear hs hfa
    go_enter Try.func9, Try.ntmps9
    go_wp2_with fail
    refine (known_c _).mono ?_
    rintro e w1 ⟨rfl, b1⟩
    go_wp2_with fail
    refine (first_c (HS.out.step b1) (by omega) hlc).mono ?_
    rintro e w2 ⟨rfl, b2⟩
    have B2 := b1.trans (b2.mono b1.size)
    clear b1 b2
    rcases HFA.out with ⟨h1, h2⟩ | ⟨k, h1, hk, h3, xs, h4⟩
    · rw [show first l = -1 from h1]
      have HA := Lib.hid h2
      clear h1 h2
      go_wp2_with fail
      refine (chars_c (HS.out.step B2) (by omega) hlc).mono ?_
      rintro e w3 ⟨P, cp, rfl, hcs, b3⟩
      have B3 := B2.trans (b3.mono B2.size)
      have HCS := Lib.hid hcs
      clear hcs b3 B2
      have hcl : (chars 0 l).length ≤ 1000 := by have := chars_len_le l HS.out.1 0; omega
      generalize chars 0 l = cs at *
      go_wp2
      go_loopg [5] cs.length (fun g s5 wx => ∃ (k : Nat), k + g = cs.length ∧ s5 = .int .i64 k ∧ w3 = wx)
      case atStart => exact ⟨0, by omega, rfl, rfl⟩
      case round =>
        obtain ⟨k, hkg, rfl, rfl⟩ := hrel
        cases gk with
        | zero =>
          have hkz : ¬ ((k : Int) < (cs.length : Int)) := by omega
          go_wp2
          go_ret
          exact ⟨rfl, B3⟩
        | succ g =>
          have hk : k < cs.length := by omega
          have hkz : (k : Int) < (cs.length : Int) := by omega
          obtain ⟨b, off, rfl, hbb, hc⟩ := HCS.out (by intro h; rw [h] at hk; simp at hk)
          obtain ⟨c0, c1, c2⟩ := hc k hk
          have h0 : 0 ≤ cs[k].1 := HA.out cs[k] (List.getElem_mem hk)
          clear hc c1 c2
          generalize cs[k].1 = r at *
          have hr : ¬ (r < 0) := by omega
          go_wp2
          go_roundg g
          case measure => omega
          case rel => exact ⟨k + 1, by omega, by go_num, rfl⟩
    · rw [show first l = (k : Int) from by rw [first, h1]; simp]
      obtain ⟨b, off, rfl, _, _⟩ := HS.out.2 (by intro h; rw [h] at hk; simp at hk)
      have hkz : (k : Int) < (l.length : Int) := by omega
      have hkc : ¬ (c = k) := by omega
      have hk0 : ¬ ((k : Int) < 0) := by omega
      have hne : l.drop k ≠ [] := by intro h; have := congrArg List.length h; simp at this; omega
      have hok := (dec_ok (HS.out.1.drop k) hne).1
      have hft : first (l.take k) = -1 := by rw [h4]; exact first_wr xs
      have hlt : (l.take k).length = k := by rw [List.length_take]; omega
      have HFT := Lib.hid hft
      have HLT := Lib.hid hlt
      have H3 := Lib.hid h3
      have hdc := decode_at (c := c - k) (k := k) (HS.out.step B2) (by omega)
      have HDC := Lib.hid hdc
      have HOK := Lib.hid hok
      clear h1 h3 h4 hne hft hlt hdc hok
      go_wp2_with fail
      refine HDC.out.mono ?_
      rintro e w3 ⟨rfl, b3⟩
      unfold decV
      rw [H3.out]
      have hn : (0 : Int) < ((dec (l.drop k)).2 : Int) := by have := HOK.out; omega
      have B3 := B2.trans (b3.mono B2.size)
      clear b3 B2 HDC HOK
      generalize (dec (l.drop k)).2 = n at *
      have hn2 : 0 < n := by omega
      have hfc := first_c (c := c) ((HS.out.step B3).take k) (by rw [HLT.out]; omega) (by rw [HLT.out]; omega)
      rw [HLT.out, HFT.out] at hfc
      have HFC := Lib.hid hfc
      clear hfc
      go_wp2_with fail
      refine HFC.out.mono ?_
      rintro e w4 ⟨rfl, b4⟩
      have B4 := B3.trans (b4.mono B3.size)
      go_wp2
      go_ret
      exact ⟨rfl, B4⟩
end Go.Proofs.Ytofmkhkpgpkboaa
