/- UtfParts: the walk. -/
import Derived.Test.YtofmkhkpgpkboaaKnown
namespace Go.Proofs.Ytofmkhkpgpkboaa
open Go.RowKit Go.Shelf UtfM

theorem chars_cut {r : Int} (n : Nat) (hn : 1 ≤ n) (hn2 : n < (enc r).length) : (chars 0 ((enc r).take n)).length = 1 := by
  have hne : (enc r).take n ≠ [] := by intro h; have := congrArg List.length h; rw [List.length_take, List.length_nil] at this; omega
  rw [chars_step ((enc_bytes r).take n) hne, dec_cut n hn hn2]
  dsimp only
  rw [List.drop_eq_nil_of_le (by rw [List.length_take]; omega), chars_nil]
  rfl

set_option maxRecDepth 100000 in
set_option maxHeartbeats 2000000 in
theorem utfParts_any (a k : Int) (ha : 0 ≤ a) (hk : 0 ≤ k) (hk2 : k ≤ 255) (w : World) : Calls Try.prog 8 #[.int .u32 a, .int .u8 k] w fun e w' => e = .returned (.bool true) ∧ Below w.heap.size w w' := by
  have hx0 : 0 ≤ a % 1114112 := by omega
  have hx1 : a % 1114112 ≤ 1114111 := by omega
  go_enter Try.func8, Try.ntmps8
  go_wp2_with fail
  generalize a % 1114112 = x at *
  refine (enc_c x _).mono ?_
  rintro e w1 ⟨P1, c1, rfl, h1, hlc, _, _, p1, b1⟩
  by_cases hL : (enc x).length < 2
  · have z1 : ((enc x).length : Int) < 2 := by omega
    clear h1 p1
    go_wp2_with fail
    refine (known_c _).mono ?_
    rintro e w3 ⟨rfl, b3⟩
    go_wp2
    go_ret
    exact ⟨rfl, b1.trans (b3.mono b1.size)⟩
  · have z1 : ¬ (((enc x).length : Int) < 2) := by omega
    obtain ⟨b, off, rfl, _, _⟩ := h1.2 (by intro h; rw [h] at hL; simp at hL)
    have h4 := enc_len_le x
    obtain ⟨m, hm0, hm1, hm⟩ : ∃ m : Nat, 1 ≤ m ∧ m < (enc x).length ∧ (m : Int) = 1 + k % ((enc x).length - 1 : Int) := by
      have h1 := Int.emod_nonneg k (b := ((enc x).length - 1 : Int)) (by omega)
      have h2 := Int.emod_lt_of_pos k (b := ((enc x).length - 1 : Int)) (by omega)
      exact ⟨(1 + k % ((enc x).length - 1 : Int)).toNat, by omega, by omega, by omega⟩
    have hmod1 := Int.emod_nonneg k (b := ((enc x).length - 1 : Int)) (by omega)
    have hmod2 := Int.emod_lt_of_pos k (b := ((enc x).length - 1 : Int)) (by omega)
    have HM := Lib.hid hm
    have hdec := dec_cut m hm0 hm1
    have hchl := chars_cut m hm0 hm1
    have HD := Lib.hid hdec
    have HCH := Lib.hid hchl
    have HT := Lib.hid (h1.take m)
    have hlt : ((enc x).take m).length = m := by rw [List.length_take]; omega
    have HL := Lib.hid hlt
    clear hm hdec hchl hlt p1 h1
    go_wp2_with fail
    rw [← HM.out, Int.toNat_natCast]
    have hdc := decode_c (c := c1) HT.out
    rw [HL.out] at hdc
    refine hdc.mono ?_
    rintro e w2 ⟨rfl, b2⟩
    unfold decV
    rw [HD.out]
    have HT2 := Lib.hid (HT.out.step b2)
    have B2 := b1.trans (b2.mono b1.size)
    clear hdc b2 b1 HT hmod1 hmod2 HD
    have hmz : ((m : Int) == (m : Int)) = true := by simp
    have hml : (m : Int) ≤ (c1 : Int) := by omega
    go_wp2_with fail
    refine (known_c _).mono ?_
    rintro e w3 ⟨rfl, b3⟩
    have hch := chars_c (c := c1) (HT2.out.step b3) (by rw [HL.out]; omega) (by rw [HL.out]; omega)
    rw [HL.out] at hch
    have HC := Lib.hid hch
    have B3 := B2.trans (b3.mono B2.size)
    clear b3 B2 HT2 hch
    go_wp2_with fail
    refine HC.out.mono ?_
    rintro e w4 ⟨P4, c4, rfl, _, b4⟩
    rw [HCH.out]
    have B4 := B3.trans (b4.mono B3.size)
    clear b4 B3
    go_wp2
    go_ret
    exact ⟨rfl, B4⟩
end Go.Proofs.Ytofmkhkpgpkboaa
