/- UtfOrder: the walk. -/
import Derived.Test.YtofmkhkpgpkboaaKnown
import Derived.Test.YtofmkhkpgpkboaaOrder
namespace Go.Proofs.Ytofmkhkpgpkboaa
open Go.RowKit Go.Shelf UtfM

theorem less_nums : ∀ {l m : List Int}, IsBytes l → IsBytes m → Op.bytesLess (l.map fun n => UInt8.ofNat n.toNat) (m.map fun n => UInt8.ofNat n.toNat) = lexLt l m
  | [], [], _, _ => rfl
  | [], _ :: _, _, _ => rfl
  | _ :: _, [], _, _ => rfl
  | a :: s, b :: t, hl, hm => by
    have ha := hl a (by simp)
    have hb := hm b (by simp)
    have ih := less_nums (l := s) (m := t) (fun c hc => hl c (by simp [hc])) (fun c hc => hm c (by simp [hc]))
    simp only [List.map_cons, Op.bytesLess, lexLt, ih]
    have e1 : decide (UInt8.ofNat a.toNat < UInt8.ofNat b.toNat) = decide (a < b) := by
      rw [decide_eq_decide, UInt8.lt_iff_toNat_lt]
      simp only [UInt8.toNat_ofNat']
      rw [Nat.mod_eq_of_lt (by omega), Nat.mod_eq_of_lt (by omega)]; omega
    have e2 : (UInt8.ofNat a.toNat == UInt8.ofNat b.toNat) = (a == b) := by
      rw [Bool.eq_iff_iff, beq_iff_eq, beq_iff_eq]
      exact ⟨byte_inj ha hb, fun h => by rw [h]⟩
    rw [e1, e2]
theorem less_strs {l m : List Int} (hl : IsBytes l) (hm : IsBytes m) : Op.bytesLess (strOfNums l).toList (strOfNums m).toList = lexLt l m := by
  rw [← less_nums hl hm, ByteArray.toList_eq, ByteArray.toList_eq]; rfl

set_option maxRecDepth 100000 in
set_option maxHeartbeats 2000000 in
theorem utfOrder_any (a b : Int) (ha : 0 ≤ a) (hb : 0 ≤ b) (w : World) : Calls Try.prog 10 #[.int .u32 a, .int .u32 b] w fun e w' => e = .returned (.bool true) ∧ Below w.heap.size w w' := by
  have hx0 : 0 ≤ a % 1114112 := by omega
  have hx1 : a % 1114112 ≤ 1114111 := by omega
  have hy0 : 0 ≤ b % 1114112 := by omega
  have hy1 : b % 1114112 ≤ 1114111 := by omega
  go_enter Try.func10, Try.ntmps10
  go_wp2_with fail
  generalize a % 1114112 = x at *
  generalize b % 1114112 = y at *
  refine (enc_c x _).mono ?_
  rintro e w1 ⟨P1, c1, rfl, h1, _, _, _, p1, b1⟩
  go_wp2_with fail
  refine (enc_c y _).mono ?_
  rintro e w2 ⟨P2, c2, rfl, h2, _, _, _, p2, b2⟩
  have h1' := h1.step b2
  have B2 := b1.trans (b2.mono b1.size)
  clear h1 b1 b2
  by_cases hX : Sc x
  · by_cases hY : Sc y
    · have q1 := enc_pos hX
      have q2 := enc_pos hY
      have z1 : (((enc x).length : Int) == 0) = false := by rw [beq_eq_false_iff_ne]; omega
      have z2 : (((enc y).length : Int) == 0) = false := by rw [beq_eq_false_iff_ne]; omega
      have z3 : ((enc x).length : Int) ≤ 4 := by have := enc_len_le x; omega
      have hord : Op.bytesLess (strOfNums (enc x)).toList (strOfNums (enc y)).toList = decide (x < y) := by rw [less_strs (enc_bytes x) (enc_bytes y), enc_order hX hY]
      go_wp2_with fail
      refine (known_c _).mono ?_
      rintro e w3 ⟨rfl, b3⟩
      have hc1 := conv_c (c := c1) (h1'.step b3) p1
      have hc2 := conv_c (c := c2) (h2.step b3) p2
      have B3 := B2.trans (b3.mono B2.size)
      clear b3 B2 h1' h2 p1 p2 hX hY
      generalize enc x = ex at *
      generalize enc y = ey at *
      go_wp2
      go_ret
      exact ⟨rfl, B3⟩
    · have q1 := enc_pos hX
      have z1 : (((enc x).length : Int) == 0) = false := by rw [beq_eq_false_iff_ne]; omega
      rw [enc0 hY] at h2 p2 ⊢
      clear h1' h2 p1 p2
      go_wp2_with fail
      refine (known_c _).mono ?_
      rintro e w3 ⟨rfl, b3⟩
      go_wp2
      go_ret
      exact ⟨rfl, B2.trans (b3.mono B2.size)⟩
  · rw [enc0 hX] at h1' p1 ⊢
    clear h1' h2 p1 p2
    go_wp2_with fail
    refine (known_c _).mono ?_
    rintro e w3 ⟨rfl, b3⟩
    go_wp2
    go_ret
    exact ⟨rfl, B2.trans (b3.mono B2.size)⟩
end Go.Proofs.Ytofmkhkpgpkboaa
