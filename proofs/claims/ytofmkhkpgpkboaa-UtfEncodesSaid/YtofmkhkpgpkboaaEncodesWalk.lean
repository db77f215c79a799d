/- UtfEncodes: the walk. -/
import Derived.Test.YtofmkhkpgpkboaaAppend
import Derived.Test.YtofmkhkpgpkboaaRenc
import Derived.Deep.RegionWith
import Derived.BigRegion
namespace Go.Proofs.Ytofmkhkpgpkboaa
open Go.RowKit Go.Shelf UtfM

set_option maxRecDepth 100000 in
set_option maxHeartbeats 4000000 in
theorem utfEncodes_any (w : World) (r a : Int) (B : Option Addr) (cb : Nat) (m : List Int) (ha : 0 ≤ a) (ht : By w B m) (hB0 : B = none → cb = 0) : Calls Try.prog 4 #[.int .i64 r, .int .u32 a, .slice B m.length cb] w fun e w' => e = .returned (.bool true) ∧ Below w.heap.size w w' := by
  by_cases hbig : 1000 < m.length
  · have hbz : (1000 : Int) < (m.length : Int) := by omega
    clear ht
    go_enter Try.func4, Try.ntmps4
    go_wp2_with fail
    refine (known_c _).mono ?_
    rintro e w1 ⟨rfl, b1⟩
    go_wp2
    go_ret
    exact ⟨rfl, b1⟩
  have hbz : ¬ ((1000 : Int) < (m.length : Int)) := by omega
  have HM := Lib.hid ht
  clear ht
  have hx0 : 0 ≤ a % 1114112 := by omega
  have hx1 : a % 1114112 ≤ 1114111 := by omega
  go_enter Try.func4, Try.ntmps4
  go_wp2_with fail
  refine (known_c _).mono ?_
  rintro e w1 ⟨rfl, b1⟩
  go_wp2_with fail
  generalize a % 1114112 = x at *
  refine (enc_c x _).mono ?_
  rintro e w2 ⟨P2, c2, rfl, h2, hc2, hc24, hz2, p2, b2⟩
  have hb2 := b1.trans (b2.mono b1.size)
  have hrf : Below w2.heap.size w2 w2.drew := below_drewN (Below.refl _ _) 1
  have hcv : ∀ U, Below w2.heap.size w2 U → (convert 23 9 (.slice P2 (enc x).length c2)).run Try.prog U = .ok (.string (strOfNums (enc x))) U := fun U hU => conv_c (h2.step hU) p2
  have HB2 := Lib.hid hb2
  have H2 := Lib.hid h2
  clear b1 b2 hb2 h2
  go_wp2
  go_region_with (first | (go_at_call 14; (with_reducible refine (renc_c x _).mono ?_); rintro e w3 ⟨P3, c3, rfl, h3, _, _, _, p3, b3⟩; have hcv3 := conv_c (c := c3) h3 p3; have hr3 : Below w2.heap.size w2 w3 := hrf.trans (b3.mono hrf.size); clear h3 p3 b3) | (go_at_call 12; (with_reducible refine (enc_c r _).mono ?_); rintro e w4 ⟨P4, c4, rfl, h4, _, _, _, p4, b4⟩; have hcv4 : ∀ U, Below w4.heap.size w4 U → (convert 23 9 (.slice P4 (enc r).length c4)).run Try.prog U = .ok (.string (strOfNums (enc r))) U := fun U hU => conv_c (h4.step hU) p4; have hr4 : Below w4.heap.size w4 w4 := Below.refl _ _; have hb4 : Below w2.heap.size w2 w4 := hr3.trans (b4.mono hr3.size); clear h4 p4 b4 hcv3) | (go_at_call 14; (with_reducible refine (renc_c r _).mono ?_); rintro e w5 ⟨P5, c5, rfl, h5, _, _, _, p5, b5⟩; have hcv5 := conv_c (c := c5) h5 p5; have hb5 : Below w2.heap.size w2 w5 := hb4.trans (b5.mono hb4.size); clear h5 p5))
  all_goals
    have hb5w := HB2.out.trans (hb5.mono HB2.out.size)
    have H25 := Lib.hid (H2.out.step hb5)
    have HM5 := Lib.hid (HM.out.step hb5w)
    have hle := enc_len_le x
    clear hcv5 hcv4 hr4 hb4 hr3 hb5 b5 hrf hcv p2
    by_cases hS : Sc x
    · have hpos := enc_pos hS
      have z1 : (((enc x).length : Int) == 0) = false := by rw [beq_eq_false_iff_ne]; omega
      have hde := dec_enc hS m
      have HDE := Lib.hid hde
      clear hde hS
      go_wp2_with (first | (at_builtin; refine wpList_append_bytes rfl (.tmp 40) (.tmp 41) rfl w5.heap.size _ _ _ rfl (World.ownsRow_nil _ _ _ _) P2 c2 (enc x) rfl H25.out hz2 (by omega) (Nat.le_refl _) ?_; intro v6 w6 ho6 hg6; have b6 : Below w5.heap.size w5 w6 := (Below.refl _ _).grown hg6 (Nat.le_refl _) (fun j hj => by cases hj); have HM6 := Lib.hid (HM5.out.step b6)) | (at_builtin; refine wpList_append_bytes rfl (.tmp 43) (.tmp 44) rfl w5.heap.size _ _ _ rfl ho6 B cb m rfl HM6.out hB0 (by omega) b6.size ?_; intro v7 w7 ho7 hg7; have b7 : Below w5.heap.size w5 w7 := b6.grown hg7 b6.size (fun j hj => (ho6.lt j hj).1); have hg7' := Lib.hid hg7; clear hg7) | fail)
      have hall : IsBytes (enc x ++ m) := (enc_bytes x).append HM.out.1
      have hrow : w7.ownsRow w5.heap.size 5 1 v7 (enc x ++ m).length ((enc x ++ m).map (Value.int .u8)) := by
        rw [List.length_append, List.map_append]; simpa using ho7
      obtain ⟨P8, c8, rfl, hby8, hc8, _⟩ := bytes_of hall hrow
      have hb7 := hb5w.trans (b7.mono hb5w.size)
      clear ho6 hg6 b6 HM6 ho7 hg7' b7 hall hrow hb5w
      refine (decode_c hby8).mono ?_
      rintro e w8 ⟨rfl, b8⟩
      unfold decV
      rw [HDE.out]
      have hb8 := hb7.trans (b8.mono hb7.size)
      have t1 : (x == x) = true := by simp
      clear hby8 b8 hb7
      generalize enc x = ex at *
      go_wp2
      go_ret
      exact ⟨rfl, hb8⟩
    · have hg1 : 55296 ≤ x := by unfold Sc at hS; omega
      have hg2 : x ≤ 57343 := by unfold Sc at hS; omega
      have e0 := enc0 hS
      rw [e0] at H25 ⊢
      clear hS e0 hle hc2
      go_wp2_with (first | (at_builtin; refine wpList_append_bytes rfl (.tmp 40) (.tmp 41) rfl w5.heap.size _ _ _ rfl (World.ownsRow_nil _ _ _ _) P2 c2 [] rfl H25.out hz2 (by simp) (Nat.le_refl _) ?_; intro v6 w6 ho6 hg6; have b6 : Below w5.heap.size w5 w6 := (Below.refl _ _).grown hg6 (Nat.le_refl _) (fun j hj => by cases hj); have HM6 := Lib.hid (HM5.out.step b6)) | (at_builtin; refine wpList_append_bytes rfl (.tmp 43) (.tmp 44) rfl w5.heap.size _ _ _ rfl ho6 B cb m rfl HM6.out hB0 (by simp; omega) b6.size ?_; intro v7 w7 ho7 hg7; have b7 : Below w5.heap.size w5 w7 := b6.grown hg7 b6.size (fun j hj => (ho6.lt j hj).1); have hg7' := Lib.hid hg7; clear hg7) | fail)
      go_ret
      exact ⟨rfl, hb5w.trans (b7.mono hb5w.size)⟩
end Go.Proofs.Ytofmkhkpgpkboaa
