/- The law's 'known': the chapter's examples; a slice of bytes as a string. -/
import Derived.Test.YtofmkhkpgpkboaaChars
import Derived.Laws.BytesArg
import Derived.Lib.SlBytesConst
namespace Go.Proofs.Ytofmkhkpgpkboaa
open Go.RowKit Go.Shelf UtfM

/-- A slice of bytes, made a string. -/
theorem conv_c {W : World} {P : Option Addr} {c : Nat} {l : List Int} (hs : By W P l) (hP : l = [] → P = none) : (convert 23 9 (.slice P l.length c)).run Try.prog W = .ok (.string (strOfNums l)) W := by
  by_cases h : l = []
  · subst h
    rw [hP rfl]
    exact run_convert_bytes_nil W 23 5 Try.underlying23 Try.underlying5 _ _ 9 Try.underlying9
  · obtain ⟨b, off, rfl, _, hc⟩ := hs.2 h
    exact run_convert_bytes_arg W 23 5 Try.underlying23 Try.underlying5 b off l.length c l rfl (fun i hi => by rw [hc i hi]; simp [List.getD, hi]) 9 Try.underlying9
theorem byte_inj {a b : Int} (ha : 0 ≤ a ∧ a ≤ 255) (hb : 0 ≤ b ∧ b ≤ 255) (h : UInt8.ofNat a.toNat = UInt8.ofNat b.toNat) : a = b := by
  have := congrArg UInt8.toNat h
  simp only [UInt8.toNat_ofNat'] at this
  rw [Nat.mod_eq_of_lt (by omega), Nat.mod_eq_of_lt (by omega)] at this
  omega
theorem nums_inj : ∀ {l m : List Int}, IsBytes l → IsBytes m → (l.map fun n => UInt8.ofNat n.toNat) = (m.map fun n => UInt8.ofNat n.toNat) → l = m
  | [], [], _, _, _ => rfl
  | [], _ :: _, _, _, h => by simp at h
  | _ :: _, [], _, _, h => by simp at h
  | a :: s, b :: t, hl, hm, h => by
    simp only [List.map_cons, List.cons.injEq] at h
    rw [byte_inj (hl a (by simp)) (hm b (by simp)) h.1, nums_inj (fun c hc => hl c (by simp [hc])) (fun c hc => hm c (by simp [hc])) h.2]
/-- A new block of bytes, with a mark. -/
theorem by_mark (w : World) (t : TypeId) (fr : Nat × Nat) (l : List Int) (hl : IsBytes l) : By (w.alloc (.cells (l.map (Value.int .u8)).toArray t fr)) (some ⟨w.heap.size, 0, none⟩) l :=
  ⟨hl, fun _ => ⟨w.heap.size, 0, rfl, by rw [World.size_alloc]; omega, fun j hj => by
    rw [cell_of_row _ w.heap.size _ _ _ _ (heap_alloc_new w _)]
    simp [hj]⟩⟩
theorem dec_k1 : decV [226, 130, 65] = .tuple #[.int .i64 (-1), .int .i64 2] := by rfl
theorem isB {l : List Int} (h : l.all (fun c => decide (0 ≤ c ∧ c ≤ 255)) = true) : IsBytes l := fun c hc => by simpa using List.all_eq_true.1 h c hc
theorem chars_k2 : (chars 0 [237, 160, 128]).length = 3 := by
  rw [chars_step (isB rfl) (by simp), show dec [237, 160, 128] = (-1, 1) from rfl]
  simp only [List.drop_succ_cons, List.drop_zero]
  rw [chars_step (isB rfl) (by simp), show dec [160, 128] = (-1, 1) from rfl]
  simp only [List.drop_succ_cons, List.drop_zero]
  rw [chars_step (isB rfl) (by simp), show dec [128] = (-1, 1) from rfl]
  simp only [List.drop_succ_cons, List.drop_zero]
  rw [chars_nil]; rfl
theorem first_k3 : first [65, 192] = 1 := by
  unfold first
  rw [chars_step (isB rfl) (by simp), show dec [65, 192] = (65, 1) from rfl]
  simp only [List.drop_succ_cons, List.drop_zero]
  rw [firstOf_good (by simp), chars_step (isB rfl) (by simp), show dec [192] = (-1, 1) from rfl, firstOf_bad (by simp)]
  rfl
theorem first_k4 : first [97] = -1 := by
  unfold first
  rw [chars_step (isB rfl) (by simp), show dec [97] = (97, 1) from rfl]
  simp only [List.drop_succ_cons, List.drop_zero]
  rw [firstOf_good (by simp), chars_nil]
  rfl
theorem enc_k5 : enc 8364 = [226, 130, 172] := by decide

set_option maxRecDepth 100000 in
set_option maxHeartbeats 2000000 in
theorem known_c (w : World) : Calls Try.prog 11 #[] w fun e w' => e = .returned (.bool true) ∧ Below w.heap.size w w' := by
  go_enter Try.func11, Try.ntmps11
  go_wp2_with fail
  refine (decode_c (l := [226, 130, 65]) (by_new w 5 [226, 130, 65] (isB rfl))).mono ?_
  rintro e w1 ⟨rfl, b1⟩
  rw [dec_k1]
  have B1 := ((Below.refl w.heap.size w).alloc (Nat.le_refl _) _).trans (b1.mono (by rw [World.size_alloc]; omega))
  clear b1
  go_wp2_with fail
  refine (chars_c (l := [237, 160, 128]) (by_new w1 5 [237, 160, 128] (isB rfl)) (by simp) (by simp)).mono ?_
  rintro e w2 ⟨P2, c2, rfl, _, b2⟩
  rw [chars_k2]
  have B2 := (B1.alloc B1.size _).trans (b2.mono (by have := B1.size; rw [World.size_alloc]; omega))
  clear b2 B1
  go_wp2_with fail
  refine (first_c (l := [65, 192]) (by_new w2 5 [65, 192] (isB rfl)) (by simp) (by simp)).mono ?_
  rintro e w3 ⟨rfl, b3⟩
  rw [first_k3]
  have B3 := (B2.alloc B2.size _).trans (b3.mono (by have := B2.size; rw [World.size_alloc]; omega))
  clear b3 B2
  have hcv := Lib.run_convert_bytes_const (P := Try.prog) w3 23 5 #[.int .u8 97] 1 1 Try.underlying23 Try.underlying5
  go_wp2_with fail
  refine (first_c (l := [97]) (by_mark w3 5 _ [97] (isB rfl)) (by simp) (by simp)).mono ?_
  rintro e w4 ⟨rfl, b4⟩
  rw [first_k4]
  have B4 := (B3.alloc B3.size _).trans (b4.mono (by have := B3.size; rw [World.size_alloc]; omega))
  clear b4 B3 hcv
  go_wp2_with fail
  refine (enc_c 8364 w4).mono ?_
  rintro e w5 ⟨P5, c5, rfl, h5, _, _, _, hp5, b5⟩
  have B5 := B4.trans (b5.mono B4.size)
  have hcv : (convert 23 9 (.slice P5 3 c5)).run Try.prog w5 = .ok (.string { data := #[226, 130, 172] }) w5 := by
    have := conv_c (c := c5) h5 hp5
    rw [enc_k5] at this
    exact this
  rw [enc_k5]
  clear b5 B4 h5 hp5
  go_wp2
  go_ret
  exact ⟨rfl, B5⟩
end Go.Proofs.Ytofmkhkpgpkboaa
