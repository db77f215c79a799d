/- SetSizes: the walk. -/
import Derived.Test.YtnhkbafjjngomaaDoorSteps
import Derived.Test.YtnhkbafjjngomaaDoorCount
namespace Go.Proofs.YtnhkbafjjngomaaDoor
open Go.RowKit Go.Shelf SetM

set_option maxRecDepth 100000 in
set_option maxHeartbeats 4000000 in
theorem setSizes_any (A B : Option Addr) (ca cb : Nat) (cs ds : List Int) (w : World) (hU : U16s w.heap.size w A cs) (hV : U16s w.heap.size w B ds) (hC : Ctx w w) :
    Calls Tryd.prog 9 #[.slice A cs.length ca, .slice B ds.length cb] w fun e w' => e = .returned (.bool true) ∧ Below w.heap.size w w' := by
  go_enter Tryd.func9, Tryd.ntmps9
  go_wp2_with fail
  refine (make_c hU hC).mono ?_
  rintro e W1 ⟨PA, cA, rfl, SA, ZA, b1⟩
  have hC1 := hC.step b1
  clear b1
  go_wp2_with fail
  refine (make_c hV hC1).mono ?_
  rintro e W2 ⟨PB, cB, rfl, SB, ZB, b2⟩
  have hC2 := hC1.step b2
  replace SA := SA.step b2
  clear b2
  have lA := makeF_len cs
  have lB := makeF_len ds
  generalize hla : makeF cs = la at *
  generalize hlb : makeF ds = lb at *
  clear hla hlb
  go_wp2_with fail
  refine (known_c hC2).mono ?_
  rintro e W3 ⟨rfl, b3⟩
  have hC3 := hC2.step b3
  replace SA := SA.step b3
  replace SB := SB.step b3
  clear b3
  go_wp2_with fail
  refine (union_c hC3 SA SB ZA ZB (by omega) (by omega)).mono ?_
  rintro e W4 ⟨PU, cU, oU, rfl, IU, LU, SU, ZU, b4⟩
  have hC4 := hC3.step b4
  replace SA := SA.step b4
  replace SB := SB.step b4
  clear b4
  go_wp2_with fail
  refine (size_c hC4 SU (by omega)).mono ?_
  rintro e W5 ⟨q1, N1, M1, rfl, b5⟩
  have I1 : IsSet q1 _ := ⟨N1, M1⟩
  obtain ⟨z10, z11⟩ : 0 ≤ sizeL q1 ∧ sizeL q1 ≤ 1114112 := size_range N1 (fun r h => ((M1 r).1 h).1)
  have hC5 := hC4.step b5
  replace SA := SA.step b5
  replace SB := SB.step b5
  replace SU := SU.step b5
  clear b5 N1 M1
  generalize hn1 : sizeL q1 = n1 at z10 z11 ⊢
  have HN1 := Lib.hid hn1
  clear hn1
  go_wp2_with fail
  refine (inter_c hC5 SA SB (by omega) (by omega)).mono ?_
  rintro e W6 ⟨PI, cI, oI, rfl, II, LI, SI, ZI, b6⟩
  have hC6 := hC5.step b6
  replace SA := SA.step b6
  replace SB := SB.step b6
  replace SU := SU.step b6
  clear b6
  go_wp2_with fail
  refine (size_c hC6 SI (by omega)).mono ?_
  rintro e W7 ⟨q2, N2, M2, rfl, b7⟩
  have I2 : IsSet q2 _ := ⟨N2, M2⟩
  obtain ⟨z20, z21⟩ : 0 ≤ sizeL q2 ∧ sizeL q2 ≤ 1114112 := size_range N2 (fun r h => ((M2 r).1 h).1)
  have hC7 := hC6.step b7
  replace SA := SA.step b7
  replace SB := SB.step b7
  replace SU := SU.step b7
  replace SI := SI.step b7
  clear b7 N2 M2
  generalize hn2 : sizeL q2 = n2 at z20 z21 ⊢
  have HN2 := Lib.hid hn2
  clear hn2
  go_wp2_with fail
  refine (size_c hC7 SA (by omega)).mono ?_
  rintro e W8 ⟨q3, N3, M3, rfl, b8⟩
  have I3 : IsSet q3 _ := ⟨N3, M3⟩
  obtain ⟨z30, z31⟩ : 0 ≤ sizeL q3 ∧ sizeL q3 ≤ 1114112 := size_range N3 (fun r h => ((M3 r).1 h).1)
  have hC8 := hC7.step b8
  replace SA := SA.step b8
  replace SB := SB.step b8
  replace SU := SU.step b8
  replace SI := SI.step b8
  clear b8 N3 M3
  generalize hn3 : sizeL q3 = n3 at z30 z31 ⊢
  have HN3 := Lib.hid hn3
  clear hn3
  go_wp2_with fail
  refine (size_c hC8 SB (by omega)).mono ?_
  rintro e W9 ⟨q4, N4, M4, rfl, b9⟩
  have I4 : IsSet q4 _ := ⟨N4, M4⟩
  obtain ⟨z40, z41⟩ : 0 ≤ sizeL q4 ∧ sizeL q4 ≤ 1114112 := size_range N4 (fun r h => ((M4 r).1 h).1)
  have hC9 := hC8.step b9
  replace SA := SA.step b9
  replace SB := SB.step b9
  replace SU := SU.step b9
  replace SI := SI.step b9
  clear b9 N4 M4
  generalize hn4 : sizeL q4 = n4 at z40 z41 ⊢
  have HN4 := Lib.hid hn4
  clear hn4
  have tU := IU.tells (fun r h => h.elim (fun h => h.1) (fun h => h.1))
  have tI := II.tells (fun r h => h.1.1)
  have e1 : n1 + n2 = n3 + n4 := by
    rw [← HN1.out, ← HN2.out, ← HN3.out, ← HN4.out]
    exact sizes_both I3.1 I4.1 I1.1 I2.1 (fun r h => ((I3.2 r).1 h).1) (fun r h => ((I4.2 r).1 h).1) (fun r => by rw [I1.2, tU, I3.2, I4.2]) (fun r => by rw [I2.2, tI, I3.2, I4.2])
  have t1 : (n1 + n2 == n3 + n4) = true := by rw [beq_iff_eq]; exact e1
  clear tU tI I1 I2 I3 I4 IU II e1
  go_wp2_with fail
  refine (size_c hC9 SA (by omega)).mono ?_
  rintro e W10 ⟨q5, N5, M5, rfl, b10⟩
  have I5 : IsSet q5 _ := ⟨N5, M5⟩
  obtain ⟨z50, z51⟩ : 0 ≤ sizeL q5 ∧ sizeL q5 ≤ 1114112 := size_range N5 (fun r h => ((M5 r).1 h).1)
  have hC10 := hC9.step b10
  replace SA := SA.step b10
  replace SB := SB.step b10
  replace SU := SU.step b10
  replace SI := SI.step b10
  clear b10 N5 M5
  generalize hn5 : sizeL q5 = n5 at z50 z51 ⊢
  have HN5 := Lib.hid hn5
  clear hn5
  go_wp2_with fail
  refine (not_c hC10 SA (by omega)).mono ?_
  rintro e W11 ⟨PN, cN, oN, rfl, IN, LN, SN, ZN, b11⟩
  have hC11 := hC10.step b11
  replace SA := SA.step b11
  replace SB := SB.step b11
  replace SU := SU.step b11
  replace SI := SI.step b11
  clear b11
  go_wp2_with fail
  refine (size_c hC11 SN (by omega)).mono ?_
  rintro e W12 ⟨q6, N6, M6, rfl, b12⟩
  have I6 : IsSet q6 _ := ⟨N6, M6⟩
  obtain ⟨z60, z61⟩ : 0 ≤ sizeL q6 ∧ sizeL q6 ≤ 1114112 := size_range N6 (fun r h => ((M6 r).1 h).1)
  have hC12 := hC11.step b12
  replace SA := SA.step b12
  replace SB := SB.step b12
  replace SU := SU.step b12
  replace SI := SI.step b12
  replace SN := SN.step b12
  clear b12 N6 M6
  generalize hn6 : sizeL q6 = n6 at z60 z61 ⊢
  have HN6 := Lib.hid hn6
  clear hn6
  have tN := IN.tells (fun r h => h.1)
  have e2 : n5 + n6 = 1112064 := by
    rw [← HN5.out, ← HN6.out]
    exact sizes_not I5.1 I6.1 (fun r h => ((I5.2 r).1 h).1) (fun r => by rw [I6.2, tN, I5.2])
  have t2 : (n5 + n6 == 1112064) = true := by rw [beq_iff_eq]; exact e2
  clear tN I5 I6 IN e2
  go_wp2
  go_ret
  exact ⟨rfl, hC12.below⟩
end Go.Proofs.YtnhkbafjjngomaaDoor
