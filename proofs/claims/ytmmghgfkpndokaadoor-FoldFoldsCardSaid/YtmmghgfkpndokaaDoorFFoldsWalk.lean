/- FoldFolds' walk: Fold and Orbit of any number are the document's own. -/
import Derived.Test.YtmmghgfkpndokaaDoorFKnown
import Derived.Test.YtmmghgfkpndokaaDoorFRefO
import Derived.Test.YtmmghgfkpndokaaDoorFSame
import Derived.Test.YtmmghgfkpndokaaDoorFNear
namespace Go.Proofs.YtmmghgfkpndokaaDoor
open Go.RowKit Go.Shelf SetM

set_option maxRecDepth 100000 in
set_option maxHeartbeats 4000000 in
theorem foldFolds_any (r c : Int) (h0 : 0 ≤ c) (h1 : c ≤ 65535) (w : World) (hC : Cf w w) :
    Calls Tryd.prog 5 #[.int .i64 r, .int .u16 c] w fun e w' => e = .returned (.bool true) ∧ Below w.heap.size w w' := by
  have HC := Lib.hid hC
  have HNE := Lib.hid (near_any c h0 h1)
  clear hC
  generalize nearF c = x at *
  go_enter Tryd.func5, Tryd.ntmps5
  go_wp2_with fail
  refine (known_c HC.out).mono ?_
  rintro e w1 ⟨rfl, b1⟩
  have HC1 := Lib.hid (HC.out.step b1)
  go_wp2_with fail
  refine (fold_c r HC1.out).mono ?_
  rintro e w2 ⟨rfl, b2'⟩
  have HC2 := Lib.hid (HC1.out.step b2')
  have b2 := b1.trans (b2'.mono b1.size)
  clear b2' b1 HC1
  go_wp2_with fail
  refine (rfold_c r _).mono ?_
  rintro e w2' ⟨rfl, rfl⟩
  have he : (foldF r == foldF r) = true := beq_self_eq_true _
  go_wp2_with fail
  refine (HNE.out _).mono ?_
  rintro e w2' ⟨rfl, rfl⟩
  go_wp2_with fail
  refine (fold_c x HC2.out).mono ?_
  rintro e w3 ⟨rfl, b3'⟩
  have HC3 := Lib.hid (HC2.out.step b3')
  have b3 := b2.trans (b3'.mono b2.size)
  clear b3' b2 HC2
  go_wp2_with fail
  refine (HNE.out _).mono ?_
  rintro e w3' ⟨rfl, rfl⟩
  go_wp2_with fail
  refine (rfold_c x _).mono ?_
  rintro e w3' ⟨rfl, rfl⟩
  have he' : (foldF x == foldF x) = true := beq_self_eq_true _
  go_wp2_with fail
  refine (orbit_c r HC3.out).mono ?_
  rintro e w4 ⟨P4, c4, o4, rfl, io4, hl4, s4, b4'⟩
  have HC4 := Lib.hid (HC3.out.step b4')
  have b4 := b3.trans (b4'.mono b3.size)
  have HIO4 := Lib.hid io4
  have HS4 := Lib.hid s4
  clear b4' b3 HC3 io4 s4
  go_wp2_with fail
  refine (rorbit_c r _).mono ?_
  rintro e w5 ⟨P5, c5, o5, rfl, io5, s5, b5'⟩
  obtain rfl : o4 = o5 := HIO4.out.eq io5 (fun _ => Iff.rfl)
  have HC5 := Lib.hid (HC4.out.step b5')
  have HS45 := Lib.hid (HS4.out.step b5')
  have HS5 := Lib.hid s5
  have b5 := b4.trans (b5'.mono b4.size)
  clear b5' b4 HC4 io5 s5 HS4 HIO4
  go_wp2_with fail
  refine (samel_c HS45.out HS5.out (by omega)).mono ?_
  rintro e w6 ⟨rfl, b6'⟩
  have HC6 := Lib.hid (HC5.out.step b6')
  have b6 := b5.trans (b6'.mono b5.size)
  clear b6' b5 HC5 HS45 HS5 hl4
  go_wp2_with fail
  refine (HNE.out _).mono ?_
  rintro e w6' ⟨rfl, rfl⟩
  go_wp2_with fail
  refine (orbit_c x HC6.out).mono ?_
  rintro e w7 ⟨P7, c7, o7, rfl, io7, hl7, s7, b7'⟩
  have b7 := b6.trans (b7'.mono b6.size)
  have HIO7 := Lib.hid io7
  have HS7 := Lib.hid s7
  clear b7' b6 HC6 io7 s7
  go_wp2_with fail
  refine (HNE.out _).mono ?_
  rintro e w7' ⟨rfl, rfl⟩
  go_wp2_with fail
  refine (rorbit_c x _).mono ?_
  rintro e w8 ⟨P8, c8, o8, rfl, io8, s8, b8'⟩
  obtain rfl : o7 = o8 := HIO7.out.eq io8 (fun _ => Iff.rfl)
  have HS78 := Lib.hid (HS7.out.step b8')
  have HS8 := Lib.hid s8
  have b8 := b7.trans (b8'.mono b7.size)
  clear b8' b7 io8 s8 HS7 HIO7
  go_wp2_with fail
  refine (samel_c HS78.out HS8.out (by omega)).mono ?_
  rintro e w9 ⟨rfl, b9'⟩
  have b9 := b8.trans (b9'.mono b8.size)
  clear b9' b8
  go_wp2
  go_ret
  exact ⟨rfl, b9⟩
end Go.Proofs.YtmmghgfkpndokaaDoor
