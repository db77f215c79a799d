/- SeqsOf: the walk. -/
import Derived.Test.YtgaalkcociifmaaDoorSCountsWalk
import Derived.Test.YtgaalkcociifmaaDoorSRefOf
import Derived.Test.YtgaalkcociifmaaDoorSRefSame
namespace Go.Proofs.YtgaalkcociifmaaDoor
open Go.RowKit Go.Shelf SeqM
open U.UtfM (enc)

theorem rows_short4 (l : List SetM.Sp) : ∀ r ∈ rowsOf (nrm l), r.length ≤ 4 := fun r hr => (rows_short (nrm_scal l) r hr).1

set_option maxRecDepth 100000 in
set_option maxHeartbeats 4000000 in
theorem seqsOf_any (A B : Option Addr) (ca cb : Nat) (cs : List Int) (l : List SetM.Sp) (w : World) (hU : U16s w.heap.size w A cs) (SL : Sl w B l) (hwl : Wide l) (hll : l.length ≤ 9223372036854775807) (hC : Ctl w w) :
    Calls Tryd.prog 5 #[.slice B l.length cb, .slice A cs.length ca] w fun e w' => e = .returned (.bool true) ∧ Below w.heap.size w w' := by
  by_cases h30 : 30 < l.length
  · have HH := Lib.hid (heavy3_yes B cb l h30 w)
    clear h30
    go_enter Tryd.func5, Tryd.ntmps5
    go_wp2_with fail
    refine HH.out.mono ?_
    rintro e W1 ⟨rfl, rfl⟩
    go_wp2_with fail
    refine (known3_c hC).mono ?_
    rintro e W2 ⟨rfl, b2⟩
    go_wp2
    go_ret
    exact ⟨rfl, (hC.step b2).below⟩
  have HH := Lib.hid (heavy3_no B cb l h30 w)
  by_cases h60 : 60 < cs.length
  · have hz : (60 : Int) < (cs.length : Int) := by omega
    clear h30
    go_enter Tryd.func5, Tryd.ntmps5
    go_wp2_with fail
    refine HH.out.mono ?_
    rintro e W1 ⟨rfl, rfl⟩
    go_wp2_with fail
    refine (known3_c hC).mono ?_
    rintro e W2 ⟨rfl, b2⟩
    go_wp2
    go_ret
    exact ⟨rfl, (hC.step b2).below⟩
  have hz : ¬ ((60 : Int) < (cs.length : Int)) := by omega
  have HWL := Lib.hid hwl
  have HWC := Lib.hid (wide_make (cs := cs) (fun c h => (hU.1 c h).1))
  clear hwl
  go_enter Tryd.func5, Tryd.ntmps5
  go_wp2_with fail
  refine HH.out.mono ?_
  rintro e W1 ⟨rfl, rfl⟩
  go_wp2_with fail
  refine (known3_c hC).mono ?_
  rintro e W2 ⟨rfl, b2⟩
  have hC2 := hC.step b2
  replace SL := SL.step b2
  clear b2
  go_wp2_with fail
  refine (make_c hU hC2.ctx).mono ?_
  rintro e W3 ⟨PA, cA, rfl, SA, ZA, b3⟩
  have hC3 := hC2.step b3
  replace SL := SL.step b3
  clear b3
  have lA := makeF_len cs
  go_wp2_with fail
  refine (of_c hC3 SL (by omega)).mono ?_
  rintro e W4 ⟨P4, c4, rfl, R4, b4⟩
  have hC4 := hC3.step b4
  replace SA := SA.step b4
  replace SL := SL.step b4
  clear b4
  go_wp2_with fail
  refine (rof_c SL (by omega) HWL.out).mono ?_
  rintro e W5 ⟨P5, c5, rfl, R5, b5⟩
  have hC5 := hC4.step b5
  replace SA := SA.step b5
  replace R4 := R4.step b5
  clear b5 SL
  have HS1 := Lib.hid (rsame_c P4 P5 c4 c5 (rowsOf (nrm l)) (rows_len l (by omega)) (rows_short4 l) W5 R4 R5)
  clear R4 R5
  go_wp2_with fail
  refine HS1.out.mono ?_
  rintro e W6 ⟨rfl, b6⟩
  have hC6 := hC5.step b6
  replace SA := SA.step b6
  clear b6 HS1
  go_wp2_with fail
  refine (of_c hC6 SA (by omega)).mono ?_
  rintro e W7 ⟨P7, c7, rfl, R7, b7⟩
  have hC7 := hC6.step b7
  replace SA := SA.step b7
  clear b7
  go_wp2_with fail
  refine (rof_c SA (by omega) HWC.out).mono ?_
  rintro e W8 ⟨P8, c8, rfl, R8, b8⟩
  have hC8 := hC7.step b8
  replace R7 := R7.step b8
  clear b8 SA
  have HS2 := Lib.hid (rsame_c P7 P8 c7 c8 (rowsOf (nrm (makeF cs))) (rows_len (makeF cs) (by omega)) (rows_short4 (makeF cs)) W8 R7 R8)
  clear R7 R8
  go_wp2_with fail
  refine HS2.out.mono ?_
  rintro e W9 ⟨rfl, b9⟩
  have hC9 := hC8.step b9
  clear b9 HS2
  go_wp2
  go_ret
  exact ⟨rfl, hC9.below⟩
end Go.Proofs.YtgaalkcociifmaaDoor
