/- SeqsRise: the walk. -/
import Derived.Test.YtgaalkcociifmaaDoorSRiseWalk
namespace Go.Proofs.YtgaalkcociifmaaDoor
open Go.RowKit Go.Shelf SeqM

set_option maxRecDepth 100000 in
set_option maxHeartbeats 4000000 in
theorem seqsRise_any (A B : Option Addr) (ca cb : Nat) (cs : List Int) (l : List SetM.Sp) (w : World) (hU : U16s w.heap.size w A cs) (SL : Sl w B l) (hll : l.length ≤ 9223372036854775807) (hC : Ctl w w) :
    Calls Tryd.prog 9 #[.slice A cs.length ca, .slice B l.length cb] w fun e w' => e = .returned (.bool true) ∧ Below w.heap.size w w' := by
  by_cases h30 : 30 < l.length
  · have HH := Lib.hid (heavy3_yes B cb l h30 w)
    clear h30
    go_enter Tryd.func9, Tryd.ntmps9
    go_wp2_with fail
    refine HH.out.mono ?_
    rintro e W1 ⟨rfl, rfl⟩
    go_wp2_with fail
    refine (known3_c hC).mono ?_
    rintro e W2 ⟨rfl, b2⟩
    go_wp2
    go_ret
    exact ⟨rfl, (hC.step b2).below⟩
  have HH := Lib.hid (heavy3_no B cb l h30 w)
  by_cases h60 : 60 < cs.length
  · have hz : (60 : Int) < (cs.length : Int) := by omega
    clear h30
    go_enter Tryd.func9, Tryd.ntmps9
    go_wp2_with fail
    refine HH.out.mono ?_
    rintro e W1 ⟨rfl, rfl⟩
    go_wp2_with fail
    refine (known3_c hC).mono ?_
    rintro e W2 ⟨rfl, b2⟩
    go_wp2
    go_ret
    exact ⟨rfl, (hC.step b2).below⟩
  have hz : ¬ ((60 : Int) < (cs.length : Int)) := by omega
  go_enter Tryd.func9, Tryd.ntmps9
  go_wp2_with fail
  refine HH.out.mono ?_
  rintro e W1 ⟨rfl, rfl⟩
  go_wp2_with fail
  refine (known3_c hC).mono ?_
  rintro e W2 ⟨rfl, b2⟩
  have hC2 := hC.step b2
  replace SL := SL.step b2
  clear b2
  go_wp2_with fail
  refine (make_c hU hC2.ctx).mono ?_
  rintro e W3 ⟨PA, cA, rfl, SA, ZA, b3⟩
  have hC3 := hC2.step b3
  replace SL := SL.step b3
  clear b3
  have lA := makeF_len cs
  go_wp2_with fail
  refine (of_c hC3 SA (by omega)).mono ?_
  rintro e W4 ⟨P4, c4, rfl, R4, b4⟩
  have hC4 := hC3.step b4
  replace SL := SL.step b4
  have hr4 := rows_len (makeF cs) (by omega)
  clear b4 SA
  go_wp2_with fail
  refine (rise_c P4 c4 _ (by omega) (rise_rows (makeF cs)) W4 R4).mono ?_
  rintro e W5 ⟨rfl, b5⟩
  have hC5 := hC4.step b5
  replace SL := SL.step b5
  clear b5 R4 hr4
  go_wp2_with fail
  refine (of_c hC5 SL (by omega)).mono ?_
  rintro e W7 ⟨P7, c7, rfl, R7, b7⟩
  have hC7 := hC5.step b7
  have hr7 := rows_len l (by omega)
  clear b7 SL
  go_wp2_with fail
  refine (rise_c P7 c7 _ (by omega) (rise_rows l) W7 R7).mono ?_
  rintro e W8 ⟨rfl, b8⟩
  have hC8 := hC7.step b8
  clear b8 R7 hr7
  go_wp2
  go_ret
  exact ⟨rfl, hC8.below⟩
end Go.Proofs.YtgaalkcociifmaaDoor
