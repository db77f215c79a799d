/- SeqsCounts: the walk. -/
import Derived.Test.YtgaalkcociifmaaDoorSKnown
import Derived.Test.YtgaalkcociifmaaDoorRefOps
namespace Go.Proofs.YtgaalkcociifmaaDoor
open Go.RowKit Go.Shelf SeqM
open U.UtfM (enc)

theorem heavy3_yes (A : Option Addr) (ca : Nat) (l : List SetM.Sp) (h : 30 < l.length) (w : World) : Calls Tryd.prog 20 #[.slice A l.length ca] w fun e w' => e = .returned (.bool true) ∧ w = w' := by
  have hz : (30 : Int) < (l.length : Int) := by omega
  go_enter Tryd.func20, Tryd.ntmps20
  go_wp2
  go_ret
  exact ⟨rfl, rfl⟩
theorem heavy3_no (A : Option Addr) (ca : Nat) (l : List SetM.Sp) (h : ¬ 30 < l.length) (w : World) : Calls Tryd.prog 20 #[.slice A l.length ca] w fun e w' => e = .returned (.bool false) ∧ w = w' := by
  have hz : ¬ ((30 : Int) < (l.length : Int)) := by omega
  go_enter Tryd.func20, Tryd.ntmps20
  go_wp2
  go_ret
  exact ⟨rfl, rfl⟩
/-- Size of the document's: as many as the rows have. -/
theorem rsize3_c {W : World} {P : Option Addr} {c : Nat} {l : List SetM.Sp} (hs : Sl W P l) (hl : l.length ≤ 10000) (hw : Wide l) : Calls Tryd.prog 27 #[.slice P l.length c] W (CountStep W (many (nrm l))) :=
  (rsize_c hs hl hw).mono fun e W' ⟨out, h1, h2, h3, h4⟩ => by
    obtain rfl := nrm_eq h1 h2
    exact ⟨h3, h4⟩

set_option maxRecDepth 100000 in
set_option maxHeartbeats 4000000 in
theorem seqsCounts_any (A B : Option Addr) (ca cb : Nat) (cs : List Int) (l : List SetM.Sp) (w : World) (hU : U16s w.heap.size w A cs) (SL : Sl w B l) (hwl : Wide l) (hll : l.length ≤ 9223372036854775807) (hC : Ctl w w) :
    Calls Tryd.prog 8 #[.slice A cs.length ca, .slice B l.length cb] w fun e w' => e = .returned (.bool true) ∧ Below w.heap.size w w' := by
  by_cases h30 : 30 < l.length
  · have HH := Lib.hid (heavy3_yes B cb l h30 w)
    clear h30
    go_enter Tryd.func8, Tryd.ntmps8
    go_wp2_with fail
    refine HH.out.mono ?_
    rintro e W1 ⟨rfl, rfl⟩
    go_wp2_with fail
    refine (known3_c hC).mono ?_
    rintro e W2 ⟨rfl, b2⟩
    go_wp2
    go_ret
    exact ⟨rfl, (hC.step b2).below⟩
  have HH := Lib.hid (heavy3_no B cb l h30 w)
  by_cases h60 : 60 < cs.length
  · have hz : (60 : Int) < (cs.length : Int) := by omega
    clear h30
    go_enter Tryd.func8, Tryd.ntmps8
    go_wp2_with fail
    refine HH.out.mono ?_
    rintro e W1 ⟨rfl, rfl⟩
    go_wp2_with fail
    refine (known3_c hC).mono ?_
    rintro e W2 ⟨rfl, b2⟩
    go_wp2
    go_ret
    exact ⟨rfl, (hC.step b2).below⟩
  have hz : ¬ ((60 : Int) < (cs.length : Int)) := by omega
  have HWL := Lib.hid hwl
  have HWC := Lib.hid (wide_make (cs := cs) (fun c h => (hU.1 c h).1))
  clear hwl
  go_enter Tryd.func8, Tryd.ntmps8
  go_wp2_with fail
  refine HH.out.mono ?_
  rintro e W1 ⟨rfl, rfl⟩
  go_wp2_with fail
  refine (known3_c hC).mono ?_
  rintro e W2 ⟨rfl, b2⟩
  have hC2 := hC.step b2
  replace SL := SL.step b2
  clear b2
  go_wp2_with fail
  refine (make_c hU hC2.ctx).mono ?_
  rintro e W3 ⟨PA, cA, rfl, SA, ZA, b3⟩
  have hC3 := hC2.step b3
  replace SL := SL.step b3
  clear b3
  have lA := makeF_len cs
  go_wp2_with fail
  refine (of_c hC3 SA (by omega)).mono ?_
  rintro e W4 ⟨P4, c4, rfl, R4, b4⟩
  have hC4 := hC3.step b4
  replace SL := SL.step b4
  replace SA := SA.step b4
  clear b4
  go_wp2_with fail
  refine (count_c (makeF cs) (by omega) R4).mono ?_
  rintro e W5 ⟨rfl, b5⟩
  have hC5 := hC4.step b5
  replace SL := SL.step b5
  replace SA := SA.step b5
  clear b5 R4
  go_wp2_with fail
  refine (rsize3_c SA (by omega) HWC.out).mono ?_
  rintro e W6 ⟨rfl, b6⟩
  have hC6 := hC5.step b6
  replace SL := SL.step b6
  have t1 : (many (nrm (makeF cs)) == many (nrm (makeF cs))) = true := by rw [beq_self_eq_true]
  clear b6 SA
  generalize many (nrm (makeF cs)) = m1 at *
  go_wp2_with fail
  refine (of_c hC6 SL (by omega)).mono ?_
  rintro e W7 ⟨P7, c7, rfl, R7, b7⟩
  have hC7 := hC6.step b7
  replace SL := SL.step b7
  clear b7
  go_wp2_with fail
  refine (count_c l (by omega) R7).mono ?_
  rintro e W8 ⟨rfl, b8⟩
  have hC8 := hC7.step b8
  replace SL := SL.step b8
  clear b8 R7
  go_wp2_with fail
  refine (rsize3_c SL (by omega) HWL.out).mono ?_
  rintro e W9 ⟨rfl, b9⟩
  have hC9 := hC8.step b9
  have t2 : (many (nrm l) == many (nrm l)) = true := by rw [beq_self_eq_true]
  clear b9 SL
  generalize many (nrm l) = m2 at *
  go_wp2
  go_ret
  exact ⟨rfl, hC9.below⟩
end Go.Proofs.YtgaalkcociifmaaDoor
