/- SetTwo: the walk. -/
import Derived.Test.YtnhkbafjjngomaaDoorTwo
namespace Go.Proofs.YtnhkbafjjngomaaDoor
open Go.RowKit Go.Shelf SetM
theorem rows_two {W : World} {P Q : Option Addr} {c d : Nat} {l m : List Sp} (hs : Sl W P l) (ht : Sl W Q m) (hc : P = none → c = 0) (hd : Q = none → d = 0) :
    RowsAt (W.alloc (.cells #[.slice P l.length c, .slice Q m.length d] 24)).heap.size (W.alloc (.cells #[.slice P l.length c, .slice Q m.length d] 24)) (some ⟨W.heap.size, 0, none⟩) [l, m] := fun _ => by
  have hb : Below W.heap.size W (W.alloc (.cells #[.slice P l.length c, .slice Q m.length d] 24)) := (Below.refl _ _).alloc (Nat.le_refl _) _
  have hz : (W.alloc (.cells #[.slice P l.length c, .slice Q m.length d] 24)).heap.size = W.heap.size + 1 := World.size_alloc _ _
  refine ⟨_, 0, rfl, by omega, fun j hj => ?_⟩
  match j, hj with
  | 0, _ => exact ⟨P, c, by rw [cell_of_row _ W.heap.size _ _ _ _ (heap_alloc_new W _)]; rfl, hs.step hb, hc⟩
  | 1, _ => exact ⟨Q, d, by rw [cell_of_row _ W.heap.size _ _ _ _ (heap_alloc_new W _)]; rfl, ht.step hb, hd⟩
theorem total_two (l m : List Sp) : total [l, m] = l.length + m.length := by simp [total, flat]

set_option maxRecDepth 100000 in
set_option maxHeartbeats 8000000 in
theorem setTwo_any (A B C D : Option Addr) (ca cb cc cd : Nat) (l m : List Sp) (cs ds : List Int) (w : World) (SL : Sl w A l) (ZL : A = none → ca = 0) (hwl : Wide l) (SM : Sl w B m) (ZM : B = none → cb = 0) (hwm : Wide m) (hlm : l.length + m.length ≤ 9223372036854775807) (hU : U16s w.heap.size w C cs) (hV : U16s w.heap.size w D ds) (hC : Ctx w w) :
    Calls Tryd.prog 5 #[.slice A l.length ca, .slice B m.length cb, .slice C cs.length cc, .slice D ds.length cd] w fun e w' => e = .returned (.bool true) ∧ Below w.heap.size w w' := by
  have hR := rows_two (c := ca) (d := cb) SL SM ZL ZM
  have hb0 : Below w.heap.size w (w.alloc (.cells #[.slice A l.length ca, .slice B m.length cb] 24)) := (Below.refl _ _).alloc (Nat.le_refl _) _
  have hh := heavy_any (some ⟨w.heap.size, 0, none⟩) 2 [l, m] (by simp) (by rw [total_two]; exact hlm) _ hR
  have hC0 := hC.step hb0
  replace SL := SL.step hb0
  replace SM := SM.step hb0
  have HH := Lib.hid hh
  have HWL := Lib.hid hwl
  have HWM := Lib.hid hwm
  have HWC := Lib.hid (wide_make (cs := cs) (fun c h => (hU.1 c h).1))
  have HWD := Lib.hid (wide_make (cs := ds) (fun c h => (hV.1 c h).1))
  clear hh hR hb0 hwl hwm
  by_cases h80 : 80 < l.length + m.length
  · have hd : decide (80 < total [l, m]) = true := by rw [total_two]; exact decide_eq_true h80
    have HD := Lib.hid hd
    clear hd
    go_enter Tryd.func5, Tryd.ntmps5
    go_wp2_with fail
    refine HH.out.mono ?_
    rintro e W1 ⟨rfl, rfl⟩
    rw [HD.out]
    go_wp2_with fail
    refine (known_c hC0).mono ?_
    rintro e W2 ⟨rfl, b2⟩
    have hC2 := hC0.step b2
    go_wp2
    go_ret
    exact ⟨rfl, hC2.below⟩
  · have hd : decide (80 < total [l, m]) = false := by rw [total_two]; exact decide_eq_false h80
    have HD := Lib.hid hd
    clear hd
    have hl80 : l.length ≤ 80 := by omega
    have hm80 : m.length ≤ 80 := by omega
    clear h80
    go_enter Tryd.func5, Tryd.ntmps5
    go_wp2_with fail
    refine HH.out.mono ?_
    rintro e W1 ⟨rfl, rfl⟩
    rw [HD.out]
    generalize w.alloc (.cells #[.slice A l.length ca, .slice B m.length cb] 24) = W1 at *
    go_wp2_with fail
    refine (known_c hC0).mono ?_
    rintro e W2 ⟨rfl, b2⟩
    have hC2 := hC0.step b2
    replace SL := SL.step b2
    replace SM := SM.step b2
    clear b2
    have lc := makeF_len cs
    have ld := makeF_len ds
    go_wp2_with fail
    refine (two_c hC2 SL SM (by omega) (by omega) HWL.out HWM.out).mono ?_
    rintro e W3 ⟨rfl, b3⟩
    have hC3 := hC2.step b3
    replace SL := SL.step b3
    clear b3 SM
    go_wp2_with fail
    refine (make_c hU hC3).mono ?_
    rintro e W4 ⟨Px, cx, rfl, SX, _, b4⟩
    have hC4 := hC3.step b4
    replace SL := SL.step b4
    clear b4
    go_wp2_with fail
    refine (make_c hV hC4).mono ?_
    rintro e W5 ⟨Py, cy, rfl, SY, _, b5⟩
    have hC5 := hC4.step b5
    replace SL := SL.step b5
    replace SX := SX.step b5
    clear b5
    go_wp2_with fail
    refine (two_c hC5 SX SY (by omega) (by omega) HWC.out HWD.out).mono ?_
    rintro e W6 ⟨rfl, b6⟩
    have hC6 := hC5.step b6
    replace SL := SL.step b6
    clear b6 SX SY
    go_wp2_with fail
    refine (make_c hV hC6).mono ?_
    rintro e W7 ⟨Pz, cz, rfl, SZ, _, b7⟩
    have hC7 := hC6.step b7
    replace SL := SL.step b7
    clear b7
    go_wp2_with fail
    refine (two_c hC7 SL SZ (by omega) (by omega) HWL.out HWD.out).mono ?_
    rintro e W8 ⟨rfl, b8⟩
    have hC8 := hC7.step b8
    go_wp2
    go_ret
    exact ⟨rfl, hC8.below⟩
end Go.Proofs.YtnhkbafjjngomaaDoor
