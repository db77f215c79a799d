/- SetUnions: the walk. -/
import Derived.Test.YtgaalkcociifmaaDoorRefUnion
import Derived.Test.YtgaalkcociifmaaDoorShort
namespace Go.Proofs.YtgaalkcociifmaaDoor
open Go.RowKit Go.Shelf SetM

theorem total_three (a b c : List Sp) : total [a, b, c] = a.length + b.length + c.length := by simp [total, flat]; omega
theorem rows_three {W : World} {P Q R : Option Addr} {p q r : Nat} {l m n : List Sp} (hs : Sl W P l) (ht : Sl W Q m) (hu : Sl W R n) (hp : P = none → p = 0) (hq : Q = none → q = 0) (hr : R = none → r = 0) :
    RowsAt (W.alloc (.cells #[.slice P l.length p, .slice Q m.length q, .slice R n.length r] 25)).heap.size (W.alloc (.cells #[.slice P l.length p, .slice Q m.length q, .slice R n.length r] 25)) (some ⟨W.heap.size, 0, none⟩) [l, m, n] := fun _ => by
  have hb : Below W.heap.size W (W.alloc (.cells #[.slice P l.length p, .slice Q m.length q, .slice R n.length r] 25)) := (Below.refl _ _).alloc (Nat.le_refl _) _
  have hz : (W.alloc (.cells #[.slice P l.length p, .slice Q m.length q, .slice R n.length r] 25)).heap.size = W.heap.size + 1 := World.size_alloc _ _
  refine ⟨_, 0, rfl, by omega, fun j hj => ?_⟩
  match j, hj with
  | 0, _ => exact ⟨P, p, by rw [cell_of_row _ W.heap.size _ _ _ _ (heap_alloc_new W _)]; rfl, hs.step hb, hp⟩
  | 1, _ => exact ⟨Q, q, by rw [cell_of_row _ W.heap.size _ _ _ _ (heap_alloc_new W _)]; rfl, ht.step hb, hq⟩
  | 2, _ => exact ⟨R, r, by rw [cell_of_row _ W.heap.size _ _ _ _ (heap_alloc_new W _)]; rfl, hu.step hb, hr⟩
theorem RowsAt.step {W W' : World} {A : Option Addr} {ls : List (List Sp)} (h : RowsAt W.heap.size W A ls) (hb : Below W.heap.size W W') : RowsAt W'.heap.size W' A ls := fun hl => by
  obtain ⟨b, off, e, hbb, hc⟩ := h hl
  have := hb.size
  refine ⟨b, off, e, by omega, fun j hj => ?_⟩
  obtain ⟨P, c, h1, h2, h3⟩ := hc j hj
  exact ⟨P, c, (hb.cell (p := ⟨b, off + j, none⟩) hbb).trans h1, (Spans.below hb h2).mono hb.size, h3⟩
theorem total_max (M : Nat) : ∀ (ls : List (List Sp)), (∀ a ∈ ls, a.length ≤ M) → total ls ≤ ls.length * M
  | [], _ => by simp [total, flat]
  | a :: t, h => by
    have h1 := total_max M t (fun b hb => h b (by simp [hb]))
    have h2 := h a (by simp)
    have e : total (a :: t) = a.length + total t := by simp [total, flat]
    rw [e, List.length_cons, Nat.succ_mul]
    omega
/-- Union of the program and of the document, held against each other. -/
theorem both_eq {a b : List Sp} {ls : List (List Sp)} (ha : IsSet a (fun r => ∃ x ∈ ls, Tells x r)) (hb : IsSet b (fun r => ∃ x ∈ ls, Tells x r)) : decide (a = b) = true := decide_eq_true (ha.eq hb (fun _ => Iff.rfl))

set_option maxRecDepth 100000 in
set_option maxHeartbeats 8000000 in
theorem setUnions_any (A B C D : Option Addr) (ca cb cc cd : Nat) (ls : List (List Sp)) (cs ds es : List Int) (w : World) (hR : RowsAt w.heap.size w A ls) (hw : ∀ a ∈ ls, Wide a) (hlen : ∀ a ∈ ls, a.length ≤ 140737488351232) (hU : U16s w.heap.size w B cs) (hV : U16s w.heap.size w C ds) (hX : U16s w.heap.size w D es) (hC : Ctx w w) :
    Calls Tryd.prog 10 #[.slice A ls.length ca, .slice B cs.length cb, .slice C ds.length cc, .slice D es.length cd] w fun e w' => e = .returned (.bool true) ∧ Below w.heap.size w w' := by
  by_cases h20 : 20 < ls.length
  · have hz : (20 : Int) < (ls.length : Int) := by omega
    go_enter Tryd.func10, Tryd.ntmps10
    go_wp2_with fail
    refine (known_c hC).mono ?_
    rintro e W2 ⟨rfl, b2⟩
    go_wp2
    go_ret
    exact ⟨rfl, (hC.step b2).below⟩
  have hz : ¬ ((20 : Int) < (ls.length : Int)) := by omega
  have htl := total_max _ ls hlen
  have hbig : total ls ≤ 9223372036854775807 := by
    have : ls.length * 140737488351232 ≤ 20 * 140737488351232 := Nat.mul_le_mul_right _ (by omega)
    omega
  have HH := Lib.hid (heavy_any A ca ls (by omega) hbig w hR)
  by_cases h80 : 80 < total ls
  · have hd : decide (80 < total ls) = true := decide_eq_true h80
    have HD := Lib.hid hd
    clear hd htl hbig h80 hlen
    go_enter Tryd.func10, Tryd.ntmps10
    go_wp2_with fail
    refine HH.out.mono ?_
    rintro e W1 ⟨rfl, rfl⟩
    rw [HD.out]
    go_wp2_with fail
    refine (known_c hC).mono ?_
    rintro e W2 ⟨rfl, b2⟩
    go_wp2
    go_ret
    exact ⟨rfl, (hC.step b2).below⟩
  have hd : decide (80 < total ls) = false := decide_eq_false h80
  have HD := Lib.hid hd
  have ht80 : total ls ≤ 80 := by omega
  have HW := Lib.hid hw
  have HWA := Lib.hid (wide_make (cs := cs) (fun c h => (hU.1 c h).1))
  have HWB := Lib.hid (wide_make (cs := ds) (fun c h => (hV.1 c h).1))
  have HWE := Lib.hid (wide_make (cs := es) (fun c h => (hX.1 c h).1))
  have HR := Lib.hid hR
  clear hd htl hbig h80 hlen hw hR
  go_enter Tryd.func10, Tryd.ntmps10
  go_wp2_with fail
  refine HH.out.mono ?_
  rintro e W1 ⟨rfl, rfl⟩
  rw [HD.out]
  go_wp2_with fail
  refine (known_c hC).mono ?_
  rintro e W2 ⟨rfl, b2⟩
  have hC2 := hC.step b2
  clear b2
  go_wp2_with fail
  refine (make_c hU hC2).mono ?_
  rintro e W3 ⟨PA, cA, rfl, SA, ZA, b3⟩
  have hC3 := hC2.step b3
  clear b3
  go_wp2_with fail
  refine (make_c hV hC3).mono ?_
  rintro e W4 ⟨PB, cB, rfl, SB, ZB, b4⟩
  have hC4 := hC3.step b4
  replace SA := SA.step b4
  clear b4
  go_wp2_with fail
  refine (make_c hX hC4).mono ?_
  rintro e W5 ⟨PE, cE, rfl, SE, ZE, b5⟩
  have hC5 := hC4.step b5
  replace SA := SA.step b5
  replace SB := SB.step b5
  clear b5
  have lA := makeF_len cs
  have lB := makeF_len ds
  have lE := makeF_len es
  have hb6 : Below W5.heap.size W5 (W5.alloc (.cells #[.slice PA (makeF cs).length cA, .slice PB (makeF ds).length cB, .slice PE (makeF es).length cE] 25)) := (Below.refl _ _).alloc (Nat.le_refl _) _
  have hR3 := rows_three SA SB SE ZA ZB ZE
  have hC6 := hC5.step hb6
  have hR6 := HR.out.step hC6.below
  have ht3 : total [makeF cs, makeF ds, makeF es] ≤ 80 + 10 := by rw [total_three]; omega
  go_wp2_with fail
  generalize W5.alloc (.cells #[.slice PA (makeF cs).length cA, .slice PB (makeF ds).length cB, .slice PE (makeF es).length cE] 25) = W6 at *
  generalize W5.heap.size = n5 at *
  refine (union_any A ca ls (by omega) (by omega) W6 hC6.pos hC6.areas hR6).mono ?_
  rintro e W7 h7
  obtain ⟨P7, c7, o7, rfl, i7, l7, s7, z7, b7⟩ := h7.toStep
  have hC7 := hC6.step b7
  have hR7 := hR6.step b7
  have hR37 := hR3.step b7
  clear b7 hR6 hR3
  go_wp2_with fail
  refine (runion_any A ca ls (by omega) (by omega) HW.out W7 hR7).mono ?_
  rintro e W8 ⟨P8, c8, o8, rfl, i8, l8, s8, z8, b8⟩
  have hC8 := hC7.step b8
  have hR38 := hR37.step b8
  replace s7 := s7.step b8
  have HEQ := Lib.hid (both_eq i7 i8)
  clear b8 hR7 hR37
  go_wp2_with fail
  refine (alike_c s7 s8 (by omega) (by omega)).mono ?_
  rintro e W9 ⟨rfl, b9⟩
  rw [HEQ.out]
  have hC9 := hC8.step b9
  have hR39 := hR38.step b9
  clear b9 hR38 s7 s8 HEQ
  have HWM : Hid (∀ a ∈ [makeF cs, makeF ds, makeF es], Wide a) := Lib.hid (fun a ha => by
    simp only [List.mem_cons, List.not_mem_nil, or_false] at ha
    rcases ha with rfl | rfl | rfl
    · exact HWA.out
    · exact HWB.out
    · exact HWE.out)
  go_wp2_with fail
  refine (union_any (some ⟨n5, 0, none⟩) 3 [makeF cs, makeF ds, makeF es] (by simp) (by omega) W9 hC9.pos hC9.areas hR39).mono ?_
  rintro e W10 h10
  obtain ⟨P10, c10, o10, rfl, i10, l10, s10, z10, b10⟩ := h10.toStep
  have hC10 := hC9.step b10
  have hR310 := hR39.step b10
  clear b10 hR39
  go_wp2_with fail
  refine (runion_any (some ⟨n5, 0, none⟩) 3 [makeF cs, makeF ds, makeF es] (by simp) (by omega) HWM.out W10 hR310).mono ?_
  rintro e W11 ⟨P11, c11, o11, rfl, i11, l11, s11, z11, b11⟩
  have hC11 := hC10.step b11
  replace s10 := s10.step b11
  have HEQ := Lib.hid (both_eq i10 i11)
  clear b11 hR310
  go_wp2_with fail
  refine (alike_c s10 s11 (by omega) (by omega)).mono ?_
  rintro e W12 ⟨rfl, b12⟩
  rw [HEQ.out]
  have hC12 := hC11.step b12
  clear b12 s10 s11 HEQ
  go_wp2
  go_ret
  exact ⟨rfl, hC12.below⟩
end Go.Proofs.YtgaalkcociifmaaDoor
