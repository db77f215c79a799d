/- SetKeeps: the walk. -/
import Derived.Test.YtnhkbafjjngomaaDoorRefOps
import Derived.Test.YtnhkbafjjngomaaDoorLaws
namespace Go.Proofs.YtnhkbafjjngomaaDoor
open Go.RowKit Go.Shelf SetM
variable {w W : World}
/-- Union of two slices that were just laid side by side. -/
theorem union_p {P Q : Option Addr} {c d : Nat} {l m : List Sp} (hC : Ctx w W) (hs : Sl W P l) (ht : Sl W Q m) (hc : P = none → c = 0) (hd : Q = none → d = 0) (hl : l.length ≤ 1000000) (hm : m.length ≤ 1000000) :
    Calls Tryd.prog 26 #[.slice (some ⟨W.heap.size, 0, none⟩) 2 2] (W.alloc (.cells #[.slice P l.length c, .slice Q m.length d] 24)) (SetPost W (fun r => Tells l r ∨ Tells m r) (4 * l.length + 4 * m.length)) := by
  have hb : Below W.heap.size W (W.alloc (.cells #[.slice P l.length c, .slice Q m.length d] 24)) := (Below.refl _ _).alloc (Nat.le_refl _) _
  have hz : (W.alloc (.cells #[.slice P l.length c, .slice Q m.length d] 24)).heap.size = W.heap.size + 1 := World.size_alloc _ _
  have hC' := hC.step hb
  have hs' := hs.step hb
  have ht' := ht.step hb
  have hR : RowsAt (W.alloc (.cells #[.slice P l.length c, .slice Q m.length d] 24)).heap.size (W.alloc (.cells #[.slice P l.length c, .slice Q m.length d] 24)) (some ⟨W.heap.size, 0, none⟩) [l, m] := fun _ => ⟨_, 0, rfl, by omega, fun j hj => by
    match j, hj with
    | 0, _ => exact ⟨P, c, by rw [cell_of_row _ W.heap.size _ _ _ _ (heap_alloc_new W _)]; rfl, hs', hc⟩
    | 1, _ => exact ⟨Q, d, by rw [cell_of_row _ W.heap.size _ _ _ _ (heap_alloc_new W _)]; rfl, ht', hd⟩⟩
  have ht2 : total [l, m] = l.length + m.length := by simp [total, flat]
  refine (union_any (some ⟨W.heap.size, 0, none⟩) 2 [l, m] (by simp) (by omega) _ hC'.pos hC'.areas hR).mono fun e W' h => ?_
  exact (h.lower hb).congr (fun r => by simp) (by omega)

theorem own_kept {V W : World} {base n sz t : Nat} {v : Value} {xs : List Value} (h : V.ownsRow base t sz v n xs) (hb : Below V.heap.size V W) : W.ownsRow base t sz v n xs := by
  refine ⟨h.1, ?_⟩
  rcases h.2 with h2 | ⟨g, cap, cur, hv, hg, hh, r⟩
  · exact .inl h2
  · exact .inr ⟨g, cap, cur, hv, hg, by rw [hb.block g (Array.getElem?_eq_some_iff.1 hh).1]; exact hh, r⟩
theorem own_at {V : World} {base : Nat} {P : Option Addr} {n c : Nat} {xs : List Value} (h : V.ownsRow base 27 2 (.slice P n c) n xs) (k : Nat) (hk : k < n) :
    ∃ gb u0 u1, P = some ⟨gb, 0, none⟩ ∧ base ≤ gb ∧ gb < V.heap.size ∧ V.cell? ⟨gb, k * 2, none⟩ = some u0 ∧ V.cell? ⟨gb, k * 2 + 1, none⟩ = some u1 ∧ V.frozen? ⟨gb, k * 2, none⟩ = false ∧ V.frozen? ⟨gb, k * 2 + 1, none⟩ = false := by
  rcases h.2 with ⟨_, h0⟩ | ⟨gb, cap, cur, e, hb, hg, _⟩
  · omega
  · injection e with e1 e2 e3
    subst e1
    have hx := h.1
    refine ⟨gb, xs[k * 2]'(by omega), xs[k * 2 + 1]'(by omega), rfl, hb, (Array.getElem?_eq_some_iff.1 hg).1, ?_, ?_, h.frozenAt _, h.frozenAt _⟩
    · rw [h.cellAt _ (by omega), List.getElem?_eq_getElem]
    · rw [h.cellAt _ (by omega), List.getElem?_eq_getElem]

set_option maxRecDepth 100000 in
set_option maxHeartbeats 8000000 in
theorem setKeeps_any (A B : Option Addr) (ca cb : Nat) (cs ds : List Int) (w : World) (hU : U16s w.heap.size w A cs) (hV : U16s w.heap.size w B ds) (hC : Ctx w w) :
    Calls Tryd.prog 11 #[.slice A cs.length ca, .slice B ds.length cb] w fun e w' => e = .returned (.bool true) ∧ Below w.heap.size w w' := by
  have HWA := Lib.hid (wide_make (cs := cs) (fun c h => (hU.1 c h).1))
  go_enter Tryd.func11, Tryd.ntmps11
  go_wp2_with fail
  refine (make_c hU hC).mono ?_
  rintro e W1 ⟨Pa, pa, rfl, Sa, Za, b1⟩
  have hC1 := hC.step b1
  clear b1
  have la := makeF_len cs
  go_wp2_with fail
  refine (make_c hV hC1).mono ?_
  rintro e W2 ⟨Pb, pb, rfl, Sb, Zb, b2⟩
  have hC2 := hC1.step b2
  replace Sa := Sa.step b2
  clear b2
  have lb := makeF_len ds
  go_wp2_with fail
  refine (union_p hC2 Sa Sb Za Zb (by omega) (by omega)).mono ?_
  rintro e W3 ⟨vx, ox, rfl, nx, mx, lx, rx, b3⟩
  obtain ⟨Px, px, rfl⟩ := own_shape rx
  have hC3 := hC2.step b3
  have Sa3 := Sa.step b3
  clear nx mx
  go_wp2_with fail
  refine (norm_any Pa pa (makeF cs) (by omega) W3 hC3.pos hC3.areas Sa3).mono ?_
  rintro e W4 ⟨vy, oy, rfl, ny, my, ly, ry, b4⟩
  obtain ⟨Py, py, rfl⟩ := own_shape ry
  have rx4 := own_kept rx b4
  have hb4 : Below W2.heap.size W2 W4 := b3.trans (b4.mono b3.size)
  have z3 := b3.size
  have z4 := b4.size
  have HX : Hid (∀ gb, Px = some ⟨gb, 0, none⟩ → gb < W3.heap.size) := Lib.hid (fun gb h => by
    subst h
    rcases rx.2 with ⟨h', _⟩ | ⟨g', cap', cur, h', _, hg, _⟩
    · simp at h'
    · simp only [Value.slice.injEq, Option.some.injEq, Addr.mk.injEq, and_true, true_and] at h'
      obtain ⟨rfl, rfl⟩ := h'
      exact (Array.getElem?_eq_some_iff.1 hg).1)
  generalize cellsS ox = xs0 at *
  generalize cellsS oy = ys0 at *
  have SA := Lib.hid Sa
  have SB := Lib.hid Sb
  clear ny my rx b3 b4 Sa3 Sa Sb
  go_wp2
  go_loopg [9] ox.length (fun g si wx => ∃ (k : Nat) (xs : List Value), k + g = ox.length ∧ si = .int .i64 k ∧ wx.ownsRow W2.heap.size 27 2 (.slice Px ox.length px) ox.length xs ∧ wx.ownsRow W3.heap.size 27 2 (.slice Py oy.length py) oy.length ys0 ∧ Below W2.heap.size W2 wx)
  case atStart => exact ⟨0, xs0, by omega, rfl, rx4, ry, hb4⟩
  case round =>
    obtain ⟨k, xs, hkg, rfl, r1, r2, hb⟩ := hrel
    cases gk with
    | succ g =>
      have hk : k < ox.length := by omega
      have hkz : (k : Int) < (ox.length : Int) := by omega
      obtain ⟨gb, u0, u1, rfl, g0, g1, e0, e1, f0, f1⟩ := own_at r1 k hk
      have h1 := r1.stored (k * 2) (.int .i64 7)
      have h2 := ownsRow_setCell_below r2 (a := ⟨gb, k * 2, none⟩) (HX.out gb rfl) (.int .i64 7)
      have h3 : Below W2.heap.size W2 (wr.setCell ⟨gb, k * 2, none⟩ (.int .i64 7)) := hb.setCell (p := ⟨gb, k * 2, none⟩) g0 _
      have H1 := Lib.hid h1.1
      have H2 := Lib.hid h2
      have H3 := Lib.hid h3
      clear h1 h2 h3 r1 r2
      go_wp2
      go_roundg g
      case measure => omega
      case rel => exact ⟨k + 1, _, by omega, by first | rfl | go_num, H1.out, H2.out, H3.out⟩
    | zero =>
      have hkz : ¬ ((k : Int) < (ox.length : Int)) := by omega
      clear r1 rx4 ry hb4
      go_wp2
      go_loopg [10] oy.length (fun g si wx => ∃ (k : Nat) (ys : List Value), k + g = oy.length ∧ si = .int .i64 k ∧ wx.ownsRow W3.heap.size 27 2 (.slice Py oy.length py) oy.length ys ∧ Below W2.heap.size W2 wx)
      case atStart => exact ⟨0, ys0, by omega, rfl, r2, hb⟩
      case round =>
        obtain ⟨k2, ys, hkg2, rfl, r3, hb2⟩ := hrel
        cases gk with
        | succ g =>
          have hk2 : k2 < oy.length := by omega
          have hkz2 : (k2 : Int) < (oy.length : Int) := by omega
          obtain ⟨gb, u0, u1, rfl, g0, g1, e0, e1, f0, f1⟩ := own_at r3 k2 hk2
          have h1 := r3.stored (k2 * 2 + 1) (.int .i64 3)
          have h3 : Below W2.heap.size W2 (wr.setCell ⟨gb, k2 * 2 + 1, none⟩ (.int .i64 3)) := hb2.setCell (p := ⟨gb, k2 * 2 + 1, none⟩) (by show W2.heap.size ≤ gb; omega) _
          have H1 := Lib.hid h1.1
          have H3 := Lib.hid h3
          clear h1 h3 r3
          go_wp2
          go_roundg g
          case measure => omega
          case rel => exact ⟨k2 + 1, _, by omega, by first | rfl | go_num, H1.out, H3.out⟩
        | zero =>
          have hkz2 : ¬ ((k2 : Int) < (oy.length : Int)) := by omega
          have Sa := SA.out.step hb2
          have Sb := SB.out.step hb2
          have hC5 := hC2.step hb2
          clear r3 r2 hb hb2 SA SB HX hC3
          generalize hma : makeF cs = ma at *
          have HMA := Lib.hid hma
          generalize hmb : makeF ds = mb at *
          have HMB := Lib.hid hmb
          clear hma hmb
          go_wp2_with fail
          refine (known_c hC5).mono ?_
          rintro e W6 ⟨rfl, b6⟩
          have hC6 := hC5.step b6
          replace Sa := Sa.step b6
          replace Sb := Sb.step b6
          clear b6
          go_wp2_with fail
          refine (make_c hU hC6).mono ?_
          rintro e W7 ⟨Qa, qa, rfl, Ta, _, b7⟩
          rw [HMA.out] at Ta ⊢
          have hC7 := hC6.step b7
          replace Sa := Sa.step b7
          replace Sb := Sb.step b7
          clear b7
          go_wp2_with fail
          refine (samelaw_c Sa Ta (by omega) (by omega)).mono ?_
          rintro e W8 ⟨rfl, b8⟩
          rw [decide_eq_true rfl]
          have hC8 := hC7.step b8
          replace Sa := Sa.step b8
          replace Sb := Sb.step b8
          clear b8 Ta
          go_wp2_with fail
          refine (make_c hV hC8).mono ?_
          rintro e W9 ⟨Qb, qb, rfl, Tb, _, b9⟩
          rw [HMB.out] at Tb ⊢
          have hC9 := hC8.step b9
          replace Sa := Sa.step b9
          replace Sb := Sb.step b9
          clear b9
          go_wp2_with fail
          refine (samelaw_c Sb Tb (by omega) (by omega)).mono ?_
          rintro e W10 ⟨rfl, b10⟩
          rw [decide_eq_true rfl]
          have hC10 := hC9.step b10
          replace Sa := Sa.step b10
          clear b10 Tb Sb
          go_wp2_with fail
          refine (norm_c hC10 Sa (by omega)).mono ?_
          rintro e W11 ⟨Pn, cn, on, rfl, In, Ln, Sn, _, b11⟩
          have hC11 := hC10.step b11
          replace Sa := Sa.step b11
          clear b11
          go_wp2_with fail
          refine (rnorm_c Sa (by omega) HWA.out).mono ?_
          rintro e W12 ⟨Pr, cr, or, rfl, Ir, Lr, Sr, _, b12⟩
          have hC12 := hC11.step b12
          replace Sn := Sn.step b12
          have heq := Lib.hid (In.eq Ir (fun r => Iff.rfl))
          clear b12 In Ir
          go_wp2_with fail
          refine (samelaw_c Sn Sr (by omega) (by omega)).mono ?_
          rintro e W13 ⟨rfl, b13⟩
          rw [decide_eq_true heq.out]
          have hC13 := hC12.step b13
          go_wp2
          go_ret
          exact ⟨rfl, hC13.below⟩
end Go.Proofs.YtnhkbafjjngomaaDoor
