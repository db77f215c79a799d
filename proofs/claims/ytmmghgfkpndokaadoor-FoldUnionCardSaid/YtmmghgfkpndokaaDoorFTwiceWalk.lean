/- FoldTwice's walk: closed twice a set is closed once; it has all that it had; it is a set. -/
import Derived.Test.YtmmghgfkpndokaaDoorFGrow
import Derived.Test.YtmmghgfkpndokaaDoorRefOps
import Derived.Deep.AppendLies
import Derived.Deep.RegionLaw
import Derived.IntWalk
namespace Go.Proofs.YtmmghgfkpndokaaDoor
open Go.RowKit Go.Shelf SetM

theorem closed_sc {K : Int → Prop} (r : Int) (h : ClosedK K r) : Sc r := h.1
theorem closed_twice {x : List Sp} {L : List Sp} (h : IsSet x (ClosedK (Tells L))) (r : Int) : ClosedK (Tells x) r ↔ ClosedK (Tells L) r := by
  have ht := h.tells closed_sc
  unfold ClosedK
  constructor
  · rintro ⟨h1, z, h2, h3⟩
    obtain ⟨_, y, h5, h6⟩ := (ht z).1 h2
    exact ⟨h1, y, h5, h6.trans h3⟩
  · rintro ⟨h1, y, h2, h3⟩
    exact ⟨h1, y, (ht y).2 ⟨h2.1, y, h2, rfl⟩, h3⟩
theorem closed_has {x : List Sp} {L : List Sp} (h : IsSet x (ClosedK (Tells L))) {out : List Sp} (ho : IsSet out (fun r => Tells L r ∧ ¬ Tells x r)) : out = [] := by
  refine nf_unique out [] ho.1 trivial (fun r => ⟨fun hr => ?_, fun hr => absurd hr (mem_nil r)⟩)
  obtain ⟨h1, h2⟩ := (ho.2 r).1 hr
  exact absurd ((h.tells closed_sc r).2 ⟨h1.1, r, h1, rfl⟩) h2
theorem closed_norm {x o : List Sp} {L : List Sp} (h : IsSet x (ClosedK (Tells L))) (ho : IsSet o (fun r => Tells x r)) : o = x :=
  ho.eq h (fun r => h.tells closed_sc r)
theorem wide_nears (e : Int) (he : 0 ≤ e) {ds : List Int} (h : ∀ c ∈ ds, 0 ≤ c ∧ c ≤ 65535) : Wide (nearsF e ds) := fun s hs => by
  obtain ⟨d, hd, rfl⟩ := List.mem_map.1 hs
  have := (nearF_in d (h d hd).1 (h d hd).2).1
  dsimp only; omega
theorem wide_app {a b : List Sp} (ha : Wide a) (hb : Wide b) : Wide (a ++ b) := fun s hs => by
  rcases List.mem_append.1 hs with h | h
  · exact ha s h
  · exact hb s h

set_option maxRecDepth 100000 in
set_option maxHeartbeats 4000000 in
theorem foldTwice_any (A B : Option Addr) (ca cb : Nat) (cs ds : List Int) (w : World) (hU : U16s w.heap.size w A cs) (hV : U16s w.heap.size w B ds) (hC : Cf w w) :
    Calls Tryd.prog 8 #[.slice A cs.length ca, .slice B ds.length cb] w fun e w' => e = .returned (.bool true) ∧ Below w.heap.size w w' := by
  obtain ⟨i0, hi, hz0, hz1, hz2⟩ := info_parts infoS
  have HC := Lib.hid hC
  have HU := Lib.hid hU
  have HV := Lib.hid hV
  clear hC hU hV
  by_cases hbig : cs.length ≤ 20 ∧ ds.length ≤ 6
  case neg =>
    by_cases hb1 : cs.length ≤ 20
    · have t1 : ¬ ((20 : Int) < (cs.length : Int)) := by omega
      have t2 : (6 : Int) < (ds.length : Int) := by omega
      go_enter Tryd.func8, Tryd.ntmps8
      go_wp2_with fail
      refine (known_c HC.out).mono ?_
      rintro e w2 ⟨rfl, b2⟩
      go_wp2
      go_ret
      exact ⟨rfl, b2⟩
    · have t1 : (20 : Int) < (cs.length : Int) := by omega
      go_enter Tryd.func8, Tryd.ntmps8
      go_wp2_with fail
      refine (known_c HC.out).mono ?_
      rintro e w2 ⟨rfl, b2⟩
      go_wp2
      go_ret
      exact ⟨rfl, b2⟩
  obtain ⟨hb1, hb2⟩ := hbig
  have t1 : ¬ ((20 : Int) < (cs.length : Int)) := by omega
  have t2 : ¬ ((6 : Int) < (ds.length : Int)) := by omega
  go_enter Tryd.func8, Tryd.ntmps8
  go_wp2_with fail
  refine (known_c HC.out).mono ?_
  rintro e w1 ⟨rfl, b1⟩
  have HC1 := Lib.hid (HC.out.step b1)
  have HV1 : Hid (U16s w1.heap.size w1 B ds) := Lib.hid ((HV.out.below b1).mono b1.size)
  have HWM := Lib.hid (wide_make (cs := cs) (fun c hc => (HU.out.1 c hc).1))
  have HMK := Lib.hid (make_any A ca cs w1 ((HU.out.below b1).mono b1.size))
  have hml := makeF_len cs
  clear HU HV HC t1 t2
  go_wp2_with fail
  refine HMK.out.mono ?_
  rintro e w2 ⟨v, rfl, hst1, hst2⟩
  clear HMK
  generalize makeF cs = M at *
  go_wp2
  go_loopg [5, 6] ds.length (fun g s5 s6 wx => ∃ k : Nat, k + g = ds.length ∧ s6 = .int .i64 k ∧ wx.ownsRow w1.heap.size 30 2 s5 (M ++ nearsF 1 (ds.take k)).length (cellsS (M ++ nearsF 1 (ds.take k))) ∧ Below w1.heap.size w1 wx)
  case atStart => exact ⟨0, by omega, rfl, by simpa [nearsF] using hst1, hst2⟩
  case round =>
    obtain ⟨k, hkg, rfl, hown, hb⟩ := hrel
    clear hst1 hst2
    cases gk with
    | succ g =>
      have hk : k < ds.length := by omega
      have hkz : (k : Int) < (ds.length : Int) := by omega
      obtain ⟨bd, off, rfl, hbd, hcd⟩ := HV1.out.2 (by intro h; rw [h] at hk; simp at hk)
      have c0 := (hb.cell (p := ⟨bd, off + k, none⟩) hbd).trans (hcd k hk)
      obtain ⟨d0, d1⟩ := HV1.out.1 ds[k] (List.getElem_mem hk)
      have HNE := Lib.hid (near_any ds[k] d0 d1)
      obtain ⟨n0, n1⟩ := nearF_in ds[k] d0 d1
      have hnx := nearsF_next 1 ds k hk
      have hll : (M ++ nearsF 1 (ds.take k)).length ≤ 30 + ds.length := by rw [List.length_append, nearsF_len, List.length_take]; omega
      clear hcd d0 d1
      generalize nearF ds[k] = n at *
      generalize ds[k] = d at *
      have hnx2 : M ++ nearsF 1 (ds.take (k + 1)) = (M ++ nearsF 1 (ds.take k)) ++ [(n, n + 1)] := by rw [hnx, ← List.append_assoc]
      have HNX := Lib.hid hnx2
      clear hnx hnx2
      generalize M ++ nearsF 1 (ds.take k) = L at *
      have HOW := Lib.hid hown
      have hsz := hb.size
      have e1 : IntKind.i64.wrap (n + 1) = n + 1 := IntWalk.i64_in _ (by omega)
      have hb2 : Below w1.heap.size w1 ((wr.alloc (.cells #[.int .i64 n, .int .i64 (n + 1)] 30)).drew) := below_drewN (hb.alloc hsz _) 1
      have HB2 := Lib.hid hb2
      clear hown hb2
      go_wp2
      go_region_law (first
        | (refine step_append_lies _ (by rfl) _ _ _ (by rfl) w1.heap.size 30 i0 _ 2 16 Tryd.underlying26 hi hz0 hz1 hz2 rfl (by omega) _ L.length _ (by rfl) ((HOW.out.alloc _).drew) ⟨wr.heap.size, 0, none⟩ 1 1 [.int .i64 n, .int .i64 (n + 1)] (by rfl) (by rfl) (World.news_of_block (cs := #[.int .i64 n, .int .i64 (n + 1)]) (t := 30) (fr := (0, 0)) (heap_alloc_new wr _)) (by simp [Value.oneCell']) (by omega) (by unfold maxLen; omega) (by omega) (by simp; omega) (wr.heap.size + 1) (by simp) ?_; intro gg cap w4 hown' hgrow hat hlt)
        | (go_simp; go_at_call 11; refine (HNE.out _).mono ?_; rintro e w' ⟨rfl, rfl⟩)
        | (go_at_call 11; refine (HNE.out _).mono ?_; rintro e w' ⟨rfl, rfl⟩))
      all_goals
        have hbn : Below w1.heap.size w1 w4 := HB2.out.grown hgrow (by simp; omega) (fun j hj => (HOW.out.lt j hj).1)
        go_wp2
        go_roundg g
        case measure => omega
        case rel => exact ⟨k + 1, by omega, by go_num, by rw [HNX.out, cellsS_append, List.length_append]; exact hown', hbn⟩
    | zero =>
      have hkz : ¬ ((k : Int) < (ds.length : Int)) := by omega
      rw [List.take_of_length_le (by omega)] at hown
      have HCr := Lib.hid (HC1.out.step hb)
      have hbw := b1.trans (hb.mono b1.size)
      have hLl : (M ++ nearsF 1 ds).length ≤ 36 := by rw [List.length_append, nearsF_len]; omega
      have HWL := Lib.hid (wide_app HWM.out (wide_nears 1 (by omega) HV1.out.1))
      generalize M ++ nearsF 1 ds = L at *
      obtain ⟨P, c, rfl, hs, hz⟩ := spans_of0 hown
      have HS := Lib.hid hs
      clear hown hs hz HV1 HWM HC1 b1 hb hml
      go_wp2_with fail
      refine (close_c HCr.out HS.out (by omega)).mono ?_
      rintro e w3 ⟨P3, c3, x, rfl, ix, hxl, sx, zx, b3⟩
      have HCr3 := Lib.hid (HCr.out.step b3)
      have HS3 := Lib.hid (HS.out.step b3)
      have HX3 := Lib.hid sx
      have HIX := Lib.hid ix
      have hxl2 : x.length ≤ 30000 := by omega
      have hbw3 := hbw.trans (b3.mono hbw.size)
      clear ix sx zx b3 hbw HCr HS hxl
      go_wp2_with fail
      refine (close_c HCr3.out HX3.out (by omega)).mono ?_
      rintro e w4 ⟨P4, c4, y, rfl, iy, _, sy, zy, b4⟩
      obtain rfl : y = x := iy.eq HIX.out (closed_twice HIX.out)
      have HS4 := Lib.hid (HS3.out.step b4)
      have HX4 := Lib.hid (HX3.out.step b4)
      have HY4 := Lib.hid sy
      have hbw4 := hbw3.trans (b4.mono hbw3.size)
      clear iy sy zy b4 hbw3 HCr3 HX3 HS3
      go_wp2_with fail
      refine (alike_c HY4.out HX4.out (by omega) (by omega)).mono ?_
      rintro e w5 ⟨rfl, b5⟩
      have hdd : decide (y = y) = true := decide_eq_true rfl
      have HS5 := Lib.hid (HS4.out.step b5)
      have HX5 := Lib.hid (HX4.out.step b5)
      have hbw5 := hbw4.trans (b5.mono hbw4.size)
      clear b5 hbw4 HS4 HX4 HY4
      go_wp2_with fail
      refine (rminus_c HS5.out HX5.out (by omega) (by omega) HWL.out (wide_set HIX.out closed_sc)).mono ?_
      rintro e w6 ⟨P6, c6, m, rfl, im, _, _, _, b6⟩
      obtain rfl : m = [] := closed_has HIX.out im
      have HX6 := Lib.hid (HX5.out.step b6)
      have hbw6 := hbw5.trans (b6.mono hbw5.size)
      clear b6 hbw5 HS5 HX5 im
      go_wp2_with fail
      refine (rnorm_c HX6.out (by omega) (wide_set HIX.out closed_sc)).mono ?_
      rintro e w7 ⟨P7, c7, o, rfl, io, _, so, _, b7⟩
      obtain rfl : o = y := closed_norm HIX.out io
      have HX7 := Lib.hid (HX6.out.step b7)
      have HO7 := Lib.hid so
      have hbw7 := hbw6.trans (b7.mono hbw6.size)
      clear b7 hbw6 HX6 io so
      go_wp2_with fail
      refine (alike_c HO7.out HX7.out (by omega) (by omega)).mono ?_
      rintro e w8 ⟨rfl, b8⟩
      have hbw8 := hbw7.trans (b8.mono hbw7.size)
      clear b8 hbw7
      go_wp2
      go_ret
      exact ⟨rfl, hbw8⟩
end Go.Proofs.YtmmghgfkpndokaaDoor
