/- Machines as they are read, wherever they lie; the program's looks at edges and at ways. -/
import Derived.Test.YtioahgklplbinaaDoorNSet
namespace NfaM
open SetM WrM
/-- May an edge be, among k states? -/
def okE (k : Nat) (e : Int × List Sp) : Bool := decide (0 ≤ e.1 ∧ e.1 < k) && isSetF 0 e.2
def okI (k : Nat) (t : Int) : Bool := decide (0 ≤ t ∧ t < k)
def allE (k : Nat) (es : List (Int × List Sp)) : Bool := es.all (okE k)
def allI (k : Nat) (es : List Int) : Bool := es.all (okI k)
end NfaM
namespace Go.Proofs.YtioahgklplbinaaDoor
open Go.RowKit Go.Shelf Go.Maps SetM PropsM RxM WrM NfaM
/-- A slice reads as edges. -/
def EdR (W : World) (P : Option Addr) (es : List (Int × List Sp)) : Prop := ∀ k (_ : k < es.length), ∃ g o sp sc, P = some ⟨g, o, none⟩ ∧ g < W.heap.size ∧ W.cell? ⟨g, o + k * 2, none⟩ = some (.int .i64 es[k].1) ∧ W.cell? ⟨g, o + k * 2 + 1, none⟩ = some (.slice sp es[k].2.length sc) ∧ Sl W sp es[k].2
/-- A slice reads as numbers. -/
def InR (W : World) (P : Option Addr) (l : List Int) : Prop := ∀ k (_ : k < l.length), ∃ g o, P = some ⟨g, o, none⟩ ∧ g < W.heap.size ∧ W.cell? ⟨g, o + k, none⟩ = some (.int .i64 l[k])
theorem EdR.step {W W' : World} {P : Option Addr} {es : List (Int × List Sp)} (h : EdR W P es) (hb : Below W.heap.size W W') : EdR W' P es := fun k hk => by
  obtain ⟨g, o, sp, sc, e, hg, h1, h2, h3⟩ := h k hk
  exact ⟨g, o, sp, sc, e, Nat.lt_of_lt_of_le hg hb.size, (hb.cell (p := ⟨g, o + k * 2, none⟩) hg).trans h1, (hb.cell (p := ⟨g, o + k * 2 + 1, none⟩) hg).trans h2, h3.step hb⟩
theorem InR.step {W W' : World} {P : Option Addr} {l : List Int} (h : InR W P l) (hb : Below W.heap.size W W') : InR W' P l := fun k hk => by
  obtain ⟨g, o, e, hg, h1⟩ := h k hk
  exact ⟨g, o, e, Nat.lt_of_lt_of_le hg hb.size, (hb.cell (p := ⟨g, o + k, none⟩) hg).trans h1⟩
/-- The value reads as a machine. -/
structure MR (W : World) (p0 p1 p2 : Option Addr) (m : Mc) : Prop where
  ed : ∀ i (_ : i < m.ed.length), ∃ g o P c, p0 = some ⟨g, o, none⟩ ∧ g < W.heap.size ∧ W.cell? ⟨g, o + i, none⟩ = some (.slice P m.ed[i].length c) ∧ EdR W P m.ed[i]
  fr : ∀ i (_ : i < m.fr.length), ∃ g o P c, p1 = some ⟨g, o, none⟩ ∧ g < W.heap.size ∧ W.cell? ⟨g, o + i, none⟩ = some (.slice P m.fr[i].length c) ∧ InR W P m.fr[i]
  tg : InR W p2 m.tg
theorem MR.step {W W' : World} {p0 p1 p2 : Option Addr} {m : Mc} (h : MR W p0 p1 p2 m) (hb : Below W.heap.size W W') : MR W' p0 p1 p2 m :=
  ⟨fun i hi => by
    obtain ⟨g, o, P, c, e, hg, h1, h2⟩ := h.ed i hi
    exact ⟨g, o, P, c, e, Nat.lt_of_lt_of_le hg hb.size, (hb.cell (p := ⟨g, o + i, none⟩) hg).trans h1, h2.step hb⟩, fun i hi => by
    obtain ⟨g, o, P, c, e, hg, h1, h2⟩ := h.fr i hi
    exact ⟨g, o, P, c, e, Nat.lt_of_lt_of_le hg hb.size, (hb.cell (p := ⟨g, o + i, none⟩) hg).trans h1, h2.step hb⟩, h.tg.step hb⟩
/-- The box of how many states there are; that of the closure that asks it. -/
structure SdB (W : World) (x y k : Nat) : Prop where
  sx : W.heap[x]? = some (.cells #[.int .i64 k] 3 (0, 0))
  sy : W.heap[y]? = some (.cells #[.func (.func 34) #[] #[.pointer (some ⟨x, 0, none⟩)]] 61 (0, 0))
theorem SdB.step {W W' : World} {x y k : Nat} (h : SdB W x y k) (hb : Below W.heap.size W W') : SdB W' x y k :=
  ⟨(hb.block x (Array.getElem?_eq_some_iff.1 h.sx).1).trans h.sx, (hb.block y (Array.getElem?_eq_some_iff.1 h.sy).1).trans h.sy⟩
theorem cell1 {W : World} {b : Nat} {x : Value} {t : TypeId} (h : W.heap[b]? = some (.cells #[x] t (0, 0))) : W.cell? ⟨b, 0, none⟩ = some x := cell_of_row W _ 0 _ _ _ h
set_option maxRecDepth 100000 in
set_option maxHeartbeats 4000000 in
theorem nowhere_c {W : World} {x y k : Nat} {t : Int} (h : SdB W x y k) : Calls Tryd.prog 34 #[.int .i64 t, .pointer (some ⟨x, 0, none⟩)] W fun e W' => e = .returned (.bool (!okI k t)) ∧ Below W.heap.size W W' := by
  have c := cell1 h.sx
  clear h
  by_cases h1 : t < 0
  · have HE : Hid ((!okI k t) = true) := Lib.hid (by unfold okI; simp; omega)
    rw [HE.out]
    go_enter Tryd.func34, Tryd.ntmps34
    go_wp2
    go_ret
    exact ⟨rfl, Below.refl _ _⟩
  · by_cases h2 : (k : Int) ≤ t
    · have HE : Hid ((!okI k t) = true) := Lib.hid (by unfold okI; simp; omega)
      rw [HE.out]
      go_enter Tryd.func34, Tryd.ntmps34
      go_wp2
      go_ret
      exact ⟨rfl, Below.refl _ _⟩
    · have HE : Hid ((!okI k t) = false) := Lib.hid (by unfold okI; simp; omega)
      rw [HE.out]
      go_enter Tryd.func34, Tryd.ntmps34
      go_wp2
      go_ret
      exact ⟨rfl, Below.refl _ _⟩
set_option maxRecDepth 100000 in
set_option maxHeartbeats 4000000 in
theorem wrong_c {W : World} {x y k n c : Nat} {t : Int} {sp : Option Addr} {l : List Sp} (h : SdB W x y k) (hn : n = l.length) (h8 : n ≤ 1000000) (hs : Sl W sp l) : Calls Tryd.prog 35 #[.agg #[.int .i64 t, .slice sp n c], .pointer (some ⟨y, 0, none⟩)] W fun e W' => e = .returned (.bool (!okE k (t, l))) ∧ Below W.heap.size W W' := by
  obtain ⟨V, hV⟩ : ∃ V, V = W.alloc (.cells #[.int .i64 t, .slice sp n c] 47) := ⟨_, rfl⟩
  have hb : Below W.heap.size W V := by rw [hV]; exact (Below.refl _ _).alloc (Nat.le_refl _) _
  have hx : V.heap[W.heap.size]? = some (.cells #[.int .i64 t, .slice sp n c] 47 (0, 0)) := by rw [hV]; exact heap_alloc_new W _
  have hlt := (Array.getElem?_eq_some_iff.1 hx).1
  have HNW := Lib.hid (nowhere_c (t := t) (h.step hb))
  have HIS := Lib.hid (fun (U : World) (hU : Below V.heap.size V U) => isSet_c (c := c) hn h8 ((hs.step hb).step hU))
  have d0 : V.cell? ⟨W.heap.size, 0, none⟩ = some (.int .i64 t) := cell_of_row V _ 0 _ _ _ hx
  have HD1 := Lib.hid (fun (U : World) (hU : Below V.heap.size V U) => (hU.cell (p := ⟨W.heap.size, 1, none⟩) hlt).trans (show V.cell? ⟨W.heap.size, 1, none⟩ = some (.slice sp n c) from cell_of_row V _ 1 _ _ _ hx))
  have c1 := cell1 (h.step hb).sy
  have HB := Lib.hid hb
  clear h hn hs hx hlt hb
  go_enter Tryd.func35, Tryd.ntmps35
  go_upto_region 1 with fail
  rw [← hV]
  clear hV
  go_wp2_with fail
  refine HNW.out.mono ?_
  rintro e w1 ⟨rfl, b1⟩
  have e1 := HD1.out w1 b1
  have HI := Lib.hid (HIS.out w1 b1)
  have HB1 := Lib.hid (HB.out.trans (b1.mono HB.out.size))
  clear b1 d0 c1 HNW
  cases hq : okI k t with
  | false =>
    have HE : Hid ((!okE k (t, l)) = true) := Lib.hid (by unfold okI at hq; unfold okE; simp at hq ⊢; left; omega)
    clear hq
    go_wp2
    go_ret
    exact ⟨by rw [HE.out]; rfl, HB1.out⟩
  | true =>
    have HE : Hid (okE k (t, l) = isSetF 0 l) := Lib.hid (by unfold okI at hq; unfold okE; rw [hq, Bool.true_and])
    clear hq
    go_wp2_with fail
    refine HI.out.mono ?_
    rintro e w2 ⟨rfl, b2⟩
    have HB2 := Lib.hid (HB1.out.trans (b2.mono HB1.out.size))
    clear b2 e1 HI
    generalize isSetF 0 l = q at *
    go_wp2
    go_ret
    exact ⟨by rw [HE.out]; cases q <;> rfl, HB2.out⟩
set_option maxRecDepth 100000 in
set_option maxHeartbeats 8000000 in
theorem idxE_c {W : World} {P : Option Addr} {x y k n c : Nat} {es : List (Int × List Sp)} (h : EdR W P es) (hn : n = es.length) (h8 : n ≤ 9223372036854775807) (hl : ∀ e ∈ es, e.2.length ≤ 1000000) (hb : SdB W x y k) :
    Calls Tryd.prog 48 #[.slice P n c, .func (.func 35) #[] #[.pointer (some ⟨y, 0, none⟩)]] W fun e W' => (∃ z : Int, e = .returned (.int .i64 z) ∧ Hid (0 ≤ z ↔ allE k es = false)) ∧ Below W.heap.size W W' := by
  have HS := Lib.hid h
  have HN := Lib.hid hn
  have HX := Lib.hid hb
  have HL := Lib.hid hl
  clear h hn hb
  go_enter Tryd.func48, Tryd.ntmps48
  go_wp2_with fail
  go_loopg [5, 8] n (fun gk s5 s8 wx => ∃ (r : Nat), r + gk = n ∧ s8 = .int .i64 r ∧ Hid (allE k (es.take r) = true) ∧ Hid (Below W.heap.size W wx))
  case atStart => exact ⟨0, by omega, rfl, Lib.hid rfl, Lib.hid (Below.refl _ _)⟩
  case round =>
    obtain ⟨r, hrg, rfl, HA, HB⟩ := hrel
    cases gk with
    | zero =>
      obtain rfl : r = n := by omega
      have hlt : ¬ (r : Int) < (r : Int) := by omega
      have HE : Hid (allE k es = true) := Lib.hid (by have h := HA.out; rw [List.take_of_length_le (by have := HN.out; omega)] at h; exact h)
      go_wp2
      go_ret
      exact ⟨⟨-1, rfl, Lib.hid (by rw [HE.out]; simp)⟩, HB.out⟩
    | succ gk =>
      have hlt : (r : Int) < (n : Int) := by omega
      have hrl : r < es.length := by have := HN.out; omega
      have h0 : (0 : Int) ≤ (r : Int) := by omega
      have hwr : wrap64 ((r : Int) + 1) = ((r + 1 : Nat) : Int) := by rw [IntWalk.wrap64_in _ (by omega)]; omega
      obtain ⟨g, o, sp, sc, rfl, hg, c1, c2, hsl⟩ := (HS.out.step HB.out) r hrl
      obtain ⟨e, he⟩ : ∃ e, e = es[r] := ⟨_, rfl⟩
      rw [← he] at c1 c2 hsl
      have HEM : Hid (es[r] = e) := Lib.hid he.symm
      obtain ⟨t, l⟩ := e
      dsimp only at c1 c2 hsl
      obtain ⟨ln, hln⟩ : ∃ ln, ln = l.length := ⟨_, rfl⟩
      rw [← hln] at c2
      have HC := Lib.hid (wrong_c (t := t) (c := sc) (HX.out.step HB.out) hln (by rw [hln]; exact HL.out (t, l) (by rw [he]; exact List.getElem_mem hrl)) hsl)
      obtain ⟨q, hq⟩ : ∃ q, q = okE k (t, l) := ⟨_, rfl⟩
      rw [← hq] at HC
      have HQ : Hid (okE k es[r] = q) := Lib.hid (by rw [HEM.out, hq])
      clear he hsl hln hq
      go_wp2_with fail
      refine HC.out.mono ?_
      rintro ee w2 ⟨rfl, b2⟩
      have HB2 := Lib.hid (HB.out.trans (b2.mono HB.out.size))
      clear b2 c1 c2 HC
      cases q with
      | false =>
        have HE : Hid (allE k es = false) := Lib.hid (by
          show List.all es (_) = false
          rw [List.all_eq_false]
          exact ⟨es[r], List.getElem_mem hrl, by rw [HQ.out]; simp⟩)
        go_wp2
        go_ret
        exact ⟨⟨(r : Int), rfl, Lib.hid ⟨fun _ => HE.out, fun _ => h0⟩⟩, HB2.out⟩
      | true =>
        have HA2 : Hid (allE k (es.take (r + 1)) = true) := Lib.hid (by
          have h := HA.out
          unfold allE at h ⊢
          rw [List.take_succ_eq_append_getElem hrl, List.all_append, h]
          simp [HQ.out])
        go_wp2
        go_roundg gk
        case measure => omega
        case rel => exact ⟨r + 1, by omega, by first | rw [hwr] | rfl | simp, HA2, HB2⟩
set_option maxRecDepth 100000 in
set_option maxHeartbeats 4000000 in
theorem contE_c {W : World} {P : Option Addr} {x y k n c : Nat} {es : List (Int × List Sp)} (h : EdR W P es) (hn : n = es.length) (h8 : n ≤ 9223372036854775807) (hl : ∀ e ∈ es, e.2.length ≤ 1000000) (hb : SdB W x y k) :
    Calls Tryd.prog 37 #[.slice P n c, .func (.func 35) #[] #[.pointer (some ⟨y, 0, none⟩)]] W fun e W' => e = .returned (.bool (!allE k es)) ∧ Below W.heap.size W W' := by
  have HI := Lib.hid (idxE_c (c := c) h hn h8 hl hb)
  clear h hn hb hl
  go_enter Tryd.func37, Tryd.ntmps37
  go_wp2_with fail
  refine HI.out.mono ?_
  rintro e w1 ⟨⟨z, rfl, HZ⟩, b1⟩
  have HB := Lib.hid b1
  clear b1 HI
  by_cases hz : 0 ≤ z
  · have HE : Hid (allE k es = false) := Lib.hid (HZ.out.1 hz)
    go_wp2
    go_ret
    exact ⟨by rw [HE.out]; rfl, HB.out⟩
  · have HE : Hid (allE k es = true) := Lib.hid (by
      cases h : allE k es with
      | true => rfl
      | false => exact absurd (HZ.out.2 h) hz)
    go_wp2
    go_ret
    exact ⟨by rw [HE.out]; simp; omega, HB.out⟩
set_option maxRecDepth 100000 in
set_option maxHeartbeats 8000000 in
theorem idxI_c {W : World} {P : Option Addr} {x y k n c : Nat} {es : List Int} (h : InR W P es) (hn : n = es.length) (h8 : n ≤ 9223372036854775807) (hb : SdB W x y k) :
    Calls Tryd.prog 49 #[.slice P n c, .func (.func 34) #[] #[.pointer (some ⟨x, 0, none⟩)]] W fun e W' => (∃ z : Int, e = .returned (.int .i64 z) ∧ Hid (0 ≤ z ↔ allI k es = false)) ∧ Below W.heap.size W W' := by
  have HS := Lib.hid h
  have HN := Lib.hid hn
  have HX := Lib.hid hb
  clear h hn hb
  go_enter Tryd.func49, Tryd.ntmps49
  go_wp2_with fail
  go_loopg [5, 8] n (fun gk s5 s8 wx => ∃ (r : Nat), r + gk = n ∧ s8 = .int .i64 r ∧ Hid (allI k (es.take r) = true) ∧ Hid (Below W.heap.size W wx))
  case atStart => exact ⟨0, by omega, rfl, Lib.hid rfl, Lib.hid (Below.refl _ _)⟩
  case round =>
    obtain ⟨r, hrg, rfl, HA, HB⟩ := hrel
    cases gk with
    | zero =>
      obtain rfl : r = n := by omega
      have hlt : ¬ (r : Int) < (r : Int) := by omega
      have HE : Hid (allI k es = true) := Lib.hid (by have h := HA.out; rw [List.take_of_length_le (by have := HN.out; omega)] at h; exact h)
      go_wp2
      go_ret
      exact ⟨⟨-1, rfl, Lib.hid (by rw [HE.out]; simp)⟩, HB.out⟩
    | succ gk =>
      have hlt : (r : Int) < (n : Int) := by omega
      have hrl : r < es.length := by have := HN.out; omega
      have h0 : (0 : Int) ≤ (r : Int) := by omega
      have hwr : wrap64 ((r : Int) + 1) = ((r + 1 : Nat) : Int) := by rw [IntWalk.wrap64_in _ (by omega)]; omega
      obtain ⟨g, o, rfl, hg, c1⟩ := (HS.out.step HB.out) r hrl
      obtain ⟨t, ht⟩ : ∃ t, t = es[r] := ⟨_, rfl⟩
      rw [← ht] at c1
      have HC := Lib.hid (nowhere_c (t := t) (HX.out.step HB.out))
      obtain ⟨q, hq⟩ : ∃ q, q = okI k t := ⟨_, rfl⟩
      rw [← hq] at HC
      have HQ : Hid (okI k es[r] = q) := Lib.hid (by rw [← ht, hq])
      clear ht hq
      go_wp2_with fail
      refine HC.out.mono ?_
      rintro ee w2 ⟨rfl, b2⟩
      have HB2 := Lib.hid (HB.out.trans (b2.mono HB.out.size))
      clear b2 c1 HC
      cases q with
      | false =>
        have HE : Hid (allI k es = false) := Lib.hid (by
          show List.all es (_) = false
          rw [List.all_eq_false]
          exact ⟨es[r], List.getElem_mem hrl, by rw [HQ.out]; simp⟩)
        go_wp2
        go_ret
        exact ⟨⟨(r : Int), rfl, Lib.hid ⟨fun _ => HE.out, fun _ => h0⟩⟩, HB2.out⟩
      | true =>
        have HA2 : Hid (allI k (es.take (r + 1)) = true) := Lib.hid (by
          have h := HA.out
          unfold allI at h ⊢
          rw [List.take_succ_eq_append_getElem hrl, List.all_append, h]
          simp [HQ.out])
        go_wp2
        go_roundg gk
        case measure => omega
        case rel => exact ⟨r + 1, by omega, by first | rw [hwr] | rfl | simp, HA2, HB2⟩
set_option maxRecDepth 100000 in
set_option maxHeartbeats 4000000 in
theorem contI_c {W : World} {P : Option Addr} {x y k n c : Nat} {es : List Int} (h : InR W P es) (hn : n = es.length) (h8 : n ≤ 9223372036854775807) (hb : SdB W x y k) :
    Calls Tryd.prog 38 #[.slice P n c, .func (.func 34) #[] #[.pointer (some ⟨x, 0, none⟩)]] W fun e W' => e = .returned (.bool (!allI k es)) ∧ Below W.heap.size W W' := by
  have HI := Lib.hid (idxI_c (c := c) h hn h8 hb)
  clear h hn hb
  go_enter Tryd.func38, Tryd.ntmps38
  go_wp2_with fail
  refine HI.out.mono ?_
  rintro e w1 ⟨⟨z, rfl, HZ⟩, b1⟩
  have HB := Lib.hid b1
  clear b1 HI
  by_cases hz : 0 ≤ z
  · have HE : Hid (allI k es = false) := Lib.hid (HZ.out.1 hz)
    go_wp2
    go_ret
    exact ⟨by rw [HE.out]; rfl, HB.out⟩
  · have HE : Hid (allI k es = true) := Lib.hid (by
      cases h : allI k es with
      | true => rfl
      | false => exact absurd (HZ.out.2 h) hz)
    go_wp2
    go_ret
    exact ⟨by rw [HE.out]; simp; omega, HB.out⟩
end Go.Proofs.YtioahgklplbinaaDoor
