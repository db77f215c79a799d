
/- The document's own answer for layer 1: Norm, Not, Inter, Minus, Size, Same. -/
import Derived.Test.YtkphbjppmiefkaaDoorRefMake
namespace Go.Proofs.YtkphbjppmiefkaaDoor
open Go.RowKit Go.Shelf SetM

theorem kf2 (p q : Bool) : kfOf 2 p q = (p && !q) := by cases p <;> cases q <;> rfl
theorem kf1 (p q : Bool) : kfOf 1 p q = (!p && !q) := by cases p <;> cases q <;> rfl
theorem kf8 (p q : Bool) : kfOf 8 p q = (p && q) := by cases p <;> cases q <;> rfl
theorem kf14 (p q : Bool) : kfOf 14 p q = (p || q) := by cases p <;> cases q <;> rfl
theorem tells_nil (r : Int) : ¬ Tells ([] : List Sp) r := fun h => mem_nil r h.2
theorem wide_set {l : List Sp} {K : Int → Prop} (h : IsSet l K) (hs : ∀ r, K r → Sc r) : Wide l := fun s hm => by
  have hle := nf_le h.1 s hm
  have := hs s.2 ((h.2 s.2).1 ⟨s, hm, hle, Int.le_refl _⟩)
  unfold Sc at this; omega
theorem wide_make {cs : List Int} (h : ∀ c ∈ cs, 0 ≤ c) : Wide (makeF cs) := fun s hm => by
  have hc : ∀ i : Nat, 0 ≤ cs[i]?.getD 0 := fun i => by
    rcases Nat.lt_or_ge i cs.length with hi | hi
    · rw [List.getElem?_eq_getElem hi]; exact h _ (List.getElem_mem hi)
    · rw [List.getElem?_eq_none hi]; exact Int.le_refl _
  have key : ∀ k, ∀ s ∈ mkTo cs k, -9223372036854775808 ≤ s.2 := by
    intro k
    induction k with
    | zero => intro s hs; simp [mkTo] at hs
    | succ j ih =>
      intro s hs
      rw [mkTo_succ, List.mem_append, List.mem_singleton] at hs
      rcases hs with hs | rfl
      · exact ih s hs
      · have h1 := (placeF_in _ (hc (2 * j))).1
        unfold pairF; dsimp only
        have h2 : 0 ≤ cs[2 * j + 1]?.getD 0 % 40 := by omega
        omega
  exact key _ s hm

set_option maxRecDepth 100000 in
set_option maxHeartbeats 1000000 in
theorem rnorm_c {W : World} {P : Option Addr} {c : Nat} {l : List Sp} (hs : Sl W P l) (hl : l.length ≤ 100000) (hw : Wide l) : Calls Tryd.prog 22 #[.slice P l.length c] W (SetStep W (fun r => Tells l r) (4 + 2 * l.length)) := by
  obtain ⟨w, hwW⟩ : ∃ w, w = W := ⟨_, rfl⟩
  rw [← hwW] at hs ⊢
  clear hwW
  have hc := rmake_any P none c 0 l [] 2 (by simp) hl (by simp) hw (fun s h => by simp at h) w hs Spans.nil
  have HC := Lib.hid hc
  clear hc hs hw
  go_enter Tryd.func22, Tryd.ntmps22
  go_wp2_with fail
  refine HC.out.mono ?_
  rintro e w' h
  obtain ⟨v, out, rfl, h2, h3, h4, h5, h6⟩ := h
  go_wp2
  go_ret
  exact SetPost.toStep ⟨v, out, rfl, h2, fun r => (h3 r).trans (by rw [kf2]; have h0 : Tells l r → Sc r := fun h => h.1; have h1 := tells_nil r; simp [h1]; exact h0), by simpa using h4, h5, h6⟩

set_option maxRecDepth 100000 in
set_option maxHeartbeats 1000000 in
theorem rinter_c {W : World} {P Q : Option Addr} {c d : Nat} {l m : List Sp} (hs : Sl W P l) (ht : Sl W Q m) (hl : l.length ≤ 100000) (hm : m.length ≤ 100000) (hw : Wide l) (hv : Wide m) : Calls Tryd.prog 31 #[.slice P l.length c, .slice Q m.length d] W (SetStep W (fun r => Tells l r ∧ Tells m r) (4 + 2 * l.length + 2 * m.length)) := by
  obtain ⟨w, hwW⟩ : ∃ w, w = W := ⟨_, rfl⟩
  rw [← hwW] at hs ht ⊢
  clear hwW
  have hc := rmake_any P Q c d l m 8 (by simp) hl hm hw hv w hs ht
  have HC := Lib.hid hc
  clear hc hs ht hw hv
  go_enter Tryd.func31, Tryd.ntmps31
  go_wp2_with fail
  refine HC.out.mono ?_
  rintro e w' h
  obtain ⟨v, out, rfl, h2, h3, h4, h5, h6⟩ := h
  go_wp2
  go_ret
  exact SetPost.toStep ⟨v, out, rfl, h2, fun r => (h3 r).trans (by rw [kf8]; have h0 : Tells l r → Sc r := fun h => h.1; simp; intro h _; exact h0 h), by simpa using h4, h5, h6⟩

set_option maxRecDepth 100000 in
set_option maxHeartbeats 1000000 in
theorem rminus_c {W : World} {P Q : Option Addr} {c d : Nat} {l m : List Sp} (hs : Sl W P l) (ht : Sl W Q m) (hl : l.length ≤ 100000) (hm : m.length ≤ 100000) (hw : Wide l) (hv : Wide m) : Calls Tryd.prog 32 #[.slice P l.length c, .slice Q m.length d] W (SetStep W (fun r => Tells l r ∧ ¬ Tells m r) (4 + 2 * l.length + 2 * m.length)) := by
  obtain ⟨w, hwW⟩ : ∃ w, w = W := ⟨_, rfl⟩
  rw [← hwW] at hs ht ⊢
  clear hwW
  have hc := rmake_any P Q c d l m 2 (by simp) hl hm hw hv w hs ht
  have HC := Lib.hid hc
  clear hc hs ht hw hv
  go_enter Tryd.func32, Tryd.ntmps32
  go_wp2_with fail
  refine HC.out.mono ?_
  rintro e w' h
  obtain ⟨v, out, rfl, h2, h3, h4, h5, h6⟩ := h
  go_wp2
  go_ret
  exact SetPost.toStep ⟨v, out, rfl, h2, fun r => (h3 r).trans (by rw [kf2]; have h0 : Tells l r → Sc r := fun h => h.1; simp; intro h _; exact h0 h), by simpa using h4, h5, h6⟩

theorem sizeL_take {l : List Sp} (h : ∀ s ∈ l, 0 ≤ s.1 ∧ s.1 ≤ s.2 ∧ s.2 ≤ 1114111) (k : Nat) : 0 ≤ sizeL (l.take k) ∧ sizeL (l.take k) ≤ 1114112 * l.length := by
  have key : ∀ m : List Sp, (∀ s ∈ m, 0 ≤ s.1 ∧ s.1 ≤ s.2 ∧ s.2 ≤ 1114111) → 0 ≤ sizeL m ∧ sizeL m ≤ 1114112 * m.length := by
    intro m
    induction m with
    | nil => simp [sizeL]
    | cons x t ih =>
      intro hm
      obtain ⟨h1, h2, h3⟩ := hm x (by simp)
      have := ih (fun s hs => hm s (by simp [hs]))
      have e : sizeL (x :: t) = (x.2 - x.1 + 1) + sizeL t := by simp [sizeL]
      rw [e, List.length_cons]
      omega
  have h1 := key (l.take k) (fun s hs => h s (List.mem_of_mem_take hs))
  have : (l.take k).length ≤ l.length := by rw [List.length_take]; omega
  omega
set_option maxRecDepth 100000 in
set_option maxHeartbeats 1000000 in
theorem rsize_c {W : World} {P : Option Addr} {c : Nat} {l : List Sp} (hs : Sl W P l) (hl : l.length ≤ 100000) (hw : Wide l) : Calls Tryd.prog 20 #[.slice P l.length c] W (SizePost W l) := by
  obtain ⟨w, hwW⟩ : ∃ w, w = W := ⟨_, rfl⟩
  rw [← hwW] at hs ⊢
  clear hwW
  have HC := Lib.hid (rnorm_c (c := c) hs hl hw)
  clear hs hw
  go_enter Tryd.func20, Tryd.ntmps20
  go_wp2_with fail
  refine HC.out.mono ?_
  rintro e W1 ⟨Q, cq, o, rfl, io, lo, so, _, b1⟩
  have hin : ∀ s ∈ o, 0 ≤ s.1 ∧ s.1 ≤ s.2 ∧ s.2 ≤ 1114111 := fun s hm => by
    have hle := nf_le io.1 s hm
    have h1 := ((io.2 s.1).1 ⟨s, hm, Int.le_refl _, hle⟩).1
    have h2 := ((io.2 s.2).1 ⟨s, hm, hle, Int.le_refl _⟩).1
    unfold Sc at h1 h2; omega
  have HIO := Lib.hid io
  have HIN := Lib.hid hin
  have HSO := Lib.hid so
  have HB1 := Lib.hid b1
  clear HC io hin so b1
  go_wp2
  go_loopg [3, 5] o.length (fun g sn si wx => ∃ k : Nat, k + g = o.length ∧ si = .int .i64 k ∧ sn = .int .i64 (sizeL (o.take k)) ∧ Below W1.heap.size W1 wx)
  case atStart => exact ⟨0, by omega, rfl, by simp [sizeL], Below.refl _ _⟩
  case round =>
    obtain ⟨k, hkg, rfl, rfl, hb⟩ := hrel
    obtain ⟨z0, z1⟩ := sizeL_take HIN.out k
    cases gk with
    | zero =>
      have hkz : ¬ ((k : Int) < (o.length : Int)) := by omega
      rw [show o.take k = o from List.take_of_length_le (by omega)]
      clear z0 z1
      go_wp2
      go_ret
      exact ⟨o, HIO.out.1, HIO.out.2, rfl, HB1.out.trans (hb.mono HB1.out.size)⟩
    | succ g =>
      have hk : k < o.length := by omega
      have hkz : (k : Int) < (o.length : Int) := by omega
      obtain ⟨b, off, rfl, hbb, hc⟩ := HSO.out (by intro h; rw [h] at hk; simp at hk)
      obtain ⟨c0, c1⟩ := hc k hk
      replace c0 := (hb.cell (p := ⟨b, off + k * 2, none⟩) hbb).trans c0
      replace c1 := (hb.cell (p := ⟨b, off + k * 2 + 1, none⟩) hbb).trans c1
      obtain ⟨x0, x1, x2⟩ := HIN.out o[k] (List.getElem_mem hk)
      have hsn : sizeL (o.take (k + 1)) = sizeL (o.take k) + (o[k].2 - o[k].1 + 1) := by rw [List.take_succ_eq_append_getElem hk, sizeL_append]; simp [sizeL]
      have HSN := Lib.hid hsn
      clear hsn hc
      generalize sizeL (o.take k) = sn at *
      generalize o[k] = s at *
      obtain ⟨lo', hi'⟩ := s
      dsimp only at *
      go_wp2
      go_quiet (fail)
      go_wp2
      go_roundg g
      case measure => omega
      case rel => exact ⟨k + 1, by omega, by go_num, by rw [HSN.out], ⟨hb.os, hb.tape, hb.output, hb.size, hb.block⟩⟩
end Go.Proofs.YtkphbjppmiefkaaDoor
