/- Several texts in one: Short, Two, RefUnion. -/
import Derived.Test.YtkphbjppmiefkaaDoorSteps
import Derived.Deep.QuietTactic
import Derived.BigQuiet
import Derived.Test.YtkphbjppmiefkaaDoorRefOps
import Derived.Test.YtkphbjppmiefkaaDoorUnionMath
section

/- SetShort: heavy, short and the walk. -/
namespace Go.Proofs.YtkphbjppmiefkaaDoor
open Go.RowKit Go.Shelf SetM

/-- What short asks of a list. -/
def ShortL (l : List Sp) : Prop := ∀ i (h : i < l.length), l[i].1 ≤ l[i].2 ∧ ((0 ≤ l[i].1 ∧ l[i].2 < 55296) ∨ (57343 < l[i].1 ∧ l[i].2 ≤ 1114111)) ∧ ∀ j (hj : j < l.length), j + 1 = i → l[j].2 + 1 < l[i].1
theorem nf_step : ∀ {l : List Sp}, Nf l → ∀ j (h : j + 1 < l.length), (l[j]'(by omega)).2 + 1 < l[j + 1].1
  | [], _, j, h => by simp at h
  | s :: t, hn, 0, h => by
    have := hn.2.1 (t[0]'(by simpa using h)) (List.getElem_mem _)
    simpa using this
  | s :: t, hn, j + 1, h => by
    have := nf_step hn.2.2 j (by simpa using h)
    simpa using this
theorem short_of {l : List Sp} {K : Int → Prop} (h : IsSet l K) (hs : ∀ r, K r → Sc r) : ShortL l := fun i hi => by
  have hle := nf_le h.1 l[i] (List.getElem_mem hi)
  have hin : ∀ r, l[i].1 ≤ r → r ≤ l[i].2 → Sc r := fun r h1 h2 => hs r ((h.2 r).1 ⟨l[i], List.getElem_mem hi, h1, h2⟩)
  have ha := hin l[i].1 (Int.le_refl _) hle
  have hb := hin l[i].2 hle (Int.le_refl _)
  have hc : ¬ (l[i].1 ≤ 55296 ∧ 55296 ≤ l[i].2) := fun hh => by have := hin 55296 hh.1 hh.2; unfold Sc at this; omega
  unfold Sc at ha hb
  refine ⟨hle, by omega, fun j hj he => ?_⟩
  subst he
  exact nf_step h.1 j hi

/-- One list, laid alone in a slice of slices. -/
theorem rows_one {W : World} {P : Option Addr} {c : Nat} {l : List Sp} (hs : Sl W P l) (hc : P = none → c = 0) :
    RowsAt (W.alloc (.cells #[.slice P l.length c] 28)).heap.size (W.alloc (.cells #[.slice P l.length c] 28)) (some ⟨W.heap.size, 0, none⟩) [l] := fun _ => by
  have hb : Below W.heap.size W (W.alloc (.cells #[.slice P l.length c] 28)) := (Below.refl _ _).alloc (Nat.le_refl _) _
  have hz : (W.alloc (.cells #[.slice P l.length c] 28)).heap.size = W.heap.size + 1 := World.size_alloc _ _
  refine ⟨_, 0, rfl, by omega, fun j hj => ?_⟩
  match j, hj with
  | 0, _ => exact ⟨P, c, by rw [cell_of_row _ W.heap.size _ _ _ _ (heap_alloc_new W _)]; rfl, hs.step hb, hc⟩
theorem total_one (l : List Sp) : total [l] = l.length := by simp [total, flat]

end Go.Proofs.YtkphbjppmiefkaaDoor
end
section

/- The document's own Same; the law's two. -/
namespace Go.Proofs.YtkphbjppmiefkaaDoor
open Go.RowKit Go.Shelf SetM

set_option maxRecDepth 100000 in
set_option maxHeartbeats 2000000 in
theorem rsame_c {W : World} {P Q : Option Addr} {c d : Nat} {l m : List Sp} (hs : Sl W P l) (ht : Sl W Q m) (hl : l.length ≤ 10000) (hm : m.length ≤ 10000) (hw : Wide l) (hv : Wide m) :
    Calls Tryd.prog 24 #[.slice P l.length c, .slice Q m.length d] W fun e W' => ∃ x y, IsSet x (fun r => Tells l r) ∧ IsSet y (fun r => Tells m r) ∧ e = .returned (.bool (decide (x = y))) ∧ Below W.heap.size W W' := by
  have HW := Lib.hid hw
  have HV := Lib.hid hv
  clear hw hv
  go_enter Tryd.func24, Tryd.ntmps24
  go_wp2_with fail
  refine (rnorm_c hs (by omega) HW.out).mono ?_
  rintro e W1 ⟨P1, c1, o1, rfl, I1, L1, S1, _, b1⟩
  replace ht := ht.step b1
  go_wp2_with fail
  refine (rnorm_c ht (by omega) HV.out).mono ?_
  rintro e W2 ⟨P2, c2, o2, rfl, I2, L2, S2, _, b2⟩
  replace S1 := S1.step b2
  have HB := Lib.hid (b1.trans (b2.mono b1.size))
  have H1 := Lib.hid I1
  have H2 := Lib.hid I2
  clear b1 b2 I1 I2 hs ht
  go_wp2_with fail
  refine (alike_c S1 S2 (by omega) (by omega)).mono ?_
  rintro e W3 ⟨rfl, b3⟩
  have HB3 := Lib.hid (HB.out.trans (b3.mono HB.out.size))
  clear b3
  generalize hq : decide (o1 = o2) = q at *
  have HQ := Lib.hid hq
  clear hq
  go_wp2
  go_ret
  exact ⟨o1, o2, H1.out, H2.out, by rw [HQ.out]; rfl, HB3.out⟩

end Go.Proofs.YtkphbjppmiefkaaDoor
end
section
/- The document's own Union. -/
namespace Go.Proofs.YtkphbjppmiefkaaDoor
open Go.RowKit Go.Shelf SetM

theorem unionSet_len {ls : List (List Sp)} {k : Nat} {o : List Sp} (h : IsSet o (fun r => ∃ a ∈ ls.take k, Tells a r)) (ht : total ls ≤ 20000) : o.length ≤ 40004 := by
  have h1 := nf_len (l := (ls.take k).flatten) h.1 (fun r => (h.2 r).trans (tells_flat _ r))
  have h2 : (ls.take k).flatten.length ≤ total ls := by
    unfold total flat
    have e : ls.flatten = (ls.take k).flatten ++ (ls.drop k).flatten := by rw [← List.flatten_append, List.take_append_drop]
    rw [e, List.length_append]; omega
  omega
theorem unionSet_wide {ls : List (List Sp)} {k : Nat} {o : List Sp} (h : IsSet o (fun r => ∃ a ∈ ls.take k, Tells a r)) : Wide o :=
  wide_set h (fun _ ⟨_, _, ht⟩ => ht.1)
theorem unionSet_next {ls : List (List Sp)} {k : Nat} {o o' : List Sp} (hk : k < ls.length) (h : IsSet o (fun r => ∃ a ∈ ls.take k, Tells a r)) (h' : IsSet o' (fun r => Sc r ∧ kfOf 14 (decide (Tells o r)) (decide (Tells ls[k] r)) = true)) : IsSet o' (fun r => ∃ a ∈ ls.take (k + 1), Tells a r) := by
  have ht := h.tells (fun _ ⟨_, _, ht⟩ => ht.1)
  refine h'.congr (fun r => ?_)
  rw [kf14, List.take_succ_eq_append_getElem hk]
  simp only [Bool.or_eq_true, decide_eq_true_eq, ht r, List.mem_append, List.mem_singleton]
  constructor
  · rintro ⟨_, ⟨a, ha, h⟩ | h⟩
    · exact ⟨a, .inl ha, h⟩
    · exact ⟨_, .inr rfl, h⟩
  · rintro ⟨a, ha | rfl, h⟩
    · exact ⟨h.1, .inl ⟨a, ha, h⟩⟩
    · exact ⟨h.1, .inr h⟩

set_option maxRecDepth 100000 in
set_option maxHeartbeats 2000000 in
theorem runion_any (A : Option Addr) (ca : Nat) (ls : List (List Sp)) (hl : ls.length ≤ 20000) (ht : total ls ≤ 20000) (hw : ∀ a ∈ ls, Wide a) (w : World) (hR : RowsAt w.heap.size w A ls) :
    Calls Tryd.prog 23 #[.slice A ls.length ca] w (SetStep w (fun r => ∃ a ∈ ls, Tells a r) 40004) := by
  have HR := Lib.hid hR
  have HW := Lib.hid hw
  have HT := Lib.hid ht
  clear hR hw ht
  go_enter Tryd.func23, Tryd.ntmps23
  go_wp2
  go_loopg [3, 4] ls.length (fun g s3 s4 wx => ∃ (k : Nat) (P : Option Addr) (c : Nat) (o : List Sp), k + g = ls.length ∧ s4 = .int .i64 k ∧ s3 = .slice P o.length c ∧ Hid (IsSet o (fun r => ∃ a ∈ ls.take k, Tells a r)) ∧ Sl wx P o ∧ (P = none → c = 0) ∧ Below w.heap.size w wx)
  case atStart => exact ⟨0, none, 0, [], by omega, rfl, rfl, Lib.hid ⟨trivial, fun r => by simp [Mem]⟩, Spans.nil, fun _ => rfl, Below.refl _ _⟩
  case round =>
    obtain ⟨k, P, c, o, hkg, rfl, rfl, HI, hs, hc, hb⟩ := hrel
    cases gk with
    | zero =>
      have hkz : ¬ ((k : Int) < (ls.length : Int)) := by omega
      have hI : IsSet o (fun r => ∃ a ∈ ls, Tells a r) := by have := HI.out; rwa [List.take_of_length_le (by omega)] at this
      have hlen := unionSet_len HI.out HT.out
      have HI2 := Lib.hid hI
      have HS := Lib.hid hs
      clear hI hs
      go_wp2
      go_ret
      exact ⟨P, c, o, rfl, HI2.out, hlen, HS.out, hc, hb⟩
    | succ g =>
      have hk : k < ls.length := by omega
      have hkz : (k : Int) < (ls.length : Int) := by omega
      obtain ⟨b, off, rfl, hbb, hrow⟩ := HR.out (by intro h; rw [h] at hk; simp at hk)
      obtain ⟨Q, d, h1, h2, h3⟩ := hrow k hk
      have c0 := (hb.cell (p := ⟨b, off + k, none⟩) hbb).trans h1
      have hlo := unionSet_len HI.out HT.out
      have hlk : ls[k].length ≤ 20000 := by
        have e := total_take ls k hk
        have h4 : (flat (ls.take (k + 1))).length ≤ total ls := by
          unfold total flat
          have e : ls.flatten = (ls.take (k + 1)).flatten ++ (ls.drop (k + 1)).flatten := by rw [← List.flatten_append, List.take_append_drop]
          rw [e, List.length_append]; omega
        rw [e, List.length_append] at h4
        have := HT.out
        omega
      have hsq : Sl wr Q ls[k] := (Spans.below hb h2).mono hb.size
      have HMK := Lib.hid (rmake_any P Q c d o ls[k] 14 (by simp) (by omega) (by omega) (unionSet_wide HI.out) (HW.out _ (List.getElem_mem hk)) wr hs hsq)
      have HNX := Lib.hid (fun (o' : List Sp) h' => unionSet_next (o' := o') hk HI.out h')
      clear hrow h1 h2 hs hsq
      generalize ls[k] = lk at *
      go_wp2_with fail
      refine HMK.out.mono ?_
      rintro e w' h
      obtain ⟨P2, c2, o2, rfl, i2, _, s2, z2, b2⟩ := h.toStep
      have HI2 := Lib.hid (HNX.out o2 i2)
      have hb2 := hb.trans (b2.mono hb.size)
      clear i2 b2 hb HMK HNX
      go_wp2
      go_roundg g
      case measure => omega
      case rel => exact ⟨k + 1, P2, c2, o2, by omega, by go_num, rfl, HI2, s2, z2, hb2⟩
end Go.Proofs.YtkphbjppmiefkaaDoor
end
