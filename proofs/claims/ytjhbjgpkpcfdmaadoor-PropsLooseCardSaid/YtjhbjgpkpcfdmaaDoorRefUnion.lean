/- The document's own Union. -/
import Derived.Test.YtjhbjgpkpcfdmaaDoorRefOps
import Derived.Test.YtjhbjgpkpcfdmaaDoorUnionMath
namespace Go.Proofs.YtjhbjgpkpcfdmaaDoor
open Go.RowKit Go.Shelf SetM

theorem unionSet_len {ls : List (List Sp)} {k : Nat} {o : List Sp} (h : IsSet o (fun r => ∃ a ∈ ls.take k, Tells a r)) (ht : total ls ≤ 20000) : o.length ≤ 40004 := by
  have h1 := nf_len (l := (ls.take k).flatten) h.1 (fun r => (h.2 r).trans (tells_flat _ r))
  have h2 : (ls.take k).flatten.length ≤ total ls := by
    unfold total flat
    have e : ls.flatten = (ls.take k).flatten ++ (ls.drop k).flatten := by rw [← List.flatten_append, List.take_append_drop]
    rw [e, List.length_append]; omega
  omega
theorem unionSet_wide {ls : List (List Sp)} {k : Nat} {o : List Sp} (h : IsSet o (fun r => ∃ a ∈ ls.take k, Tells a r)) : Wide o :=
  wide_set h (fun _ ⟨_, _, ht⟩ => ht.1)
theorem unionSet_next {ls : List (List Sp)} {k : Nat} {o o' : List Sp} (hk : k < ls.length) (h : IsSet o (fun r => ∃ a ∈ ls.take k, Tells a r)) (h' : IsSet o' (fun r => Sc r ∧ kfOf 14 (decide (Tells o r)) (decide (Tells ls[k] r)) = true)) : IsSet o' (fun r => ∃ a ∈ ls.take (k + 1), Tells a r) := by
  have ht := h.tells (fun _ ⟨_, _, ht⟩ => ht.1)
  refine h'.congr (fun r => ?_)
  rw [kf14, List.take_succ_eq_append_getElem hk]
  simp only [Bool.or_eq_true, decide_eq_true_eq, ht r, List.mem_append, List.mem_singleton]
  constructor
  · rintro ⟨_, ⟨a, ha, h⟩ | h⟩
    · exact ⟨a, .inl ha, h⟩
    · exact ⟨_, .inr rfl, h⟩
  · rintro ⟨a, ha | rfl, h⟩
    · exact ⟨h.1, .inl ⟨a, ha, h⟩⟩
    · exact ⟨h.1, .inr h⟩

set_option maxRecDepth 100000 in
set_option maxHeartbeats 2000000 in
theorem runion_any (A : Option Addr) (ca : Nat) (ls : List (List Sp)) (hl : ls.length ≤ 20) (ht : total ls ≤ 20000) (hw : ∀ a ∈ ls, Wide a) (w : World) (hR : RowsAt w.heap.size w A ls) :
    Calls Tryd.prog 32 #[.slice A ls.length ca] w (SetStep w (fun r => ∃ a ∈ ls, Tells a r) 40004) := by
  have HR := Lib.hid hR
  have HW := Lib.hid hw
  have HT := Lib.hid ht
  clear hR hw ht
  go_enter Tryd.func32, Tryd.ntmps32
  go_wp2
  go_loopg [3, 4] ls.length (fun g s3 s4 wx => ∃ (k : Nat) (P : Option Addr) (c : Nat) (o : List Sp), k + g = ls.length ∧ s4 = .int .i64 k ∧ s3 = .slice P o.length c ∧ Hid (IsSet o (fun r => ∃ a ∈ ls.take k, Tells a r)) ∧ Sl wx P o ∧ (P = none → c = 0) ∧ Below w.heap.size w wx)
  case atStart => exact ⟨0, none, 0, [], by omega, rfl, rfl, Lib.hid ⟨trivial, fun r => by simp [Mem]⟩, Spans.nil, fun _ => rfl, Below.refl _ _⟩
  case round =>
    obtain ⟨k, P, c, o, hkg, rfl, rfl, HI, hs, hc, hb⟩ := hrel
    cases gk with
    | zero =>
      have hkz : ¬ ((k : Int) < (ls.length : Int)) := by omega
      have hI : IsSet o (fun r => ∃ a ∈ ls, Tells a r) := by have := HI.out; rwa [List.take_of_length_le (by omega)] at this
      have hlen := unionSet_len HI.out HT.out
      have HI2 := Lib.hid hI
      have HS := Lib.hid hs
      clear hI hs
      go_wp2
      go_ret
      exact ⟨P, c, o, rfl, HI2.out, hlen, HS.out, hc, hb⟩
    | succ g =>
      have hk : k < ls.length := by omega
      have hkz : (k : Int) < (ls.length : Int) := by omega
      obtain ⟨b, off, rfl, hbb, hrow⟩ := HR.out (by intro h; rw [h] at hk; simp at hk)
      obtain ⟨Q, d, h1, h2, h3⟩ := hrow k hk
      have c0 := (hb.cell (p := ⟨b, off + k, none⟩) hbb).trans h1
      have hlo := unionSet_len HI.out HT.out
      have hlk : ls[k].length ≤ 20000 := by
        have e := total_take ls k hk
        have h4 : (flat (ls.take (k + 1))).length ≤ total ls := by
          unfold total flat
          have e : ls.flatten = (ls.take (k + 1)).flatten ++ (ls.drop (k + 1)).flatten := by rw [← List.flatten_append, List.take_append_drop]
          rw [e, List.length_append]; omega
        rw [e, List.length_append] at h4
        have := HT.out
        omega
      have hsq : Sl wr Q ls[k] := (Spans.below hb h2).mono hb.size
      have HMK := Lib.hid (rmake_any P Q c d o ls[k] 14 (by simp) (by omega) (by omega) (unionSet_wide HI.out) (HW.out _ (List.getElem_mem hk)) wr hs hsq)
      have HNX := Lib.hid (fun (o' : List Sp) h' => unionSet_next (o' := o') hk HI.out h')
      clear hrow h1 h2 hs hsq
      generalize ls[k] = lk at *
      go_wp2_with fail
      refine HMK.out.mono ?_
      rintro e w' h
      obtain ⟨P2, c2, o2, rfl, i2, _, s2, z2, b2⟩ := h.toStep
      have HI2 := Lib.hid (HNX.out o2 i2)
      have hb2 := hb.trans (b2.mono hb.size)
      clear i2 b2 hb HMK HNX
      go_wp2
      go_roundg g
      case measure => omega
      case rel => exact ⟨k + 1, P2, c2, o2, by omega, by go_num, rfl, HI2, s2, z2, hb2⟩
end Go.Proofs.YtjhbjgpkpcfdmaaDoor
