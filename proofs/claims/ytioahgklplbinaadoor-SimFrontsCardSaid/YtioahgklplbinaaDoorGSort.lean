/- slices.Sort and slices.Compact of ints, at a row of the call's own: what comes out rises. -/
import Derived.Test.YtioahgklplbinaaDoorDC
import Derived.Test.YtioahgklplbinaaDoorGShelf
import Derived.Lib.OwnBridge
import Derived.Sort.Grow
namespace SimM
open SetM NfaM Go.Lib
theorem comp_mem (zs : List Int) : ∀ m, m ≤ zs.length → ∀ x, x ∈ compactUpTo zs.toArray m ↔ x ∈ zs.take m
  | 0, _, x => by simp [compactUpTo]
  | m + 1, h, x => by
    have ih := comp_mem zs m (by omega)
    have e : zs.toArray[m]! = zs[m] := by simp [getElem!_pos, show m < zs.length by omega]
    rw [compactUpTo_succ, List.take_succ_eq_append_getElem (by omega), List.mem_append, List.mem_append, ih, e]
    by_cases hk : keeps zs.toArray m = true
    · rw [if_pos hk]
    · rw [if_neg hk]
      have h0 : m ≠ 0 ∧ zs.toArray[m]! = zs.toArray[m - 1]! := by
        simp only [keeps, decide_eq_true_eq] at hk
        exact ⟨fun h => hk (.inl h), Classical.byContradiction (fun h => hk (.inr h))⟩
      have e2 : zs.toArray[m - 1]! = zs[m - 1]'(by omega) := by simp [getElem!_pos, show m - 1 < zs.length by omega]
      rw [e, e2] at h0
      constructor
      · rintro (h | h)
        · exact .inl h
        · cases h
      · rintro (h | h)
        · exact .inl h
        · left
          simp at h
          rw [h, h0.2]
          have : zs[m - 1]'(by omega) ∈ zs.take m := List.mem_take_iff_getElem.2 ⟨m - 1, by omega, rfl⟩
          exact this
theorem comp_rise (zs : List Int) (hs : zs.Pairwise (· ≤ ·)) : ∀ m, m ≤ zs.length → (compactUpTo zs.toArray m).Pairwise (· < ·)
  | 0, _ => by simp [compactUpTo]
  | m + 1, h => by
    have ih := comp_rise zs hs m (by omega)
    have e : zs.toArray[m]! = zs[m] := by simp [getElem!_pos, show m < zs.length by omega]
    rw [compactUpTo_succ, e]
    by_cases hk : keeps zs.toArray m = true
    · rw [if_pos hk, List.pairwise_append]
      refine ⟨ih, by simp, fun a ha b hb => ?_⟩
      simp at hb
      subst hb
      have ha' := (comp_mem zs m (by omega) a).1 ha
      obtain ⟨j, hj, rfl⟩ := List.mem_take_iff_getElem.1 ha'
      have hjm : j < m := by omega
      have h1 : zs[j] ≤ zs[m - 1]'(by omega) := by
        by_cases e3 : j = m - 1
        · subst e3; exact Int.le_refl _
        · exact List.pairwise_iff_getElem.1 hs j (m - 1) (by omega) (by omega) (by omega)
      have h2 : zs[m - 1]'(by omega) ≤ zs[m] := List.pairwise_iff_getElem.1 hs (m - 1) m (by omega) (by omega) (by omega)
      have h3 : zs[m - 1]'(by omega) ≠ zs[m] := fun h3 => by
        have h0 : m = 0 ∨ zs.toArray[m]! ≠ zs.toArray[m - 1]! := by simpa only [keeps, decide_eq_true_eq] using hk
        have e2 : zs.toArray[m - 1]! = zs[m - 1]'(by omega) := by simp [getElem!_pos, show m - 1 < zs.length by omega]
        rw [e, e2] at h0
        rcases h0 with h0 | h0
        · omega
        · exact h0 h3.symm
      omega
    · rw [if_neg hk, List.append_nil]
      exact ih
noncomputable def sortF (l : List Int) : List Int := l.mergeSort (fun x y => decide (x ≤ y))
theorem sort_len (l : List Int) : (sortF l).length = l.length := List.length_mergeSort l
theorem sort_up (l : List Int) : (sortF l).Pairwise (· ≤ ·) := by
  have := List.pairwise_mergeSort (le := fun x y : Int => decide (x ≤ y)) (fun a b c => by simp; omega) (fun a b => by simp; omega) l
  exact this.imp (fun h => by simpa using h)
theorem sort_mem (l : List Int) (x : Int) : x ∈ sortF l ↔ x ∈ l := List.mem_mergeSort
noncomputable def tgsF (l : List Int) : List Int := compact (sortF l)
theorem tgs_mem (l : List Int) (x : Int) : x ∈ tgsF l ↔ x ∈ l := by
  unfold tgsF compact
  rw [comp_mem _ _ (Nat.le_refl _), List.take_length, sort_mem]
theorem tgs_rise (l : List Int) : (tgsF l).Pairwise (· < ·) := comp_rise _ (sort_up l) _ (Nat.le_refl _)
theorem compUp_le (d : Array Int) (m : Nat) : (compactUpTo d m).length ≤ m := by
  unfold compactUpTo
  rw [List.length_map]
  have := List.length_filter_le (keeps d) (List.range m)
  rw [List.length_range] at this
  exact this
theorem tgs_le (l : List Int) : (tgsF l).length ≤ l.length := by
  unfold tgsF compact
  have := compUp_le (sortF l).toArray (sortF l).length
  rw [sort_len] at this
  rw [sort_len]
  exact this
end SimM
namespace Go.Proofs.YtioahgklplbinaaDoor
open Go.RowKit Go.Shelf Go.Sort SetM NfaM SimM
theorem grow_own {W : World} {base : Nat} {v : Value} {n : Nat} {xs : List Value} {e : TypeId} (h : W.ownsRow base e 1 v n xs) (os : Array Obj) : (grow W os).ownsRow base e 1 v n xs :=
  h.kept (row := none) ⟨rfl, rfl, rfl, by rw [size_grow]; omega, fun k hk _ => heap_grow_old W os hk⟩ (by cases v.ownBlock <;> simp)
theorem grown_put {W : World} {q g : Nat} {d : Array Int} (os : Array Obj) : W.grownBy (grow (putRow (Value.int .i64) (Sort.ahead W q) g 0 d) os) (some g) :=
  ⟨rfl, rfl, rfl, by simp [putRow, mapBlock, Sort.ahead, grow], fun k hk hne => by
    rw [heap_grow_old _ _ (by simpa [putRow, mapBlock, Sort.ahead] using hk)]
    have : g ≠ k := fun e => hne (by rw [e])
    simp [putRow, mapBlock, Sort.ahead, Array.getElem?_modify, this]⟩
theorem sort_c {W : World} {base g cap : Nat} {l : List Int} (h : OwI W base (.slice (some ⟨g, 0, none⟩) l.length cap) l) (h8 : l.length ≤ 1000000) :
    Calls Tryd.prog 44 #[.slice (some ⟨g, 0, none⟩) l.length cap] W fun e W' => e = .returned (.tuple #[]) ∧ OwI W' base (.slice (some ⟨g, 0, none⟩) (sortF l).length cap) (sortF l) ∧ W.grownBy W' (some g) := by
  obtain ⟨g', cap', e1, hb, hg, hc, hm, hl, hH⟩ := Lib.holds_of_ownsRow h (by simp)
  simp only [Value.slice.injEq, Option.some.injEq, Addr.mk.injEq, and_true, true_and] at e1
  obtain ⟨rfl, rfl⟩ := e1
  refine (Any.slices_Sort_int Tryd.laysSort g 0 cap l W hH hg (by omega)).mono ?_
  rintro e W' ⟨rfl, n, os, rfl⟩
  refine ⟨rfl, ?_, grown_put os⟩
  have := Lib.ownsRow_putRow (q := n) (k := l.length) (ys := sortF l) h (sort_len l) (Nat.le_refl _)
  rw [show (sortF l).take l.length = sortF l by rw [← sort_len l]; exact List.take_length] at this
  unfold OwI
  rw [sort_len]
  exact grow_own this os
theorem comp_c {W : World} {base g cap : Nat} {l : List Int} (h : OwI W base (.slice (some ⟨g, 0, none⟩) l.length cap) l) (h8 : l.length ≤ 1000000) :
    Calls Tryd.prog 45 #[.slice (some ⟨g, 0, none⟩) l.length cap] W fun e W' => e = .returned (.slice (some ⟨g, 0, none⟩) (Lib.compact l).length cap) ∧ OwI W' base (.slice (some ⟨g, 0, none⟩) (Lib.compact l).length cap) (Lib.compact l) ∧ W.grownBy W' (some g) := by
  obtain ⟨g', cap', e1, hb, hg, hc, hm, hl, hH⟩ := Lib.holds_of_ownsRow h (by simp)
  simp only [Value.slice.injEq, Option.some.injEq, Addr.mk.injEq, and_true, true_and] at e1
  obtain ⟨rfl, rfl⟩ := e1
  refine (Any.slices_Compact_int Tryd.laysComp g 0 cap l W hH (by omega) hc).mono ?_
  rintro e W' ⟨rfl, q, rfl⟩
  have hle : (Lib.compact l).length ≤ l.length := by unfold Lib.compact; exact compUp_le _ _
  refine ⟨rfl, ?_, ?_⟩
  · have := Lib.ownsRow_putRow (q := q) (k := (Lib.compact l).length) (ys := Lib.compact l ++ List.replicate (l.length - (Lib.compact l).length) 0) h (by simp; omega) hle
    rw [List.take_left] at this
    exact this
  · have := grown_put (W := W) (q := q) (g := g) (d := (Lib.compact l ++ List.replicate (l.length - (Lib.compact l).length) 0).toArray) #[]
    rw [grow_empty] at this
    exact this
theorem sort_any {W : World} {base : Nat} {v : Value} {l : List Int} (h : OwI W base v l) (h8 : l.length ≤ 1000000) :
    Calls Tryd.prog 44 #[v] W fun e W' => e = .returned (.tuple #[]) ∧ OwI W' base v (sortF l) ∧ W.grownBy W' v.ownBlock := by
  rcases h.2 with ⟨rfl, h0⟩ | ⟨g, cap, cur, rfl, _⟩
  · obtain rfl : l = [] := List.eq_nil_of_length_eq_zero h0
    refine (Any.slices_Sort_int_none Tryd.laysSort none 0 W).mono ?_
    rintro e W' ⟨rfl, rfl⟩
    have e1 : sortF [] = [] := List.eq_nil_of_length_eq_zero (sort_len [])
    rw [e1]
    exact ⟨rfl, h, grown_refl' _ _⟩
  · refine (sort_c h h8).mono ?_
    rintro e W' ⟨rfl, h1, h2⟩
    rw [sort_len] at h1
    exact ⟨rfl, h1, h2⟩
theorem comp_any {W : World} {base : Nat} {v : Value} {l : List Int} (h : OwI W base v l) (h8 : l.length ≤ 1000000) :
    Calls Tryd.prog 45 #[v] W fun e W' => ∃ v', e = .returned v' ∧ OwI W' base v' (Lib.compact l) ∧ W.grownBy W' v.ownBlock := by
  rcases h.2 with ⟨rfl, h0⟩ | ⟨g, cap, cur, rfl, _⟩
  · obtain rfl : l = [] := List.eq_nil_of_length_eq_zero h0
    refine (Any.slices_Compact_int_empty Tryd.laysComp none 0 W).mono ?_
    rintro e W' ⟨rfl, rfl⟩
    exact ⟨_, rfl, h, grown_refl' _ _⟩
  · refine (comp_c h h8).mono ?_
    rintro e W' ⟨rfl, h1, h2⟩
    exact ⟨_, rfl, h1, h2⟩
end Go.Proofs.YtioahgklplbinaaDoor
