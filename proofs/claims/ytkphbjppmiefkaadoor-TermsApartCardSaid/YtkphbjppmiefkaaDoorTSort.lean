/- A map's keys, ints, sorted. -/
import Derived.Test.YtkphbjppmiefkaaDoorTShelf
import Derived.Test.YtkphbjppmiefkaaDoorTMap
import Derived.Test.YtkphbjppmiefkaaDoorTRows
namespace Go.Proofs.YtkphbjppmiefkaaDoor
open Go.RowKit Go.Shelf Go.Maps Go.Sort SetM

theorem sortsI (m : Nat) : AnyZI.SortsIn Tryd.prog Tryd.sortedI_ren Fence.wide m :=
  ⟨fun blk off cap ss W hH hblk hsz => callsIn_wide.2 (AnyM.slices_Sort_int Tryd.sortI blk off cap ss W hH hblk hsz),
   fun p cap W => callsIn_wide.2 (AnyM.slices_Sort_int_none Tryd.sortI p cap W)⟩
theorem keysI_c (mb : Option Nat) (W : World) : Calls Tryd.prog 45 #[.map mb] W fun e w' => e = .returned (.func (.func 60) #[] #[.pointer (some ⟨W.heap.size, 0, none⟩)]) ∧ w' = W.alloc (.cells #[.map mb] 47) :=
  callsIn_wide.1 (AnyZI.keys_in Tryd.keysI Fence.wide 5 trivial rfl mb W)
theorem keysS_c (mb : Option Nat) (W : World) : Calls Tryd.prog 62 #[.map mb] W fun e w' => e = .returned (.func (.func 70) #[] #[.pointer (some ⟨W.heap.size, 0, none⟩)]) ∧ w' = W.alloc (.cells #[.map mb] 74) :=
  callsIn_wide.1 (AnyZI.keys_in Tryd.keysS Fence.wide 5 trivial rfl mb W)
/-- What comes out sorted. -/
def SortPostZ (f : Int → Option Int) (W : World) (e : Ending) (w' : World) : Prop :=
  ∃ P c l, e = .returned (.slice P (List.length l) c) ∧ Zs w' P l ∧ l.Pairwise (· < ·) ∧ (∀ x, x ∈ l ↔ (f x).isSome = true) ∧ (∀ a, P = some a → W.heap.size ≤ a.block) ∧ Below W.heap.size W w'
theorem sort_post {D : DataW Unit} {f : Int → Option Int} {W w' : World} {v : Value} {ss : List Int} (hnd : (intKeys D).Nodup) (hm : ∀ x, x ∈ intKeys D ↔ (f x).isSome = true) (hS : ss.Perm (intKeys D))
    (hrow : w'.ownsRow W.heap.size 3 1 v ss.length ((ss.mergeSort (fun x y => decide (x ≤ y))).map encZ)) (hb : Below W.heap.size W w') : SortPostZ f W (.returned v) w' := by
  obtain ⟨l, hl⟩ : ∃ l, l = ss.mergeSort (fun x y => decide (x ≤ y)) := ⟨_, rfl⟩
  rw [← hl] at hrow
  have hp : l.Perm ss := by rw [hl]; exact List.mergeSort_perm _ _
  have hlen : l.length = ss.length := hp.length_eq
  have hnd2 : l.Nodup := hp.nodup_iff.2 (hS.nodup_iff.2 hnd)
  have hle : l.Pairwise (· ≤ ·) := by
    have := List.pairwise_mergeSort (le := fun x y : Int => decide (x ≤ y)) (fun a b c h1 h2 => by simp only [decide_eq_true_eq] at *; omega) (fun a b => by simp only [Bool.or_eq_true, decide_eq_true_eq]; omega) ss
    rw [← hl] at this
    exact this.imp (fun h => by simpa using h)
  have hlt : l.Pairwise (· < ·) := by
    have := hle.and hnd2
    exact this.imp (fun h => by have := h.1; have := h.2; omega)
  have hmem : ∀ x, x ∈ l ↔ (f x).isSome = true := fun x => by rw [hp.mem_iff, hS.mem_iff, hm]
  rcases hrow.2 with ⟨rfl, h0⟩ | ⟨g, cap, cur, rfl, h1, h2, h3, h4, h6, h5⟩
  · exact ⟨none, 0, l, by rw [hlen, h0], fun hne => absurd (List.eq_nil_of_length_eq_zero (by omega)) hne, hlt, hmem, fun _ h => (by cases h), hb⟩
  · refine ⟨_, cap, l, by rw [hlen], fun _ => ⟨g, 0, rfl, (Array.getElem?_eq_some_iff.1 h2).1, fun j hj => ?_⟩, hlt, hmem, fun a h => (by cases h; exact h1), hb⟩
    have key : w'.cell? ⟨g, j, none⟩ = (l.map encZ)[j]? := by
      rw [cell_of_row w' g j cur _ _ h2, ← h5, List.getElem?_take_of_lt (by omega), Array.getElem?_toList]
    rw [Nat.zero_add, key, List.getElem?_map, List.getElem?_eq_getElem hj]; rfl
set_option maxHeartbeats 1000000 in
theorem sortedI_c (b nn : Nat) (f : Int → Option Int) (w : World) (h : MapF w 3 3 .i64 b nn (onI f)) (hn : nn ≤ 1000000) :
    Calls Tryd.prog 44 #[.func (.func 60) #[] #[.pointer (some ⟨w.heap.size, 0, none⟩)]] (w.alloc (.cells #[.map (some b)] 47)) (SortPostZ f (w.alloc (.cells #[.map (some b)] 47))) := by
  obtain ⟨D0, hown, hnd, hm⟩ := h.keys
  have hbl := hown.lt
  have hsz := hown.size_le
  have hseq : SeqGives Fence.wide 2 Tryd.prog 60 #[.pointer (some ⟨w.heap.size, 0, none⟩)] encZ (fun ss => ss.Perm (intKeys D0)) (Maps.size D0) (w.alloc (.cells #[.map (some b)] 47)) :=
    AnyZI.keys_gives (ρ := Tryd.keysI_ren) { Tryd.keysI with } Fence.wide _ trivial rfl (by omega) w.heap.size b nn D0 _ (by simp) (by simp) (by
      obtain ⟨es, clock, hb, Ft, hs, hD⟩ := hown
      exact ⟨es, clock, (Below.heap_alloc _ _ b hbl).trans hb, Ft, hs, hD⟩)
  refine (callsIn_wide.1 (AnyZI.sorted_in Tryd.sortedI Fence.wide 5 trivial trivial trivial trivial rfl (by omega) (sortsI _) (enters_of Tryd.func59 (by kernel_rfl) rfl) 60 #[.pointer (some ⟨w.heap.size, 0, none⟩)] trivial (enters_of Tryd.func60 (by kernel_rfl) rfl) _ _ (by unfold maxLen; omega) (by omega) _ hseq)).mono ?_
  rintro e w' ⟨v, ss, rfl, hS, hrow, _, hb⟩
  exact sort_post hnd hm hS hrow hb
set_option maxHeartbeats 1000000 in
theorem sortedS_c (b nn : Nat) (f : Int → Option Int) (w : World) (h : MapF w 3 95 .u64 b nn (onI f)) (hn : nn ≤ 1000000) :
    Calls Tryd.prog 44 #[.func (.func 70) #[] #[.pointer (some ⟨w.heap.size, 0, none⟩)]] (w.alloc (.cells #[.map (some b)] 74)) (SortPostZ f (w.alloc (.cells #[.map (some b)] 74))) := by
  obtain ⟨D0, hown, hnd, hm⟩ := h.keys
  have hbl := hown.lt
  have hsz := hown.size_le
  have hseq : SeqGives Fence.wide 2 Tryd.prog 70 #[.pointer (some ⟨w.heap.size, 0, none⟩)] encZ (fun ss => ss.Perm (intKeys D0)) (Maps.size D0) (w.alloc (.cells #[.map (some b)] 74)) :=
    AnyZI.keys_gives (ρ := Tryd.keysS_ren) { Tryd.keysS with } Fence.wide _ trivial rfl (by omega) w.heap.size b nn D0 _ (by simp) (by simp) (by
      obtain ⟨es, clock, hb, Ft, hs, hD⟩ := hown
      exact ⟨es, clock, (Below.heap_alloc _ _ b hbl).trans hb, Ft, hs, hD⟩)
  refine (callsIn_wide.1 (AnyZI.sorted_in Tryd.sortedI Fence.wide 5 trivial trivial trivial trivial rfl (by omega) (sortsI _) (enters_of Tryd.func59 (by kernel_rfl) rfl) 70 #[.pointer (some ⟨w.heap.size, 0, none⟩)] trivial (enters_of Tryd.func70 (by kernel_rfl) rfl) _ _ (by unfold maxLen; omega) (by omega) _ hseq)).mono ?_
  rintro e w' ⟨v, ss, rfl, hS, hrow, _, hb⟩
  exact sort_post hnd hm hS hrow hb
end Go.Proofs.YtkphbjppmiefkaaDoor
