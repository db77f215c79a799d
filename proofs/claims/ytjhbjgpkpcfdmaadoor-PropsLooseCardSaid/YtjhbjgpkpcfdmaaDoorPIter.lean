/- A map's keys, sorted: the library's contracts on slices.Sorted and maps.Keys; props.Names. -/
import Derived.Test.YtjhbjgpkpcfdmaaDoorPIShelf
import Derived.Test.YtjhbjgpkpcfdmaaDoorPMap
import Derived.Sort.KeysCollected
namespace Go.Proofs.YtjhbjgpkpcfdmaaDoor
open Go.RowKit Go.Shelf Go.Maps Go.Sort SetM PropsM

theorem sortsP (m : Nat) : AnyZ.SortsIn Tryd.prog Tryd.sortedP_ren Fence.wide m :=
  ⟨fun blk off cap ss W hH hblk hsz => callsIn_wide.2 (AnyM.slices_Sort_string Tryd.sortP blk off cap ss W hH hblk hsz),
   fun p cap W => callsIn_wide.2 (AnyM.slices_Sort_string_none Tryd.sortP p cap W)⟩
theorem keys_c (mb : Option Nat) (W : World) : Calls Tryd.prog 25 #[.map mb] W fun e w' => e = .returned (.func (.func 39) #[] #[.pointer (some ⟨W.heap.size, 0, none⟩)]) ∧ w' = W.alloc (.cells #[.map mb] 45) :=
  callsIn_wide.1 (AnyZ.keys_in Tryd.keysP Fence.wide 5 trivial rfl mb W)

set_option maxHeartbeats 1000000 in
theorem sorted_keys {H : Type} (b nn : Nat) (D0 : DataW H) (R : Value → Option (DataW H × List MemPlace)) (w : World) (hown : w.ownsMap Tryd.prog 9 R b nn D0) (hmax : Maps.size D0 ≤ maxLen) (hbytes : Maps.size D0 * 16 ≤ 140737488355328) :
    Calls Tryd.prog 24 #[.func (.func 39) #[] #[.pointer (some ⟨w.heap.size, 0, none⟩)]] (w.alloc (.cells #[.map (some b)] 45)) fun e w' => ∃ (v : Value) (ss : List (List UInt8)), e = .returned v ∧ ss.Perm (strKeys D0) ∧
      w'.ownsRow (w.alloc (.cells #[.map (some b)] 45)).heap.size 9 1 v ss.length ((ss.mergeSort (fun x y => decide (x ≤ y))).map encStr) ∧ (v = .slice none 0 0 ↔ ss = []) ∧ Below (w.alloc (.cells #[.map (some b)] 45)).heap.size (w.alloc (.cells #[.map (some b)] 45)) w' := by
  have hbl := hown.lt
  have hseq : SeqGives Fence.wide 2 Tryd.prog 39 #[.pointer (some ⟨w.heap.size, 0, none⟩)] encStr (fun ss => ss.Perm (strKeys D0)) (Maps.size D0) (w.alloc (.cells #[.map (some b)] 45)) :=
    AnyZ.keys_gives (ρ := Tryd.keysP_ren) { Tryd.keysP with } Fence.wide _ trivial rfl (by omega) w.heap.size b nn D0 _ (by simp) (by simp) (by
      obtain ⟨es, clock, hb, Ft, hs, hD⟩ := hown
      exact ⟨es, clock, (Below.heap_alloc _ _ b hbl).trans hb, Ft, hs, hD⟩)
  exact callsIn_wide.1 (AnyZ.sorted_in Tryd.sortedP Fence.wide 5 trivial trivial trivial trivial rfl (by omega) (sortsP _) (enters_of Tryd.func38 (by kernel_rfl) rfl) 39 #[.pointer (some ⟨w.heap.size, 0, none⟩)] trivial (enters_of Tryd.func39 (by kernel_rfl) rfl) _ _ hmax hbytes _ hseq)
theorem keys_mkD {vs : List Value} (h : vs.length = 13) : strKeys (mkD vs) = namesL := by
  unfold mkD strKeys
  dsimp only
  rw [List.map_map]
  have h1 : namesL.length = vs.length := h.symm
  have e : ((fun p : Lit × DataW Value => strOf p.1) ∘ fun p : Bs × Value => (Lit.string p.1, DataW.held p.2)) = Prod.fst := rfl
  rw [e, List.map_fst_zip (by omega)]
theorem size_mkD {vs : List Value} (h : vs.length = 13) : Maps.size (mkD vs) = 13 := by
  have h1 : namesL.length = 13 := rfl
  unfold mkD; rw [Maps.size_eq, List.length_map, List.length_zip]; omega
theorem names_sorted : namesL.mergeSort (fun x y => decide (x ≤ y)) = namesL := List.mergeSort_of_pairwise (by decide)
theorem strs_of {W : World} {base : Nat} {v : Value} {l : List Bs} (h : W.ownsRow base 9 1 v l.length (l.map encStr)) : ∃ P c, v = .slice P l.length c ∧ Strs W.heap.size W P l := by
  rcases h.2 with ⟨rfl, h0⟩ | ⟨g, cap, cur, rfl, hb, hg, h1, h2, h3, h4⟩
  · exact ⟨none, 0, by rw [h0], fun hne => absurd (List.eq_nil_of_length_eq_zero h0) hne⟩
  · refine ⟨_, cap, rfl, fun _ => ⟨g, 0, rfl, (Array.getElem?_eq_some_iff.1 hg).1, fun j hj => ?_⟩⟩
    have key : W.cell? ⟨g, j, none⟩ = (l.map encStr)[j]? := by
      rw [cell_of_row W g j cur _ _ hg, ← h4, List.getElem?_take_of_lt (by omega), Array.getElem?_toList]
    rw [Nat.zero_add, key, List.getElem?_map, List.getElem?_eq_getElem hj]; rfl

set_option maxRecDepth 100000 in
set_option maxHeartbeats 2000000 in
theorem names_any (w : World) : Calls Tryd.prog 11 #[] w fun e w' => ∃ P c, e = .returned (.slice P 13 c) ∧ Strs w'.heap.size w' P namesL ∧ Below w.heap.size w w' := by
  go_enter Tryd.func11, Tryd.ntmps11
  go_wp2_with fail
  refine (classes_any _).mono ?_
  rintro e w1 ⟨B, rfl, ⟨vs, hv, _, hown⟩, b1⟩
  have HS := Lib.hid (size_mkD hv)
  have HK := Lib.hid (keys_mkD hv)
  have HOWN := Lib.hid hown
  clear hv hown
  go_wp2_with fail
  refine (keys_c _ _).mono ?_
  rintro e w2 ⟨rfl, rfl⟩
  go_wp2_with fail
  refine (sorted_keys B 13 (mkD vs) Rv w1 HOWN.out (by rw [HS.out]; unfold maxLen; omega) (by rw [HS.out]; omega)).mono ?_
  rintro e w3 ⟨v, ss, rfl, hS, hrow, _, hb⟩
  have hm : ss.mergeSort (fun x y => decide (x ≤ y)) = namesL := by
    have h1 := mergeSort_of_perm hS
    rw [HK.out, names_sorted] at h1
    exact h1
  have hl : ss.length = 13 := by rw [hS.length_eq, HK.out]; rfl
  rw [hm, hl] at hrow
  obtain ⟨P, c, rfl, hst⟩ := strs_of (l := namesL) hrow
  go_wp2
  go_ret
  exact ⟨P, c, rfl, hst, b1.trans (((Below.refl _ w1).alloc (Nat.le_refl _) _).trans (hb.mono (by rw [World.size_alloc]; omega)) |>.mono b1.size)⟩
end Go.Proofs.YtjhbjgpkpcfdmaaDoor
