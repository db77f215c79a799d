/- The document's own cut. -/
import Derived.Test.YtgaalkcociifmaaDoorSKnown
import Derived.Test.YtgaalkcociifmaaDoorURenc
import Derived.StillTailTactics
namespace Go.Proofs.YtgaalkcociifmaaDoor
open Go.RowKit Go.Shelf SeqM
open U.UtfM (enc)

theorem infoRg : (Tryd.prog.info? 64).map (fun i => (i.zero, i.size, i.bytes)) = some (some (.agg #[.int .u8 0, .int .u8 0]), 2, 2) := by kernel_rfl
/-- A row's block begins with its ranges. -/
def RgIn (x : RowEl) (X : World) : Prop := ∃ cur, X.heap[x.1]? = some (.cells cur 64 (0, 0)) ∧ cur.toList.take ((rowOf x.2.2).length * 2) = cellsR (rowOf x.2.2)
theorem RgIn.kept {W W' : World} {row : Option Nat} {x : RowEl} (h : RgIn x W) (hg : W.grownBy W' row) (hr : ∀ r, row = some r → ∃ cs t fr, W.heap[r]? = some (.cells cs t fr) ∧ t ≠ 64) : RgIn x W' := by
  obtain ⟨cur, h1, h2⟩ := h
  refine ⟨cur, (hg.block x.1 (Array.getElem?_eq_some_iff.1 h1).1 (fun he => ?_)).trans h1, h2⟩
  obtain ⟨cs, t, fr, h3, h4⟩ := hr x.1 he.symm
  rw [h3] at h1; cases h1; exact h4 rfl
theorem RgIn.step {W W' : World} {x : RowEl} (h : RgIn x W) (hb : Below W.heap.size W W') : RgIn x W' := h.kept (below_grown hb) (fun _ e => by cases e)
theorem RgIn.rgs {X : World} {x : RowEl} (h : RgIn x X) : Rgs X (some ⟨x.1, 0, none⟩) (rowOf x.2.2) := by
  obtain ⟨cur, h1, h2⟩ := h
  refine ⟨rowOf_rg _, fun _ => ⟨x.1, 0, rfl, (Array.getElem?_eq_some_iff.1 h1).1, fun j hj => ?_⟩⟩
  have hd : ∀ i, i < 2 → X.cell? ⟨x.1, 0 + j * 2 + i, none⟩ = (encR (rowOf x.2.2)[j])[i]? := fun i hi => by
    have h3 := congrArg (fun l : List Value => l[0 + j * 2 + i]?) h2
    rw [List.getElem?_take_of_lt (by omega)] at h3
    rw [cell_of_row X x.1 _ _ _ _ h1, ← Array.getElem?_toList, h3, cellsR_get _ _ (by omega), show (0 + j * 2 + i) / 2 = j from by omega, show (0 + j * 2 + i) % 2 = i from by omega, List.getElem?_eq_getElem hj]; rfl
  exact ⟨hd 0 (by omega), hd 1 (by omega)⟩
/-- A slice of the call's own, read as rows. -/
theorem rws_of2 {X : World} {base : Nat} {v : Value} {zs : List RowEl} {L : List Sp} (h : X.ownsRow base 37 1 v zs.length (zs.map sv)) (hin : ∀ x ∈ zs, RgIn x X) (hL : zs.map (·.2.2) = L) :
    ∃ P c, v = .slice P (L.map rowOf).length c ∧ Rws X P (L.map rowOf) := by
  subst hL
  rcases h.2 with ⟨rfl, h0⟩ | ⟨g, cap, cur, rfl, hb, hg, h1, h2, h3, h4⟩
  · refine ⟨none, 0, by simp [h0], fun hne => absurd ?_ hne⟩
    rw [List.eq_nil_of_length_eq_zero h0]; rfl
  · refine ⟨_, cap, by simp, fun _ => ⟨g, 0, rfl, (Array.getElem?_eq_some_iff.1 hg).1, fun j hj => ?_⟩⟩
    have hjz : j < zs.length := by simpa using hj
    refine ⟨some ⟨zs[j].1, 0, none⟩, zs[j].2.1, ?_, ?_⟩
    · rw [cell_of_row X g _ cur _ _ hg, ← Array.getElem?_toList, Nat.zero_add]
      have h5 := congrArg (fun (l : List Value) => l[j]?) h4
      simp only [Nat.mul_one] at h5
      rw [List.getElem?_take_of_lt hjz, List.getElem?_map, List.getElem?_eq_getElem hjz] at h5
      rw [h5]
      simp [sv]
    · have := (hin zs[j] (List.getElem_mem hjz)).rgs
      simpa using this
/-- Rows that were made, in a slice of the call's own. -/
def CutP (w : World) (L : List Sp) (e : Ending) (w' : World) : Prop :=
  ∃ v zs, e = .returned v ∧ w'.ownsRow w.heap.size 37 1 v (List.length zs) (zs.map sv) ∧ (∀ z ∈ zs, RgIn z w') ∧ zs.map (·.2.2) = L ∧ Below w.heap.size w w'
theorem own_form {W : World} {base : Nat} {e : TypeId} {size k : Nat} {v : Value} {xs : List Value} (h : W.ownsRow base e size v k xs) (hk : 0 < k) : ∃ g cap, v = .slice (some ⟨g, 0, none⟩) k cap := by
  obtain ⟨j, rfl⟩ : ∃ j, k = j + 1 := ⟨k - 1, by omega⟩
  exact ownsRow_succ h
theorem sv_one (zs : List RowEl) : ∀ u ∈ zs.map sv, u.oneCell' = true := fun u hu => by obtain ⟨z, _, rfl⟩ := List.mem_map.1 hu; rfl
/-- Such a slice appended to another. -/
theorem cut_append {w W W' : World} {v v' : Value} {zs zs2 : List RowEl} (hb : Below w.heap.size w W) (h1 : W.ownsRow w.heap.size 37 1 v zs.length (zs.map sv)) (hin : ∀ z ∈ zs, RgIn z W) (hin2 : ∀ z ∈ zs2, RgIn z W)
    (h' : W'.ownsRow w.heap.size 37 1 v' (zs.length + zs2.length) (zs.map sv ++ zs2.map sv)) (hg : W.grownBy W' v.ownBlock) : CutP w ((zs ++ zs2).map (·.2.2)) (.returned v') W' := by
  refine ⟨v', zs ++ zs2, rfl, by rw [List.length_append, List.map_append]; exact h', fun z hz => ?_, rfl, hb.grown hg hb.size (fun j e => (h1.lt j e).1)⟩
  have hk : RgIn z W := by
    rcases List.mem_append.1 hz with hz | hz
    · exact hin z hz
    · exact hin2 z hz
  refine hk.kept hg (fun r e => ?_)
  rcases h1.2 with ⟨rfl, _⟩ | ⟨g, cap, cur, rfl, _, hgb, _⟩
  · simp [Value.ownBlock] at e
  · obtain rfl : g = r := by simpa [Value.ownBlock] using e
    exact ⟨_, _, _, hgb, by decide⟩

set_option maxRecDepth 100000 in
set_option maxHeartbeats 2000000 in
theorem rboth_c (n : Nat) (a x b : Int) (hx : -1000000 ≤ x ∧ x ≤ 2000000) (L1 L2 : List Sp) (hl1 : L1.length ≤ 1200000) (hl2 : L2.length ≤ 1200000) (hp2 : 0 < L2.length) (h1 : ∀ w, Calls Tryd.prog 42 #[.int .i64 a, .int .i64 (x - 1), .int .i64 n] w (CutP w L1)) (h2 : ∀ w, Calls Tryd.prog 42 #[.int .i64 x, .int .i64 b, .int .i64 n] w (CutP w L2)) (w : World) :
    Calls Tryd.prog 62 #[.int .i64 a, .int .i64 x, .int .i64 b, .int .i64 n] w (CutP w (L1 ++ L2)) := by
  obtain ⟨i0, hi, hz0, hz1, hz2⟩ := info_parts infoR
  have H1 := Lib.hid h1
  have H2 := Lib.hid h2
  clear h1 h2
  go_enter Tryd.func62, Tryd.ntmps62
  go_wp2_with fail
  refine (H1.out _).mono ?_
  rintro e W1 ⟨v1, zs1, rfl, o1, in1, e1, b1⟩
  have HE1 := Lib.hid e1
  have hz1l : zs1.length ≤ 1200000 := by have := congrArg List.length e1; simp at this; omega
  clear e1
  go_wp2_with fail
  refine (H2.out _).mono ?_
  rintro e W2 ⟨v2, zs2, rfl, o2, in2, e2, b2⟩
  have HE2 := Lib.hid e2
  have hz2l : zs2.length ≤ 1200000 ∧ 0 < zs2.length := by have := congrArg List.length e2; simp at this; omega
  obtain ⟨g2, c2, rfl⟩ := own_form o2 hz2l.2
  have o1' := o1.kept (below_grown b2) (by cases v1.ownBlock <;> simp)
  have hb := b1.trans (b2.mono b1.size)
  have hnews := o2.cells (g := g2) rfl
  have HO1 := Lib.hid o1'
  have HNW := Lib.hid hnews
  have HIN1 := Lib.hid (fun z hz => (in1 z hz).step b2)
  have HIN2 := Lib.hid in2
  clear e2 o1 o2 o1' hnews in1 in2 b1 b2 H1 H2
  go_wp2_with (at_builtin; refine wpList_append_own _ rfl _ _ 27 rfl w.heap.size 37 i0 (.slice none 0 0) 1 24 Tryd.underlying27 hi hz0 hz1 hz2 rfl (by decide) _ _ _ rfl HO1.out ⟨g2, 0, none⟩ zs2.length c2 (zs2.map sv) rfl (by simp) HNW.out (sv_one zs2) (by unfold maxLen; omega) (by omega) hb.size ?_; intro v' W3 hown' hgrow _; have HOW := Lib.hid hown'; have HGR := Lib.hid hgrow; clear hown' hgrow)
  go_ret
  have := cut_append hb HO1.out HIN1.out HIN2.out HOW.out HGR.out
  rwa [List.map_append, HE1.out, HE2.out] at this
end Go.Proofs.YtgaalkcociifmaaDoor
