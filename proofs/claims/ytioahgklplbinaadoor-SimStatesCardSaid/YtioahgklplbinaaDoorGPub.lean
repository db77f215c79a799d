/- The program's Start, Step and Tags, of any machine. -/
import Derived.Test.YtioahgklplbinaaDoorGTags
import Derived.Test.YtioahgklplbinaaDoorNPSd
namespace SimM
open SetM NfaM
/-- What is known of the rows of a machine, be it sound or not. -/
structure Bd (m : Mc) : Prop where
  ed : ∀ i < m.ed.length, (m.ed.getD i []).length ≤ 9223372036854775807 ∧ ∀ e ∈ m.ed.getD i [], e.2.length ≤ 100000
  fr : ∀ i < m.fr.length, (m.fr.getD i []).length ≤ 9223372036854775807
  wide : ∀ i < m.ed.length, ∀ e ∈ m.ed.getD i [], ∀ s ∈ e.2, -9223372036854775808 ≤ s.2
theorem gm_of {m : Mc} (hb : Bd m) (h : sndM m = true) : Gm m := by
  unfold sndM at h
  rw [Bool.and_eq_true, decide_eq_true_eq] at h
  obtain ⟨⟨h1, h2, h3, h4⟩, h5⟩ := h
  unfold rowsM at h5
  rw [List.all_eq_true] at h5
  have hr : ∀ i, i < m.tg.length → allE m.tg.length (m.ed.getD i []) = true ∧ allI m.tg.length (m.fr.getD i []) = true := fun i hi => by
    have := h5 i (List.mem_range.2 hi)
    unfold okR at this
    rw [Bool.and_eq_true, Bool.and_eq_true] at this
    exact this.2
  refine ⟨h1, h2, ⟨fun row hrow t ht => ?_, h4, hb.fr⟩, h3, fun row hrow e he => ?_, fun i hi => ⟨(hb.ed i hi).1, fun e he => by have := (hb.ed i hi).2 e he; omega⟩⟩
  · obtain ⟨i, hi, rfl⟩ := List.mem_iff_getElem.1 hrow
    have := (hr i (by omega)).2
    rw [row_at hi] at this
    unfold allI at this
    rw [List.all_eq_true] at this
    have := this t ht
    unfold okI at this
    simpa using this
  · obtain ⟨i, hi, rfl⟩ := List.mem_iff_getElem.1 hrow
    have := (hr i (by omega)).1
    rw [row_at hi] at this
    unfold allE at this
    rw [List.all_eq_true] at this
    have := this e he
    unfold okE at this
    rw [Bool.and_eq_true, decide_eq_true_eq] at this
    exact this.1
end SimM
namespace Go.Proofs.YtioahgklplbinaaDoor
open Go.RowKit Go.Shelf SetM NfaM SimM
/-- The value reads as a machine; its rows are no longer than rows may be. -/
structure MachV (W : World) (p0 p1 p2 : Option Addr) (n0 n1 k : Nat) (m : Mc) : Prop where
  mr : MR W p0 p1 p2 m
  e0 : n0 = m.ed.length
  e1 : n1 = m.fr.length
  e2 : k = m.tg.length
  bd : Bd m
theorem MachV.step {W W' : World} {p0 p1 p2 : Option Addr} {n0 n1 k : Nat} {m : Mc} (h : MachV W p0 p1 p2 n0 n1 k m) (hb : Below W.heap.size W W') : MachV W' p0 p1 p2 n0 n1 k m := ⟨h.mr.step hb, h.e0, h.e1, h.e2, h.bd⟩
theorem MachV.sound {W : World} {p0 p1 p2 : Option Addr} {n0 n1 k c0 c1 c2 : Nat} {m : Mc} (h : MachV W p0 p1 p2 n0 n1 k m) : Calls Tryd.prog 25 #[.agg #[.slice p0 n0 c0, .slice p1 n1 c1, .slice p2 k c2]] W fun e W' => e = .returned (.bool (sndM m)) ∧ Below W.heap.size W W' :=
  psound_c h.mr h.e0 h.e1 h.e2 (fun i hi => ⟨(h.bd.ed i hi).1, fun e he => by have := (h.bd.ed i hi).2 e he; omega⟩) h.bd.fr
set_option maxRecDepth 100000 in
set_option maxHeartbeats 8000000 in
theorem pstart_c {W : World} {p0 p1 p2 : Option Addr} {n0 n1 k c0 c1 c2 : Nat} {m : Mc} (h : MachV W p0 p1 p2 n0 n1 k m) :
    Calls Tryd.prog 13 #[.agg #[.slice p0 n0 c0, .slice p1 n1 c1, .slice p2 k c2]] W fun e W' => ∃ v o, e = .returned v ∧ OwI W' W.heap.size v o ∧ (sndM m = true → o = startF m) ∧ (sndM m = false → o = []) ∧ Below W.heap.size W W' := by
  obtain ⟨V, hV⟩ : ∃ V, V = W.alloc (.cells #[.slice p0 n0 c0, .slice p1 n1 c1, .slice p2 k c2] 30) := ⟨_, rfl⟩
  have hb : Below W.heap.size W V := by rw [hV]; exact (Below.refl _ _).alloc (Nat.le_refl _) _
  have x0 : V.heap[W.heap.size]? = some (.cells #[.slice p0 n0 c0, .slice p1 n1 c1, .slice p2 k c2] 30 (0, 0)) := by rw [hV]; exact heap_alloc_new W _
  obtain ⟨⟨a0, a1, a2⟩, _⟩ := cells3 x0
  have HMV := Lib.hid (h.step hb)
  have HSN := Lib.hid ((h.step hb).sound (c0 := c0) (c1 := c1) (c2 := c2))
  have HB := Lib.hid hb
  have HX := Lib.hid x0
  have HLT := Lib.hid (Array.getElem?_eq_some_iff.1 x0).1
  clear h hb x0
  obtain ⟨q, hq⟩ : ∃ q, q = sndM m := ⟨_, rfl⟩
  rw [← hq] at HSN
  have HQ : Hid (sndM m = q) := Lib.hid hq.symm
  clear hq
  go_enter Tryd.func13, Tryd.ntmps13
  go_upto_region 1 with fail
  rw [← hV]
  clear hV
  go_wp2_with fail
  refine HSN.out.mono ?_
  rintro e w1 ⟨rfl, b1⟩
  have HB1 := Lib.hid (HB.out.trans (b1.mono HB.out.size))
  obtain ⟨⟨d0, d1, d2⟩, _⟩ := cells3 ((b1.block _ HLT.out).trans HX.out)
  have HM1 := Lib.hid (HMV.out.step b1)
  clear a0 a1 a2 b1 HSN
  cases q with
  | false =>
    go_wp2_with fail
    go_ret
    exact ⟨_, [], rfl, OwI.nil _ _, fun h => by rw [HQ.out] at h; (cases h), fun _ => rfl, HB1.out⟩
  | true =>
    have hg := gm_of HM1.out.bd HQ.out
    have HST := Lib.hid (start_c (n0 := n0) (n1 := n1) (c0 := c0) (c1 := c1) (c2 := c2) HM1.out.mr hg HM1.out.e2 (by have := HM1.out.e1; have := HM1.out.e2; have := hg.fr.2.1; omega))
    clear hg
    go_wp2_with fail
    refine HST.out.mono ?_
    rintro e w2 ⟨v, rfl, hO, b2⟩
    have HE := Lib.hid (hO.low HB1.out.size)
    have HB2 := Lib.hid (HB1.out.trans (b2.mono HB1.out.size))
    clear hO b2 d0 d1 d2
    go_wp2_with fail
    go_ret
    exact ⟨_, _, rfl, HE.out, fun _ => rfl, fun h => by rw [HQ.out] at h; (cases h), HB2.out⟩
set_option maxRecDepth 100000 in
set_option maxHeartbeats 8000000 in
theorem pstep_c {W : World} {p0 p1 p2 P : Option Addr} {n0 n1 k c0 c1 c2 n c : Nat} {m : Mc} {l : List Int} {r : Int} (hA : Aw W) (h : MachV W p0 p1 p2 n0 n1 k m) (hl : InR W P l) (hn : n = l.length) (h8 : n ≤ 9223372036854775807) :
    Calls Tryd.prog 10 #[.agg #[.slice p0 n0 c0, .slice p1 n1 c1, .slice p2 k c2], .slice P n c, .int .i64 r] W fun e W' => ∃ v o, e = .returned v ∧ OwI W' W.heap.size v o ∧ (sndM m = true → o = stepF m l r) ∧ (sndM m = false → o = []) ∧ Below W.heap.size W W' := by
  obtain ⟨V, hV⟩ : ∃ V, V = W.alloc (.cells #[.slice p0 n0 c0, .slice p1 n1 c1, .slice p2 k c2] 30) := ⟨_, rfl⟩
  have hb : Below W.heap.size W V := by rw [hV]; exact (Below.refl _ _).alloc (Nat.le_refl _) _
  have x0 : V.heap[W.heap.size]? = some (.cells #[.slice p0 n0 c0, .slice p1 n1 c1, .slice p2 k c2] 30 (0, 0)) := by rw [hV]; exact heap_alloc_new W _
  obtain ⟨⟨a0, a1, a2⟩, _⟩ := cells3 x0
  have HMV := Lib.hid (h.step hb)
  have HSN := Lib.hid ((h.step hb).sound (c0 := c0) (c1 := c1) (c2 := c2))
  have HB := Lib.hid hb
  have HX := Lib.hid x0
  have HLT := Lib.hid (Array.getElem?_eq_some_iff.1 x0).1
  have HA := Lib.hid (hA.step hb)
  have HL := Lib.hid (InR.step hl hb)
  have HN := Lib.hid (And.intro hn h8)
  clear h hb x0 hA hl hn h8
  obtain ⟨q, hq⟩ : ∃ q, q = sndM m := ⟨_, rfl⟩
  rw [← hq] at HSN
  have HQ : Hid (sndM m = q) := Lib.hid hq.symm
  clear hq
  go_enter Tryd.func10, Tryd.ntmps10
  go_upto_region 1 with fail
  rw [← hV]
  clear hV
  go_wp2_with fail
  refine HSN.out.mono ?_
  rintro e w1 ⟨rfl, b1⟩
  have HB1 := Lib.hid (HB.out.trans (b1.mono HB.out.size))
  obtain ⟨⟨d0, d1, d2⟩, _⟩ := cells3 ((b1.block _ HLT.out).trans HX.out)
  have HM1 := Lib.hid (HMV.out.step b1)
  have HA1 := Lib.hid (HA.out.step b1)
  have HL1 := Lib.hid (InR.step HL.out b1)
  clear a0 a1 a2 b1 HSN
  cases q with
  | false =>
    go_wp2_with fail
    go_ret
    exact ⟨_, [], rfl, OwI.nil _ _, fun h => by rw [HQ.out] at h; (cases h), fun _ => rfl, HB1.out⟩
  | true =>
    have hg := gm_of HM1.out.bd HQ.out
    have HST := Lib.hid (step_c (n0 := n0) (n1 := n1) (c0 := c0) (c1 := c1) (c2 := c2) (c := c) (r := r) HA1.out HM1.out.mr hg HM1.out.e2 (by have := HM1.out.e0; have := HM1.out.e2; have := hg.ed; omega) (by have := HM1.out.e1; have := HM1.out.e2; have := hg.fr.2.1; omega) HL1.out HN.out.1 HN.out.2)
    clear hg
    go_wp2_with fail
    refine HST.out.mono ?_
    rintro e w2 ⟨v, rfl, hO, b2⟩
    have HE := Lib.hid (hO.low HB1.out.size)
    have HB2 := Lib.hid (HB1.out.trans (b2.mono HB1.out.size))
    clear hO b2 d0 d1 d2
    go_wp2_with fail
    go_ret
    exact ⟨_, _, rfl, HE.out, fun _ => rfl, fun h => by rw [HQ.out] at h; (cases h), HB2.out⟩
set_option maxRecDepth 100000 in
set_option maxHeartbeats 8000000 in
theorem ptags_c {W : World} {p0 p1 p2 P : Option Addr} {n0 n1 k c0 c1 c2 n c : Nat} {m : Mc} {l : List Int} (h : MachV W p0 p1 p2 n0 n1 k m) (hl : InR W P l) (hn : n = l.length) (h8 : n ≤ 9223372036854775807) :
    Calls Tryd.prog 17 #[.agg #[.slice p0 n0 c0, .slice p1 n1 c1, .slice p2 k c2], .slice P n c] W fun e W' => ∃ v o, e = .returned v ∧ OwI W' W.heap.size v o ∧ o.length ≤ 100000 ∧ (sndM m = true → IsTags m l o) ∧ (sndM m = false → o = []) ∧ Below W.heap.size W W' := by
  obtain ⟨V, hV⟩ : ∃ V, V = W.alloc (.cells #[.slice p0 n0 c0, .slice p1 n1 c1, .slice p2 k c2] 30) := ⟨_, rfl⟩
  have hb : Below W.heap.size W V := by rw [hV]; exact (Below.refl _ _).alloc (Nat.le_refl _) _
  have x0 : V.heap[W.heap.size]? = some (.cells #[.slice p0 n0 c0, .slice p1 n1 c1, .slice p2 k c2] 30 (0, 0)) := by rw [hV]; exact heap_alloc_new W _
  obtain ⟨⟨a0, a1, a2⟩, _⟩ := cells3 x0
  have HMV := Lib.hid (h.step hb)
  have HSN := Lib.hid ((h.step hb).sound (c0 := c0) (c1 := c1) (c2 := c2))
  have HB := Lib.hid hb
  have HX := Lib.hid x0
  have HLT := Lib.hid (Array.getElem?_eq_some_iff.1 x0).1
  have HL := Lib.hid (InR.step hl hb)
  have HN := Lib.hid (And.intro hn h8)
  clear h hb x0 hl hn h8
  obtain ⟨q, hq⟩ : ∃ q, q = sndM m := ⟨_, rfl⟩
  rw [← hq] at HSN
  have HQ : Hid (sndM m = q) := Lib.hid hq.symm
  clear hq
  go_enter Tryd.func17, Tryd.ntmps17
  go_upto_region 1 with fail
  rw [← hV]
  clear hV
  go_wp2_with fail
  refine HSN.out.mono ?_
  rintro e w1 ⟨rfl, b1⟩
  have HB1 := Lib.hid (HB.out.trans (b1.mono HB.out.size))
  obtain ⟨⟨d0, d1, d2⟩, _⟩ := cells3 ((b1.block _ HLT.out).trans HX.out)
  have HM1 := Lib.hid (HMV.out.step b1)
  have HL1 := Lib.hid (InR.step HL.out b1)
  clear a0 a1 a2 b1 HSN
  cases q with
  | false =>
    go_wp2_with fail
    go_ret
    exact ⟨_, [], rfl, OwI.nil _ _, Nat.zero_le _, fun h => by rw [HQ.out] at h; (cases h), fun _ => rfl, HB1.out⟩
  | true =>
    have hg := gm_of HM1.out.bd HQ.out
    have HST := Lib.hid (tags_c (n0 := n0) (n1 := n1) (c0 := c0) (c1 := c1) (c2 := c2) (c := c) HM1.out.mr (by have := hg.k2; have := HM1.out.e2; omega) HM1.out.e2 HL1.out HN.out.1 HN.out.2)
    clear hg
    go_wp2_with fail
    refine HST.out.mono ?_
    rintro e w2 ⟨v, o, rfl, hO, hle, hI, b2⟩
    have HE := Lib.hid (hO.low HB1.out.size)
    have HB2 := Lib.hid (HB1.out.trans (b2.mono HB1.out.size))
    have HLE := Lib.hid hle
    have HI := Lib.hid hI
    clear hO b2 d0 d1 d2 hle hI
    go_wp2_with fail
    go_ret
    exact ⟨_, _, rfl, HE.out, HLE.out, fun _ => HI.out, fun h => by rw [HQ.out] at h; (cases h), HB2.out⟩
end Go.Proofs.YtioahgklplbinaaDoor
