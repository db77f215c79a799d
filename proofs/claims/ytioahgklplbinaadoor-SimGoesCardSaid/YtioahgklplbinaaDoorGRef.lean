/- The document's Start and Step. -/
import Derived.Test.YtioahgklplbinaaDoorGCl
import Derived.Test.YtioahgklplbinaaDoorNRSd
import Derived.RegionTactic
namespace SimM
open SetM NfaM
theorem mv_skip (m : Mc) (r : Int) {k : Nat} {l : List Int} {q : Nat} (hq : q < l.length) (h : ¬ (0 ≤ l[q] ∧ l[q] < k)) (j : Nat) : Mv m (Inn k (l.take (q + 1))) r j ↔ Mv m (Inn k (l.take q)) r j := by
  have e : ∀ i, Inn k (l.take (q + 1)) i ↔ Inn k (l.take q) i := fun i => by
    unfold Inn
    rw [List.take_succ_eq_append_getElem hq, List.mem_append]
    simp only [List.mem_singleton]
    constructor
    · rintro ⟨h1, h2 | h2⟩
      · exact ⟨h1, h2⟩
      · exact absurd (by omega) h
    · rintro ⟨h1, h2⟩; exact ⟨h1, .inl h2⟩
  unfold Mv
  exact exists_congr (fun i => and_congr (e i) Iff.rfl)
theorem mv_add (m : Mc) (r : Int) {k : Nat} {l : List Int} {q s : Nat} (hq : q < l.length) (hs : l[q] = (s : Int)) (hk : s < k) (j : Nat) : Mv m (Inn k (l.take (q + 1))) r j ↔ Mv m (Inn k (l.take q)) r j ∨ MvE (m.ed.getD s []) r j := by
  have e : ∀ i, Inn k (l.take (q + 1)) i ↔ (Inn k (l.take q) i ∨ i = s) := fun i => by
    unfold Inn
    rw [List.take_succ_eq_append_getElem hq, List.mem_append]
    simp only [List.mem_singleton, hs]
    constructor
    · rintro ⟨h1, h2 | h2⟩
      · exact .inl ⟨h1, h2⟩
      · exact .inr (by omega)
    · rintro (⟨h1, h2⟩ | rfl)
      · exact ⟨h1, .inl h2⟩
      · exact ⟨hk, .inr rfl⟩
  unfold Mv
  constructor
  · rintro ⟨i, hi, h⟩
    rcases (e i).1 hi with h1 | rfl
    · exact .inl ⟨i, h1, h⟩
    · exact .inr h
  · rintro (⟨i, hi, h⟩ | h)
    · exact ⟨i, (e i).2 (.inl hi), h⟩
    · exact ⟨s, (e s).2 (.inr rfl), h⟩
theorem mv_zero (m : Mc) (r : Int) (k : Nat) (l : List Int) (j : Nat) : Mv m (Inn k (l.take 0)) r j ↔ False := by
  unfold Mv Inn
  simp
theorem mv_lt {m : Mc} (hg : Gm m) {P : Nat → Prop} {r : Int} {k : Nat} (h : Mv m P r k) : k < m.tg.length := by
  obtain ⟨i, _, e, he, h1, _⟩ := h
  obtain ⟨row, h2, h3⟩ := mem_row he
  have := hg.tow row h2 e h3
  omega
end SimM
namespace Go.Proofs.YtioahgklplbinaaDoor
open Go.RowKit Go.Shelf SetM NfaM SimM
theorem MachV.rsound {W : World} {p0 p1 p2 : Option Addr} {n0 n1 k c0 c1 c2 : Nat} {m : Mc} (h : MachV W p0 p1 p2 n0 n1 k m) : Calls Tryd.prog 22 #[.agg #[.slice p0 n0 c0, .slice p1 n1 c1, .slice p2 k c2]] W fun e W' => e = .returned (.bool (sndM m)) ∧ Below W.heap.size W W' :=
  rsoundM_c h.mr h.e0 h.e1 h.e2 (fun i hi => ⟨(h.bd.ed i hi).1, fun e he => ⟨(h.bd.ed i hi).2 e he, h.bd.wide i hi e he⟩⟩) h.bd.fr
theorem make_marks (W : World) (k : Nat) (hk : k ≤ 100000) : ∃ W1, (Instr.makeSlice 24 (.int .i64 k) (.int .i64 k)).run Tryd.prog W = .ok (.slice (some ⟨W.heap.size, 0, none⟩) k k) W1 ∧ MkG 3 (.int .i64 1) (.int .i64 0) W1 W.heap.size W.heap.size k (fun _ => False) ∧ Below W.heap.size W W1 := by
  obtain ⟨i0, hi, hz0, hz1, hz2⟩ := info_parts infoIn
  obtain ⟨W1, hmk, h2, h3⟩ := run_makeSlice_full (P := Tryd.prog) (w := W) 0 24 3 i0 _ 1 Tryd.underlying24 hi hz0 hz1 .i64 .i64 k (by omega) (by rw [hz2]; omega) (by unfold maxLen; omega) (Nat.zero_le _)
  have e1 : (madeCells (Value.int .i64 0).cells (k * 1)).toList = mksV (.int .i64 1) (.int .i64 0) k (fun _ => False) := by
    rw [mks_none, Nat.mul_one]
    exact toList_madeCells_one _ _
  rw [e1] at h2
  refine ⟨W1, hmk, ⟨h2.1, ?_⟩, ⟨h3.os, h3.tape, h3.output, h3.size, fun k hk => h3.block k hk (fun e => by cases e)⟩⟩
  rcases h2.2 with ⟨h4, _⟩ | ⟨g', cap, cur, h4, _, h6⟩
  · cases h4
  · have h5 := h4
    simp only [Value.slice.injEq, Option.some.injEq, Addr.mk.injEq, and_true, true_and] at h5
    exact .inr ⟨g', cap, cur, h4, by omega, h6⟩
set_option maxRecDepth 100000 in
set_option maxHeartbeats 8000000 in
theorem rstart_c {W : World} {p0 p1 p2 : Option Addr} {n0 n1 k c0 c1 c2 : Nat} {m : Mc} (h : MachV W p0 p1 p2 n0 n1 k m) :
    Calls Tryd.prog 16 #[.agg #[.slice p0 n0 c0, .slice p1 n1 c1, .slice p2 k c2]] W fun e W' => ∃ v o, e = .returned v ∧ OwI W' W.heap.size v o ∧ (sndM m = true → o = startF m) ∧ (sndM m = false → o = []) ∧ Below W.heap.size W W' := by
  obtain ⟨V, hV⟩ : ∃ V, V = W.alloc (.cells #[.slice p0 n0 c0, .slice p1 n1 c1, .slice p2 k c2] 30) := ⟨_, rfl⟩
  have hb : Below W.heap.size W V := by rw [hV]; exact (Below.refl _ _).alloc (Nat.le_refl _) _
  have x0 : V.heap[W.heap.size]? = some (.cells #[.slice p0 n0 c0, .slice p1 n1 c1, .slice p2 k c2] 30 (0, 0)) := by rw [hV]; exact heap_alloc_new W _
  obtain ⟨⟨a0, a1, a2⟩, _⟩ := cells3 x0
  have HMV := Lib.hid (h.step hb)
  have HSN := Lib.hid ((h.step hb).rsound (c0 := c0) (c1 := c1) (c2 := c2))
  have HB := Lib.hid hb
  have HX := Lib.hid x0
  have HLT := Lib.hid (Array.getElem?_eq_some_iff.1 x0).1
  clear h hb x0
  obtain ⟨q, hq⟩ : ∃ q, q = sndM m := ⟨_, rfl⟩
  rw [← hq] at HSN
  have HQ : Hid (sndM m = q) := Lib.hid hq.symm
  clear hq
  go_enter Tryd.func16, Tryd.ntmps16
  go_upto_region 1 with fail
  rw [← hV]
  clear hV
  go_wp2_with fail
  refine HSN.out.mono ?_
  rintro e w1 ⟨rfl, b1⟩
  have HB1 := Lib.hid (HB.out.trans (b1.mono HB.out.size))
  have HV1 := Lib.hid b1
  obtain ⟨⟨d0, d1, d2⟩, _⟩ := cells3 ((b1.block _ HLT.out).trans HX.out)
  have HM1 := Lib.hid (HMV.out.step b1)
  clear a0 a1 a2 b1 HSN
  cases q with
  | false =>
    go_wp2_with fail
    go_ret
    exact ⟨_, [], rfl, OwI.nil _ _, fun h => by rw [HQ.out] at h; (cases h), fun _ => rfl, HB1.out⟩
  | true =>
    have hg := gm_of HM1.out.bd HQ.out
    have HG := Lib.hid hg
    have hk8 : k ≤ 2000 := by have := hg.k2; have := HM1.out.e2; omega
    have hk1 : 0 < k := by have := hg.k1; have := HM1.out.e2; omega
    have hk1' : (0 : Int) < (k : Int) := by omega
    have hk0 : (0 : Int) ≤ (k : Int) := by omega
    obtain ⟨w2, hmk, hR, hb2⟩ := make_marks w1 k (by omega)
    have HL2 := Lib.hid hR.lt
    obtain ⟨hR3, hg3⟩ := hR.set hk1
    obtain ⟨u, c0'⟩ := hR.ex hk1
    have f0' := hR.frz 0
    obtain ⟨X, hX⟩ : ∃ X, X = w2.setCell ⟨w1.heap.size, 0, none⟩ (.int .i64 1) := ⟨_, rfl⟩
    rw [← hX] at hR3 hg3
    have hb3 : Below w1.heap.size w1 X := hb2.grown hg3 hb2.size (fun j hj => by have := Option.some.inj hj; omega)
    have HCL := Lib.hid (closed_c (n0 := n0) (n1 := n1) (c0 := c0) (c1 := c1) (c2 := c2) HM1.out.mr hb3 hR3 HM1.out.e2 hg (by have := HM1.out.e1; have := HM1.out.e2; have := hg.fr.2.1; omega) (fun j hj => hj.elim False.elim (fun h => by omega)))
    have HB3 := Lib.hid (HB1.out.trans (hb3.mono HB1.out.size))
    have HLX := Lib.hid (show w1.heap.size ≤ X.heap.size from hb3.size)
    obtain ⟨⟨e0, e1, e2⟩, _⟩ := cells3 ((hb3.block _ (by have := HLT.out; have := HV1.out.size; omega)).trans ((HV1.out.block _ HLT.out).trans HX.out))
    clear hg hk8 hR hb2 hR3 hg3 hb3 hk1
    go_upto_region 5 with fail
    rw [← hX]
    clear hX c0' f0' d0 d1 d2 hmk
    go_wp2_with fail
    refine HCL.out.mono ?_
    rintro e w3 ⟨v, rfl, hO, b3⟩
    have HE : Hid (OwI w3 W.heap.size v (startF m)) := Lib.hid (by
      have h := hO.low (show W.heap.size ≤ X.heap.size by have := HLX.out; have := HB1.out.size; omega)
      have e1 : stL k (Cl m (fun x => False ∨ x = 0)) = startF m := by
        unfold startF
        rw [HM1.out.e2]
        exact stL_congr (fun j _ => Cl.congr (fun i => ⟨fun h => h.elim False.elim id, .inr⟩) j)
      rw [e1] at h
      exact h)
    have HBE := Lib.hid (HB1.out.trans (b3.mono HB1.out.size))
    clear hO b3 e0 e1 e2
    go_wp2_with fail
    go_ret
    exact ⟨_, _, rfl, HE.out, fun _ => rfl, fun h => by rw [HQ.out] at h; (cases h), HBE.out⟩
end Go.Proofs.YtioahgklplbinaaDoor
