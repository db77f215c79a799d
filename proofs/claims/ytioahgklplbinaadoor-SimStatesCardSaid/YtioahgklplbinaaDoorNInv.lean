/- A machine that was built may be; how it reads in memory. -/
import Derived.Test.YtioahgklplbinaaDoorNRSd
import Derived.Test.YtioahgklplbinaaDoorNMW
import Derived.Deep.RegionWith
import Derived.Deep.DeepCutAuto
import Derived.Deep.RegionLaw
import Derived.Test.YtioahgklplbinaaDoorNMA
import Derived.Test.YtioahgklplbinaaDoorNCT
namespace NfaM
open SetM WrM
/-- All that is told of a machine may be. -/
structure Inv (m : Mc) : Prop where
  wf : m.ed.length = m.tg.length ∧ m.fr.length = m.tg.length
  ed : ∀ row ∈ m.ed, ∀ e ∈ row, 0 ≤ e.1 ∧ e.1 < m.len ∧ Norml e.2
  fr : ∀ row ∈ m.fr, ∀ t ∈ row, 0 ≤ t ∧ t < (m.len : Int)
  tg : ∀ t ∈ m.tg, -1 ≤ t
theorem Inv.none : Inv none0 := ⟨⟨rfl, rfl⟩, fun _ h => (by cases h), fun _ h => (by cases h), fun _ h => (by cases h)⟩
theorem Inv.st {m : Mc} (h : Inv m) : Inv (stF m) := by
  have hl := len_st m
  refine ⟨⟨by simp [stF, h.wf.1], by simp [stF, h.wf.2]⟩, fun row hr e he => ?_, fun row hr t ht => ?_, fun t ht => ?_⟩
  · simp only [stF, List.mem_append, List.mem_singleton] at hr
    rcases hr with hr | rfl
    · have := h.ed row hr e he; rw [hl]; exact ⟨this.1, by omega, this.2.2⟩
    · cases he
  · simp only [stF, List.mem_append, List.mem_singleton] at hr
    rcases hr with hr | rfl
    · have := h.fr row hr t ht; rw [hl]; omega
    · cases ht
  · simp only [stF, List.mem_append, List.mem_singleton] at ht
    rcases ht with ht | rfl
    · exact h.tg t ht
    · omega
theorem mem_getD {α : Type} {l : List (List α)} {i : Nat} {x : α} (h : x ∈ l.getD i []) : ∃ row ∈ l, x ∈ row := by
  by_cases hi : i < l.length
  · have e : l.getD i [] = l[i] := by simp [List.getD, hi]
    rw [e] at h
    exact ⟨l[i], List.getElem_mem hi, h⟩
  · have e : l.getD i [] = [] := by simp [List.getD, Nat.le_of_not_lt hi]
    rw [e] at h
    cases h
theorem Inv.fre {m : Mc} (h : Inv m) (i : Nat) {t : Int} (ht : 0 ≤ t ∧ t < (m.len : Int)) : Inv (frF m i t) := by
  refine ⟨⟨h.wf.1, by simp [frF, h.wf.2]⟩, h.ed, fun row hr u hu => ?_, h.tg⟩
  rcases List.mem_or_eq_of_mem_set hr with hr | rfl
  · exact h.fr row hr u hu
  · rcases List.mem_append.1 hu with hu | hu
    · obtain ⟨row, h1, h2⟩ := mem_getD hu
      exact h.fr row h1 u h2
    · simp at hu; subst hu; exact ht
theorem Inv.edg {m : Mc} (h : Inv m) (i : Nat) {t : Int} {s : List Sp} (ht : 0 ≤ t ∧ t < (m.len : Int)) (hs : Norml s) : Inv (edF m i t s) := by
  refine ⟨⟨by simp [edF, h.wf.1], h.wf.2⟩, fun row hr u hu => ?_, h.fr, h.tg⟩
  rcases List.mem_or_eq_of_mem_set hr with hr | rfl
  · exact h.ed row hr u hu
  · rcases List.mem_append.1 hu with hu | hu
    · obtain ⟨row, h1, h2⟩ := mem_getD hu
      exact h.ed row h1 u h2
    · simp at hu; subst hu; exact ⟨ht.1, ht.2, hs⟩
theorem Inv.tag {m : Mc} (h : Inv m) (i : Nat) {t : Int} (ht : -1 ≤ t) : Inv (tgF m i t) := by
  have hl : (tgF m i t).len = m.len := by simp [tgF, Mc.len]
  refine ⟨⟨by simp [tgF, h.wf.1], by simp [tgF, h.wf.2]⟩, fun row hr e he => by rw [hl]; exact h.ed row hr e he, fun row hr u hu => by rw [hl]; exact h.fr row hr u hu, fun u hu => ?_⟩
  rcases List.mem_or_eq_of_mem_set hu with hu | rfl
  · exact h.tg u hu
  · exact ht
theorem Inv.snd {m : Mc} (h : Inv m) (h1 : 1 ≤ m.tg.length) (h2 : m.tg.length ≤ 2000) : sndM m = true := by
  rw [sndM_yes ⟨h1, h2, h.wf.1, h.wf.2⟩]
  unfold rowsM
  rw [List.all_eq_true]
  intro i hi
  have hi := List.mem_range.1 hi
  have e1 : m.tg.getD i 0 = m.tg[i] := by simp [List.getD, hi]
  unfold okR
  rw [e1, decide_eq_true (h.tg _ (List.getElem_mem hi)), Bool.true_and, Bool.and_eq_true]
  constructor
  · unfold allE
    rw [List.all_eq_true]
    intro e he
    obtain ⟨row, h3, h4⟩ := mem_getD he
    obtain ⟨h5, h6, h7⟩ := h.ed row h3 e h4
    unfold okE
    rw [decide_eq_true ⟨h5, h6⟩, Bool.true_and, isSet_norml]
    exact h7
  · unfold allI
    rw [List.all_eq_true]
    intro t ht
    obtain ⟨row, h3, h4⟩ := mem_getD ht
    unfold okI
    exact decide_eq_true (h.fr row h3 t h4)
theorem norml_wide {l : List Sp} (h : Norml l) : ∀ s ∈ l, 0 ≤ s.2 := fun s hs => by
  have hle : ∀ (m : List Sp), Nf m → ∀ s ∈ m, s.1 ≤ s.2 := fun m => by
    induction m with
    | nil => intro _ s h; cases h
    | cons x m ih => intro hn s hs; rcases List.mem_cons.1 hs with rfl | hs; exact hn.1; exact ih hn.2.2 s hs
  have h1 := h.2 s.2 ⟨s, hs, hle l h.1 s hs, Int.le_refl _⟩
  unfold Sc at h1
  omega
end NfaM
namespace Go.Proofs.YtioahgklplbinaaDoor
open Go.RowKit Go.Shelf Go.Maps SetM PropsM RxM WrM NfaM
theorem EdC.get {W : World} {B : Nat → Prop} : ∀ {cs : List Value} {es : List (Int × List Sp)}, EdC W B cs es → ∀ k (h : k < es.length), ∃ sp sc, cs[k * 2]? = some (.int .i64 es[k].1) ∧ cs[k * 2 + 1]? = some (.slice sp es[k].2.length sc) ∧ es[k].2.length ≤ 100000 ∧ Sl W sp es[k].2 ∧ (es[k].2 ≠ [] → ∀ x, sp = some x → B x.block)
  | [], [], _, k, h => by cases h
  | a :: b :: cs, e :: es, hh, k, h => by
    obtain ⟨⟨sp, sc, h1, h2, h3, h4, _, h6⟩, h7⟩ := hh
    cases k with
    | zero => exact ⟨sp, sc, by rw [h1]; rfl, by rw [h2]; rfl, h3, h4, h6⟩
    | succ k =>
      obtain ⟨sp, sc, g1, g2, g3, g4, g5⟩ := EdC.get h7 k (by simpa using h)
      exact ⟨sp, sc, by rw [show (k + 1) * 2 = k * 2 + 2 by omega]; exact g1, by rw [show (k + 1) * 2 + 1 = k * 2 + 1 + 2 by omega]; exact g2, g3, g4, g5⟩
  | [], _ :: _, hh, _, _ => hh.elim
  | [_], [], hh, _, _ => hh.elim
  | [_], _ :: _, hh, _, _ => hh.elim
  | _ :: _ :: _, [], hh, _, _ => hh.elim
/-- A row of one's own, read: its block, its cells. -/
theorem Rw.ok.cells {W : World} {r : Rw} (h : r.ok W) (hs : 0 < r.s) {j : Nat} (hj : j < r.n * r.s) : ∃ g c, r.v = .slice (some ⟨g, 0, none⟩) r.n c ∧ g < W.heap.size ∧ W.cell? ⟨g, j, none⟩ = r.xs[j]? := by
  have hok := h
  unfold Rw.ok at hok
  rcases h.2 with ⟨_, b⟩ | ⟨g, cap, cur, a, _⟩
  · have b' : r.n = 0 := b
    rw [b'] at hj
    simp at hj
  · have a' : r.v = .slice (some ⟨g, 0, none⟩) r.n cap := a
    refine ⟨g, cap, a', h.lt (by rw [a']; rfl), ?_⟩
    rw [a'] at hok
    exact World.ownsRow.cellAt hok j hj
theorem MVx.toMR {W : World} {B : Nat → Prop} {R : Nat → Rw} {m : Mc} (h : MVx W B R m) {p0 p1 p2 : Option Addr} {c0 c1 c2 : Nat} (e0 : (R 0).v = .slice p0 m.tg.length c0) (e1 : (R 1).v = .slice p1 m.tg.length c1) (e2 : (R 2).v = .slice p2 m.tg.length c2) : MR W p0 p1 p2 m := by
  refine ⟨fun i hi => ?_, fun i hi => ?_, fun k hk => ?_⟩
  · have hi' : i < m.tg.length := by rw [← h.l1]; exact hi
    obtain ⟨g, c, a1, a2, a3⟩ := (h.fam.own 0 (by omega)).cells (by rw [h.r0.2.1]; omega) (j := i) (by rw [h.r0.2.1, h.r0.2.2.1]; omega)
    rw [e0, h.r0.2.2.1] at a1
    injection a1 with b1 b2 b3
    rw [h.r0.2.2.2, List.getElem?_map, List.getElem?_range hi'] at a3
    have hre := h.re i hi'
    rw [getD_of hi] at hre
    obtain ⟨P, cc, hv⟩ := (h.fam.own (3 + 2 * i) (by omega)).slice
    rw [hre.2.2.1] at hv
    refine ⟨g, 0, P, cc, b1, a2, by rw [Nat.zero_add, a3, ← hv]; rfl, fun k hk => ?_⟩
    obtain ⟨sp, sc, q1, q2, q3, q4, _⟩ := EdC.get hre.2.2.2 k hk
    obtain ⟨g2, cc2, d1, d2, d3⟩ := (h.fam.own (3 + 2 * i) (by omega)).cells (by rw [hre.2.1]; omega) (j := k * 2) (by rw [hre.2.1, hre.2.2.1]; omega)
    obtain ⟨g3, cc3, f1, f2, f3⟩ := (h.fam.own (3 + 2 * i) (by omega)).cells (by rw [hre.2.1]; omega) (j := k * 2 + 1) (by rw [hre.2.1, hre.2.2.1]; omega)
    rw [hv, hre.2.2.1] at d1 f1
    injection d1 with d1
    injection f1 with f1
    rw [d1] at f1
    injection f1 with f1
    injection f1 with f1
    subst f1
    exact ⟨g2, 0, sp, sc, d1, d2, by rw [Nat.zero_add, d3]; exact q1, by rw [Nat.zero_add, f3]; exact q2, q4⟩
  · have hi' : i < m.tg.length := by rw [← h.l2]; exact hi
    obtain ⟨g, c, a1, a2, a3⟩ := (h.fam.own 1 (by omega)).cells (by rw [h.r1.2.1]; omega) (j := i) (by rw [h.r1.2.1, h.r1.2.2.1]; omega)
    rw [e1, h.r1.2.2.1] at a1
    injection a1 with b1 b2 b3
    rw [h.r1.2.2.2, List.getElem?_map, List.getElem?_range hi'] at a3
    have hre := h.rf i hi'
    rw [getD_of hi] at hre
    obtain ⟨P, cc, hv⟩ := (h.fam.own (4 + 2 * i) (by omega)).slice
    rw [hre.2.2.1] at hv
    refine ⟨g, 0, P, cc, b1, a2, by rw [Nat.zero_add, a3, ← hv]; rfl, fun k hk => ?_⟩
    obtain ⟨g2, cc2, d1, d2, d3⟩ := (h.fam.own (4 + 2 * i) (by omega)).cells (by rw [hre.2.1]; omega) (j := k) (by rw [hre.2.1, hre.2.2.1]; omega)
    rw [hv, hre.2.2.1] at d1
    injection d1 with d1
    refine ⟨g2, 0, d1, d2, ?_⟩
    rw [Nat.zero_add, d3, hre.2.2.2]
    simp [hk]
  · obtain ⟨g, c, a1, a2, a3⟩ := (h.fam.own 2 (by omega)).cells (by rw [h.r2.2.1]; omega) (j := k) (by rw [h.r2.2.1, h.r2.2.2.1]; omega)
    rw [e2, h.r2.2.2.1] at a1
    injection a1 with b1 b2 b3
    refine ⟨g, 0, b1, a2, ?_⟩
    rw [Nat.zero_add, a3, h.r2.2.2.2]
    simp [hk]
/-- Its sets are not longer than those of nodes. -/
theorem MVx.sets {W : World} {B : Nat → Prop} {R : Nat → Rw} {m : Mc} (h : MVx W B R m) : ∀ i < m.ed.length, ∀ e ∈ m.ed.getD i [], e.2.length ≤ 100000 := fun i hi e he => by
  have hi' : i < m.tg.length := by rw [← h.l1]; exact hi
  obtain ⟨k, hk, rfl⟩ := List.mem_iff_getElem.1 he
  obtain ⟨_, _, _, _, h3, _⟩ := EdC.get (h.re i hi').2.2.2 k hk
  exact h3
end Go.Proofs.YtioahgklplbinaaDoor
