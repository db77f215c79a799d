/- set.Has: whether a number is told, by the iterator's contract. -/
import Derived.Test.YtkphbjppmiefkaaDoorEnds
namespace Go.Proofs.YtkphbjppmiefkaaDoor
open Go.RowKit Go.Shelf SetM
attribute [local go_sem] Oper.semAt_some

theorem mem_endsE (xs : List Sp) (r : Int) : (∃ x ∈ endsE xs, x.1.1 ≤ r ∧ r ≤ x.1.2) ↔ Tells xs r := by
  rw [← mem_endsL, ← endsE_val]
  unfold Mem
  simp only [List.mem_map]
  constructor
  · rintro ⟨x, hx, h⟩; exact ⟨x.1, ⟨x, hx, rfl⟩, h⟩
  · rintro ⟨s, ⟨x, hx, rfl⟩, h⟩; exact ⟨x, hx, h⟩

/-- None of the ends that came tells r; one does. -/
def NoneIn (r : Int) (pre : List End) : Prop := ∀ p ∈ pre, ¬ (p.1.1 ≤ r ∧ r ≤ p.1.2)
def SomeIn (r : Int) (pre : List End) : Prop := ∃ p ∈ pre, p.1.1 ≤ r ∧ r ≤ p.1.2
theorem NoneIn.snoc {r : Int} {pre : List End} {x : End} (h : NoneIn r pre) (hx : ¬ (x.1.1 ≤ r ∧ r ≤ x.1.2)) : NoneIn r (pre ++ [x]) := fun p hp => by
  rcases List.mem_append.1 hp with h1 | h1
  · exact h p h1
  · simp only [List.mem_cons, List.not_mem_nil, or_false] at h1; rw [h1]; exact hx
theorem tells_of_some {xs : List Sp} {r : Int} {pre : List End} (h : SomeIn r pre) (hp : pre <+: endsE xs) : Tells xs r := by
  obtain ⟨p, hp1, h1⟩ := h
  exact (mem_endsE xs r).1 ⟨p, hp.subset hp1, h1⟩
theorem tells_of_none {xs : List Sp} {r : Int} (h : NoneIn r (endsE xs)) : ¬ Tells xs r := fun ht => by
  obtain ⟨p, hp, h1⟩ := (mem_endsE xs r).2 ht
  exact h p hp h1

def HasPost (w : World) (xs : List Sp) (r : Int) (e : Ending) (w' : World) : Prop := e = .returned (.bool (decide (Tells xs r))) ∧ Below w.heap.size w w'

set_option maxRecDepth 100000 in
set_option maxHeartbeats 1000000 in
theorem has_in (A : Option Addr) (cap : Nat) (xs : List Sp) (r : Int) (hlen : xs.length ≤ 1073741824) (w : World) (h0 : 0 < w.heap.size) (hA : Areas w) (hS : Spans w.heap.size w A xs) :
    CallsIn Fence.wide 3 Tryd.prog 37 #[.slice A xs.length cap, .int .i64 r] w (HasPost w xs r) := by
  obtain ⟨F, hFw⟩ : ∃ F, F = Fence.wide := ⟨_, rfl⟩
  have hro : F.round = none := by rw [hFw]; rfl
  have hF : ∀ f, F.fn f := fun f => by rw [hFw]; trivial
  rw [← hFw]
  have h15 := hF 37
  have h35 := hF 49
  have h46 := hF 63
  have HF := Lib.hid hF
  have HFw := Lib.hid hFw
  clear hF hFw
  refine callsIn_of_wp_marks Tryd.func37 rfl h15 ?_ hro
  simp only [Tryd.ntmps37, List.size_toArray, List.length_cons, List.length_nil, Nat.reduceAdd, Nat.reduceSub, Array.replicate_succ, Array.replicate_zero, List.push_toArray, List.append_toArray, List.nil_append, List.cons_append]
  gi_wp2_with (gi_at_call 49; refine (toIn (n := 2) HFw (ends_any _ _ _ _)).mono ?_; rintro e w' ⟨rfl, rfl⟩)
  have bR := Boxed.new w 3 (.int .i64 r)
  have bB := Boxed.new (w.alloc (.cells #[.int .i64 r] 3)) 4 (.bool false)
  have bN := Boxed.new ((w.alloc (.cells #[.int .i64 r] 3)).alloc (.cells #[.bool false] 4)) 28 (.slice A xs.length cap)
  rw [World.size_alloc] at bB
  rw [World.size_alloc, World.size_alloc] at bN
  have hB0 : Below w.heap.size w (((w.alloc (.cells #[.int .i64 r] 3)).alloc (.cells #[.bool false] 4)).alloc (.cells #[.slice A xs.length cap] 28)) := (((Below.refl _ w).alloc (Nat.le_refl _) _).alloc (by simp) _).alloc (by simp; omega) _
  refine wpIn_rangeFunc_ownG (α := End) hro (by omega) (gf := 63) (lb := #[.pointer (some ⟨w.heap.size + 1 + 1, 0, none⟩)]) rfl h46 (enters_of Tryd.func63 (by kernel_rfl) rfl)
    (ends_stopsF HFw 2 (w.heap.size + 1 + 1) w.heap.size h0 A cap xs hlen _ (by simp) (by simp only [World.size_alloc]; omega) bN.cell (hA.below hB0 h0) (hS.below hB0)) Kp.trans (Kp.put (by simp only [World.size_alloc]; omega)) (Below.refl _ _) (fun _ => rfl)
    (fun pre W => (NoneIn r pre ∧ Boxed W w.heap.size 3 (.int .i64 r) ∧ Boxed W (w.heap.size + 1) 4 (.bool false)) ∧ Below w.heap.size w W)
    (fun c pre W => (c = .ret ∧ SomeIn r pre ∧ Boxed W (w.heap.size + 1) 4 (.bool true)) ∧ Below w.heap.size w W)
    (OwnFrom.and (Own.from (fun s U V row hs hg hr => ⟨hs.1, boxed_kept hs.2.1 hg hr, boxed_kept hs.2.2 hg hr⟩) _) (ownFrom_below (Nat.le_refl _) (by simp; omega)))
    (fun c => OwnFrom.and (Own.from (fun s U V row hs hg hr => ⟨hs.1, hs.2.1, boxed_kept hs.2.2 hg hr⟩) _) (ownFrom_below (Nat.le_refl _) (by simp; omega)))
    ⟨⟨fun p hp => absurd hp (by simp), (bR.alloc _).alloc _, bB.alloc _⟩, hB0⟩
    (fun x => { tmps := #[.slice A xs.length cap, .int .i64 r, undef, .pointer (some ⟨w.heap.size, 0, none⟩), .pointer (some ⟨w.heap.size + 1, 0, none⟩), .int .i64 x.1.1, .int .i64 x.1.2, .slice A xs.length cap, .func (.func 63) #[] #[.pointer (some ⟨w.heap.size + 1 + 1, 0, none⟩)], .int .i64 x.1.1, .int .i64 x.1.2, undef, undef, undef, undef, undef, undef, undef, undef], defers := [] }) ?assign ?body ?done ?stop
  case assign =>
    intro l x W K hK
    simp only [endE]
    gi_wp2
    exact hK
  case body =>
    rintro l pre x W ⟨⟨hp, bR, bB⟩, hB⟩ _
    have hcr := bR.cell
    have hcb := bB.cell
    have hfb := bB.frozen
    by_cases h1 : x.1.1 ≤ r
    · by_cases h2 : r ≤ x.1.2
      · have HX : Hid (SomeIn r (pre ++ [x])) := Lib.hid ⟨x, by simp, h1, h2⟩
        gi_wp2
        exact ⟨(KeepsOthers.setCell _ _ _).from _, ⟨rfl, HX.out, bB.set _⟩, hB.setCell (p := ⟨w.heap.size + 1, 0, none⟩) (by simp) _⟩
      · have HX : Hid (NoneIn r (pre ++ [x])) := Lib.hid (hp.snoc (fun h => h2 h.2))
        have h3 : ¬ (r ≤ x.1.2) := h2
        gi_wp2
        exact ⟨KeepsFrom.refl _ _, Kp.refl _ _, ⟨HX.out, bR, bB⟩, hB⟩
    · have HX : Hid (NoneIn r (pre ++ [x])) := Lib.hid (hp.snoc (fun h => h1 h.1))
      gi_wp2
      exact ⟨KeepsFrom.refl _ _, Kp.refl _ _, ⟨HX.out, bR, bB⟩, hB⟩
  case done =>
    rintro D ys W hD rfl ⟨⟨hne, bR, bB⟩, hB⟩ hK
    have hcb := bB.cell
    have hfb := bB.frozen
    have HT : Hid (decide (Tells xs r) = false) := Lib.hid (decide_eq_false (tells_of_none hne))
    gi_wp2
    have hK' := (KeepsOthers.setCell W ⟨w.heap.size + 1, 0, none⟩ (.bool false)).same D _ hK rfl
    refine ⟨by simp, .inl ⟨_, _, rfl, run_takeDeferred hK', ?_⟩⟩
    have hc5 := cell_kept (World.cell?_setCell_same' W ⟨w.heap.size + 1, 0, none⟩ (.bool false) (by rw [hcb]; rfl)) (grownBy_putObj' _ D (.deferred none)) (fun r e => by cases e; exact ⟨_, hK', rfl⟩)
    refine ⟨.bool false, ?_, by rw [HT.out], (hB.setCell (p := ⟨w.heap.size + 1, 0, none⟩) (by simp) _).trans (belowK_b (w := w) (Nat.le_refl _) _ D _ _ (by simp at hD; omega) hK' rfl rfl)⟩
    simp [results, Tryd.f37, go_sem, hc5]
  case stop =>
    rintro D c pre W hD hpre ⟨⟨rfl, hex, bB⟩, hB⟩ hK
    have hcb := bB.cell
    have HT : Hid (decide (Tells xs r) = true) := Lib.hid (decide_eq_true (tells_of_some hex hpre))
    clear hpre
    gi_wp2
    refine ⟨by simp, .inl ⟨_, _, rfl, run_takeDeferred hK, ?_⟩⟩
    have hc5 := cell_kept hcb (grownBy_putObj' _ D (.deferred none)) (fun r e => by cases e; exact ⟨_, hK, rfl⟩)
    refine ⟨.bool true, ?_, by rw [HT.out], hB.trans (belowK_b (w := w) (Nat.le_refl _) W D _ _ (by simp at hD; omega) hK rfl rfl)⟩
    simp [results, Tryd.f37, go_sem, hc5]

theorem has_any (A : Option Addr) (cap : Nat) (xs : List Sp) (r : Int) (hlen : xs.length ≤ 1073741824) (w : World) (h0 : 0 < w.heap.size) (hA : Areas w) (hS : Spans w.heap.size w A xs) :
    Calls Tryd.prog 37 #[.slice A xs.length cap, .int .i64 r] w (HasPost w xs r) := callsIn_wide.1 (has_in A cap xs r hlen w h0 hA hS)
end Go.Proofs.YtkphbjppmiefkaaDoor
