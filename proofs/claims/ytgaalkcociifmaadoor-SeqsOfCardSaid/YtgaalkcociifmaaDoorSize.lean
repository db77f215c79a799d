/- set.Size: how many scalars spans tell. -/
import Derived.Test.YtgaalkcociifmaaDoorOps
namespace Go.Proofs.YtgaalkcociifmaaDoor
open Go.RowKit Go.Shelf SetM
attribute [local go_sem] Oper.semAt_some

/-- How many numbers a list of spans has, each span counted whole. -/
def sizeL (l : List Sp) : Int := (l.map fun s => s.2 - s.1 + 1).sum
theorem sizeL_append (a b : List Sp) : sizeL (a ++ b) = sizeL a + sizeL b := by simp [sizeL]
theorem sizeL_bound (pre : List End) : 0 ≤ sizeL (pre.map (·.1)) ∧ sizeL (pre.map (·.1)) ≤ 1114112 * pre.length := by
  induction pre with
  | nil => simp [sizeL]
  | cons x t ih =>
    obtain ⟨h1, h2, h3⟩ := x.2
    have : sizeL ((x :: t).map (·.1)) = (x.1.2 - x.1.1 + 1) + sizeL (t.map (·.1)) := by simp [sizeL]
    rw [this, List.length_cons]
    omega
/-- Spans of scalars alone are their own ends. -/
theorem endsOf_self (s : Sp) (h1 : s.1 ≤ s.2) (h : ∀ r, s.1 ≤ r → r ≤ s.2 → Sc r) : endsOf s = [s] := by
  have ha := h s.1 (Int.le_refl _) h1
  have hb := h s.2 h1 (Int.le_refl _)
  have hc : ¬ (s.1 ≤ 55296 ∧ 55296 ≤ s.2) := fun hh => by have := h 55296 hh.1 hh.2; unfold Sc at this; omega
  unfold Sc at ha hb
  obtain ⟨a, b⟩ := s
  dsimp only at *
  unfold endsOf
  dsimp only
  rcases ha with ha | ha
  · have hb2 : b ≤ 55295 := by omega
    rw [if_neg (by omega), if_pos (by omega), if_pos (by omega), show max a 0 = a from by omega, show min b 55295 = b from by omega]
    simp
  · rw [if_neg (by omega), if_neg (by omega), if_neg (by omega), if_pos (by omega), show max a 57344 = a from by omega, show min b 1114111 = b from by omega]
    simp
theorem nf_le {l : List Sp} (h : Nf l) : ∀ s ∈ l, s.1 ≤ s.2 := by
  induction l with
  | nil => simp
  | cons x t ih =>
    intro s hs
    rcases List.mem_cons.1 hs with rfl | hs
    · exact h.1
    · exact ih h.2.2 s hs
theorem endsL_self (l : List Sp) (hn : Nf l) (h : ∀ r, Mem l r → Sc r) : endsL l = l := by
  have : ∀ s ∈ l, endsOf s = [s] := fun s hs => endsOf_self s (nf_le hn s hs) (fun r h1 h2 => h r ⟨s, hs, h1, h2⟩)
  have key : ∀ m : List Sp, (∀ s ∈ m, endsOf s = [s]) → m.flatMap endsOf = m := by
    intro m
    induction m with
    | nil => simp
    | cons x t ih => intro hm; rw [List.flatMap_cons, hm x (by simp), ih (fun s hs => hm s (by simp [hs]))]; rfl
  exact key l this

theorem spansK_of {W : World} {base : Nat} {v : Value} {l : List Sp} (h : W.ownsRow base 43 2 v l.length (cellsS l)) : ∃ P c, v = .slice P l.length c ∧ ∀ n₀, SpansK n₀ W P l := by
  obtain ⟨P, c, hv, hs⟩ := spans_of h
  refine ⟨P, c, hv, fun n₀ hne => ?_⟩
  obtain ⟨b, off, e, _, hc⟩ := hs hne
  refine ⟨b, off, e, .inr ?_, hc⟩
  rcases h.2 with ⟨rfl, h0⟩ | ⟨g, cap, cur, rfl, hb, hg, _⟩
  · exact absurd (List.eq_nil_of_length_eq_zero h0) hne
  · injection hv with h1
    rw [e] at h1
    injection h1 with h1
    injection h1 with h1
    exact ⟨cur, _, by rw [← h1]; exact hg⟩

def SizePost (w : World) (xs : List Sp) (e : Ending) (w' : World) : Prop :=
  ∃ out, Nf out ∧ (∀ r, Mem out r ↔ Tells xs r) ∧ e = .returned (.int .i64 (sizeL out)) ∧ Below w.heap.size w w'

set_option maxRecDepth 100000 in
set_option maxHeartbeats 1000000 in
theorem size_in (A : Option Addr) (cap : Nat) (xs : List Sp) (hlen : xs.length ≤ 268435456) (w : World) (h0 : 1 < w.heap.size) (hA : Areas w) (hS : Spans w.heap.size w A xs) :
    CallsIn Fence.wide 3 Tryd.prog 50 #[.slice A xs.length cap] w (SizePost w xs) := by
  obtain ⟨F, hFw⟩ : ∃ F, F = Fence.wide := ⟨_, rfl⟩
  have hro : F.round = none := by rw [hFw]; rfl
  have hF : ∀ f, F.fn f := fun f => by rw [hFw]; trivial
  rw [← hFw]
  have h15 := hF 50
  have h35 := hF 65
  have h13 := hF 47
  have h46 := hF 73
  have HFw := Lib.hid hFw
  clear hF hFw
  have hb0 : Below w.heap.size w (w.alloc (.cells #[.int .i64 0] 3)) := (Below.refl _ w).alloc (Nat.le_refl _) _
  have hc := norm_any A cap xs (by omega) (w.alloc (.cells #[.int .i64 0] 3)) (by rw [World.size_alloc]; omega) (hA.below hb0 h0) ((hS.below hb0).mono (by rw [World.size_alloc]; omega))
  have HC := Lib.hid hc
  have bS0 := Boxed.new w 3 (.int .i64 0)
  clear hc
  refine callsIn_of_wp_marks Tryd.func50 rfl h15 ?_ hro
  simp only [Tryd.ntmps50, List.size_toArray, List.length_cons, List.length_nil, Nat.reduceAdd, Nat.reduceSub, Array.replicate_succ, Array.replicate_zero, List.push_toArray, List.append_toArray, List.nil_append, List.cons_append]
  gi_wp2_with (first | (gi_at_call 47; refine (toIn (n := 2) HFw HC.out).mono ?_; rintro e W1 ⟨v, out, rfl, hnf, hmem, hol, hown, hb1⟩; obtain ⟨P, c, rfl, hsp⟩ := spansK_of hown) | (gi_at_call 65; refine (toIn (n := 2) HFw (ends_any _ _ _ _)).mono ?_; rintro e w' ⟨rfl, rfl⟩))
  have hb2 : Below w.heap.size w W1 := hb0.trans (hb1.mono (by rw [World.size_alloc]; omega))
  have bS : Boxed W1 w.heap.size 3 (.int .i64 0) := (hb1.block _ (by rw [World.size_alloc]; omega)).trans bS0
  have bN := Boxed.new W1 25 (.slice P out.length c)
  have hsz := hb2.size
  have hB0 : Below w.heap.size w (W1.alloc (.cells #[.slice P out.length c] 25)) := hb2.alloc hsz _
  have hspK : SpansK w.heap.size (W1.alloc (.cells #[.slice P out.length c] 25)) P out := (hsp w.heap.size).kp ((Kp.refl w.heap.size W1).alloc hsz _)
  have hends : (endsE out).map (·.1) = out := by
    rw [endsE_val]; exact endsL_self out hnf (fun r hr => ((hmem r).1 hr).1)
  have hel : (endsE out).length = out.length := by
    have := congrArg List.length hends
    rwa [List.length_map] at this
  have HM : Hid (Nf out ∧ (∀ r, Mem out r ↔ Tells xs r)) := Lib.hid ⟨hnf, hmem⟩
  have HE := Lib.hid hends
  clear hmem hends hown hb1 bS0 hnf hsp
  refine wpIn_rangeFunc_ownG (α := End) hro (by omega) (gf := 73) (lb := #[.pointer (some ⟨W1.heap.size, 0, none⟩)]) rfl h46 (enters_of Tryd.func73 (by kernel_rfl) rfl)
    (ends_stopsK HFw 2 W1.heap.size w.heap.size h0 P c out (by omega) _ bN.lt hB0.size bN.cell (hA.below hB0 h0) hspK) Kp.trans (Kp.put hB0.size) (Below.refl _ _) (fun _ => rfl)
    (fun pre W => Boxed W w.heap.size 3 (.int .i64 (sizeL (pre.map (·.1)))) ∧ Below w.heap.size w W) (fun _ _ _ => False)
    (OwnFrom.and (Own.from (boxed_own w.heap.size 3 (fun pre : List End => .int .i64 (sizeL (pre.map (·.1))))) _) (ownFrom_below (Nat.le_refl _) hB0.size)) (fun _ _ _ _ _ hs _ _ => hs)
    ⟨bS.alloc _, hB0⟩
    (fun x => { tmps := #[.slice A xs.length cap, undef, .int .i64 0, .pointer (some ⟨w.heap.size, 0, none⟩), .int .i64 x.1.1, .int .i64 x.1.2, .slice A xs.length cap, .slice P out.length c, .func (.func 73) #[] #[.pointer (some ⟨W1.heap.size, 0, none⟩)], .int .i64 x.1.1, .int .i64 x.1.2, undef, undef, undef, undef, undef, undef, undef], defers := [] }) ?assign ?body ?done ?stop
  case assign =>
    intro l x W K hK
    simp only [endE]
    gi_wp2
    exact hK
  case body =>
    rintro l pre x W ⟨bB, hB⟩ hpl
    have hcb := bB.cell
    have hfb := bB.frozen
    obtain ⟨x0, x1, x2⟩ := x.2
    obtain ⟨s0, s1⟩ := sizeL_bound pre
    have hsn : sizeL ((pre ++ [x]).map (·.1)) = sizeL (pre.map (·.1)) + (x.1.2 - x.1.1 + 1) := by rw [List.map_append, sizeL_append]; simp [sizeL]
    have HSN := Lib.hid hsn
    clear hsn
    generalize sizeL (pre.map (·.1)) = sn at *
    gi_wp2
    exact ⟨(KeepsOthers.setCell _ _ _).from _, Kp.of_grown ((Below.refl w.heap.size W).setCell (p := ⟨w.heap.size, 0, none⟩) (Nat.le_refl _) _) (grownBy_setCell' W w.heap.size _) (fun k e => by cases e; exact ⟨_, _, _, bB, by decide⟩), by rw [HSN.out]; exact bB.set _, hB.setCell (p := ⟨w.heap.size, 0, none⟩) (Nat.le_refl _) _⟩
  case done =>
    rintro D ys W hD rfl ⟨bB, hB⟩ hK
    rw [HE.out] at bB
    have hcb := bB.cell
    gi_wp2
    refine ⟨by simp, .inl ⟨_, _, rfl, run_takeDeferred hK, ?_⟩⟩
    exact ⟨_, results_tmp rfl _ _ _, out, HM.out.1, HM.out.2, rfl, hB.trans (belowK_b (w := w) (Nat.le_refl _) W D _ _ (by rw [World.size_alloc] at hD; omega) hK rfl rfl)⟩
  case stop =>
    rintro D c pre W _ _ h _
    exact h.elim
theorem size_any (A : Option Addr) (cap : Nat) (xs : List Sp) (hlen : xs.length ≤ 268435456) (w : World) (h0 : 1 < w.heap.size) (hA : Areas w) (hS : Spans w.heap.size w A xs) :
    Calls Tryd.prog 50 #[.slice A xs.length cap] w (SizePost w xs) := callsIn_wide.1 (size_in A cap xs hlen w h0 hA hS)
end Go.Proofs.YtgaalkcociifmaaDoor
