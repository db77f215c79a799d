/- An iterator that writes memory of its own between two rounds, and whose rounds all go on: its contract, and the law for the loop over it. -/
import Derived.RangeFuncNested
import Derived.RangeFuncBound
import Derived.RangeFuncCalls
import Derived.RangeFuncLeaves
import Derived.RangeFuncBox
import Derived.Test.YtgaalkcociifmaaDoorEnds
namespace Go.Proofs.YtgaalkcociifmaaDoor
open Go Go.RowKit Go.Shelf SetM

/-- What a round keeps: all below n₀; all cells of spans and of functions; from B on all that is no cells. -/
structure Kr (n₀ B : Nat) (V W : World) : Prop where
  below : Below n₀ V W
  cells : ∀ (k : Nat) (cs : Array Value) (t : TypeId) (fr : Nat × Nat), (t = 43 ∨ t = 68) → V.heap[k]? = some (.cells cs t fr) → W.heap[k]? = some (.cells cs t fr)
  keeps : KeepsFrom B V W
theorem Kr.refl (n₀ B : Nat) (w : World) : Kr n₀ B w w := ⟨Below.refl _ _, fun _ _ _ _ _ h => h, KeepsFrom.refl _ _⟩
theorem Kr.trans {n₀ B : Nat} {U V W : World} (h : Kr n₀ B U V) (k : Kr n₀ B V W) : Kr n₀ B U W := ⟨h.below.trans k.below, fun i cs t fr ht e => k.cells i cs t fr ht (h.cells i cs t fr ht e), h.keeps.trans k.keeps⟩
/-- A turn of something that is no cells, below B. -/
theorem Kr.put {n₀ B : Nat} {V : World} {l : Nat} {o : Obj} (o' : Obj) (hn : n₀ ≤ l) (hB : l < B) (hl : V.heap[l]? = some o) (ho : o.isCells = false) : Kr n₀ B V (V.putObj l o') := by
  refine ⟨(Below.refl n₀ V).grown (grownBy_putObj' V l o') (Nat.le_trans hn (Nat.le_of_lt (Array.getElem?_eq_some_iff.1 hl).1)) (fun k e => by cases e; exact hn), fun k cs t fr _ e => ?_, KeepsFrom.of_grownBy (grownBy_putObj' V l o') (fun j e => by cases e; exact hB)⟩
  rw [World.putObj_heap_other (fun h => by subst h; rw [hl] at e; cases e; cases ho), e]
theorem Kr.mono {n₀ B B' : Nat} {V W : World} (h : Kr n₀ B V W) (hB : B ≤ B') : Kr n₀ B' V W := ⟨h.below, h.cells, ⟨h.keeps.size, fun k o hk => h.keeps.same k o (Nat.le_trans hB hk)⟩⟩
/-- What a word about memory abides: new blocks; from B on, a turn of what is no cells, or holds spans. -/
def AbideR {β : Type} (B : Nat) (J : β → World → Prop) : Prop :=
  ∀ s W W' row, J s W → W.grownBy W' row → (∀ r, row = some r → B ≤ r ∧ ∃ o : Obj, W.heap[r]? = some o ∧ (o.isCells = false ∨ ∃ cs fr, o = .cells cs 43 fr)) → J s W'
theorem AbideR.own {β : Type} {B : Nat} {J : β → World → Prop} (h : AbideR B J) : OwnFrom B J := fun s W W' row hs hg hr => h s W W' row hs hg (fun r e => by obtain ⟨h1, o, h2, h3⟩ := hr r e; exact ⟨h1, o, h2, .inl h3⟩)
theorem AbideR.mono {β : Type} {B B' : Nat} {J : β → World → Prop} (h : AbideR B J) (hB : B ≤ B') : AbideR B' J := fun s W W' row hs hg hr => h s W W' row hs hg (fun r e => by obtain ⟨h1, h2⟩ := hr r e; exact ⟨Nat.le_trans hB h1, h2⟩)
theorem AbideR.new {β : Type} {B : Nat} {J : β → World → Prop} (h : AbideR B J) {s : β} {W W' : World} (hs : J s W) (hg : W.grownBy W' none) : J s W' := h s W W' none hs hg (fun _ e => by cases e)
theorem below_grown {W W' : World} (h : Below W.heap.size W W') : W.grownBy W' none := ⟨h.os, h.tape, h.output, h.size, fun k hk _ => h.block k hk⟩
theorem AbideR.below {β : Type} {B : Nat} {J : β → World → Prop} (h : AbideR B J) {s : β} {W W' : World} (hs : J s W) (hb : Below W.heap.size W W') : J s W' := h.new hs (below_grown hb)
theorem AbideR.put {β : Type} {B : Nat} {J : β → World → Prop} (h : AbideR B J) {s : β} {W : World} {l : Nat} {o : Obj} (o' : Obj) (hs : J s W) (hB : B ≤ l) (hl : W.heap[l]? = some o) (ho : o.isCells = false) : J s (W.putObj l o') :=
  h s W _ (some l) hs (grownBy_putObj' W l o') (fun r e => by cases e; exact ⟨hB, o, hl, .inl ho⟩)
theorem AbideR.and {β : Type} {B : Nat} {J K : β → World → Prop} (h : AbideR B J) (k : AbideR B K) : AbideR B (fun s W => J s W ∧ K s W) := fun s W W' row hs hg hr => ⟨h s W W' row hs.1 hg hr, k s W W' row hs.2 hg hr⟩
theorem abide_below {β : Type} {n B : Nat} {V : World} (hB : n ≤ B) (hn : n ≤ V.heap.size) : AbideR B (fun (_ : β) W => Below n V W) := fun _ _ _ _ hs hg hr =>
  hs.grown hg (Nat.le_trans hn hs.size) (fun k e => by have := (hr k e).1; omega)

variable {F : Fence} {n : Nat} {P : Program}
/-- The contract of such an iterator: whatever the rounds hold on to (J), all that S says comes, one by one; of each G holds when it comes. -/
def AllR {α : Type} (F : Fence) (n : Nat) (P : Program) (g : Nat) (lb : Array Value) (encs : α → Array Value) (G : α → World → Prop) (n₀ : Nat) (S : List α → Prop) (N : Nat) (w : World) : Prop :=
  ∀ (l : Nat) (J : List α → World → Prop) (W : World), Below w.heap.size w W → AbideR W.heap.size J →
    (∀ pre x W1, J pre W1 → G x W1 → pre.length < N → YieldAt F (n - 1) P l (encs x) W1 fun e W' => e = .returned (.bool true) ∧ J (pre ++ [x]) W' ∧ Kr n₀ W.heap.size W1 W') →
    J [] W →
    CallsIn F n P g (#[.func (.yield l) #[] #[]] ++ lb) W fun e W' => (∃ v, e = .returned v) ∧ ∃ xs, S xs ∧ J xs W'

/-- How a round's body ends: always at its end. -/
def allPost {α : Type} (n₀ B : Nat) (I : List α → World → Prop) (xs : List α) (W : World) : Exit → Act → World → Prop
  | .normal, _, W' => Kr n₀ B W W' ∧ I xs W'
  | _, _, _ => False

/-- The loop over such an iterator. -/
theorem wpIn_range_all {α : Type} {g : Operand} {ps : Array Tmp} {assign body : Code} {Q : Exit → Act → World → Prop} {a : Act} {w : World}
    (hro : F.round = none) (h1 : 1 ≤ n) {gf : Nat} {lb : Array Value} (hg : a.eval g = .func (.func gf) #[] lb) (hFg : F.fn gf) (eg : ∀ args w, (callFunc gf args).run P w = .ok (.enter gf args) w)
    {encs : α → Array Value} {G : α → World → Prop} {n₀ : Nat} {S : List α → Prop} {N : Nat} {w0 : World} (hseq : AllR F (n - 1) P gf lb encs G n₀ S N w0)
    (hG : ∀ (x : α) (W : World) (l : Nat) (o o' : Obj), W.heap[l]? = some o → o.isCells = false → G x W → G x (W.putObj l o'))
    (hn₀ : n₀ ≤ w.heap.size) (hb0 : Below w0.heap.size w0 w) (hps : ∀ x, (encs x).size = ps.size)
    (I : List α → World → Prop) (hI : AbideR w.heap.size I) (h0 : I [] w) (a₁ : α → Act)
    (hassign : ∀ (l : Nat) (x : α) (W : World) (K : Act → World → Prop), K (a₁ x) W →
      assign.wpIn (F.inRound l) (n - 1 - 1) P (Exit.then K (fun _ _ _ => False)) { tmps := (ps.zip (encs x)).foldl (fun t (p, v) => t.setIfInBounds p v) a.tmps, defers := [] } W)
    (hbody : ∀ (l : Nat) (pre : List α) (x : α) (W : World), I pre W → G x W → pre.length < N → body.wpIn (F.inRound l) (n - 1 - 1) P (allPost n₀ w.heap.size I (pre ++ [x]) W) (a₁ x) W)
    (hdone : ∀ (D : Nat) (xs : List α) (W : World), w.heap.size ≤ D → S xs → I xs W → W.heap[D]? = some (.deferred (some [])) → Q .normal { a with defers := { target := .collected D, args := #[] } :: a.defers } W) :
    (Code.rangeFunc g ps assign body).wpIn F n P Q a w := by
  refine wpIn_rangeFunc ?_
  intro fn hfn
  rw [hro]
  obtain ⟨rec, hrec⟩ : ∃ rec : LoopState → Loop, rec = fun st => { state := st, pending := none, fn, tmps := a.tmps, params := ps, assign, body, defers := w.heap.size } := ⟨_, rfl⟩
  obtain ⟨W1, hW1⟩ : ∃ W1, (w.alloc (.deferred (some []))).alloc (.loop (rec .ready)) = W1 := ⟨_, rfl⟩
  have hz1 : W1.heap.size = w.heap.size + 1 + 1 := by rw [← hW1]; simp only [World.size_alloc]
  have hL1 : W1.heap[w.heap.size + 1]? = some (.loop (rec .ready)) := by
    have := World.alloc_heap_new (w.alloc (.deferred (some []))) (.loop (rec .ready)); rwa [World.size_alloc, hW1] at this
  have hK1 : W1.heap[w.heap.size]? = some (.deferred (some [])) := by
    rw [← hW1]; exact (Below.heap_alloc _ _ _ (by simp)).trans (World.alloc_heap_new w _)
  have hb1 : Below w.heap.size w W1 := by rw [← hW1]; exact ((Below.refl _ w).alloc (Nat.le_refl _) _).alloc (by simp) _
  have hI1 : I [] W1 := hI.below h0 hb1
  refine ⟨w.heap.size + 1, [{ target := .collected w.heap.size, args := #[] }], W1, { target := .fn (.func gf) lb, args := #[.func (.yield (w.heap.size + 1)) #[] #[]] }, W1, gf,
    #[.func (.yield (w.heap.size + 1)) #[] #[]] ++ lb, W1, ?_, ?_, ?_, ?_, fun _ => h1, ?_⟩
  · rw [← hW1, hrec]; exact run_enterLoop_outer _ _ _ _ _
  · simp only [resolve, hg]; simp [go_sem]
  · intro f' hf'; simp [Target.leads] at hf'; subst hf'; exact hFg
  · simp [invoke, go_sem, eg]
  · have far : ∀ {A : World} {r : Nat}, (W1.heap.size ≤ r ∧ ∃ o : Obj, A.heap[r]? = some o ∧ (o.isCells = false ∨ ∃ cs fr, o = .cells cs 43 fr)) → w.heap.size ≤ r ∧ ∃ o : Obj, A.heap[r]? = some o ∧ (o.isCells = false ∨ ∃ cs fr, o = .cells cs 43 fr) := fun h => ⟨by have := h.1; omega, h.2⟩
    refine (hseq (w.heap.size + 1) (fun pre W => I pre W ∧ W.heap[w.heap.size + 1]? = some (.loop (rec .ready)) ∧ W.heap[w.heap.size]? = some (.deferred (some []))) W1 (hb0.trans (hb1.mono hb0.size)) ?_ ?_ ⟨hI1, hL1, hK1⟩).mono ?_
    · intro s A B row ⟨h2, h3, h4⟩ hgr hr
      have keep : ∀ k, k < W1.heap.size → some k ≠ row := fun k hk e => by have := (hr k e.symm).1; omega
      exact ⟨hI s A B row h2 hgr (fun r e => far (hr r e)), (hgr.block _ (Array.getElem?_eq_some_iff.1 h3).1 (keep _ (by omega))).trans h3, (hgr.block _ (Array.getElem?_eq_some_iff.1 h4).1 (keep _ (by omega))).trans h4⟩
    · rintro pre x W ⟨hi, hl, hk⟩ hgx hlen
      have hlt : w.heap.size + 1 < W.heap.size := (Array.getElem?_eq_some_iff.1 hl).1
      have hy := run_yield (P := P) (args := encs x) hl (by rw [hrec]; exact hps x)
      rw [hrec] at hy
      refine ⟨fn, _, assign, body, hy, roundIn_of_wpIn hfn (hassign _ x W _ ⟨_, run_beginRound hl (by rw [hrec]), ?_⟩)⟩
      have hl2 : (W.putObj (w.heap.size + 1) (.loop { rec .ready with state := .busy })).heap[w.heap.size + 1]? = some (.loop { rec .ready with state := .busy }) := World.putObj_heap_same hlt
      have hk2 : (W.putObj (w.heap.size + 1) (.loop { rec .ready with state := .busy })).heap[w.heap.size]? = some (.deferred (some [])) := (World.putObj_heap_other (by omega)).trans hk
      have kr1 : Kr n₀ W1.heap.size W (W.putObj (w.heap.size + 1) (.loop { rec .ready with state := .busy })) := Kr.put _ (by omega) (by omega) hl rfl
      refine wpIn_mono (hbody _ pre x _ (hI.put _ hi (by omega) hl rfl) (hG x W _ _ _ hl rfl hgx) hlen) ?_
      rintro e a3 W3 hp
      cases e with
      | normal =>
        obtain ⟨hk3, hi3⟩ := hp
        have hl3 := hk3.keeps.same _ _ (by omega) hl2 rfl
        have hd3 := hk3.keeps.same _ _ (Nat.le_refl _) hk2 rfl
        have hlt3 : w.heap.size + 1 < W3.heap.size := (Array.getElem?_eq_some_iff.1 hl3).1
        have hend := run_endRound (P := P) none hl3
        rw [hrec] at hend hl3
        refine ⟨_, _, hend, rfl, ⟨hI.put _ hi3 (by omega) hl3 rfl, ?_, (World.putObj_heap_other (by omega)).trans hd3⟩, kr1.trans ((hk3.mono (by omega)).trans (Kr.put _ (by omega) (by omega) hl3 rfl))⟩
        rw [hrec]; exact World.putObj_heap_same hlt3
      | ret => exact hp.elim
      | exit id => exact hp.elim
      | goto t => exact hp.elim
      | panic ch => exact hp.elim
      | outgrown => exact hp.elim
    · rintro e W2 ⟨⟨v, rfl⟩, xs, hS, hi, hl, hk⟩
      exact ⟨none, _, by have := run_endLoop (P := P) hl (by rw [hrec]; simp); rw [hrec] at this; exact this, hdone _ xs _ (Nat.le_refl _) hS (hI.put _ hi (by omega) hl rfl) ((World.putObj_heap_other (by omega)).trans hk)⟩

/-- Where no depth is asked, a round's contract serves at any. -/
theorem yield_any (hd : F.depth = none) {m : Nat} (m' : Nat) {l : Nat} {args : Array Value} {W : World} {R : Ending → World → Prop} (h : YieldAt F m P l args W R) : YieldAt F m' P l args W R := by
  obtain ⟨fn, tmps, assign, body, hy, hF, hR⟩ := h
  exact ⟨fn, tmps, assign, body, hy, hF, fun c cs _ => hR c cs (by unfold Fence.room; simp [hd])⟩
end Go.Proofs.YtgaalkcociifmaaDoor
