/- Slices of slices of spans, and of ints: how they are read. -/
import Derived.Laws.OwnMore
import Derived.Test.YtkphbjppmiefkaaDoorWords
namespace Go.Proofs.YtkphbjppmiefkaaDoor
open Go.RowKit Go.Shelf SetM

/-- A slice of slices of spans. -/
def RowsAt (n₀ : Nat) (W : World) (A : Option Addr) (ls : List (List Sp)) : Prop :=
  ls ≠ [] → ∃ b off, A = some ⟨b, off, none⟩ ∧ b < n₀ ∧ ∀ j (h : j < ls.length), ∃ P c, W.cell? ⟨b, off + j, none⟩ = some (.slice P ls[j].length c) ∧ Spans n₀ W P ls[j] ∧ (P = none → c = 0)
theorem RowsAt.below {n₀ : Nat} {V W : World} (h : Below n₀ V W) {A : Option Addr} {ls : List (List Sp)} (hs : RowsAt n₀ V A ls) : RowsAt n₀ W A ls := fun hl => by
  obtain ⟨b, off, e, hb, hc⟩ := hs hl
  refine ⟨b, off, e, hb, fun j hj => ?_⟩
  obtain ⟨P, c, h1, h2, h3⟩ := hc j hj
  exact ⟨P, c, (h.cell (p := ⟨b, off + j, none⟩) hb).trans h1, h2.below h, h3⟩
theorem RowsAt.mono {n₀ n₁ : Nat} {W : World} {A : Option Addr} {ls : List (List Sp)} (hs : RowsAt n₀ W A ls) (h : n₀ ≤ n₁) : RowsAt n₁ W A ls := fun hl => by
  obtain ⟨b, off, e, hb, hc⟩ := hs hl
  exact ⟨b, off, e, by omega, fun j hj => let ⟨P, c, h1, h2, h3⟩ := hc j hj; ⟨P, c, h1, h2.mono h, h3⟩⟩
/-- A slice of slices of spans, all below the world's end. -/
def Rs (W : World) (A : Option Addr) (ls : List (List Sp)) : Prop := RowsAt W.heap.size W A ls
theorem Rs.step {W W' : World} {A : Option Addr} {ls : List (List Sp)} (h : Rs W A ls) (hb : Below W.heap.size W W') : Rs W' A ls := (RowsAt.below hb h).mono hb.size
/-- A slice of ints. -/
def Zs (W : World) (A : Option Addr) (l : List Int) : Prop := l ≠ [] → ∃ b off, A = some ⟨b, off, none⟩ ∧ b < W.heap.size ∧ ∀ j (h : j < l.length), W.cell? ⟨b, off + j, none⟩ = some (.int .i64 l[j])
theorem Zs.step {W W' : World} {A : Option Addr} {l : List Int} (h : Zs W A l) (hb : Below W.heap.size W W') : Zs W' A l := fun hl => by
  obtain ⟨b, off, e, h1, h2⟩ := h hl
  exact ⟨b, off, e, by have := hb.size; omega, fun j hj => (hb.cell (p := ⟨b, off + j, none⟩) h1).trans (h2 j hj)⟩
theorem Zs.nil (W : World) (A : Option Addr) : Zs W A [] := fun h => absurd rfl h
/-- A slice of spans. -/
def Sl0 (W : World) (P : Option Addr) (l : List Sp) : Prop := Spans W.heap.size W P l
theorem grown_refl' (W : World) (row : Option Nat) : W.grownBy W row := ⟨rfl, rfl, rfl, Nat.le_refl _, fun _ _ _ => rfl⟩
theorem cells2 {W : World} {b : Nat} {x y : Value} {t : TypeId} (h : W.heap[b]? = some (.cells #[x, y] t (0, 0))) : (W.cell? ⟨b, 0, none⟩ = some x ∧ W.cell? ⟨b, 1, none⟩ = some y) ∧ W.frozen? ⟨b, 0, none⟩ = false ∧ W.frozen? ⟨b, 1, none⟩ = false := by
  exact ⟨⟨cell_of_row W _ 0 _ _ _ h, cell_of_row W _ 1 _ _ _ h⟩, frozen_of_row W _ 0 _ _ h, frozen_of_row W _ 1 _ _ h⟩
/-- All that lay there lies as it lay, but for some blocks. -/
structure Kpt (S : Nat → Prop) (V W : World) : Prop where
  os : W.os = V.os
  tape : W.tape = V.tape
  output : W.output = V.output
  size : V.heap.size ≤ W.heap.size
  block : ∀ k, k < V.heap.size → ¬ S k → W.heap[k]? = V.heap[k]?
section
variable {S : Nat → Prop} {U V W : World}
theorem Kpt.refl (S : Nat → Prop) (V : World) : Kpt S V V := ⟨rfl, rfl, rfl, Nat.le_refl _, fun _ _ _ => rfl⟩
theorem Kpt.trans (h : Kpt S U V) (k : Kpt S V W) : Kpt S U W :=
  ⟨k.os.trans h.os, k.tape.trans h.tape, k.output.trans h.output, Nat.le_trans h.size k.size, fun j hj hs => (k.block j (Nat.lt_of_lt_of_le hj h.size) hs).trans (h.block j hj hs)⟩
theorem Kpt.grown {row : Option Nat} (h : Kpt S U V) (hg : V.grownBy W row) (hr : ∀ k, row = some k → S k ∨ U.heap.size ≤ k) : Kpt S U W :=
  ⟨hg.os.trans h.os, hg.tape.trans h.tape, hg.output.trans h.output, Nat.le_trans h.size hg.size, fun j hj hs => (hg.block j (Nat.lt_of_lt_of_le hj h.size) (fun e => by
    rcases hr j e.symm with h1 | h1
    · exact hs h1
    · omega)).trans (h.block j hj hs)⟩
theorem Kpt.below (h : Kpt S U V) (hb : Below V.heap.size V W) : Kpt S U W :=
  h.trans ⟨hb.os, hb.tape, hb.output, hb.size, fun k hk _ => hb.block k hk⟩
theorem Kpt.mono {T : Nat → Prop} (h : Kpt S U V) (hs : ∀ k, k < U.heap.size → S k → T k) : Kpt T U V := ⟨h.os, h.tape, h.output, h.size, fun k hk hn => h.block k hk (fun h => hn (hs k hk h))⟩
theorem Kpt.toGrown {g : Nat} (h : Kpt S U V) (hs : ∀ k, k < U.heap.size → S k → k = g) : U.grownBy V (some g) := ⟨h.os, h.tape, h.output, h.size, fun k hk hn => h.block k hk (fun h => hn (by rw [hs k hk h]))⟩
theorem Kpt.toBelow {n : Nat} (h : Kpt S U V) (hn : n ≤ U.heap.size) (hs : ∀ k, k < n → ¬ S k) : Below n U V := ⟨h.os, h.tape, h.output, h.size, fun k hk => h.block k (by omega) (hs k hk)⟩
theorem Kpt.of_below (hb : Below U.heap.size U V) : Kpt S U V := (Kpt.refl S U).below hb
theorem Kpt.cell (h : Kpt S U V) {b i : Nat} {v : Value} (hc : U.cell? ⟨b, i, none⟩ = some v) (hs : ¬ S b) (hb : b < U.heap.size) : V.cell? ⟨b, i, none⟩ = some v :=
  (World.cell?_of_block (h.block b hb hs)).trans hc
end
/-- A row of ints of the call's own. -/
def WsO (W : World) (g : Nat) (ws : List Int) : Prop := W.ownsRow 0 3 1 (.slice (some ⟨g, 0, none⟩) ws.length ws.length) ws.length (ws.map (Value.int .i64))
section
variable {W W' : World} {g : Nat} {ws : List Int}
theorem WsO.lt (h : WsO W g ws) : g < W.heap.size := (World.ownsRow.lt h g rfl).2
theorem WsO.cell (h : WsO W g ws) {j : Nat} (hj : j < ws.length) : W.cell? ⟨g, j, none⟩ = some (.int .i64 ws[j]) := by
  rw [World.ownsRow.cellAt h j (by omega)]; simp [hj]
theorem WsO.frz (h : WsO W g ws) (j : Nat) : W.frozen? ⟨g, j, none⟩ = false := World.ownsRow.frozenAt h j
theorem WsO.set (h : WsO W g ws) (j : Nat) (v : Int) : WsO (W.setCell ⟨g, j, none⟩ (.int .i64 v)) g (ws.set j v) ∧ W.grownBy (W.setCell ⟨g, j, none⟩ (.int .i64 v)) (some g) := by
  have := World.ownsRow.stored h j (.int .i64 v)
  unfold WsO
  rw [List.length_set, List.map_set]
  exact this
theorem WsO.kept (h : WsO W g ws) {row : Option Nat} (hg : W.grownBy W' row) (hne : row ≠ some g) : WsO W' g ws := World.ownsRow.kept h hg (.inr (fun e => hne e.symm))
theorem WsO.below (h : WsO W g ws) (hb : Below W.heap.size W W') : WsO W' g ws := h.kept (row := none) ⟨hb.os, hb.tape, hb.output, hb.size, fun k hk _ => hb.block k hk⟩ (by simp)
theorem WsO.zs (h : WsO W g ws) : Zs W (some ⟨g, 0, none⟩) ws := fun _ => ⟨g, 0, rfl, h.lt, fun j hj => by rw [Nat.zero_add]; exact h.cell hj⟩
end
end Go.Proofs.YtkphbjppmiefkaaDoor
