
/- The calls of package set as steps of a law's walk: what each hands back, in words that the walk leaves closed. -/
import Derived.Test.YtkphbjppmiefkaaDoorMake
namespace Go.Proofs.YtkphbjppmiefkaaDoor
open Go.RowKit Go.Shelf SetM

/-- Where a law's walk stands: all that lay at its beginning lies as it lay; the table is there. -/
structure Ctx (w W : World) : Prop where
  below : Below w.heap.size w W
  areas : Areas W
  pos : 0 < W.heap.size
theorem Ctx.start {w : World} (h0 : 0 < w.heap.size) (hA : Areas w) : Ctx w w := ⟨Below.refl _ _, hA, h0⟩
theorem Ctx.step {w W W' : World} (h : Ctx w W) (hb : Below W.heap.size W W') : Ctx w W' :=
  ⟨h.below.trans (hb.mono h.below.size), h.areas.below hb h.pos, by have := hb.size; have := h.pos; omega⟩
/-- A slice holds the spans l. -/
def Sl (W : World) (P : Option Addr) (l : List Sp) : Prop := Spans W.heap.size W P l
theorem Sl.step {W W' : World} {P : Option Addr} {l : List Sp} (h : Sl W P l) (hb : Below W.heap.size W W') : Sl W' P l := (Spans.below hb h).mono hb.size
/-- The list is the normal list of a condition. -/
def IsSet (l : List Sp) (K : Int → Prop) : Prop := Nf l ∧ ∀ r, Mem l r ↔ K r
theorem IsSet.eq {a b : List Sp} {K L : Int → Prop} (ha : IsSet a K) (hb : IsSet b L) (h : ∀ r, K r ↔ L r) : a = b := nf_unique a b ha.1 hb.1 (fun r => by rw [ha.2, hb.2]; exact h r)
theorem IsSet.congr {a : List Sp} {K L : Int → Prop} (ha : IsSet a K) (h : ∀ r, K r ↔ L r) : IsSet a L := ⟨ha.1, fun r => (ha.2 r).trans (h r)⟩
/-- A set's spans tell just what is in it, if that is scalars alone. -/
theorem IsSet.tells {a : List Sp} {K : Int → Prop} (ha : IsSet a K) (hs : ∀ r, K r → Sc r) (r : Int) : Tells a r ↔ K r := by
  unfold Tells; rw [ha.2]; exact ⟨fun h => h.2, fun h => ⟨hs r h, h⟩⟩
def SetStep (W : World) (K : Int → Prop) (N : Nat) (e : Ending) (W' : World) : Prop :=
  ∃ P c out, e = .returned (.slice P (List.length out) c) ∧ IsSet out K ∧ out.length ≤ N ∧ Sl W' P out ∧ (P = none → c = 0) ∧ Below W.heap.size W W'
theorem SetPost.toStep {W : World} {K : Int → Prop} {N : Nat} {e : Ending} {W' : World} (h : SetPost W K N e W') : SetStep W K N e W' := by
  obtain ⟨v, out, h1, h2, h3, h4, h5, h6⟩ := h
  obtain ⟨P, c, rfl, hs⟩ := spans_of h5
  refine ⟨P, c, out, h1, ⟨h2, h3⟩, h4, hs, fun hP => ?_, h6⟩
  rcases h5.2 with ⟨e1, _⟩ | ⟨g, cap, cur, e1, _⟩
  · injection e1
  · subst hP; injection e1 with e1; cases e1
variable {w W : World}
theorem norm_c {P : Option Addr} {c : Nat} {l : List Sp} (hC : Ctx w W) (hs : Sl W P l) (hl : l.length ≤ 1000000) : Calls Tryd.prog 26 #[.slice P l.length c] W (SetStep W (fun r => Tells l r) (4 * l.length)) :=
  (norm_any P c l (by omega) W hC.pos hC.areas hs).mono fun _ _ h => h.toStep
theorem has_c {P : Option Addr} {c : Nat} {l : List Sp} (r : Int) (hC : Ctx w W) (hs : Sl W P l) (hl : l.length ≤ 1000000) : Calls Tryd.prog 37 #[.slice P l.length c, .int .i64 r] W (HasPost W l r) :=
  has_any P c l r (by omega) W hC.pos hC.areas hs
theorem alike_c {P Q : Option Addr} {c d : Nat} {l m : List Sp} (hs : Sl W P l) (ht : Sl W Q m) (hl : l.length ≤ 1000000) (hm : m.length ≤ 1000000) : Calls Tryd.prog 21 #[.slice P l.length c, .slice Q m.length d] W fun e W' => e = .returned (.bool (decide (l = m))) ∧ Below W.heap.size W W' :=
  alike_any P Q c d l m (by omega) (by omega) W hs ht
theorem make_c {A : Option Addr} {ca : Nat} {cs : List Int} (hU : U16s w.heap.size w A cs) (hC : Ctx w W) : Calls Tryd.prog 14 #[.slice A cs.length ca] W fun e W' => ∃ P c, e = .returned (.slice P (makeF cs).length c) ∧ Sl W' P (makeF cs) ∧ (P = none → c = 0) ∧ Below W.heap.size W W' := by
  refine (make_any A ca cs W ((hU.below hC.below).mono hC.below.size)).mono ?_
  rintro e W' ⟨v, rfl, ho, hb⟩
  obtain ⟨P, c, rfl, hs⟩ := spans_of ho
  refine ⟨P, c, rfl, hs, fun hP => ?_, hb⟩
  rcases ho.2 with ⟨e1, _⟩ | ⟨g, cap, cur, e1, _⟩
  · injection e1
  · subst hP; injection e1 with e1; cases e1
end Go.Proofs.YtkphbjppmiefkaaDoor
