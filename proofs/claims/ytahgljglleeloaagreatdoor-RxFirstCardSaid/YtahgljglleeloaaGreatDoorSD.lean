/- Known, One, Make, Steps, in one text. -/
import Derived.Test.YtahgljglleeloaaGreatDoorSA
import Derived.Test.YtahgljglleeloaaGreatDoorSC

/- The chapter's examples hold (known), whatever the world. -/
namespace Go.Proofs.YtahgljglleeloaaGreatDoor
open Go.RowKit Go.Shelf SetM

theorem tells_iff (l : List Sp) (r : Int) : Tells l r ↔ Sc r ∧ Mem l r := Iff.rfl
/-- The normal list of a condition is the one that is written down. -/
theorem nf_is {out l : List Sp} {K : Int → Prop} (hn : Nf out) (hm : ∀ r, Mem out r ↔ K r) (hl : Nf l) (h : ∀ r, Mem l r ↔ K r) : out = l :=
  nf_unique out l hn hl (fun r => by rw [hm, h])

abbrev kA : List Sp := [(0, 9)]
abbrev kB : List Sp := [(0, 55295), (57344, 1114111)]
theorem k1 (r : Int) : Mem kA r ↔ Tells [(5, 9), (0, 4), (7, 2)] r := by simp [Tells, Mem, Sc]; omega
theorem k2 (r : Int) : Mem kB r ↔ Sc r ∧ ¬ Tells [] r := by simp [Tells, Mem, Sc]
theorem k3 (r : Int) : Mem kA r ↔ Tells kA r := by simp [Tells, Mem, Sc]; omega
theorem k4 (r : Int) : Mem kB r ↔ ∃ a ∈ [kA, kB], Tells a r := by
  rw [show (∃ a ∈ [kA, kB], Tells a r) ↔ (Tells kA r ∨ Tells kB r) from by simp]
  have h1 : Tells kA r ↔ (0 ≤ r ∧ r ≤ 9) := by simp [Tells, Mem, Sc]; omega
  have h2 : Tells kB r ↔ Mem kB r := by simp [Tells, Mem, Sc]
  rw [h1, h2]
  simp [Mem]; omega
theorem k5 (r : Int) : Mem kA r ↔ Tells kA r ∧ Tells kB r := by simp [Tells, Mem, Sc]; omega
theorem k6 (r : Int) : Mem [] r ↔ Tells kA r ∧ ¬ Tells kB r := by simp [Tells, Mem, Sc]; omega
theorem nA : Nf kA := by simp [Nf]
theorem nB : Nf kB := by simp [Nf]
theorem kh1 : decide (Tells kA 9) = true := by decide
theorem kh2 : decide (Tells kA 10) = false := by decide

/-- A slice of one block made at the head of a call. -/
theorem spans_new (w : World) (l : List Sp) : Spans (w.heap.size + 1) (w.alloc (.cells (cellsS l).toArray 53)) (some ⟨w.heap.size, 0, none⟩) l := fun _ => ⟨_, 0, rfl, by omega, fun j hj => by
  have hd : ∀ i, i < 2 → (w.alloc (.cells (cellsS l).toArray 53)).cell? ⟨w.heap.size, 0 + j * 2 + i, none⟩ = (encS l[j])[i]? := fun i hi => by
    rw [cell_of_row _ w.heap.size _ _ _ _ (heap_alloc_new w _), List.getElem?_toArray, cellsS_get l _ (by omega), show (0 + j * 2 + i) / 2 = j from by omega, show (0 + j * 2 + i) % 2 = i from by omega, List.getElem?_eq_getElem hj]; rfl
  exact ⟨hd 0 (by omega), hd 1 (by omega)⟩⟩

end Go.Proofs.YtahgljglleeloaaGreatDoor


/- SetOne: the walk. -/
namespace Go.Proofs.YtahgljglleeloaaGreatDoor
open Go.RowKit Go.Shelf SetM

/-- The number that a choice says. -/
def placeF (c : Int) : Int :=
  if c % 8 = 0 then 55280 + c / 8 % 2080 else if c % 8 = 1 then 1114080 + c / 8 % 32 else if c % 8 = 2 then 2032 + c / 8 % 48 else if c % 8 = 3 then 65520 + c / 8 % 48 else c / 8 % 200
theorem placeF_in (c : Int) (_h0 : 0 ≤ c) : 0 ≤ placeF c ∧ placeF c ≤ 1114111 := by
  unfold placeF
  split
  · omega
  · split
    · omega
    · split
      · omega
      · split <;> omega
theorem tells_one (x r : Int) : Tells [(x, x)] r ↔ Sc x ∧ r = x := by
  unfold Tells
  rw [mem_cons]
  constructor
  · rintro ⟨h1, h2 | h2⟩
    · have : r = x := by dsimp only at h2; omega
      subst this; exact ⟨h1, rfl⟩
    · exact absurd h2 (mem_nil r)
  · rintro ⟨h1, rfl⟩; exact ⟨h1, .inl ⟨Int.le_refl _, Int.le_refl _⟩⟩

end Go.Proofs.YtahgljglleeloaaGreatDoor


/- The law's Make: spans as choices say. -/
namespace Go.Proofs.YtahgljglleeloaaGreatDoor
open Go.RowKit Go.Shelf SetM

/-- A slice of uint16 holds the numbers cs. -/
def U16s (n₀ : Nat) (W : World) (A : Option Addr) (cs : List Int) : Prop :=
  (∀ c ∈ cs, 0 ≤ c ∧ c ≤ 65535) ∧ (cs ≠ [] → ∃ b off, A = some ⟨b, off, none⟩ ∧ b < n₀ ∧ ∀ j (h : j < cs.length), W.cell? ⟨b, off + j, none⟩ = some (.int .u16 cs[j]))
theorem U16s.below {n₀ : Nat} {V W : World} (h : Below n₀ V W) {A : Option Addr} {cs : List Int} (hs : U16s n₀ V A cs) : U16s n₀ W A cs :=
  ⟨hs.1, fun hl => by
    obtain ⟨b, off, e, hb, hc⟩ := hs.2 hl
    exact ⟨b, off, e, hb, fun j hj => (h.cell (p := ⟨b, off + j, none⟩) hb).trans (hc j hj)⟩⟩
theorem U16s.mono {n₀ n₁ : Nat} {W : World} {A : Option Addr} {cs : List Int} (hs : U16s n₀ W A cs) (h : n₀ ≤ n₁) : U16s n₁ W A cs :=
  ⟨hs.1, fun hl => by
    obtain ⟨b, off, e, hb, hc⟩ := hs.2 hl
    exact ⟨b, off, e, by omega, hc⟩⟩
/-- The span of the j-th pair of choices; those of the first m pairs; all. -/
def pairF (cs : List Int) (j : Nat) : Sp := (placeF (cs[2 * j]?.getD 0), placeF (cs[2 * j]?.getD 0) + cs[2 * j + 1]?.getD 0 % 40)
def mkTo (cs : List Int) (m : Nat) : List Sp := (List.range m).map (pairF cs)
def mkN (cs : List Int) : Nat := min (cs.length / 2) 30
def makeF (cs : List Int) : List Sp := mkTo cs (mkN cs)
theorem mkTo_succ (cs : List Int) (m : Nat) : mkTo cs (m + 1) = mkTo cs m ++ [pairF cs m] := by simp [mkTo, List.range_succ]
theorem mkTo_len (cs : List Int) (m : Nat) : (mkTo cs m).length = m := by simp [mkTo]
theorem makeF_len (cs : List Int) : (makeF cs).length ≤ 30 := by unfold makeF; rw [mkTo_len]; unfold mkN; omega

end Go.Proofs.YtahgljglleeloaaGreatDoor


/- The calls of package set as steps of a law's walk: what each hands back, in words that the walk leaves closed. -/
namespace Go.Proofs.YtahgljglleeloaaGreatDoor
open Go.RowKit Go.Shelf SetM

/-- Where a law's walk stands: all that lay at its beginning lies as it lay; the table is there. -/
structure Ctx (w W : World) : Prop where
  below : Below w.heap.size w W
  areas : Areas W
  pos : 2 < W.heap.size
theorem Ctx.start {w : World} (h0 : 2 < w.heap.size) (hA : Areas w) : Ctx w w := ⟨Below.refl _ _, hA, h0⟩
theorem Ctx.step {w W W' : World} (h : Ctx w W) (hb : Below W.heap.size W W') : Ctx w W' :=
  ⟨h.below.trans (hb.mono h.below.size), h.areas.below hb h.pos, by have := hb.size; have := h.pos; omega⟩
/-- A slice holds the spans l. -/
def Sl (W : World) (P : Option Addr) (l : List Sp) : Prop := Spans W.heap.size W P l
theorem Sl.step {W W' : World} {P : Option Addr} {l : List Sp} (h : Sl W P l) (hb : Below W.heap.size W W') : Sl W' P l := (Spans.below hb h).mono hb.size
/-- The list is the normal list of a condition. -/
def IsSet (l : List Sp) (K : Int → Prop) : Prop := Nf l ∧ ∀ r, Mem l r ↔ K r
theorem IsSet.eq {a b : List Sp} {K L : Int → Prop} (ha : IsSet a K) (hb : IsSet b L) (h : ∀ r, K r ↔ L r) : a = b := nf_unique a b ha.1 hb.1 (fun r => by rw [ha.2, hb.2]; exact h r)
theorem IsSet.congr {a : List Sp} {K L : Int → Prop} (ha : IsSet a K) (h : ∀ r, K r ↔ L r) : IsSet a L := ⟨ha.1, fun r => (ha.2 r).trans (h r)⟩
/-- A set's spans tell just what is in it, if that is scalars alone. -/
theorem IsSet.tells {a : List Sp} {K : Int → Prop} (ha : IsSet a K) (hs : ∀ r, K r → Sc r) (r : Int) : Tells a r ↔ K r := by
  unfold Tells; rw [ha.2]; exact ⟨fun h => h.2, fun h => ⟨hs r h, h⟩⟩
def SetStep (W : World) (K : Int → Prop) (N : Nat) (e : Ending) (W' : World) : Prop :=
  ∃ P c out, e = .returned (.slice P (List.length out) c) ∧ IsSet out K ∧ out.length ≤ N ∧ Sl W' P out ∧ (P = none → c = 0) ∧ Below W.heap.size W W'
theorem SetPost.toStep {W : World} {K : Int → Prop} {N : Nat} {e : Ending} {W' : World} (h : SetPost W K N e W') : SetStep W K N e W' := by
  obtain ⟨v, out, h1, h2, h3, h4, h5, h6⟩ := h
  obtain ⟨P, c, rfl, hs⟩ := spans_of h5
  refine ⟨P, c, out, h1, ⟨h2, h3⟩, h4, hs, fun hP => ?_, h6⟩
  rcases h5.2 with ⟨e1, _⟩ | ⟨g, cap, cur, e1, _⟩
  · injection e1
  · subst hP; injection e1 with e1; cases e1
variable {w W : World}
theorem norm_c {P : Option Addr} {c : Nat} {l : List Sp} (hC : Ctx w W) (hs : Sl W P l) (hl : l.length ≤ 1000000) : Calls Tryz.prog 92 #[.slice P l.length c] W (SetStep W (fun r => Tells l r) (4 * l.length)) :=
  (norm_any P c l (by omega) W hC.pos hC.areas hs).mono fun _ _ h => h.toStep
theorem not_c {P : Option Addr} {c : Nat} {l : List Sp} (hC : Ctx w W) (hs : Sl W P l) (hl : l.length ≤ 1000000) : Calls Tryz.prog 66 #[.slice P l.length c] W (SetStep W (fun r => Sc r ∧ ¬ Tells l r) (4 + 4 * l.length)) :=
  (not_any P c l (by omega) W hC.pos hC.areas hs).mono fun _ _ h => h.toStep
theorem minus_c {P Q : Option Addr} {c d : Nat} {l m : List Sp} (hC : Ctx w W) (hs : Sl W P l) (ht : Sl W Q m) (hl : l.length ≤ 1000000) (hm : m.length ≤ 1000000) : Calls Tryz.prog 96 #[.slice P l.length c, .slice Q m.length d] W (SetStep W (fun r => Tells l r ∧ ¬ Tells m r) (4 * l.length + 4 * m.length)) :=
  (minus_any P Q c d l m (by omega) (by omega) W hC.pos hC.areas hs ht).mono fun _ _ h => h.toStep
theorem alike_c {P Q : Option Addr} {c d : Nat} {l m : List Sp} (hs : Sl W P l) (ht : Sl W Q m) (hl : l.length ≤ 1000000) (hm : m.length ≤ 1000000) : Calls Tryz.prog 23 #[.slice P l.length c, .slice Q m.length d] W fun e W' => e = .returned (.bool (decide (l = m))) ∧ Below W.heap.size W W' :=
  alike_any P Q c d l m (by omega) (by omega) W hs ht
end Go.Proofs.YtahgljglleeloaaGreatDoor
