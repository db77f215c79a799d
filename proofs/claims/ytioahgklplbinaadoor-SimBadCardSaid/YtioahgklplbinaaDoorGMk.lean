/- Rows of marks in memory: bools, and numbers 0 and 1. -/
import Derived.Test.YtioahgklplbinaaDoorGPure
import Derived.Test.YtioahgklplbinaaDoorNMr
import Derived.Laws.OwnMore
namespace Go.Proofs.YtioahgklplbinaaDoor
open Go.RowKit Go.Shelf SetM NfaM SimM
open Classical in
/-- The cells of a row of marks: a where something is true, else b. -/
noncomputable def mksV (a b : Value) (n : Nat) (M : Nat → Prop) : List Value := (List.range n).map fun j => if M j then a else b
theorem mks_len (a b : Value) (n : Nat) (M : Nat → Prop) : (mksV a b n M).length = n := by unfold mksV; simp
theorem mks_yes {a b : Value} {n : Nat} {M : Nat → Prop} {j : Nat} (hj : j < n) (h : M j) : (mksV a b n M)[j]? = some a := by unfold mksV; simp [hj, h]
theorem mks_no {a b : Value} {n : Nat} {M : Nat → Prop} {j : Nat} (hj : j < n) (h : ¬ M j) : (mksV a b n M)[j]? = some b := by unfold mksV; simp [hj, h]
theorem mks_congr {a b : Value} {n : Nat} {M M' : Nat → Prop} (h : ∀ j, j < n → (M j ↔ M' j)) : mksV a b n M = mksV a b n M' := by
  unfold mksV
  refine List.map_congr_left (fun j hj => ?_)
  have := h j (List.mem_range.1 hj)
  by_cases hm : M j
  · rw [if_pos hm, if_pos (this.1 hm)]
  · rw [if_neg hm, if_neg (fun h' => hm (this.2 h'))]
theorem mks_set {a b : Value} {n : Nat} {M : Nat → Prop} {j : Nat} (hj : j < n) : (mksV a b n M).set j a = mksV a b n (fun k => M k ∨ k = j) := by
  refine List.ext_getElem? (fun i => ?_)
  rw [List.getElem?_set]
  by_cases e : j = i
  · subst e
    rw [if_pos rfl, if_pos (by rw [mks_len]; exact hj), mks_yes hj (.inr rfl)]
  · rw [if_neg e]
    by_cases hi : i < n
    · by_cases hm : M i
      · rw [mks_yes hi hm, mks_yes hi (.inl hm)]
      · rw [mks_no hi hm, mks_no hi (fun h => h.elim hm (fun h => e h.symm))]
    · rw [List.getElem?_eq_none (by rw [mks_len]; omega), List.getElem?_eq_none (by rw [mks_len]; omega)]
theorem mks_none (a b : Value) (n : Nat) : mksV a b n (fun _ => False) = List.replicate n b := by
  unfold mksV
  refine List.ext_getElem? (fun i => ?_)
  by_cases hi : i < n <;> simp [hi]
/-- A row of marks of the call's own. -/
def MkG (t : TypeId) (a b : Value) (W : World) (base g n : Nat) (M : Nat → Prop) : Prop := W.ownsRow base t 1 (.slice (some ⟨g, 0, none⟩) n n) n (mksV a b n M)
section
variable {t : TypeId} {a b : Value} {W W' : World} {base g n : Nat} {M : Nat → Prop}
theorem MkG.lt (h : MkG t a b W base g n M) : base ≤ g ∧ g < W.heap.size := World.ownsRow.lt h g rfl
theorem MkG.yes (h : MkG t a b W base g n M) {j : Nat} (hj : j < n) (hm : M j) : W.cell? ⟨g, j, none⟩ = some a := by
  rw [World.ownsRow.cellAt h j (by omega)]; exact mks_yes hj hm
theorem MkG.no (h : MkG t a b W base g n M) {j : Nat} (hj : j < n) (hm : ¬ M j) : W.cell? ⟨g, j, none⟩ = some b := by
  rw [World.ownsRow.cellAt h j (by omega)]; exact mks_no hj hm
theorem MkG.frz (h : MkG t a b W base g n M) (j : Nat) : W.frozen? ⟨g, j, none⟩ = false := World.ownsRow.frozenAt h j
theorem MkG.ex (h : MkG t a b W base g n M) {j : Nat} (hj : j < n) : ∃ x, W.cell? ⟨g, j, none⟩ = some x := by
  by_cases hm : M j
  · exact ⟨a, h.yes hj hm⟩
  · exact ⟨b, h.no hj hm⟩
theorem MkG.set (h : MkG t a b W base g n M) {j : Nat} (hj : j < n) : MkG t a b (W.setCell ⟨g, j, none⟩ a) base g n (fun k => M k ∨ k = j) ∧ W.grownBy (W.setCell ⟨g, j, none⟩ a) (some g) := by
  have := World.ownsRow.stored h j a
  rw [mks_set hj] at this
  exact this
theorem MkG.congr (h : MkG t a b W base g n M) {M' : Nat → Prop} (he : ∀ j, j < n → (M j ↔ M' j)) : MkG t a b W base g n M' := by
  unfold MkG at h ⊢
  rw [← mks_congr he]
  exact h
theorem MkG.kept (h : MkG t a b W base g n M) {row : Option Nat} (hg : W.grownBy W' row) (hne : row ≠ some g) : MkG t a b W' base g n M := World.ownsRow.kept h hg (.inr (fun e => hne e.symm))
theorem MkG.step (h : MkG t a b W base g n M) (hb : Below W.heap.size W W') : MkG t a b W' base g n M :=
  h.kept (row := none) ⟨hb.os, hb.tape, hb.output, hb.size, fun k hk _ => hb.block k hk⟩ (by simp)
theorem MkG.low (h : MkG t a b W base g n M) {base' : Nat} (hl : base' ≤ base) : MkG t a b W base' g n M := by
  refine ⟨h.1, ?_⟩
  rcases h.2 with ⟨h1, _⟩ | ⟨g', cap, cur, h1, h2, h3⟩
  · cases h1
  · exact .inr ⟨g', cap, cur, h1, by omega, h3⟩
end
theorem grown_trans {W X Y : World} {g : Nat} {row : Option Nat} (h : W.grownBy X (some g)) (k : X.grownBy Y row) (hr : ∀ j, row = some j → j = g ∨ W.heap.size ≤ j) : W.grownBy Y (some g) :=
  ⟨k.os.trans h.os, k.tape.trans h.tape, k.output.trans h.output, Nat.le_trans h.size k.size, fun j hj hne => (k.block j (Nat.lt_of_lt_of_le hj h.size) (fun e => by
    rcases hr j e.symm with h1 | h1
    · exact hne (by rw [h1])
    · omega)).trans (h.block j hj hne)⟩
theorem grown_refl' (W : World) (row : Option Nat) : W.grownBy W row := ⟨rfl, rfl, rfl, Nat.le_refl _, fun _ _ _ => rfl⟩
theorem grown_below {W X : World} {g n : Nat} (h : W.grownBy X (some g)) (hn : n ≤ g) (hw : n ≤ W.heap.size) : Below n W X := ⟨h.os, h.tape, h.output, h.size, fun k hk => h.block k (by omega) (fun e => by have := Option.some.inj e; omega)⟩
theorem below_grown {W X : World} {n : Nat} (h : Below n W X) (hn : W.heap.size = n) : W.grownBy X none := ⟨h.os, h.tape, h.output, h.size, fun k hk _ => h.block k (by omega)⟩
/-- A row of numbers of the call's own. -/
def OwI (W : World) (base : Nat) (v : Value) (l : List Int) : Prop := W.ownsRow base 3 1 v l.length (l.map (Value.int .i64))
theorem OwI.nil (W : World) (base : Nat) : OwI W base (.slice none 0 0) [] := World.ownsRow_nil _ _ _ _
theorem OwI.kept {W W' : World} {base : Nat} {v : Value} {l : List Int} (h : OwI W base v l) {row : Option Nat} (hg : W.grownBy W' row) (hne : v.ownBlock = none ∨ v.ownBlock ≠ row) : OwI W' base v l := World.ownsRow.kept h hg hne
theorem OwI.form {W : World} {base : Nat} {v : Value} {l : List Int} (h : OwI W base v l) : ∃ P c, v = .slice P l.length c ∧ InR W P l ∧ (∀ j, j < l.length → ∃ g, P = some ⟨g, 0, none⟩ ∧ base ≤ g) ∧ l.length ≤ c ∧ c ≤ 9223372036854775807 := by
  rcases h.2 with ⟨e, h0⟩ | ⟨g, cap, cur, e, hb, hg, h1, h2, h3, h4⟩
  · have : l = [] := List.eq_nil_of_length_eq_zero h0
    subst this
    exact ⟨none, 0, e, fun k hk => absurd hk (Nat.not_lt_zero k), fun j hj => absurd hj (Nat.not_lt_zero j), Nat.le_refl _, Nat.zero_le _⟩
  · refine ⟨_, cap, e, fun j hj => ⟨g, 0, rfl, (Array.getElem?_eq_some_iff.1 hg).1, ?_⟩, fun j hj => ⟨g, rfl, hb⟩, h1, by unfold maxLen at h2; omega⟩
    have h' := h
    unfold OwI at h'
    rw [e] at h'
    rw [Nat.zero_add, World.ownsRow.cellAt h' j (by omega)]
    simp [hj]
theorem OwI.below {W W' : World} {base : Nat} {v : Value} {l : List Int} (h : OwI W base v l) (hb : Below W.heap.size W W') : OwI W' base v l :=
  h.kept (row := none) ⟨hb.os, hb.tape, hb.output, hb.size, fun k hk _ => hb.block k hk⟩ (by cases v.ownBlock <;> simp)
theorem OwI.low {W : World} {base base' : Nat} {v : Value} {l : List Int} (h : OwI W base v l) (hl : base' ≤ base) : OwI W base' v l := by
  refine ⟨h.1, ?_⟩
  rcases h.2 with h1 | ⟨g', cap, cur, h1, h2, h3⟩
  · exact .inl h1
  · exact .inr ⟨g', cap, cur, h1, by omega, h3⟩
/-- A front of the row is a row: what stands behind may be written over. -/
theorem OwI.front {W : World} {base g c : Nat} {l k : List Int} (h : OwI W base (.slice (some ⟨g, 0, none⟩) (l ++ k).length c) (l ++ k)) : OwI W base (.slice (some ⟨g, 0, none⟩) l.length c) l := by
  refine ⟨by simp, ?_⟩
  rcases h.2 with ⟨e, _⟩ | ⟨g', cap, cur, e, hb, hg, h1, h2, h3, h4⟩
  · cases e
  · simp only [Value.slice.injEq, Option.some.injEq, Addr.mk.injEq, and_true, true_and] at e
    obtain ⟨rfl, rfl⟩ := e
    rw [List.length_append] at h1
    refine .inr ⟨g, c, cur, rfl, hb, hg, by omega, h2, h3, ?_⟩
    have := congrArg (List.take l.length) h4
    rw [List.take_take, List.map_append, List.take_left' (by simp)] at this
    rw [← this]
    congr 1
    rw [List.length_append]
    omega
theorem infoBo : (Tryd.prog.info? 4).map (fun i => (i.zero, i.size, i.bytes)) = some (some (.bool false), 1, 1) := by kernel_rfl
theorem infoIn : (Tryd.prog.info? 3).map (fun i => (i.zero, i.size, i.bytes)) = some (some (.int .i64 0), 1, 8) := by kernel_rfl
theorem inn_zero (k : Nat) (l : List Int) (j : Nat) : Inn k (l.take 0) j ↔ False := by unfold Inn; simp
theorem inn_skip {k : Nat} {l : List Int} {r : Nat} (hr : r < l.length) (h : ¬ (0 ≤ l[r] ∧ l[r] < k)) (j : Nat) : Inn k (l.take (r + 1)) j ↔ Inn k (l.take r) j := by
  unfold Inn
  rw [List.take_succ_eq_append_getElem hr, List.mem_append]
  simp only [List.mem_singleton]
  constructor
  · rintro ⟨h1, h2 | h2⟩
    · exact ⟨h1, h2⟩
    · exact absurd (by omega) h
  · rintro ⟨h1, h2⟩; exact ⟨h1, .inl h2⟩
theorem inn_add {k : Nat} {l : List Int} {r s : Nat} (hr : r < l.length) (hs : l[r] = (s : Int)) (hk : s < k) (j : Nat) : (Inn k (l.take r) j ∨ j = s) ↔ Inn k (l.take (r + 1)) j := by
  unfold Inn
  rw [List.take_succ_eq_append_getElem hr, List.mem_append]
  simp only [List.mem_singleton, hs]
  constructor
  · rintro (⟨h1, h2⟩ | rfl)
    · exact ⟨h1, .inl h2⟩
    · exact ⟨hk, .inr rfl⟩
  · rintro ⟨h1, h2 | h2⟩
    · exact .inl ⟨h1, h2⟩
    · exact .inr (by omega)
end Go.Proofs.YtioahgklplbinaaDoor
