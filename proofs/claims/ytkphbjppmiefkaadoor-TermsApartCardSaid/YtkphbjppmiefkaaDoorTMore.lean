/- A map whose keys are a word and a sign. -/
import Derived.Test.YtkphbjppmiefkaaDoorTMap
import Derived.Test.YtkphbjppmiefkaaDoorKit
namespace Go.Proofs.YtkphbjppmiefkaaDoor
open Go.RowKit Go.Shelf Go.Maps SetM

abbrev moreFs : Array Field := #[{ name := "word", type := 3, offset := 0, embedded := false, tag := "", pkgPath := "glyphcutter/terms", byteOffset := 0 }, { name := "in", type := 95, offset := 1, embedded := false, tag := "", pkgPath := "glyphcutter/terms", byteOffset := 8 }]
theorem moreF : Tryd.prog.fieldsOf 97 = moreFs := by kernel_rfl
theorem moreU : Tryd.prog.underlying 97 = some (.struct moreFs) := by kernel_rfl
theorem moreT : Tryd.prog.keyType 97 = true := by kernel_rfl
theorem moreC : Tryd.prog.cellsOf 97 = 2 := by kernel_rfl
theorem intC : Tryd.prog.cellsOf 3 = 1 := by kernel_rfl
theorem signC : Tryd.prog.cellsOf 95 = 1 := by kernel_rfl
theorem moreRow : (97 : TypeId) < Tryd.prog.types.size := of_decide_eq_true (by kernel_rfl)
theorem pos_succ {m : Nat} (h : 0 < m) : ∃ n, m = n + 1 := by
  cases m with
  | zero => cases h
  | succ n => exact ⟨n, rfl⟩
theorem typesS : ∃ n, Tryd.prog.types.size = n + 1 := pos_succ (Nat.lt_of_le_of_lt (Nat.zero_le _) moreRow)
theorem mapM_t : Tryd.prog.underlying 92 = some (.map 97 3) := by kernel_rfl
theorem keyedM : Keyed Tryd.prog 97 := Keyed.of_law (deep_law_laid laidOut (m := 2) (by omega) moreRow (by kernel_rfl) (by rw [moreU]))
def moreV (a : Int) (b : Nat) : Value := .agg #[.int .i64 a, .int .u64 b]
theorem moreKey {a : Int} {b : Nat} (ha : (Lit.int .i64 a).wf = true) (hb : (Lit.int .u64 b).wf = true) : ∃ l, keyOf Tryd.prog 97 (moreV a b) = some l := by
  have hf : (moreV a b).formed Tryd.prog 97 = true := by simp [moreV, Value.formed, moreC]
  obtain ⟨n, hn⟩ := typesS
  unfold keyOf
  rw [moreU, moreT, hf, hn]
  have h1 : Tryd.prog.keyLits (n + 1) 3 [.int .i64 a] = some [.int .i64 a] := by
    unfold Program.keyLits; rw [Tryd.underlying3]; simp [ha]
  have h2 : Tryd.prog.keyLits (n + 1) 95 [.int .u64 b] = some [.int .u64 b] := by
    unfold Program.keyLits; rw [signU]; simp [hb]
  have h3 : Tryd.prog.keyLits (n + 1 + 1) 97 (moreV a b).cells.toList = some [.int .i64 a, .int .u64 b] := by
    unfold Program.keyLits; rw [moreU]
    simp [moreV, Value.cells, moreC, intC, signC, h1, h2]
  simp [h3]
/-- Block b is a map by words and signs: K says what (0: nothing). -/
def MapK (W : World) (b n : Nat) (K : Int → Nat → Int) : Prop :=
  ∃ f, MapF W 97 3 .i64 b n f ∧ ∀ x y l, keyOf Tryd.prog 97 (moreV x y) = some l → (f l).getD 0 = K x y
theorem MapK.made (W : World) : MapK (W.alloc (.map #[] 0)) W.heap.size 0 (fun _ _ => 0) := ⟨_, MapF.made W _ _ _, fun _ _ _ _ => rfl⟩
theorem MapK.look {W : World} {b n : Nat} {K : Int → Nat → Int} (h : MapK W b n K) {x : Int} {y : Nat} (hx : (Lit.int .i64 x).wf = true) (hy : (Lit.int .u64 y).wf = true) :
    (Instr.lookup 92 (.map (some b)) (moreV x y) false).run Tryd.prog W = .ok (.int .i64 (K x y)) W := by
  obtain ⟨f, h1, h2⟩ := h
  obtain ⟨l, hl⟩ := moreKey hx hy
  rw [h1.look keyedM mapM_t Tryd.underlying3 zeroI8 hl, h2 x y l hl]
theorem MapK.store {W : World} {b n : Nat} {K : Int → Nat → Int} (h : MapK W b n K) (hn : n < maxLen) {x : Int} {y : Nat} {v : Int} (hx : (Lit.int .i64 x).wf = true) (hy : (Lit.int .u64 y).wf = true) (hv : (Lit.int .i64 v).wf = true) :
    ∃ w', (Instr.mapUpdate 92 (.map (some b)) (moreV x y) (.int .i64 v)).run Tryd.prog W = .ok () w' ∧ MapK w' b (n + 1) (fun a c => if a = x ∧ c = y then v else K a c) ∧ W.grownBy w' (some b) := by
  obtain ⟨f, h1, h2⟩ := h
  obtain ⟨l, hl⟩ := moreKey hx hy
  obtain ⟨w', r1, r2, r3⟩ := h1.store keyedM mapM_t Tryd.underlying3 hn hl hv
  refine ⟨w', r1, ⟨_, r2, fun a c l' hl' => ?_⟩, r3⟩
  show (putF f l v l').getD 0 = if a = x ∧ c = y then v else K a c
  unfold putF
  by_cases he : l' = l
  · subst he
    have hi := keyedM.inj hl hl'
    unfold moreV at hi
    simp at hi
    rw [if_pos (WideAt.sameKey_self (keyedM.key hl)), if_pos ⟨hi.1.symm, by have := hi.2; omega⟩]
    rfl
  · rw [if_neg (fun h => he (WideAt.sameKey_eq h)), if_neg (fun h => he (by rw [h.1, h.2, hl] at hl'; exact (Option.some.inj hl').symm))]
    exact h2 a c l' hl'
theorem MapK.kept {W W' : World} {b n : Nat} {K : Int → Nat → Int} {row : Option Nat} (h : MapK W b n K) (hg : W.grownBy W' row) (hne : some b ≠ row) : MapK W' b n K :=
  let ⟨f, h1, h2⟩ := h; ⟨f, h1.kept hg hne, h2⟩
theorem MapK.drew {W : World} {b n : Nat} {K : Int → Nat → Int} (h : MapK W b n K) : MapK W.drew b n K := h
theorem MapK.lt {W : World} {b n : Nat} {K : Int → Nat → Int} (h : MapK W b n K) : b < W.heap.size := let ⟨_, h1, _⟩ := h; h1.lt
end Go.Proofs.YtkphbjppmiefkaaDoor
