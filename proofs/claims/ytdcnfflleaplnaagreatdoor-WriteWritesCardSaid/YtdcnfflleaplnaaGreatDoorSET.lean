/- Ops, Equal, Size, Union, Known, One, Make, Steps, in one text. -/
import Derived.Test.YtdcnfflleaplnaaGreatDoorComb
import Derived.Laws.StructEq
import Derived.Laws.AppendOwnNone
import Derived.Test.YtdcnfflleaplnaaGreatDoorWE
/- set.Norm, Inter, Minus, Not, by combine's contract. -/
namespace Go.Proofs.YtdcnfflleaplnaaGreatDoor
open Go.RowKit Go.Shelf SetM

theorem cellsS_get : ∀ (l : List Sp) (j : Nat), j < l.length * 2 → (cellsS l)[j]? = (encS (l[j / 2]?.getD default))[j % 2]?
  | [], j, h => by simp at h
  | m :: t, j, h => by
    have e : cellsS (m :: t) = encS m ++ cellsS t := rfl
    rw [e]
    by_cases hj : j < 2
    · rw [List.getElem?_append_left (by simpa [encS] using hj), Nat.div_eq_of_lt hj, Nat.mod_eq_of_lt hj]; simp
    · rw [List.getElem?_append_right (by simp [encS]; omega)]
      have h3 : (encS m).length = 2 := rfl
      rw [h3, cellsS_get t (j - 2) (by simp at h; omega), show j / 2 = (j - 2) / 2 + 1 from by omega, show (j - 2) % 2 = j % 2 from by omega]
      simp
/-- A slice of the call's own, read as spans. -/
theorem spans_of {W : World} {base : Nat} {v : Value} {l : List Sp} (h : W.ownsRow base 73 2 v l.length (cellsS l)) : ∃ P c, v = .slice P l.length c ∧ Spans W.heap.size W P l := by
  rcases h.2 with ⟨rfl, h0⟩ | ⟨g, cap, cur, rfl, hb, hg, h1, h2, h3, h4⟩
  · exact ⟨none, 0, by rw [h0], fun hne => absurd (List.eq_nil_of_length_eq_zero h0) hne⟩
  · refine ⟨_, cap, rfl, fun _ => ⟨g, 0, rfl, (Array.getElem?_eq_some_iff.1 hg).1, fun j hj => ?_⟩⟩
    have key : ∀ i, i < l.length * 2 → W.cell? ⟨g, i, none⟩ = (cellsS l)[i]? := fun i hi => by
      rw [cell_of_row W g i cur _ _ hg, ← h4, List.getElem?_take_of_lt hi, Array.getElem?_toList]
    have hd : ∀ i, i < 2 → W.cell? ⟨g, 0 + j * 2 + i, none⟩ = (encS l[j])[i]? := fun i hi => by
      rw [key _ (by omega), cellsS_get l _ (by omega), show (0 + j * 2 + i) / 2 = j from by omega, show (0 + j * 2 + i) % 2 = i from by omega, List.getElem?_eq_getElem hj]; rfl
    exact ⟨hd 0 (by omega), hd 1 (by omega)⟩
theorem SetPost.congr {w : World} {K K' : Int → Prop} {N N' : Nat} {e : Ending} {w' : World} (h : SetPost w K N e w') (hk : ∀ r, K r ↔ K' r) (hN : N ≤ N') : SetPost w K' N' e w' := by
  obtain ⟨v, out, h1, h2, h3, h4, h5⟩ := h
  exact ⟨v, out, h1, h2, fun r => (h3 r).trans (hk r), by omega, h5⟩
theorem normF (x y : Bool) (W : World) : Calls Tryz.prog 57 #[.bool x, .bool y] W fun e w' => e = .returned (.bool x) ∧ W = w' := by
  go_enter Tryz.func57, Tryz.ntmps57
  go_wp2
  go_ret
  exact ⟨rfl, rfl⟩
/-- Norm: the set of what the spans tell. -/
theorem norm_any (A : Option Addr) (ca : Nat) (xs : List Sp) (hla : xs.length ≤ 1073741824) (w : World) (h0 : 1 < w.heap.size) (hA : Areas w) (hSa : Spans w.heap.size w A xs) :
    Calls Tryz.prog 46 #[.slice A xs.length ca] w (SetPost w (fun r => Tells xs r) (4 * xs.length)) := by
  have hc := combine_any A none ca 0 xs [] hla (by simp) 57 (fun x _ => x) normF (enters_of Tryz.func57 (by kernel_rfl) rfl) rfl w h0 hA hSa Spans.nil
  have HC := Lib.hid hc
  clear hc hA hSa
  go_enter Tryz.func46, Tryz.ntmps46
  go_wp2_with (go_at_call 56; refine HC.out.mono ?_; rintro e w' ⟨v, out, rfl, h2, h3, h4, h5, h6⟩)
  go_ret
  exact ⟨v, out, rfl, h2, fun r => (h3 r).trans (by simp), by simpa using h4, h5, h6⟩
end Go.Proofs.YtdcnfflleaplnaaGreatDoor

/- slices.Equal at spans, set.Same; the document's Alike. -/
namespace Go.Proofs.YtdcnfflleaplnaaGreatDoor
open Go.RowKit Go.Shelf SetM


theorem gdSpan : Tryz.prog.eqGuardType Tryz.prog.depth 73 = false := by kernel_rfl
theorem eqSpan (a b c d : Int) (w : World) : (Op.equalIn 10000 73 (.agg #[.int .i64 a, .int .i64 b]) (.agg #[.int .i64 c, .int .i64 d])).run Tryz.prog w = .ok (decide ((a, b) = (c, d))) w := by
  have u3 := Tryz.underlying3
  have a3 := Tryz.isAgg3
  have z3 := Tryz.sizeOf3
  have hS : Tryz.prog.underlying 73 = some (.struct (Tryz.prog.fieldsOf 73)) := by kernel_rfl
  have hp : Tryz.prog.stoodInHeld 73 = false := by kernel_rfl
  rw [show (10000 : Nat) = 9999 + 1 from rfl, run_equalIn_agg w 9999 73 _ _ hS hp]
  simp only [Program.fieldsOf, Tryz.underlying73]
  go_simp
  by_cases h1 : a = c <;> by_cases h2 : b = d <;> simp [h1, h2]

set_option maxRecDepth 100000 in
set_option maxHeartbeats 1000000 in
theorem equal_any (A B : Option Addr) (ca cb : Nat) (xs ys : List Sp) (_hla : xs.length ≤ 1073741824) (hlb : ys.length ≤ 1073741824) (w : World) (hSa : Spans w.heap.size w A xs) (hSb : Spans w.heap.size w B ys) :
    Calls Tryz.prog 45 #[.slice A xs.length ca, .slice B ys.length cb] w fun e w' => e = .returned (.bool (decide (xs = ys))) ∧ Below w.heap.size w w' := by
  have HSA := Lib.hid hSa
  have HSB := Lib.hid hSb
  clear hSa hSb
  by_cases hl : xs.length = ys.length
  · have hli : (xs.length != ys.length) = false := by simp [hl]
    have hli2 : ((xs.length : Int) != (ys.length : Int)) = false := by simp [hl]
    have HL := Lib.hid hl
    clear hl
    go_enter Tryz.func45, Tryz.ntmps45
    go_wp2
    go_loopg [13] xs.length (fun g s13 wx => ∃ k : Nat, k + g = xs.length ∧ s13 = .int .i64 k ∧ Hid (xs.take k = ys.take k) ∧ Below w.heap.size w wx)
    case atStart => exact ⟨0, by omega, rfl, Lib.hid (by simp), Below.refl _ _⟩
    case round =>
      obtain ⟨k, hkg, rfl, HP, hb⟩ := hrel
      cases gk with
      | zero =>
        have hkz : ¬ ((k : Int) < (xs.length : Int)) := by omega
        have he : xs = ys := by
          have := HP.out
          rwa [List.take_of_length_le (by omega), List.take_of_length_le (by have := HL.out; omega)] at this
        have HE := Lib.hid he
        clear he
        go_wp2
        go_ret
        refine ⟨?_, hb⟩
        rw [decide_eq_true HE.out]; rfl
      | succ g =>
        have hk : k < xs.length := by omega
        have hk2 : k < ys.length := by have := HL.out; omega
        have hkz : (k : Int) < (xs.length : Int) := by omega
        have hkz2 : (k : Int) < (ys.length : Int) := by omega
        obtain ⟨b1, o1, rfl, hb1, hc1⟩ := HSA.out (by intro h; rw [h] at hk; simp at hk)
        obtain ⟨b2, o2, rfl, hb2, hc2⟩ := HSB.out (by intro h; rw [h] at hk2; simp at hk2)
        obtain ⟨c0, c1⟩ := hc1 k hk
        obtain ⟨d0, d1⟩ := hc2 k hk2
        have c0' : wr.cell? ⟨b1, o1 + k * 2, none⟩ = some (.int .i64 xs[k].1) := (hb.cell (p := ⟨b1, o1 + k * 2, none⟩) hb1).trans c0
        have c1' : wr.cell? ⟨b1, o1 + k * 2 + 1, none⟩ = some (.int .i64 xs[k].2) := (hb.cell (p := ⟨b1, o1 + k * 2 + 1, none⟩) hb1).trans c1
        have d0' : wr.cell? ⟨b2, o2 + k * 2, none⟩ = some (.int .i64 ys[k].1) := (hb.cell (p := ⟨b2, o2 + k * 2, none⟩) hb2).trans d0
        have d1' : wr.cell? ⟨b2, o2 + k * 2 + 1, none⟩ = some (.int .i64 ys[k].2) := (hb.cell (p := ⟨b2, o2 + k * 2 + 1, none⟩) hb2).trans d1
        clear c0 c1 d0 d1 hc1 hc2
        generalize hx : xs[k] = x at c0' c1'
        generalize hy : ys[k] = y at d0' d1'
        have HX := Lib.hid hx
        have HY := Lib.hid hy
        clear hx hy
        obtain ⟨x1, x2⟩ := x
        obtain ⟨y1, y2⟩ := y
        dsimp only at c0' c1' d0' d1'
        have g1 := gdSpan
        by_cases hxy : (x1, x2) = (y1, y2)
        · have g2 : ∀ w, (Op.equalIn 10000 73 (.agg #[.int .i64 x1, .int .i64 x2]) (.agg #[.int .i64 y1, .int .i64 y2])).run Tryz.prog w = .ok true w := fun w => by rw [eqSpan, decide_eq_true hxy]
          have HXY := Lib.hid hxy
          clear hxy
          go_wp2
          go_quiet (fail)
          go_wp2
          go_roundg g
          case measure => omega
          case rel => exact ⟨k + 1, by omega, by go_num, Lib.hid (by rw [List.take_succ_eq_append_getElem hk, List.take_succ_eq_append_getElem hk2, HX.out, HY.out, HXY.out, HP.out]), ⟨hb.os, hb.tape, hb.output, hb.size, hb.block⟩⟩
        · have g2 : ∀ w, (Op.equalIn 10000 73 (.agg #[.int .i64 x1, .int .i64 x2]) (.agg #[.int .i64 y1, .int .i64 y2])).run Tryz.prog w = .ok false w := fun w => by rw [eqSpan, decide_eq_false hxy]
          have hne : xs ≠ ys := fun h => hxy (by rw [← HX.out, ← HY.out]; simp only [h])
          have HNE := Lib.hid hne
          clear hxy hne
          go_wp2
          go_quiet (fail)
          go_wp2
          go_ret
          refine ⟨?_, ⟨hb.os, hb.tape, hb.output, hb.size, hb.block⟩⟩
          rw [decide_eq_false HNE.out]; rfl
  · have hli2 : ((xs.length : Int) != (ys.length : Int)) = true := by rw [bne_iff_ne]; omega
    have hli : (xs.length != ys.length) = true := by rw [bne_iff_ne]; exact hl
    have hne : xs ≠ ys := fun h => hl (by rw [h])
    have HNE := Lib.hid hne
    clear hl hne
    go_enter Tryz.func45, Tryz.ntmps45
    go_wp2
    go_ret
    exact ⟨by rw [decide_eq_false HNE.out]; rfl, Below.refl _ _⟩

set_option maxRecDepth 100000 in
set_option maxHeartbeats 1000000 in
theorem alike_any (A B : Option Addr) (ca cb : Nat) (xs ys : List Sp) (_hla : xs.length ≤ 1073741824) (hlb : ys.length ≤ 1073741824) (w : World) (hSa : Spans w.heap.size w A xs) (hSb : Spans w.heap.size w B ys) :
    Calls Tryz.prog 26 #[.slice A xs.length ca, .slice B ys.length cb] w fun e w' => e = .returned (.bool (decide (xs = ys))) ∧ Below w.heap.size w w' := by
  have HSA := Lib.hid hSa
  have HSB := Lib.hid hSb
  clear hSa hSb
  by_cases hl : xs.length = ys.length
  · have hli : (xs.length != ys.length) = false := by simp [hl]
    have hli2 : ((xs.length : Int) != (ys.length : Int)) = false := by simp [hl]
    have HL := Lib.hid hl
    clear hl
    go_enter Tryz.func26, Tryz.ntmps26
    go_wp2
    go_loopg [5] xs.length (fun g s5 wx => ∃ k : Nat, k + g = xs.length ∧ s5 = .int .i64 k ∧ Hid (xs.take k = ys.take k) ∧ Below w.heap.size w wx)
    case atStart => exact ⟨0, by omega, rfl, Lib.hid (by simp), Below.refl _ _⟩
    case round =>
      obtain ⟨k, hkg, rfl, HP, hb⟩ := hrel
      cases gk with
      | zero =>
        have hkz : ¬ ((k : Int) < (xs.length : Int)) := by omega
        have he : xs = ys := by
          have := HP.out
          rwa [List.take_of_length_le (by omega), List.take_of_length_le (by have := HL.out; omega)] at this
        have HE := Lib.hid he
        clear he
        go_wp2
        go_ret
        refine ⟨?_, hb⟩
        rw [decide_eq_true HE.out]; rfl
      | succ g =>
        have hk : k < xs.length := by omega
        have hk2 : k < ys.length := by have := HL.out; omega
        have hkz : (k : Int) < (xs.length : Int) := by omega
        have hkz2 : (k : Int) < (ys.length : Int) := by omega
        obtain ⟨b1, o1, rfl, hb1, hc1⟩ := HSA.out (by intro h; rw [h] at hk; simp at hk)
        obtain ⟨b2, o2, rfl, hb2, hc2⟩ := HSB.out (by intro h; rw [h] at hk2; simp at hk2)
        obtain ⟨c0, c1⟩ := hc1 k hk
        obtain ⟨d0, d1⟩ := hc2 k hk2
        have c0' : wr.cell? ⟨b1, o1 + k * 2, none⟩ = some (.int .i64 xs[k].1) := (hb.cell (p := ⟨b1, o1 + k * 2, none⟩) hb1).trans c0
        have c1' : wr.cell? ⟨b1, o1 + k * 2 + 1, none⟩ = some (.int .i64 xs[k].2) := (hb.cell (p := ⟨b1, o1 + k * 2 + 1, none⟩) hb1).trans c1
        have d0' : wr.cell? ⟨b2, o2 + k * 2, none⟩ = some (.int .i64 ys[k].1) := (hb.cell (p := ⟨b2, o2 + k * 2, none⟩) hb2).trans d0
        have d1' : wr.cell? ⟨b2, o2 + k * 2 + 1, none⟩ = some (.int .i64 ys[k].2) := (hb.cell (p := ⟨b2, o2 + k * 2 + 1, none⟩) hb2).trans d1
        clear c0 c1 d0 d1 hc1 hc2
        generalize hx : xs[k] = x at c0' c1'
        generalize hy : ys[k] = y at d0' d1'
        have HX := Lib.hid hx
        have HY := Lib.hid hy
        clear hx hy
        obtain ⟨x1, x2⟩ := x
        obtain ⟨y1, y2⟩ := y
        dsimp only at c0' c1' d0' d1'
        have g1 := gdSpan
        by_cases hxy : (x1, x2) = (y1, y2)
        · have g2 : ∀ w, (Op.equalIn 10000 73 (.agg #[.int .i64 x1, .int .i64 x2]) (.agg #[.int .i64 y1, .int .i64 y2])).run Tryz.prog w = .ok true w := fun w => by rw [eqSpan, decide_eq_true hxy]
          have HXY := Lib.hid hxy
          clear hxy
          go_wp2
          go_quiet (fail)
          go_wp2
          go_roundg g
          case measure => omega
          case rel => exact ⟨k + 1, by omega, by go_num, Lib.hid (by rw [List.take_succ_eq_append_getElem hk, List.take_succ_eq_append_getElem hk2, HX.out, HY.out, HXY.out, HP.out]), ⟨hb.os, hb.tape, hb.output, hb.size, hb.block⟩⟩
        · have g2 : ∀ w, (Op.equalIn 10000 73 (.agg #[.int .i64 x1, .int .i64 x2]) (.agg #[.int .i64 y1, .int .i64 y2])).run Tryz.prog w = .ok false w := fun w => by rw [eqSpan, decide_eq_false hxy]
          have hne : xs ≠ ys := fun h => hxy (by rw [← HX.out, ← HY.out]; simp only [h])
          have HNE := Lib.hid hne
          clear hxy hne
          go_wp2
          go_quiet (fail)
          go_wp2
          go_ret
          refine ⟨?_, ⟨hb.os, hb.tape, hb.output, hb.size, hb.block⟩⟩
          rw [decide_eq_false HNE.out]; rfl
  · have hli2 : ((xs.length : Int) != (ys.length : Int)) = true := by rw [bne_iff_ne]; omega
    have hli : (xs.length != ys.length) = true := by rw [bne_iff_ne]; exact hl
    have hne : xs ≠ ys := fun h => hl (by rw [h])
    have HNE := Lib.hid hne
    clear hl hne
    go_enter Tryz.func26, Tryz.ntmps26
    go_wp2
    go_ret
    exact ⟨by rw [decide_eq_false HNE.out]; rfl, Below.refl _ _⟩

/-- What a comparison of sets says. -/
def SamePost (w : World) (xs ys : List Sp) (e : Ending) (w' : World) : Prop :=
  ∃ b : Bool, e = .returned (.bool b) ∧ (b = true ↔ ∀ r, Tells xs r ↔ Tells ys r) ∧ Below w.heap.size w w'
theorem nf_same {a b : List Sp} {K L : Int → Prop} (ha : Nf a) (hb : Nf b) (hK : ∀ r, Mem a r ↔ K r) (hL : ∀ r, Mem b r ↔ L r) : (decide (a = b) = true ↔ ∀ r, K r ↔ L r) := by
  rw [decide_eq_true_iff]
  constructor
  · rintro rfl r; rw [← hK, ← hL]
  · intro h; exact nf_unique a b ha hb (fun r => by rw [hK, hL]; exact h r)
end Go.Proofs.YtdcnfflleaplnaaGreatDoor

/- set.Size: how many scalars spans tell. -/
namespace Go.Proofs.YtdcnfflleaplnaaGreatDoor
open Go.RowKit Go.Shelf SetM
attribute [local go_sem] Oper.semAt_some

theorem nf_le {l : List Sp} (h : Nf l) : ∀ s ∈ l, s.1 ≤ s.2 := by
  induction l with
  | nil => simp
  | cons x t ih =>
    intro s hs
    rcases List.mem_cons.1 hs with rfl | hs
    · exact h.1
    · exact ih h.2.2 s hs
end Go.Proofs.YtdcnfflleaplnaaGreatDoor

/- slices.Concat at spans, set.Union. -/
namespace Go.Proofs.YtdcnfflleaplnaaGreatDoor
open Go.RowKit Go.Shelf SetM

/-- A slice of slices of spans. -/
def RowsAt (n₀ : Nat) (W : World) (A : Option Addr) (ls : List (List Sp)) : Prop :=
  ls ≠ [] → ∃ b off, A = some ⟨b, off, none⟩ ∧ b < n₀ ∧ ∀ j (h : j < ls.length), ∃ P c, W.cell? ⟨b, off + j, none⟩ = some (.slice P ls[j].length c) ∧ Spans n₀ W P ls[j] ∧ (P = none → c = 0)
theorem RowsAt.below {n₀ : Nat} {V W : World} (h : Below n₀ V W) {A : Option Addr} {ls : List (List Sp)} (hs : RowsAt n₀ V A ls) : RowsAt n₀ W A ls := fun hl => by
  obtain ⟨b, off, e, hb, hc⟩ := hs hl
  refine ⟨b, off, e, hb, fun j hj => ?_⟩
  obtain ⟨P, c, h1, h2, h3⟩ := hc j hj
  exact ⟨P, c, (h.cell (p := ⟨b, off + j, none⟩) hb).trans h1, h2.below h, h3⟩
/-- All the spans of some lists. -/
def flat (ls : List (List Sp)) : List Sp := ls.flatten
def total (ls : List (List Sp)) : Nat := (flat ls).length
theorem total_take (ls : List (List Sp)) (k : Nat) (hk : k < ls.length) : flat (ls.take (k + 1)) = flat (ls.take k) ++ ls[k] := by
  unfold flat
  rw [List.take_succ_eq_append_getElem hk, List.flatten_append]; simp only [List.flatten_cons, List.flatten_nil, List.append_nil]
end Go.Proofs.YtdcnfflleaplnaaGreatDoor

/- The chapter's examples hold (known), whatever the world. -/
namespace Go.Proofs.YtdcnfflleaplnaaGreatDoor
open Go.RowKit Go.Shelf SetM

abbrev kA : List Sp := [(0, 9)]
abbrev kB : List Sp := [(0, 55295), (57344, 1114111)]
theorem k1 (r : Int) : Mem kA r ↔ Tells [(5, 9), (0, 4), (7, 2)] r := by simp [Tells, Mem, Sc]; omega
theorem k2 (r : Int) : Mem kB r ↔ Sc r ∧ ¬ Tells [] r := by simp [Tells, Mem, Sc]
theorem k3 (r : Int) : Mem kA r ↔ Tells kA r := by simp [Tells, Mem, Sc]; omega
theorem k4 (r : Int) : Mem kB r ↔ ∃ a ∈ [kA, kB], Tells a r := by
  rw [show (∃ a ∈ [kA, kB], Tells a r) ↔ (Tells kA r ∨ Tells kB r) from by simp]
  have h1 : Tells kA r ↔ (0 ≤ r ∧ r ≤ 9) := by simp [Tells, Mem, Sc]; omega
  have h2 : Tells kB r ↔ Mem kB r := by simp [Tells, Mem, Sc]
  rw [h1, h2]
  simp [Mem]; omega
theorem k5 (r : Int) : Mem kA r ↔ Tells kA r ∧ Tells kB r := by simp [Tells, Mem, Sc]; omega
/-- A slice of one block made at the head of a call. -/
theorem spans_new (w : World) (l : List Sp) : Spans (w.heap.size + 1) (w.alloc (.cells (cellsS l).toArray 73)) (some ⟨w.heap.size, 0, none⟩) l := fun _ => ⟨_, 0, rfl, by omega, fun j hj => by
  have hd : ∀ i, i < 2 → (w.alloc (.cells (cellsS l).toArray 73)).cell? ⟨w.heap.size, 0 + j * 2 + i, none⟩ = (encS l[j])[i]? := fun i hi => by
    rw [cell_of_row _ w.heap.size _ _ _ _ (heap_alloc_new w _), List.getElem?_toArray, cellsS_get l _ (by omega), show (0 + j * 2 + i) / 2 = j from by omega, show (0 + j * 2 + i) % 2 = i from by omega, List.getElem?_eq_getElem hj]; rfl
  exact ⟨hd 0 (by omega), hd 1 (by omega)⟩⟩

end Go.Proofs.YtdcnfflleaplnaaGreatDoor

/- SetOne: the walk. -/
namespace Go.Proofs.YtdcnfflleaplnaaGreatDoor
open Go.RowKit Go.Shelf SetM

/-- The number that a choice says. -/
def placeF (c : Int) : Int :=
  if c % 8 = 0 then 55280 + c / 8 % 2080 else if c % 8 = 1 then 1114080 + c / 8 % 32 else if c % 8 = 2 then 2032 + c / 8 % 48 else if c % 8 = 3 then 65520 + c / 8 % 48 else c / 8 % 200
end Go.Proofs.YtdcnfflleaplnaaGreatDoor

/- The law's Make: spans as choices say. -/
namespace Go.Proofs.YtdcnfflleaplnaaGreatDoor
open Go.RowKit Go.Shelf SetM

/-- A slice of uint16 holds the numbers cs. -/
def U16s (n₀ : Nat) (W : World) (A : Option Addr) (cs : List Int) : Prop :=
  (∀ c ∈ cs, 0 ≤ c ∧ c ≤ 65535) ∧ (cs ≠ [] → ∃ b off, A = some ⟨b, off, none⟩ ∧ b < n₀ ∧ ∀ j (h : j < cs.length), W.cell? ⟨b, off + j, none⟩ = some (.int .u16 cs[j]))
theorem U16s.below {n₀ : Nat} {V W : World} (h : Below n₀ V W) {A : Option Addr} {cs : List Int} (hs : U16s n₀ V A cs) : U16s n₀ W A cs :=
  ⟨hs.1, fun hl => by
    obtain ⟨b, off, e, hb, hc⟩ := hs.2 hl
    exact ⟨b, off, e, hb, fun j hj => (h.cell (p := ⟨b, off + j, none⟩) hb).trans (hc j hj)⟩⟩
theorem U16s.mono {n₀ n₁ : Nat} {W : World} {A : Option Addr} {cs : List Int} (hs : U16s n₀ W A cs) (h : n₀ ≤ n₁) : U16s n₁ W A cs :=
  ⟨hs.1, fun hl => by
    obtain ⟨b, off, e, hb, hc⟩ := hs.2 hl
    exact ⟨b, off, e, by omega, hc⟩⟩
/-- The span of the j-th pair of choices; those of the first m pairs; all. -/
def pairF (cs : List Int) (j : Nat) : Sp := (placeF (cs[2 * j]?.getD 0), placeF (cs[2 * j]?.getD 0) + cs[2 * j + 1]?.getD 0 % 40)
end Go.Proofs.YtdcnfflleaplnaaGreatDoor

/- The calls of package set as steps of a law's walk: what each hands back, in words that the walk leaves closed. -/
namespace Go.Proofs.YtdcnfflleaplnaaGreatDoor
open Go.RowKit Go.Shelf SetM

/-- Where a law's walk stands: all that lay at its beginning lies as it lay; the table is there. -/
structure Ctx (w W : World) : Prop where
  below : Below w.heap.size w W
  areas : Areas W
  pos : 1 < W.heap.size
theorem Ctx.start {w : World} (h0 : 1 < w.heap.size) (hA : Areas w) : Ctx w w := ⟨Below.refl _ _, hA, h0⟩
theorem Ctx.step {w W W' : World} (h : Ctx w W) (hb : Below W.heap.size W W') : Ctx w W' :=
  ⟨h.below.trans (hb.mono h.below.size), h.areas.below hb h.pos, by have := hb.size; have := h.pos; omega⟩
/-- A slice holds the spans l. -/
def Sl (W : World) (P : Option Addr) (l : List Sp) : Prop := Spans W.heap.size W P l
theorem Sl.step {W W' : World} {P : Option Addr} {l : List Sp} (h : Sl W P l) (hb : Below W.heap.size W W') : Sl W' P l := (Spans.below hb h).mono hb.size
/-- The list is the normal list of a condition. -/
def IsSet (l : List Sp) (K : Int → Prop) : Prop := Nf l ∧ ∀ r, Mem l r ↔ K r
theorem IsSet.eq {a b : List Sp} {K L : Int → Prop} (ha : IsSet a K) (hb : IsSet b L) (h : ∀ r, K r ↔ L r) : a = b := nf_unique a b ha.1 hb.1 (fun r => by rw [ha.2, hb.2]; exact h r)
theorem IsSet.congr {a : List Sp} {K L : Int → Prop} (ha : IsSet a K) (h : ∀ r, K r ↔ L r) : IsSet a L := ⟨ha.1, fun r => (ha.2 r).trans (h r)⟩
/-- A set's spans tell just what is in it, if that is scalars alone. -/
theorem IsSet.tells {a : List Sp} {K : Int → Prop} (ha : IsSet a K) (hs : ∀ r, K r → Sc r) (r : Int) : Tells a r ↔ K r := by
  unfold Tells; rw [ha.2]; exact ⟨fun h => h.2, fun h => ⟨hs r h, h⟩⟩
variable {w W : World}
end Go.Proofs.YtdcnfflleaplnaaGreatDoor
