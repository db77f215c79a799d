/- Ops, Size, Equal, Union, in one text. -/
import Derived.Test.YtahgljglleeloaaGreatDoorComb
import Derived.Laws.StructEq
import Derived.Laws.AppendOwnNone

/- set.Norm, Inter, Minus, Not, by combine's contract. -/
namespace Go.Proofs.YtahgljglleeloaaGreatDoor
open Go.RowKit Go.Shelf SetM

theorem cellsS_get : ∀ (l : List Sp) (j : Nat), j < l.length * 2 → (cellsS l)[j]? = (encS (l[j / 2]?.getD default))[j % 2]?
  | [], j, h => by simp at h
  | m :: t, j, h => by
    have e : cellsS (m :: t) = encS m ++ cellsS t := rfl
    rw [e]
    by_cases hj : j < 2
    · rw [List.getElem?_append_left (by simpa [encS] using hj), Nat.div_eq_of_lt hj, Nat.mod_eq_of_lt hj]; simp
    · rw [List.getElem?_append_right (by simp [encS]; omega)]
      have h3 : (encS m).length = 2 := rfl
      rw [h3, cellsS_get t (j - 2) (by simp at h; omega), show j / 2 = (j - 2) / 2 + 1 from by omega, show (j - 2) % 2 = j % 2 from by omega]
      simp
/-- A slice of the call's own, read as spans. -/
theorem spans_of {W : World} {base : Nat} {v : Value} {l : List Sp} (h : W.ownsRow base 53 2 v l.length (cellsS l)) : ∃ P c, v = .slice P l.length c ∧ Spans W.heap.size W P l := by
  rcases h.2 with ⟨rfl, h0⟩ | ⟨g, cap, cur, rfl, hb, hg, h1, h2, h3, h4⟩
  · exact ⟨none, 0, by rw [h0], fun hne => absurd (List.eq_nil_of_length_eq_zero h0) hne⟩
  · refine ⟨_, cap, rfl, fun _ => ⟨g, 0, rfl, (Array.getElem?_eq_some_iff.1 hg).1, fun j hj => ?_⟩⟩
    have key : ∀ i, i < l.length * 2 → W.cell? ⟨g, i, none⟩ = (cellsS l)[i]? := fun i hi => by
      rw [cell_of_row W g i cur _ _ hg, ← h4, List.getElem?_take_of_lt hi, Array.getElem?_toList]
    have hd : ∀ i, i < 2 → W.cell? ⟨g, 0 + j * 2 + i, none⟩ = (encS l[j])[i]? := fun i hi => by
      rw [key _ (by omega), cellsS_get l _ (by omega), show (0 + j * 2 + i) / 2 = j from by omega, show (0 + j * 2 + i) % 2 = i from by omega, List.getElem?_eq_getElem hj]; rfl
    exact ⟨hd 0 (by omega), hd 1 (by omega)⟩
theorem SetPost.congr {w : World} {K K' : Int → Prop} {N N' : Nat} {e : Ending} {w' : World} (h : SetPost w K N e w') (hk : ∀ r, K r ↔ K' r) (hN : N ≤ N') : SetPost w K' N' e w' := by
  obtain ⟨v, out, h1, h2, h3, h4, h5⟩ := h
  exact ⟨v, out, h1, h2, fun r => (h3 r).trans (hk r), by omega, h5⟩
/-- What lies below w's own blocks is all that the caller may see of it. -/
theorem SetPost.lower {w w0 : World} {K : Int → Prop} {N : Nat} {e : Ending} {w' : World} (h : SetPost w K N e w') (hb : Below w0.heap.size w0 w) : SetPost w0 K N e w' := by
  obtain ⟨v, out, h1, h2, h3, h4, h5, h6⟩ := h
  exact ⟨v, out, h1, h2, h3, h4, own_lower h5 hb.size, hb.trans (h6.mono hb.size)⟩

theorem normF (x y : Bool) (W : World) : Calls Tryz.prog 114 #[.bool x, .bool y] W fun e w' => e = .returned (.bool x) ∧ W = w' := by
  go_enter Tryz.func114, Tryz.ntmps114
  go_wp2
  go_ret
  exact ⟨rfl, rfl⟩
theorem minusF (x y : Bool) (W : World) : Calls Tryz.prog 121 #[.bool x, .bool y] W fun e w' => e = .returned (.bool (x && !y)) ∧ W = w' := by
  cases x
  all_goals
    go_enter Tryz.func121, Tryz.ntmps121
    go_wp2
    go_ret
    exact ⟨rfl, rfl⟩

/-- Norm: the set of what the spans tell. -/
theorem norm_any (A : Option Addr) (ca : Nat) (xs : List Sp) (hla : xs.length ≤ 1073741824) (w : World) (h0 : 2 < w.heap.size) (hA : Areas w) (hSa : Spans w.heap.size w A xs) :
    Calls Tryz.prog 92 #[.slice A xs.length ca] w (SetPost w (fun r => Tells xs r) (4 * xs.length)) := by
  have hc := combine_any A none ca 0 xs [] hla (by simp) 114 (fun x _ => x) normF (enters_of Tryz.func114 (by kernel_rfl) rfl) rfl w h0 hA hSa Spans.nil
  have HC := Lib.hid hc
  clear hc hA hSa
  go_enter Tryz.func92, Tryz.ntmps92
  go_wp2_with (go_at_call 113; refine HC.out.mono ?_; rintro e w' ⟨v, out, rfl, h2, h3, h4, h5, h6⟩)
  go_ret
  exact ⟨v, out, rfl, h2, fun r => (h3 r).trans (by simp), by simpa using h4, h5, h6⟩
theorem minus_any (A B : Option Addr) (ca cb : Nat) (xs ys : List Sp) (hla : xs.length ≤ 1073741824) (hlb : ys.length ≤ 1073741824) (w : World) (h0 : 2 < w.heap.size) (hA : Areas w) (hSa : Spans w.heap.size w A xs) (hSb : Spans w.heap.size w B ys) :
    Calls Tryz.prog 96 #[.slice A xs.length ca, .slice B ys.length cb] w (SetPost w (fun r => Tells xs r ∧ ¬ Tells ys r) (4 * xs.length + 4 * ys.length)) := by
  have hc := combine_any A B ca cb xs ys hla hlb 121 (fun x y => x && !y) minusF (enters_of Tryz.func121 (by kernel_rfl) rfl) rfl w h0 hA hSa hSb
  have HC := Lib.hid hc
  clear hc hA hSa hSb
  go_enter Tryz.func96, Tryz.ntmps96
  go_wp2_with (go_at_call 113; refine HC.out.mono ?_; rintro e w' ⟨v, out, rfl, h2, h3, h4, h5, h6⟩)
  go_ret
  exact ⟨v, out, rfl, h2, fun r => (h3 r).trans (by simp), h4, h5, h6⟩
/-- Not: all scalars that the spans do not tell. -/
theorem not_any (A : Option Addr) (ca : Nat) (xs : List Sp) (hla : xs.length ≤ 1073741824) (w : World) (h0 : 2 < w.heap.size) (hA : Areas w) (hSa : Spans w.heap.size w A xs) :
    Calls Tryz.prog 66 #[.slice A xs.length ca] w (SetPost w (fun r => Sc r ∧ ¬ Tells xs r) (4 + 4 * xs.length)) := by
  have hb : Below w.heap.size w (w.alloc (.cells #[.int .i64 0, .int .i64 1114111] 53)) := (Below.refl _ w).alloc (Nat.le_refl _) _
  have hall : Spans (w.heap.size + 1) (w.alloc (.cells #[.int .i64 0, .int .i64 1114111] 53)) (some ⟨w.heap.size, 0, none⟩) [(0, 1114111)] := fun _ => ⟨_, 0, rfl, by omega, fun j hj => by
    obtain rfl : j = 0 := by simpa using hj
    refine ⟨?_, ?_⟩
    · rw [cell_of_row _ w.heap.size _ _ _ _ (heap_alloc_new w _)]; rfl
    · rw [cell_of_row _ w.heap.size _ _ _ _ (heap_alloc_new w _)]; rfl⟩
  have hsz : (w.alloc (.cells #[.int .i64 0, .int .i64 1114111] 53)).heap.size = w.heap.size + 1 := by simp
  have hc := minus_any (some ⟨w.heap.size, 0, none⟩) A 1 ca [(0, 1114111)] xs (by simp) hla (w.alloc (.cells #[.int .i64 0, .int .i64 1114111] 53)) (by omega) (hA.below hb h0) (by rw [hsz]; exact hall) ((hSa.below hb).mono (by omega))
  have HC := Lib.hid hc
  have HB := Lib.hid hb
  clear hc hA hSa hall hb hsz
  go_enter Tryz.func66, Tryz.ntmps66
  go_wp2_with (go_at_call 96; refine HC.out.mono ?_; intro e w' hp; obtain ⟨v, out, rfl, h2, h3, h4, h5, h6⟩ := hp.lower HB.out)
  go_ret
  refine ⟨v, out, rfl, h2, fun r => (h3 r).trans ?_, by simpa using h4, h5, h6⟩
  have : Tells [(0, 1114111)] r ↔ Sc r := ⟨fun h => h.1, fun h => ⟨h, (mem_cons _ _ _).2 (.inl (by unfold Sc at h; show 0 ≤ r ∧ r ≤ 1114111; omega))⟩⟩
  rw [this]
end Go.Proofs.YtahgljglleeloaaGreatDoor


/- set.Size: how many scalars spans tell. -/
namespace Go.Proofs.YtahgljglleeloaaGreatDoor
open Go.RowKit Go.Shelf SetM
attribute [local go_sem] Oper.semAt_some

/-- How many numbers a list of spans has, each span counted whole. -/
def sizeL (l : List Sp) : Int := (l.map fun s => s.2 - s.1 + 1).sum
theorem sizeL_append (a b : List Sp) : sizeL (a ++ b) = sizeL a + sizeL b := by simp [sizeL]
theorem sizeL_bound (pre : List End) : 0 ≤ sizeL (pre.map (·.1)) ∧ sizeL (pre.map (·.1)) ≤ 1114112 * pre.length := by
  induction pre with
  | nil => simp [sizeL]
  | cons x t ih =>
    obtain ⟨h1, h2, h3⟩ := x.2
    have : sizeL ((x :: t).map (·.1)) = (x.1.2 - x.1.1 + 1) + sizeL (t.map (·.1)) := by simp [sizeL]
    rw [this, List.length_cons]
    omega
/-- Spans of scalars alone are their own ends. -/
theorem endsOf_self (s : Sp) (h1 : s.1 ≤ s.2) (h : ∀ r, s.1 ≤ r → r ≤ s.2 → Sc r) : endsOf s = [s] := by
  have ha := h s.1 (Int.le_refl _) h1
  have hb := h s.2 h1 (Int.le_refl _)
  have hc : ¬ (s.1 ≤ 55296 ∧ 55296 ≤ s.2) := fun hh => by have := h 55296 hh.1 hh.2; unfold Sc at this; omega
  unfold Sc at ha hb
  obtain ⟨a, b⟩ := s
  dsimp only at *
  unfold endsOf
  dsimp only
  rcases ha with ha | ha
  · have hb2 : b ≤ 55295 := by omega
    rw [if_neg (by omega), if_pos (by omega), if_pos (by omega), show max a 0 = a from by omega, show min b 55295 = b from by omega]
    simp
  · rw [if_neg (by omega), if_neg (by omega), if_neg (by omega), if_pos (by omega), show max a 57344 = a from by omega, show min b 1114111 = b from by omega]
    simp
theorem nf_le {l : List Sp} (h : Nf l) : ∀ s ∈ l, s.1 ≤ s.2 := by
  induction l with
  | nil => simp
  | cons x t ih =>
    intro s hs
    rcases List.mem_cons.1 hs with rfl | hs
    · exact h.1
    · exact ih h.2.2 s hs
theorem endsL_self (l : List Sp) (hn : Nf l) (h : ∀ r, Mem l r → Sc r) : endsL l = l := by
  have : ∀ s ∈ l, endsOf s = [s] := fun s hs => endsOf_self s (nf_le hn s hs) (fun r h1 h2 => h r ⟨s, hs, h1, h2⟩)
  have key : ∀ m : List Sp, (∀ s ∈ m, endsOf s = [s]) → m.flatMap endsOf = m := by
    intro m
    induction m with
    | nil => simp
    | cons x t ih => intro hm; rw [List.flatMap_cons, hm x (by simp), ih (fun s hs => hm s (by simp [hs]))]; rfl
  exact key l this

theorem spansK_of {W : World} {base : Nat} {v : Value} {l : List Sp} (h : W.ownsRow base 53 2 v l.length (cellsS l)) : ∃ P c, v = .slice P l.length c ∧ ∀ n₀, SpansK n₀ W P l := by
  obtain ⟨P, c, hv, hs⟩ := spans_of h
  refine ⟨P, c, hv, fun n₀ hne => ?_⟩
  obtain ⟨b, off, e, _, hc⟩ := hs hne
  refine ⟨b, off, e, .inr ?_, hc⟩
  rcases h.2 with ⟨rfl, h0⟩ | ⟨g, cap, cur, rfl, hb, hg, _⟩
  · exact absurd (List.eq_nil_of_length_eq_zero h0) hne
  · injection hv with h1
    rw [e] at h1
    injection h1 with h1
    injection h1 with h1
    exact ⟨cur, _, by rw [← h1]; exact hg⟩

def SizePost (w : World) (xs : List Sp) (e : Ending) (w' : World) : Prop :=
  ∃ out, Nf out ∧ (∀ r, Mem out r ↔ Tells xs r) ∧ e = .returned (.int .i64 (sizeL out)) ∧ Below w.heap.size w w'

end Go.Proofs.YtahgljglleeloaaGreatDoor


/- slices.Equal at spans, set.Same; the document's Alike. -/
namespace Go.Proofs.YtahgljglleeloaaGreatDoor
open Go.RowKit Go.Shelf SetM


theorem gdSpan : Tryz.prog.eqGuardType Tryz.prog.depth 53 = false := by kernel_rfl
theorem eqSpan (a b c d : Int) (w : World) : (Op.equalIn 10000 53 (.agg #[.int .i64 a, .int .i64 b]) (.agg #[.int .i64 c, .int .i64 d])).run Tryz.prog w = .ok (decide ((a, b) = (c, d))) w := by
  have u3 := Tryz.underlying3
  have a3 := Tryz.isAgg3
  have z3 := Tryz.sizeOf3
  have hS : Tryz.prog.underlying 53 = some (.struct (Tryz.prog.fieldsOf 53)) := by kernel_rfl
  have hp : Tryz.prog.stoodInHeld 53 = false := by kernel_rfl
  rw [show (10000 : Nat) = 9999 + 1 from rfl, run_equalIn_agg w 9999 53 _ _ hS hp]
  simp only [Program.fieldsOf, Tryz.underlying53]
  go_simp
  by_cases h1 : a = c <;> by_cases h2 : b = d <;> simp [h1, h2]

set_option maxRecDepth 100000 in
set_option maxHeartbeats 1000000 in
theorem alike_any (A B : Option Addr) (ca cb : Nat) (xs ys : List Sp) (_hla : xs.length ≤ 1073741824) (hlb : ys.length ≤ 1073741824) (w : World) (hSa : Spans w.heap.size w A xs) (hSb : Spans w.heap.size w B ys) :
    Calls Tryz.prog 23 #[.slice A xs.length ca, .slice B ys.length cb] w fun e w' => e = .returned (.bool (decide (xs = ys))) ∧ Below w.heap.size w w' := by
  have HSA := Lib.hid hSa
  have HSB := Lib.hid hSb
  clear hSa hSb
  by_cases hl : xs.length = ys.length
  · have hli : (xs.length != ys.length) = false := by simp [hl]
    have hli2 : ((xs.length : Int) != (ys.length : Int)) = false := by simp [hl]
    have HL := Lib.hid hl
    clear hl
    go_enter Tryz.func23, Tryz.ntmps23
    go_wp2
    go_loopg [5] xs.length (fun g s5 wx => ∃ k : Nat, k + g = xs.length ∧ s5 = .int .i64 k ∧ Hid (xs.take k = ys.take k) ∧ Below w.heap.size w wx)
    case atStart => exact ⟨0, by omega, rfl, Lib.hid (by simp), Below.refl _ _⟩
    case round =>
      obtain ⟨k, hkg, rfl, HP, hb⟩ := hrel
      cases gk with
      | zero =>
        have hkz : ¬ ((k : Int) < (xs.length : Int)) := by omega
        have he : xs = ys := by
          have := HP.out
          rwa [List.take_of_length_le (by omega), List.take_of_length_le (by have := HL.out; omega)] at this
        have HE := Lib.hid he
        clear he
        go_wp2
        go_ret
        refine ⟨?_, hb⟩
        rw [decide_eq_true HE.out]; rfl
      | succ g =>
        have hk : k < xs.length := by omega
        have hk2 : k < ys.length := by have := HL.out; omega
        have hkz : (k : Int) < (xs.length : Int) := by omega
        have hkz2 : (k : Int) < (ys.length : Int) := by omega
        obtain ⟨b1, o1, rfl, hb1, hc1⟩ := HSA.out (by intro h; rw [h] at hk; simp at hk)
        obtain ⟨b2, o2, rfl, hb2, hc2⟩ := HSB.out (by intro h; rw [h] at hk2; simp at hk2)
        obtain ⟨c0, c1⟩ := hc1 k hk
        obtain ⟨d0, d1⟩ := hc2 k hk2
        have c0' : wr.cell? ⟨b1, o1 + k * 2, none⟩ = some (.int .i64 xs[k].1) := (hb.cell (p := ⟨b1, o1 + k * 2, none⟩) hb1).trans c0
        have c1' : wr.cell? ⟨b1, o1 + k * 2 + 1, none⟩ = some (.int .i64 xs[k].2) := (hb.cell (p := ⟨b1, o1 + k * 2 + 1, none⟩) hb1).trans c1
        have d0' : wr.cell? ⟨b2, o2 + k * 2, none⟩ = some (.int .i64 ys[k].1) := (hb.cell (p := ⟨b2, o2 + k * 2, none⟩) hb2).trans d0
        have d1' : wr.cell? ⟨b2, o2 + k * 2 + 1, none⟩ = some (.int .i64 ys[k].2) := (hb.cell (p := ⟨b2, o2 + k * 2 + 1, none⟩) hb2).trans d1
        clear c0 c1 d0 d1 hc1 hc2
        generalize hx : xs[k] = x at c0' c1'
        generalize hy : ys[k] = y at d0' d1'
        have HX := Lib.hid hx
        have HY := Lib.hid hy
        clear hx hy
        obtain ⟨x1, x2⟩ := x
        obtain ⟨y1, y2⟩ := y
        dsimp only at c0' c1' d0' d1'
        have g1 := gdSpan
        by_cases hxy : (x1, x2) = (y1, y2)
        · have g2 : ∀ w, (Op.equalIn 10000 53 (.agg #[.int .i64 x1, .int .i64 x2]) (.agg #[.int .i64 y1, .int .i64 y2])).run Tryz.prog w = .ok true w := fun w => by rw [eqSpan, decide_eq_true hxy]
          have HXY := Lib.hid hxy
          clear hxy
          go_wp2
          go_quiet (fail)
          go_wp2
          go_roundg g
          case measure => omega
          case rel => exact ⟨k + 1, by omega, by go_num, Lib.hid (by rw [List.take_succ_eq_append_getElem hk, List.take_succ_eq_append_getElem hk2, HX.out, HY.out, HXY.out, HP.out]), ⟨hb.os, hb.tape, hb.output, hb.size, hb.block⟩⟩
        · have g2 : ∀ w, (Op.equalIn 10000 53 (.agg #[.int .i64 x1, .int .i64 x2]) (.agg #[.int .i64 y1, .int .i64 y2])).run Tryz.prog w = .ok false w := fun w => by rw [eqSpan, decide_eq_false hxy]
          have hne : xs ≠ ys := fun h => hxy (by rw [← HX.out, ← HY.out]; simp only [h])
          have HNE := Lib.hid hne
          clear hxy hne
          go_wp2
          go_quiet (fail)
          go_wp2
          go_ret
          refine ⟨?_, ⟨hb.os, hb.tape, hb.output, hb.size, hb.block⟩⟩
          rw [decide_eq_false HNE.out]; rfl
  · have hli2 : ((xs.length : Int) != (ys.length : Int)) = true := by rw [bne_iff_ne]; omega
    have hli : (xs.length != ys.length) = true := by rw [bne_iff_ne]; exact hl
    have hne : xs ≠ ys := fun h => hl (by rw [h])
    have HNE := Lib.hid hne
    clear hl hne
    go_enter Tryz.func23, Tryz.ntmps23
    go_wp2
    go_ret
    exact ⟨by rw [decide_eq_false HNE.out]; rfl, Below.refl _ _⟩

/-- What a comparison of sets says. -/
def SamePost (w : World) (xs ys : List Sp) (e : Ending) (w' : World) : Prop :=
  ∃ b : Bool, e = .returned (.bool b) ∧ (b = true ↔ ∀ r, Tells xs r ↔ Tells ys r) ∧ Below w.heap.size w w'
theorem nf_same {a b : List Sp} {K L : Int → Prop} (ha : Nf a) (hb : Nf b) (hK : ∀ r, Mem a r ↔ K r) (hL : ∀ r, Mem b r ↔ L r) : (decide (a = b) = true ↔ ∀ r, K r ↔ L r) := by
  rw [decide_eq_true_iff]
  constructor
  · rintro rfl r; rw [← hK, ← hL]
  · intro h; exact nf_unique a b ha hb (fun r => by rw [hK, hL]; exact h r)
end Go.Proofs.YtahgljglleeloaaGreatDoor


/- slices.Concat at spans, set.Union. -/
namespace Go.Proofs.YtahgljglleeloaaGreatDoor
open Go.RowKit Go.Shelf SetM

/-- A slice of slices of spans. -/
def RowsAt (n₀ : Nat) (W : World) (A : Option Addr) (ls : List (List Sp)) : Prop :=
  ls ≠ [] → ∃ b off, A = some ⟨b, off, none⟩ ∧ b < n₀ ∧ ∀ j (h : j < ls.length), ∃ P c, W.cell? ⟨b, off + j, none⟩ = some (.slice P ls[j].length c) ∧ Spans n₀ W P ls[j] ∧ (P = none → c = 0)
theorem RowsAt.below {n₀ : Nat} {V W : World} (h : Below n₀ V W) {A : Option Addr} {ls : List (List Sp)} (hs : RowsAt n₀ V A ls) : RowsAt n₀ W A ls := fun hl => by
  obtain ⟨b, off, e, hb, hc⟩ := hs hl
  refine ⟨b, off, e, hb, fun j hj => ?_⟩
  obtain ⟨P, c, h1, h2, h3⟩ := hc j hj
  exact ⟨P, c, (h.cell (p := ⟨b, off + j, none⟩) hb).trans h1, h2.below h, h3⟩
theorem spans_news {n₀ : Nat} {W : World} {ad : Addr} {l : List Sp} (h : Spans n₀ W (some ad) l) : ∀ j u, (cellsS l)[j]? = some u → W.cell? (ad.add j) = some u := by
  intro j u hj
  have hlt : j < l.length * 2 := by
    rcases Nat.lt_or_ge j (l.length * 2) with h1 | h1
    · exact h1
    · rw [List.getElem?_eq_none (by rw [cellsS_len]; exact h1)] at hj; cases hj
  obtain ⟨b, off, e, _, hc⟩ := h (by intro h0; rw [h0] at hlt; simp at hlt)
  injection e with e
  subst e
  have hk : j / 2 < l.length := by omega
  have e1 : (⟨b, off, none⟩ : Addr).add j = ⟨b, off + j, none⟩ := by unfold Addr.add; split <;> simp_all
  rw [e1]
  rw [cellsS_get l j hlt, List.getElem?_eq_getElem hk] at hj
  obtain ⟨c0, c1⟩ := hc (j / 2) hk
  rcases Nat.mod_two_eq_zero_or_one j with h2 | h2
  · rw [h2] at hj
    simp [encS] at hj
    rw [show off + j = off + j / 2 * 2 from by omega, c0, hj]
  · rw [h2] at hj
    simp [encS] at hj
    rw [show off + j = off + j / 2 * 2 + 1 from by omega, c1, hj]
theorem one_cellsS (l : List Sp) : ∀ u ∈ cellsS l, u.oneCell' = true := by
  intro u hu
  obtain ⟨s, _, h⟩ := List.mem_flatMap.1 hu
  simp [encS] at h
  rcases h with rfl | rfl <;> rfl
/-- All the spans of some lists. -/
def flat (ls : List (List Sp)) : List Sp := ls.flatten
def total (ls : List (List Sp)) : Nat := (flat ls).length
theorem total_take (ls : List (List Sp)) (k : Nat) (hk : k < ls.length) : flat (ls.take (k + 1)) = flat (ls.take k) ++ ls[k] := by
  unfold flat
  rw [List.take_succ_eq_append_getElem hk, List.flatten_append]; simp only [List.flatten_cons, List.flatten_nil, List.append_nil]
theorem total_le (ls : List (List Sp)) (k : Nat) : (flat (ls.take k)).length ≤ total ls := by
  have : (ls.take k).flatten ++ (ls.drop k).flatten = ls.flatten := by rw [← List.flatten_append, List.take_append_drop]
  unfold total flat
  rw [← this, List.length_append]; omega

end Go.Proofs.YtahgljglleeloaaGreatDoor
