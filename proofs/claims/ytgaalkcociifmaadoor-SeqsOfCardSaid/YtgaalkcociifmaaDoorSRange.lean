/- Words for memory: a slice of ranges, rows of ranges; what rows take and how many they have. -/
import Derived.Test.YtgaalkcociifmaaDoorSLeaf
import Derived.Test.YtgaalkcociifmaaDoorUWords
import Derived.Test.YtgaalkcociifmaaDoorWords
import Derived.Outline
import Derived.WalkMore
import Derived.Deep.LoopGhost
import Derived.Deep.QuietTactic
import Derived.BigQuiet
import Derived.Deep.DeepCutAuto
namespace Go.Proofs.YtgaalkcociifmaaDoor
open Go.RowKit Go.Shelf SeqM

def encR (x : Rg) : List Value := [.int .u8 x.1, .int .u8 x.2]
def cellsR (l : List Rg) : List Value := l.flatMap encR
theorem cellsR_append (a b : List Rg) : cellsR (a ++ b) = cellsR a ++ cellsR b := by simp [cellsR]
theorem cellsR_len (l : List Rg) : (cellsR l).length = l.length * 2 := by
  induction l with
  | nil => rfl
  | cons m t ih =>
    have : cellsR (m :: t) = encR m ++ cellsR t := rfl
    rw [this, List.length_append, ih]; simp [encR]; omega
theorem cellsR_get : ∀ (l : List Rg) (j : Nat), j < l.length * 2 → (cellsR l)[j]? = (encR (l[j / 2]?.getD default))[j % 2]?
  | [], j, h => by simp at h
  | m :: t, j, h => by
    have e : cellsR (m :: t) = encR m ++ cellsR t := rfl
    rw [e]
    by_cases hj : j < 2
    · rw [List.getElem?_append_left (by simpa [encR] using hj), Nat.div_eq_of_lt hj, Nat.mod_eq_of_lt hj]; simp
    · rw [List.getElem?_append_right (by simp [encR]; omega)]
      have h3 : (encR m).length = 2 := rfl
      rw [h3, cellsR_get t (j - 2) (by simp at h; omega), show j / 2 = (j - 2) / 2 + 1 from by omega, show (j - 2) % 2 = j % 2 from by omega]
      simp
/-- Bytes at both ends. -/
def IsRg (x : Rg) : Prop := 0 ≤ x.1 ∧ x.1 ≤ 255 ∧ 0 ≤ x.2 ∧ x.2 ≤ 255
/-- The slice holds the ranges l. -/
def Rgs (W : World) (A : Option Addr) (l : List Rg) : Prop :=
  (∀ x ∈ l, IsRg x) ∧ (l ≠ [] → ∃ b off, A = some ⟨b, off, none⟩ ∧ b < W.heap.size ∧ ∀ j (h : j < l.length), W.cell? ⟨b, off + j * 2, none⟩ = some (.int .u8 l[j].1) ∧ W.cell? ⟨b, off + j * 2 + 1, none⟩ = some (.int .u8 l[j].2))
theorem Rgs.step {W W' : World} {A : Option Addr} {l : List Rg} (h : Rgs W A l) (hb : Below W.heap.size W W') : Rgs W' A l := ⟨h.1, fun hl => by
  obtain ⟨b, off, e, hbb, hc⟩ := h.2 hl
  have := hb.size
  exact ⟨b, off, e, by omega, fun j hj => ⟨(hb.cell (p := ⟨b, off + j * 2, none⟩) hbb).trans (hc j hj).1, (hb.cell (p := ⟨b, off + j * 2 + 1, none⟩) hbb).trans (hc j hj).2⟩⟩⟩
/-- The slice holds the rows rs. -/
def Rws (W : World) (A : Option Addr) (rs : List (List Rg)) : Prop :=
  rs ≠ [] → ∃ b off, A = some ⟨b, off, none⟩ ∧ b < W.heap.size ∧ ∀ j (h : j < rs.length), ∃ P c, W.cell? ⟨b, off + j, none⟩ = some (.slice P rs[j].length c) ∧ Rgs W P rs[j]
theorem Rws.step {W W' : World} {A : Option Addr} {rs : List (List Rg)} (h : Rws W A rs) (hb : Below W.heap.size W W') : Rws W' A rs := fun hl => by
  obtain ⟨b, off, e, hbb, hc⟩ := h hl
  have := hb.size
  refine ⟨b, off, e, by omega, fun j hj => ?_⟩
  obtain ⟨P, c, h1, h2⟩ := hc j hj
  exact ⟨P, c, (hb.cell (p := ⟨b, off + j, none⟩) hbb).trans h1, h2.step hb⟩

/-- How many bytes a range has, a row's ranges, rows. -/
def wd (x : Rg) : Int := max 0 (x.2 - x.1 + 1)
def prodR (l : List Rg) : Int := l.foldl (fun p x => p * wd x) 1
def countR (rs : List (List Rg)) : Int := rs.foldl (fun n r => n + prodR r) 0
theorem prodR_snoc (l : List Rg) (x : Rg) : prodR (l ++ [x]) = prodR l * wd x := by simp [prodR, List.foldl_append]
theorem countR_snoc (l : List (List Rg)) (r : List Rg) : countR (l ++ [r]) = countR l + prodR r := by simp [countR, List.foldl_append]
theorem prodR_nil : prodR [] = 1 := rfl
theorem countR_nil : countR [] = 0 := rfl
theorem prodR_take {l : List Rg} {k : Nat} (h : k < l.length) : prodR (l.take (k + 1)) = prodR (l.take k) * wd l[k] := by rw [List.take_succ_eq_append_getElem h, prodR_snoc]
theorem countR_take {l : List (List Rg)} {k : Nat} (h : k < l.length) : countR (l.take (k + 1)) = countR (l.take k) + prodR l[k] := by rw [List.take_succ_eq_append_getElem h, countR_snoc]
theorem wd_in {x : Rg} (h : IsRg x) : 0 ≤ wd x ∧ wd x ≤ 256 := by unfold wd; unfold IsRg at h; omega
/-- A row of m ranges has at most B rows of bytes. -/
def Bd : Nat → Int
  | 0 => 1
  | m + 1 => Bd m * 256
theorem Bd_pos : ∀ m, 1 ≤ Bd m
  | 0 => by simp [Bd]
  | m + 1 => by have := Bd_pos m; unfold Bd; omega
theorem Bd_succ (m : Nat) : Bd (m + 1) = Bd m * 256 := rfl
theorem Bd_mono : ∀ {m n : Nat}, m ≤ n → Bd m ≤ Bd n
  | 0, 0, _ => Int.le_refl _
  | m + 1, 0, h => by omega
  | m, n + 1, h => by
    by_cases e : m = n + 1
    · subst e; exact Int.le_refl _
    · have h1 := Bd_mono (m := m) (n := n) (by omega)
      have h2 := Bd_pos n
      rw [Bd_succ n]; omega
theorem prodR_in : ∀ (l : List Rg), (∀ x ∈ l, IsRg x) → 0 ≤ prodR l ∧ prodR l ≤ Bd l.length := by
  intro l
  induction hn : l.length generalizing l with
  | zero => intro _; rw [List.eq_nil_of_length_eq_zero hn]; exact ⟨by simp [prodR], by simp [prodR, Bd]⟩
  | succ k ih =>
    intro h
    have hk : k < l.length := by omega
    have e : l = l.take k ++ [l[k]] := by
      rw [← List.take_succ_eq_append_getElem hk, List.take_of_length_le (by omega)]
    obtain ⟨h1, h2⟩ := ih (l.take k) (by simp; omega) (fun x hx => h x (List.mem_of_mem_take hx))
    obtain ⟨h3, h4⟩ := wd_in (h l[k] (List.getElem_mem hk))
    rw [e, prodR_snoc]
    refine ⟨Int.mul_nonneg h1 h3, ?_⟩
    unfold Bd
    exact Int.mul_le_mul h2 h4 h3 (by have := Bd_pos k; omega)
theorem countR_in (m : Nat) : ∀ (rs : List (List Rg)), (∀ r ∈ rs, r.length ≤ m ∧ ∀ x ∈ r, IsRg x) → 0 ≤ countR rs ∧ countR rs ≤ rs.length * Bd m := by
  intro rs
  induction hn : rs.length generalizing rs with
  | zero => intro _; rw [List.eq_nil_of_length_eq_zero hn]; exact ⟨by simp [countR], by simp [countR]⟩
  | succ k ih =>
    intro h
    have hk : k < rs.length := by omega
    have e : rs = rs.take k ++ [rs[k]] := by
      rw [← List.take_succ_eq_append_getElem hk, List.take_of_length_le (by omega)]
    obtain ⟨h1, h2⟩ := ih (rs.take k) (by simp; omega) (fun x hx => h x (List.mem_of_mem_take hx))
    obtain ⟨h3, h4⟩ := h rs[k] (List.getElem_mem hk)
    obtain ⟨h5, h6⟩ := prodR_in rs[k] h4
    have h7 := Bd_mono h3
    rw [e, countR_snoc]
    refine ⟨by omega, ?_⟩
    rw [show ((k + 1 : Nat) : Int) * Bd m = (k : Int) * Bd m + Bd m from by rw [Int.natCast_add, Int.add_mul]; simp]
    omega
/-- A row takes bytes: as many, each in its range. -/
def fits : List Rg → List Int → Bool
  | [], [] => true
  | x :: t, c :: u => decide (x.1 ≤ c ∧ c ≤ x.2) && fits t u
  | [], _ :: _ => false
  | _ :: _, [] => false
def anyFits (rs : List (List Rg)) (b : List Int) : Bool := rs.any fun r => fits r b
theorem fits_iff : ∀ (r : List Rg) (b : List Int), fits r b = true ↔ r.length = b.length ∧ ∀ j (h : j < r.length) (h' : j < b.length), r[j].1 ≤ b[j] ∧ b[j] ≤ r[j].2
  | [], [] => by simp [fits]
  | [], _ :: _ => by simp [fits]
  | _ :: _, [] => by simp [fits]
  | x :: t, c :: u => by
    simp only [fits, Bool.and_eq_true, decide_eq_true_eq, fits_iff t u, List.length_cons]
    constructor
    · rintro ⟨h0, h1, h2⟩
      refine ⟨by omega, fun j h h' => ?_⟩
      cases j with
      | zero => exact h0
      | succ j => exact h2 j (by omega) (by omega)
    · rintro ⟨h1, h2⟩
      exact ⟨h2 0 (by omega) (by omega), by omega, fun j h h' => h2 (j + 1) (by omega) (by omega)⟩
theorem fits_len {r : List Rg} {b : List Int} (h : r.length ≠ b.length) : fits r b = false := by
  rw [Bool.eq_false_iff]; intro hf; exact h ((fits_iff r b).1 hf).1
theorem fits_out {r : List Rg} {b : List Int} {j : Nat} (h : j < r.length) (h' : j < b.length) (ho : ¬ (r[j].1 ≤ b[j] ∧ b[j] ≤ r[j].2)) : fits r b = false := by
  rw [Bool.eq_false_iff]; intro hf; exact ho (((fits_iff r b).1 hf).2 j h h')
theorem fits_in {r : List Rg} {b : List Int} (hl : r.length = b.length) (h : ∀ j (h : j < r.length) (h' : j < b.length), r[j].1 ≤ b[j] ∧ b[j] ≤ r[j].2) : fits r b = true := (fits_iff r b).2 ⟨hl, h⟩
theorem anyFits_take {rs : List (List Rg)} {b : List Int} {k : Nat} (h : k < rs.length) : anyFits (rs.take (k + 1)) b = (anyFits (rs.take k) b || fits rs[k] b) := by
  unfold anyFits; rw [List.take_succ_eq_append_getElem h, List.any_append]; simp only [List.any_cons, List.any_nil, Bool.or_false]
theorem anyFits_at {rs : List (List Rg)} {b : List Int} {k : Nat} (h : k < rs.length) (hf : fits rs[k] b = true) : anyFits rs b = true := List.any_eq_true.2 ⟨_, List.getElem_mem h, hf⟩

/-- A box with a range. -/
def BoxR (W : World) (B : Nat) (x : Rg) : Prop := W.heap[B]? = some (.cells #[.int .u8 x.1, .int .u8 x.2] 64 (0, 0))
theorem BoxR.new (w : World) (x : Rg) : BoxR (w.alloc (.cells #[.int .u8 x.1, .int .u8 x.2] 64)) w.heap.size x := heap_alloc_new w _
theorem BoxR.c0 {W : World} {B : Nat} {x : Rg} (h : BoxR W B x) : W.cell? ⟨B, 0, none⟩ = some (.int .u8 x.1) := by rw [cell_of_row W B 0 _ _ _ h]; rfl
theorem BoxR.c1 {W : World} {B : Nat} {x : Rg} (h : BoxR W B x) : W.cell? ⟨B, 1, none⟩ = some (.int .u8 x.2) := by rw [cell_of_row W B 1 _ _ _ h]; rfl

theorem ret_wd {x : Rg} {a : Int} (h : a = max 0 (x.2 - x.1 + 1)) : Ending.returned (.int .i64 a) = .returned (.int .i64 (wd x)) := by rw [h]; rfl
set_option maxHeartbeats 1000000 in
theorem width_c (x : Rg) (hx : IsRg x) (w : World) : Calls Tryd.prog 37 #[.agg #[.int .u8 x.1, .int .u8 x.2]] w fun e w' => e = .returned (.int .i64 (wd x)) ∧ Below w.heap.size w w' := by
  obtain ⟨lo, hi⟩ := x
  obtain ⟨h1, h2, h3, h4⟩ := hx
  dsimp only at *
  go_enter Tryd.func37, Tryd.ntmps37
  go_wp2
  all_goals
    go_ret
    exact ⟨ret_wd (by simp only; omega), (Below.refl _ _).alloc (Nat.le_refl _) _⟩
end Go.Proofs.YtgaalkcociifmaaDoor
