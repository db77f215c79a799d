/- The document's spans of numbers, two by two. -/
import Derived.Test.YtjhbjgpkpcfdmaaDoorPApp
import Derived.Test.YtjhbjgpkpcfdmaaDoorRefLay
import Derived.Deep.AppendLies
import Derived.Deep.RegionLaw
import Derived.WalkSmall
import Derived.IntWalk
namespace Go.Proofs.YtjhbjgpkpcfdmaaDoor
open Go.RowKit Go.Shelf SetM

/-- Spans' ends, one behind the other. -/
def flatS (l : List Sp) : List Int := l.flatMap fun s => [s.1, s.2]
theorem flatS_len (l : List Sp) : (flatS l).length = 2 * l.length := by
  induction l with
  | nil => rfl
  | cons s t ih => have : flatS (s :: t) = [s.1, s.2] ++ flatS t := rfl
                   rw [this, List.length_append, ih, List.length_cons]; simp; omega
theorem flatS_at (l : List Sp) : ∀ (k : Nat) (h : k < l.length), (flatS l)[2 * k]'(by rw [flatS_len]; omega) = l[k].1 ∧ (flatS l)[2 * k + 1]'(by rw [flatS_len]; omega) = l[k].2 := by
  induction l with
  | nil => intro k h; simp at h
  | cons s t ih =>
    intro k h
    match k, h with
    | 0, _ => exact ⟨rfl, rfl⟩
    | k + 1, h => exact ih k (by simpa using h)

set_option maxRecDepth 100000 in
set_option maxHeartbeats 4000000 in
theorem rspans_any (P : Option Addr) (c n : Nat) (l : List Sp) (hn : n = 2 * l.length) (hl : l.length ≤ 1000) (w : World) (hI : Ints w.heap.size w P (flatS l)) :
    Calls Tryd.prog 30 #[.slice P n c] w fun e w' => ∃ P' c', e = .returned (.slice P' l.length c') ∧ Sl w' P' l ∧ (P' = none → c' = 0) ∧ Below w.heap.size w w' := by
  obtain ⟨i0, hi0, hz0, hz1, hz2⟩ := info_parts infoS
  have HI := Lib.hid hI
  have HN := Lib.hid hn
  have HF := Lib.hid (flatS_at l)
  have HFL := Lib.hid (flatS_len l)
  clear hI hn
  go_enter Tryd.func30, Tryd.ntmps30
  go_wp2
  go_loopg [3, 4] l.length (fun g s3 s4 wx => ∃ k m : Nat, k + g = l.length ∧ m = 2 * k ∧ s4 = .int .i64 m ∧ wx.ownsRow w.heap.size 39 2 s3 (l.take k).length (cellsS (l.take k)) ∧ Below w.heap.size w wx)
  case atStart => exact ⟨0, 0, by omega, rfl, rfl, World.ownsRow_nil _ _ _ _, Below.refl _ _⟩
  case round =>
    obtain ⟨k, m, hkg, hm, rfl, hown, hb⟩ := hrel
    have HM := Lib.hid hm
    clear hm
    have hmb : (m : Int) ≤ 2000 := by have := HM.out; omega
    have hw1 : wrap64 ((m : Int) + 1) = (m : Int) + 1 := IntWalk.wrap64_in _ ⟨by omega, by omega⟩
    have hw3 : wrap64 ((m : Int) + 2) = (m : Int) + 2 := IntWalk.wrap64_in _ ⟨by omega, by omega⟩
    cases gk with
    | zero =>
      have hkz : ¬ ((m : Int) + 1 < (n : Int)) := by have := HN.out; have := HM.out; omega
      rw [List.take_of_length_le (by omega)] at hown
      go_wp2
      go_ret
      obtain ⟨P', c', rfl, hs, hp⟩ := spans_of0 hown
      exact ⟨P', c', rfl, hs, hp, hb⟩
    | succ g =>
      have hk : k < l.length := by omega
      have hkz : (m : Int) + 1 < (n : Int) := by have := HN.out; have := HM.out; omega
      have hkz0 : (m : Int) < (n : Int) := by omega
      obtain ⟨bb, off, rfl, hbb, hc⟩ := (Ints.below hb HI.out) (by intro h; have h1 := congrArg List.length h; rw [HFL.out] at h1; simp at h1; omega)
      have c0 : wr.cell? ⟨bb, off + m, none⟩ = some (.int .i64 l[k].1) := by
        have h1 := hc (2 * k) (by rw [HFL.out]; omega)
        rw [(HF.out k hk).1] at h1
        rw [HM.out]; exact h1
      have c1 : wr.cell? ⟨bb, off + (m + 1), none⟩ = some (.int .i64 l[k].2) := by
        have h1 := hc (2 * k + 1) (by rw [HFL.out]; omega)
        rw [(HF.out k hk).2] at h1
        rw [HM.out]; exact h1
      have HT := Lib.hid (List.take_succ_eq_append_getElem hk)
      have HTL : (l.take k).length ≤ 1000 := by rw [List.length_take]; omega
      have hsz := hb.size
      have HOW := Lib.hid hown
      clear hc hown
      generalize l[k] = s at *
      generalize l.take k = Lk at *
      obtain ⟨x, y⟩ := s
      dsimp only at c0 c1
      obtain ⟨m', hm'⟩ : ∃ m' : Nat, m' = m + 1 := ⟨_, rfl⟩
      have hw2 : IntKind.i64.wrap ((m : Int) + 1) = (m' : Int) := by
        have h1 : IntKind.i64.wrap ((m : Int) + 1) = (m : Int) + 1 := by simp [IntKind.wrap, IntKind.signed, IntKind.bits]; omega
        rw [h1, hm']; rfl
      have hkm : (m' : Int) < (n : Int) := by omega
      rw [← hm'] at c1
      have HM' := Lib.hid hm'
      clear hm'
      go_wp2
      go_region_law ((refine step_append_lies _ (by rfl) _ _ _ (by rfl) w.heap.size 39 i0 _ 2 16 Tryd.underlying27 hi0 hz0 hz1 hz2 rfl (by omega) _ _ _ (by rfl) ((HOW.out.alloc _).drew) ⟨wr.heap.size, 0, none⟩ 1 1 [.int .i64 x, .int .i64 y] (by rfl) (by rfl) (World.news_of_block (cs := #[.int .i64 x, .int .i64 y]) (t := 39) (fr := (0, 0)) (heap_alloc_new wr _)) (by simp [Value.oneCell']) (by omega) (by unfold maxLen; omega) (by omega) (by simp; omega) (wr.heap.size + 1) (by simp) ?_; intro gg cap w4 hown' hgrow hat hlt))
      all_goals
        have hbn : Below w.heap.size w w4 := (((hb.alloc hsz _).drew).grown hgrow (by simp; omega) (fun j hj => (HOW.out.lt j hj).1))
        go_wp2
        go_roundg g
        case measure => omega
        case rel => exact ⟨k + 1, m + 2, by omega, by have := HM.out; omega, by go_num, by rw [HT.out, cellsS_append, List.length_append]; exact hown', hbn⟩
end Go.Proofs.YtjhbjgpkpcfdmaaDoor
