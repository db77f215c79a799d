/- The law's rise: what it asks of rows, and that it says yes of a set's. -/
import Derived.Test.YtgaalkcociifmaaDoorSKnown
import Derived.Test.YtgaalkcociifmaaDoorUTail
import Derived.Deep.AppendLies
namespace Go.Proofs.YtgaalkcociifmaaDoor
open Go.RowKit Go.Shelf SeqM
open U.UtfM (enc)

/-- Ends in order; behind a range of more than one byte all that may continue. -/
def okR : Bool → List Rg → Bool
  | _, [] => true
  | wide, x :: t => decide (x.1 ≤ x.2) && (!wide || decide (x.1 = 128 ∧ x.2 = 191)) && okR (wide || decide (x.1 < x.2)) t
def wideL (r : List Rg) : Bool := r.any fun x => decide (x.1 < x.2)
theorem okR_at : ∀ (r : List Rg) (w : Bool), okR w r = true → ∀ k (h : k < r.length), r[k].1 ≤ r[k].2 ∧ ((w || wideL (r.take k)) = true → r[k].1 = 128 ∧ r[k].2 = 191)
  | [], _, _, _, h => by simp at h
  | x :: t, w, ho, k, h => by
    simp only [okR, Bool.and_eq_true, decide_eq_true_eq, Bool.or_eq_true, Bool.not_eq_true'] at ho
    obtain ⟨⟨h1, h2⟩, h3⟩ := ho
    cases k with
    | zero =>
      refine ⟨h1, fun hw => ?_⟩
      simp [wideL] at hw
      rcases h2 with h2 | h2
      · rw [h2] at hw; cases hw
      · exact h2
    | succ k =>
      obtain ⟨h4, h5⟩ := okR_at t _ h3 k (by simpa using h)
      refine ⟨h4, fun hw => h5 ?_⟩
      simp only [wideL, List.take_succ_cons, List.any_cons, Bool.or_eq_true] at hw ⊢
      rcases hw with hw | hw | hw
      · exact .inl (.inl hw)
      · exact .inl (.inr hw)
      · exact .inr hw
theorem wideL_take {r : List Rg} {k : Nat} (h : k < r.length) : wideL (r.take (k + 1)) = (wideL (r.take k) || decide (r[k].1 < r[k].2)) := by
  unfold wideL; rw [List.take_succ_eq_append_getElem h, List.any_append]; simp only [List.any_cons, List.any_nil, Bool.or_false]
theorem okR_same (x : Int) (t : List Rg) : okR false ((x, x) :: t) = okR false t := by simp [okR]
theorem okR4 (a b c d : Rg) : okR false [a, b, c, d] = true ↔ a.1 ≤ a.2 ∧ b.1 ≤ b.2 ∧ (a.1 < a.2 → b.1 = 128 ∧ b.2 = 191) ∧ c.1 ≤ c.2 ∧ ((a.1 < a.2 ∨ b.1 < b.2) → c.1 = 128 ∧ c.2 = 191) ∧ d.1 ≤ d.2 ∧ ((a.1 < a.2 ∨ b.1 < b.2 ∨ c.1 < c.2) → d.1 = 128 ∧ d.2 = 191) := by
  simp only [okR, Bool.and_eq_true, Bool.or_eq_true, decide_eq_true_eq, Bool.not_eq_true', Bool.false_or, Bool.not_false, Bool.true_or, and_true, Bool.or_eq_false_iff, decide_eq_false_iff_not]
  omega
theorem ok4 {a b a3 a2 a1 a0 b3 b2 b1 b0 : Int} (ha : Dig a a3 a2 a1 a0) (hb : Dig b b3 b2 b1 b0) (hab : a ≤ b) (h : Ends4 a3 a2 a1 a0 b3 b2 b1 b0) (k3 k2 k1 : Int) (e1 : k1 = 128 ∨ (a2 = b2 ∧ a3 = b3)) (e2 : k2 = 128 ∨ a3 = b3) :
    okR false [(k3 + a3, k3 + b3), (k2 + a2, k2 + b2), (k1 + a1, k1 + b1), (128 + a0, 128 + b0)] = true := by
  rw [okR4]
  obtain ⟨rfl, ⟨_, _⟩, ⟨_, _⟩, ⟨_, _⟩, _⟩ := ha
  obtain ⟨rfl, ⟨_, _⟩, ⟨_, _⟩, ⟨_, _⟩, _⟩ := hb
  simp only
  cases h
  · exact ⟨by omega, by omega, by omega, by omega, by omega, by omega, by omega⟩
  · exact ⟨by omega, by omega, by omega, by omega, by omega, by omega, by omega⟩
  · exact ⟨by omega, by omega, by omega, by omega, by omega, by omega, by omega⟩
  · exact ⟨by omega, by omega, by omega, by omega, by omega, by omega, by omega⟩
theorem leaf_ok {n : Nat} {a b : Int} (h : Leaf n (a, b)) : okR false (rowOf (a, b)) = true := by
  obtain ⟨hg, hc⟩ := h
  have hab := hg.in.2.1
  have sa := hg.sc (Int.le_refl a) hab
  have sb := hg.sc hab (Int.le_refl b)
  simp only at hc
  rcases (good_cases hg).2.2 with ⟨rfl, h3, h4⟩ | ⟨rfl, h3, h4⟩ | ⟨rfl, h3, h4⟩ | ⟨rfl, h3, h4⟩
  · rw [row_1 sa sb (by omega) (by omega)]; simp [okR]; omega
  · have z3 : a / 262144 = b / 262144 := by omega
    have z2 : a / 4096 % 64 = b / 4096 % 64 := by omega
    have he := ok4 (dig_of (by omega)) (dig_of (by omega)) hab (ends2 (by omega) (by omega) (by omega) (by omega) hc) 0 0 192 (.inr ⟨z2, z3⟩) (.inr z3)
    rw [z3, z2, okR_same, okR_same] at he
    rw [row_2 sa sb h3 (by omega) (by omega) h4]
    exact he
  · have z3 : a / 262144 = b / 262144 := by omega
    have he := ok4 (dig_of (by omega)) (dig_of (by omega)) hab (ends3 (by omega) (by omega) (by omega) (by omega) hc) 0 224 128 (.inl rfl) (.inr z3)
    rw [z3, okR_same] at he
    rw [row_3 sa sb h3 (by omega) (by omega) h4]
    exact he
  · rw [row_4 sa sb h3 (by omega)]
    exact ok4 (dig_of (by omega)) (dig_of (by omega)) hab (ends4 (by omega) (by omega) hc) 240 128 128 (.inl rfl) (.inl rfl)
def lowF (r : List Rg) : List Int := r.map (·.1)
def highF (r : List Rg) : List Int := r.map (·.2)
theorem low_row {n : Nat} {a b : Int} (hg : SeqM.Good (n, a, b)) : lowF (rowOf (a, b)) = enc a ∧ highF (rowOf (a, b)) = enc b := by
  have h1 := hg.len (Int.le_refl a) hg.in.2.1
  have h2 := hg.len hg.in.2.1 (Int.le_refl b)
  unfold lowF highF rowOf
  simp only
  exact ⟨List.map_fst_zip (by omega), List.map_snd_zip (by omega)⟩
/-- What rise asks. -/
structure RiseOk (rs : List (List Rg)) : Prop where
  each : ∀ r ∈ rs, okR false r = true ∧ 1 ≤ r.length ∧ r.length ≤ 4 ∧ ∀ x ∈ r, IsRg x
  up : ∀ i (h : i + 1 < rs.length), U.UtfM.lexLt (highF (rs[i]'(by omega))) (lowF rs[i + 1]) = true
theorem rise_rows (l : List SetM.Sp) : RiseOk (rowsOf (nrm l)) := by
  have hsc := nrm_scal l
  have hlf := leavesOf_leaf hsc
  have hup := leavesOf_ups hsc (ups_of (nrm_nf l))
  refine ⟨fun r hr => ?_, fun i hi => ?_⟩
  · obtain ⟨h1, h2, h3⟩ := rows_short hsc r hr
    rw [rowsOf_leaves hsc] at hr
    obtain ⟨s, hs, rfl⟩ := List.mem_map.1 hr
    obtain ⟨n, hn⟩ := hlf s hs
    exact ⟨leaf_ok (n := n) (a := s.1) (b := s.2) hn, h2, h1, h3⟩
  · simp only [rowsOf_leaves hsc, List.getElem_map]
    have hi' : i + 1 < (leavesOf (nrm l)).length := by rw [rowsOf_leaves hsc, List.length_map] at hi; exact hi
    obtain ⟨n, hn⟩ := hlf _ (List.getElem_mem (show i < (leavesOf (nrm l)).length by omega))
    obtain ⟨m, hm⟩ := hlf _ (List.getElem_mem hi')
    have hlt := List.pairwise_iff_getElem.1 hup i (i + 1) (by omega) hi' (by omega)
    generalize (leavesOf (nrm l))[i] = s at *
    generalize (leavesOf (nrm l))[i + 1] = t at *
    have g1 : SeqM.Good (n, s.1, s.2) := hn.1
    have g2 : SeqM.Good (m, t.1, t.2) := hm.1
    have e1 : highF (rowOf s) = enc s.2 := (low_row g1).2
    have e2 : lowF (rowOf t) = enc t.1 := (low_row g2).1
    rw [e1, e2, U.UtfM.enc_order (g1.sc g1.in.2.1 (Int.le_refl _)) (g2.sc (Int.le_refl _) g2.in.2.1)]
    exact decide_eq_true hlt
end Go.Proofs.YtgaalkcociifmaaDoor
