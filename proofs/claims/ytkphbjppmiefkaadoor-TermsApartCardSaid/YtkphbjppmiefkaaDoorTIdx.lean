/- slices.IndexFunc, slices.ContainsFunc, slices.BinarySearchFunc, where the program uses them. -/
import Derived.Test.YtkphbjppmiefkaaDoorTRows
import Derived.Test.YtkphbjppmiefkaaDoorSteps
namespace TermsM
open SetM
/-- The first place where something holds; -1: nowhere. -/
def firstI {α : Type} (p : α → Bool) : List α → Int → Int
  | [], _ => -1
  | a :: l, i => if p a then i else firstI p l (i + 1)
theorem firstI_drop {α : Type} (p : α → Bool) (l : List α) {k : Nat} (hk : k < l.length) : firstI p (l.drop k) (k : Int) = if p l[k] then (k : Int) else firstI p (l.drop (k + 1)) ((k + 1 : Nat) : Int) := by
  rw [List.drop_eq_getElem_cons hk, firstI]
  norm_cast
theorem firstI_ge {α : Type} (p : α → Bool) : ∀ (l : List α) (i : Int), 0 ≤ i → (0 ≤ firstI p l i ↔ ∃ a ∈ l, p a = true)
  | [], i, _ => by simp [firstI]
  | a :: l, i, h => by
    unfold firstI
    by_cases hp : p a = true
    · rw [if_pos hp]; exact iff_of_true h ⟨a, by simp, hp⟩
    · rw [if_neg hp, firstI_ge p l (i + 1) (by omega)]
      constructor
      · rintro ⟨x, hx, h⟩; exact ⟨x, by simp [hx], h⟩
      · rintro ⟨x, hx, h⟩
        rcases List.mem_cons.1 hx with rfl | hx
        · exact absurd h hp
        · exact ⟨x, hx, h⟩
end TermsM
namespace Go.Proofs.YtkphbjppmiefkaaDoor
open Go.RowKit Go.Shelf SetM TermsM
set_option maxRecDepth 100000 in
set_option maxHeartbeats 4000000 in
/-- Of rows of spans: the function says p of each, and writes nothing that lay there. -/
theorem index_rows {W : World} {A : Option Addr} {n c : Nat} {ls : List (List Sp)} (hn : n = ls.length) (h8 : n ≤ 1000000) (hR : Rs W A ls) (f : Nat) (lb : Array Value) (eg : ∀ args w, (callFunc f args).run Tryd.prog w = .ok (.enter f args) w) (p : List Sp → Bool)
    (hf : ∀ (V : World) (P : Option Addr) (cp : Nat) (s : List Sp), Below W.heap.size W V → s ∈ ls → Spans W.heap.size V P s → Calls Tryd.prog f (#[.slice P s.length cp] ++ lb) V fun e V' => e = .returned (.bool (p s)) ∧ Below V.heap.size V V') :
    Calls Tryd.prog 35 #[.slice A n c, .func (.func f) #[] lb] W fun e W' => e = .returned (.int .i64 (firstI p ls 0)) ∧ Below W.heap.size W W' := by
  have HN := Lib.hid hn
  have HR := Lib.hid hR
  have HF := Lib.hid hf
  clear hn hR hf
  go_enter Tryd.func35, Tryd.ntmps35
  go_wp2_with fail
  go_loopg [8] n (fun g s8 wx => ∃ k : Nat, k + g = n ∧ s8 = .int .i64 k ∧ Hid (firstI p ls 0 = firstI p (ls.drop k) (k : Int)) ∧ Hid (Below W.heap.size W wx))
  case atStart => exact ⟨0, by omega, rfl, Lib.hid rfl, Lib.hid (Below.refl _ _)⟩
  case round =>
    obtain ⟨k, hkg, rfl, HE, HB⟩ := hrel
    cases gk with
    | zero =>
      obtain rfl : k = n := by omega
      have hlt : ¬ (k : Int) < (k : Int) := by omega
      have HX : Hid (firstI p ls 0 = -1) := Lib.hid (by rw [HE.out, List.drop_of_length_le (by have := HN.out; omega)]; rfl)
      go_wp2_with fail
      go_ret
      exact ⟨by rw [HX.out]; rfl, HB.out⟩
    | succ g =>
      have hlt : (k : Int) < (n : Int) := by omega
      have hkl : k < ls.length := by have := HN.out; omega
      obtain ⟨b, off, rfl, hb, hrow⟩ := HR.out (by intro h; rw [h] at hkl; simp at hkl)
      obtain ⟨P, cp, h1, h2, h3⟩ := hrow k hkl
      have c0 := (HB.out.cell (p := ⟨b, off + k, none⟩) hb).trans h1
      have HC := Lib.hid (HF.out wr P cp ls[k] HB.out (List.getElem_mem hkl) (h2.below HB.out))
      have hst := firstI_drop p ls hkl
      rw [← HE.out] at hst
      obtain ⟨s, hs⟩ : ∃ s, s = ls[k] := ⟨_, rfl⟩
      rw [← hs] at c0 HC hst
      obtain ⟨ns, hns⟩ : ∃ ns, ns = s.length := ⟨_, rfl⟩
      rw [← hns] at c0 HC
      obtain ⟨q, hq⟩ : ∃ q, q = p s := ⟨_, rfl⟩
      rw [← hq] at HC hst
      clear hs hns hq h1 h2 h3 hrow
      cases q with
      | true =>
        rw [if_pos rfl] at hst
        have HX := Lib.hid hst
        clear hst
        go_wp2_with fail
        refine HC.out.mono ?_
        rintro e w2 ⟨rfl, b2⟩
        have HB2 := Lib.hid (HB.out.trans (b2.mono HB.out.size))
        clear b2
        go_wp2_with fail
        go_ret
        exact ⟨by rw [HX.out]; rfl, HB2.out⟩
      | false =>
        rw [if_neg (by simp)] at hst
        have HX := Lib.hid hst
        clear hst
        go_wp2_with fail
        refine HC.out.mono ?_
        rintro e w2 ⟨rfl, b2⟩
        have HB2 := Lib.hid (HB.out.trans (b2.mono HB.out.size))
        clear b2
        go_wp2_with fail
        go_roundg g
        case measure => omega
        case rel => exact ⟨k + 1, by omega, by go_num, HX, HB2⟩
set_option maxRecDepth 100000 in
set_option maxHeartbeats 4000000 in
/-- Of spans: the function says p of each, and writes nothing that lay there. -/
theorem index_spans {W : World} {A : Option Addr} {n c : Nat} {ls : List Sp} (hn : n = ls.length) (h8 : n ≤ 1000000) (hR : Sl0 W A ls) (f : Nat) (lb : Array Value) (eg : ∀ args w, (callFunc f args).run Tryd.prog w = .ok (.enter f args) w) (p : Sp → Bool)
    (hf : ∀ (V : World) (s : Sp), Below W.heap.size W V → s ∈ ls → Calls Tryd.prog f (#[.agg #[.int .i64 s.1, .int .i64 s.2]] ++ lb) V fun e V' => e = .returned (.bool (p s)) ∧ Below V.heap.size V V') :
    Calls Tryd.prog 54 #[.slice A n c, .func (.func f) #[] lb] W fun e W' => e = .returned (.int .i64 (firstI p ls 0)) ∧ Below W.heap.size W W' := by
  have HN := Lib.hid hn
  have HR := Lib.hid hR
  have HF := Lib.hid hf
  clear hn hR hf
  go_enter Tryd.func54, Tryd.ntmps54
  go_wp2_with fail
  go_loopg [8] n (fun g s8 wx => ∃ k : Nat, k + g = n ∧ s8 = .int .i64 k ∧ Hid (firstI p ls 0 = firstI p (ls.drop k) (k : Int)) ∧ Hid (Below W.heap.size W wx))
  case atStart => exact ⟨0, by omega, rfl, Lib.hid rfl, Lib.hid (Below.refl _ _)⟩
  case round =>
    obtain ⟨k, hkg, rfl, HE, HB⟩ := hrel
    cases gk with
    | zero =>
      obtain rfl : k = n := by omega
      have hlt : ¬ (k : Int) < (k : Int) := by omega
      have HX : Hid (firstI p ls 0 = -1) := Lib.hid (by rw [HE.out, List.drop_of_length_le (by have := HN.out; omega)]; rfl)
      go_wp2_with fail
      go_ret
      exact ⟨by rw [HX.out]; rfl, HB.out⟩
    | succ g =>
      have hlt : (k : Int) < (n : Int) := by omega
      have hkl : k < ls.length := by have := HN.out; omega
      obtain ⟨b, off, rfl, hb, hrow⟩ := HR.out (by intro h; rw [h] at hkl; simp at hkl)
      obtain ⟨h1, h2⟩ := hrow k hkl
      have c0 := (HB.out.cell (p := ⟨b, off + k * 2, none⟩) hb).trans h1
      have c1 := (HB.out.cell (p := ⟨b, off + k * 2 + 1, none⟩) hb).trans h2
      have HC := Lib.hid (HF.out wr ls[k] HB.out (List.getElem_mem hkl))
      have hst := firstI_drop p ls hkl
      rw [← HE.out] at hst
      obtain ⟨s, hs⟩ : ∃ s, s = ls[k] := ⟨_, rfl⟩
      rw [← hs] at c0 c1 HC hst
      obtain ⟨lo, hlo⟩ : ∃ lo, lo = s.1 := ⟨_, rfl⟩
      obtain ⟨hi, hhi⟩ : ∃ hi, hi = s.2 := ⟨_, rfl⟩
      rw [← hlo] at c0 HC
      rw [← hhi] at c1 HC
      obtain ⟨q, hq⟩ : ∃ q, q = p s := ⟨_, rfl⟩
      rw [← hq] at HC hst
      clear hs hlo hhi hq h1 h2 hrow
      cases q with
      | true =>
        rw [if_pos rfl] at hst
        have HX := Lib.hid hst
        clear hst
        go_wp2_with fail
        refine HC.out.mono ?_
        rintro e w2 ⟨rfl, b2⟩
        have HB2 := Lib.hid (HB.out.trans (b2.mono HB.out.size))
        clear b2
        go_wp2_with fail
        go_ret
        exact ⟨by rw [HX.out]; rfl, HB2.out⟩
      | false =>
        rw [if_neg (by simp)] at hst
        have HX := Lib.hid hst
        clear hst
        go_wp2_with fail
        refine HC.out.mono ?_
        rintro e w2 ⟨rfl, b2⟩
        have HB2 := Lib.hid (HB.out.trans (b2.mono HB.out.size))
        clear b2
        go_wp2_with fail
        go_roundg g
        case measure => omega
        case rel => exact ⟨k + 1, by omega, by go_num, HX, HB2⟩
/-- slices.ContainsFunc of spans. -/
theorem contains_spans {W : World} {A : Option Addr} {n c : Nat} {ls : List Sp} (hn : n = ls.length) (h8 : n ≤ 1000000) (hR : Sl0 W A ls) (f : Nat) (lb : Array Value) (eg : ∀ args w, (callFunc f args).run Tryd.prog w = .ok (.enter f args) w) (p : Sp → Bool)
    (hf : ∀ (V : World) (s : Sp), Below W.heap.size W V → s ∈ ls → Calls Tryd.prog f (#[.agg #[.int .i64 s.1, .int .i64 s.2]] ++ lb) V fun e V' => e = .returned (.bool (p s)) ∧ Below V.heap.size V V') :
    Calls Tryd.prog 39 #[.slice A n c, .func (.func f) #[] lb] W fun e W' => e = .returned (.bool (decide (∃ a ∈ ls, p a = true))) ∧ Below W.heap.size W W' := by
  have HI := Lib.hid (index_spans (c := c) hn h8 hR f lb eg p hf)
  have hge := firstI_ge p ls 0 (Int.le_refl _)
  obtain ⟨i, hi⟩ : ∃ i, i = firstI p ls 0 := ⟨_, rfl⟩
  rw [← hi] at HI hge
  have HG : Hid (decide (0 ≤ i) = decide (∃ a ∈ ls, p a = true)) := Lib.hid (decide_eq_decide.2 hge)
  clear hn h8 hR hf hi hge
  go_enter Tryd.func39, Tryd.ntmps39
  go_wp2_with fail
  refine HI.out.mono ?_
  rintro e w2 ⟨rfl, b2⟩
  go_wp2_with fail
  go_ret
  exact ⟨by rw [← HG.out]; rfl, b2⟩
end Go.Proofs.YtkphbjppmiefkaaDoor
