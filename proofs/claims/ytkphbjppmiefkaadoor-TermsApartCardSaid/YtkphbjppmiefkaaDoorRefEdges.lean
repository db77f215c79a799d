/- The document's own answer for layer 1: lay as a step, edges. -/
import Derived.Test.YtkphbjppmiefkaaDoorRefLay
namespace Go.Proofs.YtkphbjppmiefkaaDoor
open Go.RowKit Go.Shelf SetM

/-- A slice that lay may be handed. -/
def RowOk (P : Option Addr) (c n : Nat) : Prop := n ≤ c ∧ c ≤ 9223372036854775807 ∧ ((P = none ∧ c = 0) ∨ ∃ b off, P = some ⟨b, off, none⟩)
def In (W : World) (P : Option Addr) (l : List Int) : Prop := Ints W.heap.size W P l
theorem In.step {W W' : World} {P : Option Addr} {l : List Int} (h : In W P l) (hb : Below W.heap.size W W') : In W' P l := (Ints.below hb h).mono hb.size
def IntStep (W : World) (l : List Int) (e : Ending) (W' : World) : Prop :=
  ∃ P c, e = .returned (.slice P l.length c) ∧ In W' P l ∧ RowOk P c l.length ∧ Below W.heap.size W W'
theorem lay_c {W : World} {P : Option Addr} {c : Nat} {l : List Int} (x : Int) (hs : In W P l) (hok : RowOk P c l.length) (hup : Up l) (hl : l.length ≤ 1000000) :
    Calls Tryd.prog 56 #[.slice P l.length c, .int .i64 x] W (IntStep W (layL l x)) := by
  refine (lay_any P c l x hup hl hok.1 hok.2.1 hok.2.2 W hs).mono ?_
  rintro e W' ⟨v, rfl, ho, hb⟩
  rcases ho.2 with ⟨rfl, h0⟩ | ⟨g, cap, cur, rfl, hbb, hg, h1, h2, h3, h4⟩
  · exact ⟨none, 0, by rw [h0], fun hne => absurd (List.eq_nil_of_length_eq_zero h0) hne, ⟨by omega, by omega, .inl ⟨rfl, rfl⟩⟩, hb⟩
  · obtain ⟨P', c', e', hs', _, _⟩ := ints_of ho
    injection e' with e1 e2 e3
    subst e1
    exact ⟨_, cap, rfl, hs', ⟨h1, by unfold maxLen at h2; omega, .inr ⟨g, 0, rfl⟩⟩, hb⟩
/-- Spans whose upper ends are ints. -/
def Wide (l : List Sp) : Prop := ∀ s ∈ l, -9223372036854775808 ≤ s.2

set_option maxRecDepth 100000 in
set_option maxHeartbeats 2000000 in
theorem edges_any (A : Option Addr) (c : Nat) (l : List Sp) (hl : l.length ≤ 100000) (hwd : Wide l) (w : World) (hS : Sl w A l) :
    Calls Tryd.prog 55 #[.slice A l.length c] w (IntStep w (edgesL l)) := by
  have HS := Lib.hid hS
  have HWD := Lib.hid hwd
  clear hS hwd
  go_enter Tryd.func55, Tryd.ntmps55
  go_wp2_with fail
  refine (lay_c (P := none) (c := 0) (l := []) 0 (fun h => absurd rfl h) ⟨by simp, by omega, .inl ⟨rfl, rfl⟩⟩ (by simp [Up]) (by simp)).mono ?_
  rintro e w1 ⟨P1, c1, rfl, s1, ok1, b1⟩
  rw [show layL [] 0 = [0] from rfl] at s1 ok1 ⊢
  go_wp2_with fail
  refine (lay_c 57344 s1 ok1 (by simp [Up]) (by simp)).mono ?_
  rintro e w2 ⟨P2, c2, rfl, s2, ok2, b2⟩
  rw [show layL [0] 57344 = [0, 57344] from by decide] at s2 ok2 ⊢
  have hB2 : Below w.heap.size w w2 := b1.trans (b2.mono b1.size)
  clear s1 ok1 b1 b2
  go_wp2
  go_loopg [3, 4] l.length (fun g so si wx => ∃ (k : Nat) (E : List Int) (Q : Option Addr) (cq : Nat), k + g = l.length ∧ si = .int .i64 k ∧ so = .slice Q E.length cq ∧ Hid (E = (l.take k).foldl edgeStep [0, 57344]) ∧ In wx Q E ∧ RowOk Q cq E.length ∧ Below w.heap.size w wx)
  case atStart => exact ⟨0, [0, 57344], P2, c2, by omega, rfl, rfl, Lib.hid (by simp), s2, ok2, hB2⟩
  case round =>
    obtain ⟨k, E, Q, cq, hkg, rfl, rfl, HE, sE, okE, hb⟩ := hrel
    have hEl : E.length ≤ 2 + 2 * k := by
      have := (foldl_edges (l.take k) [0, 57344]).2.2
      rw [HE.out]; rw [List.length_take] at this; simp only [List.length_cons, List.length_nil] at this; omega
    have hEu : Up E := by rw [HE.out]; exact (foldl_edges (l.take k) [0, 57344]).1 (by simp [Up])
    have hwz := hb.size
    cases gk with
    | zero =>
      have hkz : ¬ ((k : Int) < (l.length : Int)) := by omega
      have hfin : E = edgesL l := by rw [HE.out, List.take_of_length_le (by omega)]; rfl
      have HF := Lib.hid hfin
      clear hfin
      go_wp2
      go_ret
      exact ⟨Q, cq, by rw [HF.out]; rfl, by rw [← HF.out]; exact sE, by rw [← HF.out]; exact okE, hb⟩
    | succ g =>
      have hk : k < l.length := by omega
      have hkz : (k : Int) < (l.length : Int) := by omega
      obtain ⟨b, off, rfl, hbb, hc⟩ := HS.out (by intro h; rw [h] at hk; simp at hk)
      obtain ⟨c0, c1⟩ := hc k hk
      have hnext : (l.take (k + 1)).foldl edgeStep [0, 57344] = edgeStep E l[k] := by
        rw [List.take_succ_eq_append_getElem hk, List.foldl_append, ← HE.out]; rfl
      have HNX := Lib.hid hnext
      have hlo := HWD.out l[k] (List.getElem_mem hk)
      replace c0 := (hb.cell (p := ⟨b, off + k * 2, none⟩) hbb).trans c0
      replace c1 := (hb.cell (p := ⟨b, off + k * 2 + 1, none⟩) hbb).trans c1
      clear hc hnext
      generalize l[k] = s at *
      obtain ⟨lo, hi⟩ := s
      dsimp only at *
      have HE2 : Hid (∀ E1, E1 = (if Sc lo then layL E lo else E) → edgeStep E (lo, hi) = if hi < 1114111 ∧ Sc (hi + 1) then layL E1 (hi + 1) else E1) := Lib.hid (by rintro _ rfl; rfl)
      go_wp2_with fail
      refine (scalar_any lo _).mono ?_
      rintro e w' ⟨rfl, rfl⟩
      by_cases hsc : Sc lo
      · rw [decide_eq_true hsc]
        have HE3 := Lib.hid (HE2.out _ (by rw [if_pos hsc]))
        clear HE2 hsc
        go_wp2_with fail
        refine (lay_c lo sE okE hEu (by omega)).mono ?_
        rintro e w3 ⟨P3, c3, rfl, s3, ok3, b3⟩
        have hE3l := layL_len E lo
        have hE3u := up_layL hEu lo
        have hb3 : Below w.heap.size w w3 := hb.trans (b3.mono hwz)
        replace c1 := (b3.cell (p := ⟨b, off + k * 2 + 1, none⟩) (by show b < _; omega)).trans c1
        clear sE okE b3 c0
        generalize layL E lo = E1 at *
        by_cases h1 : hi < 1114111
        · have d1 : decide (hi < 1114111) = true := decide_eq_true h1
          go_wp2_with fail
          refine (scalar_any (hi + 1) _).mono ?_
          rintro e w' ⟨rfl, rfl⟩
          by_cases hsc2 : Sc (hi + 1)
          · rw [decide_eq_true hsc2]
            have HE4 := Lib.hid (HE3.out.trans (if_pos ⟨h1, hsc2⟩))
            clear HE3 hsc2
            go_wp2_with fail
            refine (lay_c (hi + 1) s3 ok3 hE3u (by omega)).mono ?_
            rintro e w4 ⟨P4, c4, rfl, s4, ok4, b4⟩
            go_wp2
            go_roundg g
            case measure => omega
            case rel => exact ⟨k + 1, _, P4, c4, by omega, by go_num, rfl, Lib.hid (by rw [HNX.out, HE4.out]), s4, ok4, hb3.trans (b4.mono hb3.size)⟩
          · rw [decide_eq_false hsc2]
            have HE4 := Lib.hid (HE3.out.trans (if_neg (fun h => hsc2 h.2)))
            clear HE3 hsc2
            go_wp2
            go_roundg g
            case measure => omega
            case rel => exact ⟨k + 1, E1, _, _, by omega, by go_num, rfl, Lib.hid (by rw [HNX.out, HE4.out]), s3, ok3, hb3⟩
        · have d1 : decide (hi < 1114111) = false := decide_eq_false h1
          have HE4 := Lib.hid (HE3.out.trans (if_neg (fun h => h1 h.1)))
          clear HE3
          go_wp2
          go_roundg g
          case measure => omega
          case rel => exact ⟨k + 1, E1, _, _, by omega, by go_num, rfl, Lib.hid (by rw [HNX.out, HE4.out]), s3, ok3, hb3⟩
      · rw [decide_eq_false hsc]
        have HE3 := Lib.hid (HE2.out _ (by rw [if_neg hsc]))
        clear HE2 hsc c0
        obtain ⟨E1, hE1⟩ : ∃ E1, E1 = E := ⟨_, rfl⟩
        have ok3 : RowOk Q cq E1.length := by rw [hE1]; exact okE
        have s3 : In wr Q E1 := by rw [hE1]; exact sE
        have hE3l : E1.length ≤ E.length + 1 := by rw [hE1]; omega
        have hE3u : Up E1 := by rw [hE1]; exact hEu
        rw [← hE1] at HE3 HNX ⊢
        have hb3 := hb
        clear sE okE hE1
        by_cases h1 : hi < 1114111
        · have d1 : decide (hi < 1114111) = true := decide_eq_true h1
          go_wp2_with fail
          refine (scalar_any (hi + 1) _).mono ?_
          rintro e w' ⟨rfl, rfl⟩
          by_cases hsc2 : Sc (hi + 1)
          · rw [decide_eq_true hsc2]
            have HE4 := Lib.hid (HE3.out.trans (if_pos ⟨h1, hsc2⟩))
            clear HE3 hsc2
            go_wp2_with fail
            refine (lay_c (hi + 1) s3 ok3 hE3u (by omega)).mono ?_
            rintro e w4 ⟨P4, c4, rfl, s4, ok4, b4⟩
            go_wp2
            go_roundg g
            case measure => omega
            case rel => exact ⟨k + 1, _, P4, c4, by omega, by go_num, rfl, Lib.hid (by rw [HNX.out, HE4.out]), s4, ok4, hb3.trans (b4.mono hb3.size)⟩
          · rw [decide_eq_false hsc2]
            have HE4 := Lib.hid (HE3.out.trans (if_neg (fun h => hsc2 h.2)))
            clear HE3 hsc2
            go_wp2
            go_roundg g
            case measure => omega
            case rel => exact ⟨k + 1, E1, _, _, by omega, by go_num, rfl, Lib.hid (by rw [HNX.out, HE4.out]), s3, ok3, hb3⟩
        · have d1 : decide (hi < 1114111) = false := decide_eq_false h1
          have HE4 := Lib.hid (HE3.out.trans (if_neg (fun h => h1 h.1)))
          clear HE3
          go_wp2
          go_roundg g
          case measure => omega
          case rel => exact ⟨k + 1, E1, _, _, by omega, by go_num, rfl, Lib.hid (by rw [HNX.out, HE4.out]), s3, ok3, hb3⟩
end Go.Proofs.YtkphbjppmiefkaaDoor
