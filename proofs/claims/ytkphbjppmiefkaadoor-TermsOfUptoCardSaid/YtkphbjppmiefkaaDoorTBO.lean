/- Several texts in one: TBulk, TOfW. -/
import Derived.Test.YtkphbjppmiefkaaDoorTOpen
import Derived.Test.YtkphbjppmiefkaaDoorTRY
import Derived.Test.YtkphbjppmiefkaaDoorRows
import Derived.Test.YtkphbjppmiefkaaDoorTZ
section
/- What bulk bounds; spans opened with their bulk. -/
namespace Go.Proofs.YtkphbjppmiefkaaDoor
open Go.ChangeShapes Go.WideShapes Go.ChangeAt Go.RowKit SetM TermsM
set_option maxRecDepth 100000
section
variable {H : Type} {enc : TypeId × Value → H} {W : World} {base : Nat}
theorem bulk_pos (d : DataW H) : 1 ≤ Rows.uptoBulk d := by
  cases d with
  | lit l => cases l <;> simp [Rows.uptoBulk]
  | _ => simp [Rows.uptoBulk]
theorem bulk_all (l : List (DataW H)) : l.length ≤ Rows.uptoBulkAll l := by
  induction l with
  | nil => simp [Rows.uptoBulkAll]
  | cons x r ih =>
    have := bulk_pos x
    simp only [Rows.uptoBulkAll, List.length_cons]
    omega
theorem bulk_of_len {e : DataW H} {n : Nat} (h : LenOf e n) : 1 + n ≤ Rows.uptoBulk e := by
  rcases h with rfl | ⟨el, sp, rfl, rfl⟩
  · exact bulk_pos e
  · have := bulk_all el
    simp only [Rows.uptoBulk]
    omega
theorem bulk_rows : ∀ (ls : List (List Sp)) (es : List (DataW H)), (∀ j (h : j < ls.length), ∃ e, es[j]? = some e ∧ LenOf e ls[j].length) → sumL ls ≤ Rows.uptoBulkAll es
  | [], es, _ => by simp [sumL]
  | a :: t, [], h => by
    obtain ⟨e, he, _⟩ := h 0 (by simp)
    simp at he
  | a :: t, e :: es, h => by
    have h1 := bulk_rows t es (fun j hj => by
      obtain ⟨e', he, hl⟩ := h (j + 1) (by rw [List.length_cons]; omega)
      exact ⟨e', by rw [List.getElem?_cons_succ] at he; exact he, hl⟩)
    obtain ⟨e', he, hl⟩ := h 0 (by simp)
    obtain rfl : e = e' := by simpa using he
    have h2 : 1 + a.length ≤ Rows.uptoBulk e := bulk_of_len hl
    have hs : sumL (a :: t) = 1 + a.length + sumL t := by simp [sumL]
    simp only [Rows.uptoBulkAll]
    omega
theorem Opened.bulk {d : DataW H} {A : Option Addr} {ls : List (List Sp)} (h : Opened W d A ls) : sumL ls ≤ Rows.uptoBulk d := by
  rcases h.lens with rfl | ⟨es, sp, rfl, hl⟩
  · simp [sumL]
  · have := bulk_rows ls es hl
    simp only [Rows.uptoBulk]
    omega
theorem open_spansB {v : Value} {d : DataW H} {p : List MemPlace} (hv : Value.okWide Tryd.prog W .any base 28 v) (h : DataW.Trod enc Tryd.prog W 0 (fun _ => true) true 28 v d p) :
    ∃ A l ca, v = .slice A (List.length l) ca ∧ Sl0 W A l ∧ Wide l ∧ l.length ≤ Rows.uptoBulk d := by
  obtain ⟨a0, len, cap, rfl⟩ := okWide_slice Tryd.underlying28 hv
  obtain ⟨fuel, hf⟩ := h
  obtain ⟨A, l, ca, e, h1, h2, h3, h4⟩ := spans_trod hf
  simp [Value.cells] at e
  obtain ⟨rfl, rfl, rfl⟩ := e
  have h5 : 1 + l.length ≤ Rows.uptoBulk d := bulk_of_len h4
  exact ⟨_, l, _, rfl, h1, h3, by omega⟩
end
end Go.Proofs.YtkphbjppmiefkaaDoor
end
section
/- TermsOf: the walk. -/
namespace Go.Proofs.YtkphbjppmiefkaaDoor
open Go.RowKit Go.Shelf Go.Maps SetM TermsM
theorem flat_sumL (ls : List (List Sp)) : ls.flatten.length ≤ sumL ls := by
  induction ls with
  | nil => simp
  | cons a t ih =>
    have e : sumL (a :: t) = 1 + a.length + sumL t := by simp [sumL]
    rw [List.flatten_cons, List.length_append, e]
    omega
set_option maxRecDepth 100000 in
set_option maxHeartbeats 4000000 in
/-- Two rows of the same sets: the document's Same says so. -/
theorem rsames_c {W : World} {P Q : Option Addr} {n c d : Nat} {ls : List (List Sp)} (hn : n = ls.length) (hP : Rs W P ls) (hQ : Rs W Q ls) (h8 : n ≤ 1000000) (hl : ∀ x ∈ ls, x.length ≤ 1000000) :
    Calls Tryd.prog 12 #[.slice P n c, .slice Q n d] W fun e W' => e = .returned (.bool true) ∧ Below W.heap.size W W' := by
  have HN := Lib.hid hn
  have HP := Lib.hid hP
  have HQ := Lib.hid hQ
  have HL := Lib.hid hl
  clear hn hP hQ hl
  go_enter Tryd.func12, Tryd.ntmps12
  go_wp2_with fail
  go_loopg [5] n (fun g s5 wx => ∃ k : Nat, k + g = n ∧ s5 = .int .i64 k ∧ Hid (Below W.heap.size W wx))
  case atStart => exact ⟨0, by omega, rfl, Lib.hid (Below.refl _ _)⟩
  case round =>
    obtain ⟨k, hkg, rfl, HB⟩ := hrel
    cases gk with
    | zero =>
      obtain rfl : k = n := by omega
      have hlt : ¬ (k : Int) < (k : Int) := by omega
      go_wp2_with fail
      go_ret
      exact ⟨rfl, HB.out⟩
    | succ g =>
      have hlt : (k : Int) < (n : Int) := by omega
      have hkl : k < ls.length := by have := HN.out; omega
      have hk0 : (0 : Int) ≤ (k : Int) := by omega
      obtain ⟨b, off, rfl⟩ := HP.out.form (by omega)
      obtain ⟨b', off', rfl⟩ := HQ.out.form (by omega)
      obtain ⟨P1, c1, _, hs1, hc1⟩ := HP.out.row hkl
      obtain ⟨P2, c2, _, hs2, hc2⟩ := HQ.out.row hkl
      obtain ⟨y, hy⟩ : ∃ y, y = ls[k] := ⟨_, rfl⟩
      rw [← hy] at hs1 hs2 hc1 hc2
      have hly : y.length ≤ 1000000 := by rw [hy]; exact HL.out _ (List.getElem_mem hkl)
      obtain ⟨ny, hny⟩ : ∃ ny, ny = y.length := ⟨_, rfl⟩
      rw [← hny] at hc1 hc2
      have HAL : Hid (∀ U, Below W.heap.size W U → Calls Tryd.prog 21 #[.slice P1 ny c1, .slice P2 ny c2] U fun e W' => e = .returned (.bool true) ∧ Below U.heap.size U W') := Lib.hid (fun U hU => by
        have h := alike_c (W := U) (P := P1) (Q := P2) (c := c1) (d := c2) (l := y) (m := y) ((hs1.below hU).mono hU.size) ((hs2.below hU).mono hU.size) hly hly
        rw [decide_eq_true rfl, ← hny] at h
        exact h)
      have HCC : Hid (∀ U, Below W.heap.size W U → U.cell? ⟨b, off + k, none⟩ = some (.slice P1 ny c1) ∧ U.cell? ⟨b', off' + k, none⟩ = some (.slice P2 ny c2)) := Lib.hid (fun U hU => ⟨hc1 U hU, hc2 U hU⟩)
      clear hs1 hs2 hc1 hc2 hy hly hny
      go_upto_region 6 with fail
      have hr : Below W.heap.size W wr.drew := HB.out.drew
      go_region_held3 (fun U => U.cell? ⟨b, off + k, none⟩ = some (.slice P1 ny c1) ∧ U.cell? ⟨b', off' + k, none⟩ = some (.slice P2 ny c2))
        (exact HCC.out _ hr)
        (first
          | (go_at_call 21; (refine (HAL.out _ hr).mono ?_); rintro ee w6 ⟨rfl, b6⟩; have hr := hr.trans (b6.mono hr.size)))
      all_goals
        have HR := Lib.hid hr
        clear hr
        go_wp2_with fail
        go_roundg g
        case measure => omega
        case rel => exact ⟨k + 1, by omega, by go_num, HR⟩
set_option maxRecDepth 100000 in
set_option maxHeartbeats 8000000 in
theorem termsOf_any {W : World} {A B : Option Addr} {n ca m cb : Nat} {ls : List (List Sp)} {cs : List (List Int)} (h0 : 0 < W.heap.size) (hA : Areas W)
    (hn : n = ls.length) (hR : Rs W A ls) (hl : ∀ x ∈ ls, Wide x) (hm : m = cs.length) (hm8 : m ≤ 9223372036854775807) (hC : Css W B cs) (hsum : sumL ls ≤ 1048576) :
    Calls Tryd.prog 4 #[.slice A n ca, .slice B m cb] W fun e W' => e = .returned (.bool true) ∧ Below W.heap.size W W' := by
  have HK : Hid (∀ V, Below W.heap.size W V → Calls Tryd.prog 9 #[] V fun e W' => e = .returned (.bool true) ∧ Below V.heap.size V W') := Lib.hid (fun V hV => known10 (by have := hV.size; omega) (hA.below hV h0))
  have HN := Lib.hid hn
  have HR := Lib.hid hR
  have HW := Lib.hid hl
  have HM := Lib.hid (And.intro hm hm8)
  have HC := Lib.hid hC
  have HA := Lib.hid (And.intro h0 hA)
  have HT := Lib.hid hsum
  clear h0 hA hn hR hl hm hm8 hC hsum
  go_enter Tryd.func4, Tryd.ntmps4
  go_wp2_with fail
  go_loopg [5, 6] n (fun g s11 s12 wx => ∃ i T : Nat, i + g = n ∧ s12 = .int .i64 i ∧ s11 = .int .i64 T ∧ Hid (T = sumL (ls.take i)) ∧ Hid (Below W.heap.size W wx))
  case atStart => exact ⟨0, 0, by omega, rfl, rfl, Lib.hid (by simp [sumL]), Lib.hid (Below.refl _ _)⟩
  case round =>
    obtain ⟨i, T, hig, rfl, rfl, HE, HB⟩ := hrel
    cases gk with
    | succ g =>
      have hlt : (i : Int) < (n : Int) := by omega
      have hil : i < ls.length := by have := HN.out; omega
      obtain ⟨b, off, rfl, hb, hrow⟩ := HR.out (by intro h; rw [h] at hil; simp at hil)
      obtain ⟨P, cp, h1, h2, h3⟩ := hrow i hil
      have c0 := (HB.out.cell (p := ⟨b, off + i, none⟩) hb).trans h1
      have hT1 := sumL_succ hil
      have hT2 := sumL_take ls (i + 1)
      obtain ⟨u, hu⟩ : ∃ u, u = ls[i].length := ⟨_, rfl⟩
      rw [← hu] at c0 hT1
      have HE2 : Hid (T + (1 + u) = sumL (ls.take (i + 1))) := Lib.hid (by have := HE.out; omega)
      have hb1 : T + (1 + u) ≤ 1048576 := by have := HT.out; have := HE2.out; omega
      have hi8 : i + 1 ≤ 1048576 := by have := HT.out; have := sumL_len ls; have := HN.out; omega
      clear hu h1 h2 h3 hrow hT1 hT2 hil
      go_wp2_with fail
      go_roundg g
      case measure => omega
      case rel => exact ⟨i + 1, T + (1 + u), by omega, by go_num, by go_num, HE2, HB⟩
    | zero =>
      obtain rfl : i = n := by omega
      have hlt : ¬ (i : Int) < (i : Int) := by omega
      have hTT : T = sumL ls := by have := HE.out; rw [HN.out, List.take_length] at this; exact this
      have HTT := Lib.hid hTT
      clear hTT
      by_cases h40 : 40 < T
      · have hz : (40 : Int) < (T : Int) := by omega
        go_wp2_with fail
        refine (HK.out _ HB.out).mono ?_
        rintro e w1 ⟨rfl, b1⟩
        go_wp2_with fail
        go_ret
        exact ⟨rfl, HB.out.trans (b1.mono HB.out.size)⟩
      · have hz : ¬ (40 : Int) < (T : Int) := by omega
        have hl40 : ls.length ≤ 40 := by have := sumL_len ls; have := HTT.out; omega
        have hf40 : ls.flatten.length ≤ 1000 := by
          have h1 := flat_sumL ls
          have := HTT.out
          omega
        have H40 := Lib.hid (And.intro hl40 hf40)
        clear h40 hl40 hf40
        go_wp2_with fail
        refine (HK.out _ HB.out).mono ?_
        rintro e w1 ⟨rfl, b1⟩
        have HB1 := Lib.hid (HB.out.trans (b1.mono HB.out.size))
        clear b1
        have HLI := Lib.hid (list_c (W := w1) (A := B) (n := m) (ca := cb) (cs := cs) HM.out.1 HM.out.2 (HC.out.step HB1.out))
        have HWX := Lib.hid (listF_wide HC.out)
        go_wp2_with fail
        refine HLI.out.mono ?_
        rintro e w2 ⟨P2, c2, rfl, hR2, hP2, hc2, b2⟩
        have HX : Hid ((listF cs 8).length ≤ 8 ∧ (∀ y ∈ listF cs 8, y.length ≤ 30) ∧ (listF cs 8).flatten.length ≤ 240) := Lib.hid (listF_le cs)
        obtain ⟨x, hx⟩ : ∃ x, x = listF cs 8 := ⟨_, rfl⟩
        rw [← hx] at hR2 hc2 HX HWX ⊢
        obtain ⟨nx, hnx⟩ : ∃ nx, nx = x.length := ⟨_, rfl⟩
        rw [← hnx]
        have HNX := Lib.hid hnx
        have HB2 := Lib.hid (HB1.out.trans (b2.mono HB1.out.size))
        have hAV : ∀ V, Below w2.heap.size w2 V → 0 < V.heap.size ∧ Areas V := fun V hV => by
          have h := HB2.out.trans (hV.mono HB2.out.size)
          exact ⟨by have := h.size; have := HA.out.1; omega, HA.out.2.below h HA.out.1⟩
        have HO1 : Hid (∀ V, Below w2.heap.size w2 V → Calls Tryd.prog 11 #[.slice A i ca] V (PartsPost ls V)) := Lib.hid (fun V hV => of_c (hAV V hV).1 (hAV V hV).2 HN.out (HR.out.step (HB2.out.trans (hV.mono HB2.out.size))) (by have := H40.out.1; have := HN.out; omega) H40.out.2)
        have HO2 : Hid (∀ V, Below w2.heap.size w2 V → Calls Tryd.prog 13 #[.slice A i ca] V (RPartsPost ls V)) := Lib.hid (fun V hV => rof_c HN.out (by have := H40.out.1; have := HN.out; omega) (HR.out.step (HB2.out.trans (hV.mono HB2.out.size))) H40.out.2 HW.out)
        have HO3 : Hid (∀ V, Below w2.heap.size w2 V → Calls Tryd.prog 11 #[.slice P2 nx c2] V (PartsPost x V)) := Lib.hid (fun V hV => of_c (hAV V hV).1 (hAV V hV).2 hnx (hR2.step hV) (by have := HX.out.1; omega) (by have := HX.out.2.2; omega))
        have HO4 : Hid (∀ V, Below w2.heap.size w2 V → Calls Tryd.prog 13 #[.slice P2 nx c2] V (RPartsPost x V)) := Lib.hid (fun V hV => rof_c hnx (by have := HX.out.1; omega) (hR2.step hV) (by have := HX.out.2.2; omega) HWX.out)
        clear hx hnx hP2 hc2 b2 hR2 HLI hAV
        go_wp2_with fail
        refine (HO1.out _ (Below.refl _ _)).mono ?_
        rintro e w3 ⟨P3, c3, p, rfl, hR3, hpp, hf3, hn3, hP3, hc3, b3⟩
        obtain ⟨np, hnp⟩ : ∃ np, np = p.length := ⟨_, rfl⟩
        rw [← hnp]
        have HNP := Lib.hid (And.intro hnp (And.intro hpp (And.intro hR3 (show p.length ≤ 8000 by have := H40.out.2; omega))))
        have HF3 : Hid (p.flatten.length ≤ 8000) := Lib.hid (by have := H40.out.2; omega)
        have HB3 := Lib.hid b3
        clear hnp hR3 hpp hf3 hn3 hP3 hc3 b3
        go_wp2_with fail
        refine (HO2.out _ HB3.out).mono ?_
        rintro e w4 ⟨P4, c4, q, rfl, hR4, hq, _, b4⟩
        obtain rfl := hq.unique HNP.out.2.1
        rw [← HNP.out.1]
        have HB4 := Lib.hid (HB3.out.trans (b4.mono HB3.out.size))
        have HS4 := Lib.hid (rsames_c (W := w4) (P := P3) (Q := P4) (n := np) (c := c3) (d := c4) HNP.out.1 (HNP.out.2.2.1.step b4) hR4 (by have := HNP.out.1; have := HNP.out.2.2.2; omega) (fun y hy => by have := flat_memm hy; have := HF3.out; omega))
        clear hR4 hq b4
        go_wp2_with fail
        refine HS4.out.mono ?_
        rintro e w5 ⟨rfl, b5⟩
        have HB5 := Lib.hid (HB4.out.trans (b5.mono HB4.out.size))
        clear b5 HS4
        go_wp2_with fail
        refine (HO3.out _ HB5.out).mono ?_
        rintro e w6 ⟨P6, c6, p6, rfl, hR6, hp6, hf6, hn6, _, _, b6⟩
        obtain ⟨n6, hnp6⟩ : ∃ n6, n6 = p6.length := ⟨_, rfl⟩
        rw [← hnp6]
        have HN6 := Lib.hid (And.intro hnp6 (And.intro hp6 (And.intro hR6 (show p6.length ≤ 8000 by have := HX.out.2.2; omega))))
        have HF6 : Hid (p6.flatten.length ≤ 8000) := Lib.hid (by have := HX.out.2.2; omega)
        have HB6 := Lib.hid (HB5.out.trans (b6.mono HB5.out.size))
        clear hnp6 hR6 hp6 hf6 hn6 b6
        go_wp2_with fail
        refine (HO4.out _ HB6.out).mono ?_
        rintro e w7 ⟨P7, c7, q7, rfl, hR7, hq7, _, b7⟩
        obtain rfl := hq7.unique HN6.out.2.1
        rw [← HN6.out.1]
        have HB7 := Lib.hid (HB6.out.trans (b7.mono HB6.out.size))
        have HS7 := Lib.hid (rsames_c (W := w7) (P := P6) (Q := P7) (n := n6) (c := c6) (d := c7) HN6.out.1 (HN6.out.2.2.1.step b7) hR7 (by have := HN6.out.1; have := HN6.out.2.2.2; omega) (fun y hy => by have := flat_memm hy; have := HF6.out; omega))
        clear hR7 hq7 b7
        go_wp2_with fail
        refine HS7.out.mono ?_
        rintro e w8 ⟨rfl, b8⟩
        have HB8 := Lib.hid (HB7.out.trans (b8.mono HB7.out.size))
        clear b8 HS7
        go_wp2_with fail
        go_ret
        exact ⟨rfl, HB2.out.trans (HB8.out.mono HB2.out.size)⟩
end Go.Proofs.YtkphbjppmiefkaaDoor
end
