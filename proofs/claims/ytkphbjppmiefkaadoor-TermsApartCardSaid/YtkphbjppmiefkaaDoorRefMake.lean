/- The document's own answer for layer 1: Make of two. -/
import Derived.Test.YtkphbjppmiefkaaDoorRefEdges
import Derived.Laws.OwnMore
import Derived.Deep.DeepCutAuto
import Derived.Deep.QuietTactic
import Derived.BigQuiet
namespace Go.Proofs.YtkphbjppmiefkaaDoor
open Go.RowKit Go.Shelf SetM

/-- Which of neither, the first, the second, both a number chooses. -/
def kfOf (n : Int) (p q : Bool) : Bool := match p, q with
  | false, false => n % 2 != 0
  | true, false => n / 2 % 2 != 0
  | false, true => n / 4 % 2 != 0
  | true, true => n / 8 % 2 != 0
def kNum (p q : Bool) : Int := (if p then 1 else 0) + (if q then 2 else 0)
def endOf (nx : Option Int) : Int := match nx with | some z => z - 1 | none => 1114111
theorem hiOf_eq (y : Int) (nx : Option Int) : hiOf y nx = if y < 55296 then min (endOf nx) 55295 else endOf nx := by unfold hiOf endOf; rfl
/-- Does the last span end at x? -/
def lastAt (o : List Sp) (x : Int) : Bool := match o.getLast? with | some s => decide (s.2 = x) | none => false
theorem putSeg_new {o : List Sp} {y h : Int} (ht : false = lastAt o (y - 1)) : putSeg o y h = o ++ [(y, h)] := by
  rcases List.eq_nil_or_concat o with rfl | ⟨l, s, rfl⟩
  · rfl
  · rw [List.concat_eq_append] at *
    unfold lastAt at ht
    rw [List.getLast?_concat] at ht
    rw [putSeg_snoc, if_neg (by simpa using ht.symm)]
theorem own_shape {W : World} {base t sz n : Nat} {v : Value} {xs : List Value} (h : W.ownsRow base t sz v n xs) : ∃ P c, v = .slice P n c := by
  rcases h.2 with ⟨rfl, h0⟩ | ⟨g, cap, cur, rfl, _⟩
  · exact ⟨none, 0, by rw [h0]⟩
  · exact ⟨_, _, rfl⟩
theorem lastAt_true {o : List Sp} {x : Int} (h : true = lastAt o x) : ∃ l s, o = l ++ [s] ∧ s.2 = x := by
  rcases List.eq_nil_or_concat o with rfl | ⟨l, s, rfl⟩
  · cases h
  · rw [List.concat_eq_append] at *
    unfold lastAt at h
    rw [List.getLast?_concat] at h
    exact ⟨l, s, rfl, by simpa using h.symm⟩
theorem cells_last (l : List Sp) (s : Sp) : cellsS (l ++ [s]) = cellsS l ++ [.int .i64 s.1, .int .i64 s.2] := by rw [cellsS_append]; rfl
theorem own_last {W : World} {base : Nat} {Po : Option Addr} {co : Nat} {l : List Sp} {s : Sp} (h : W.ownsRow base 42 2 (.slice Po (l.length + 1) co) (l.length + 1) (cellsS (l ++ [s]))) :
    ∃ gb, Po = some ⟨gb, 0, none⟩ ∧ base ≤ gb ∧ W.cell? ⟨gb, l.length * 2 + 1, none⟩ = some (.int .i64 s.2) ∧ W.frozen? ⟨gb, l.length * 2 + 1, none⟩ = false := by
  rcases h.2 with ⟨_, h0⟩ | ⟨gb, cap, cur, e, hb, _⟩
  · omega
  · injection e with e1 e2 e3
    subst e1
    refine ⟨gb, rfl, hb, ?_, h.frozenAt _⟩
    rw [h.cellAt _ (by omega), cells_last, List.getElem?_append_right (by rw [cellsS_len]; omega), cellsS_len, show l.length * 2 + 1 - l.length * 2 = 1 from by omega]
    rfl
theorem own_put {W : World} {base gb co : Nat} {l : List Sp} {s : Sp} (x : Int) (h : W.ownsRow base 42 2 (.slice (some ⟨gb, 0, none⟩) (l.length + 1) co) (l.length + 1) (cellsS (l ++ [s]))) :
    (W.setCell ⟨gb, l.length * 2 + 1, none⟩ (.int .i64 x)).ownsRow base 42 2 (.slice (some ⟨gb, 0, none⟩) (l.length + 1) co) (l.length + 1) (cellsS (l ++ [(s.1, x)])) ∧ W.grownBy (W.setCell ⟨gb, l.length * 2 + 1, none⟩ (.int .i64 x)) (some gb) := by
  have := h.stored (l.length * 2 + 1) (.int .i64 x)
  rw [cells_last, List.set_append_right _ _ (by rw [cellsS_len]; omega), cellsS_len, show l.length * 2 + 1 - l.length * 2 = 1 from by omega] at this
  rw [cells_last]
  exact this
theorem bothL_fold (a b : List Sp) (k : Nat) (h : k < (edgesL b).length) : ((edgesL b).take (k + 1)).foldl layL (edgesL a) = layL (((edgesL b).take k).foldl layL (edgesL a)) (edgesL b)[k] := by
  rw [List.take_succ_eq_append_getElem h, List.foldl_append]; rfl
theorem bothL_range {a b : List Sp} {y : Int} (h : y ∈ bothL a b) : 0 ≤ y ∧ y ≤ 1114111 := by
  have : Sc y := by
    rcases (mem_bothL a b y).1 h with h | h
    · exact edgesL_sc a y h
    · exact edgesL_sc b y h
  unfold Sc at this; omega

set_option maxRecDepth 100000 in
set_option maxHeartbeats 4000000 in
theorem rmake_any (A B : Option Addr) (ca cb : Nat) (a b : List Sp) (n : Int) (hn : n = 1 ∨ n = 2 ∨ n = 8 ∨ n = 14) (hla : a.length ≤ 100000) (hlb : b.length ≤ 100000) (hwa : Wide a) (hwb : Wide b) (w : World) (hSa : Sl w A a) (hSb : Sl w B b) :
    Calls Tryd.prog 40 #[.slice A a.length ca, .slice B b.length cb, .int .i64 n] w (SetPost w (fun r => Sc r ∧ kfOf n (decide (Tells a r)) (decide (Tells b r)) = true) (4 + 2 * a.length + 2 * b.length)) := by
  obtain ⟨i0, hi, hz0, hz1, hz2⟩ := info_parts infoS
  have HN := Lib.hid hn
  have HSB := Lib.hid hSb
  have HWB := Lib.hid hwb
  clear hn hSb hwb
  go_enter Tryd.func40, Tryd.ntmps40
  go_wp2_with fail
  refine (edges_any A ca a (by omega) hwa _ hSa).mono ?_
  rintro e w1 ⟨P1, c1, rfl, s1, ok1, b1⟩
  have hSb1 := HSB.out.step b1
  have hSa1 := hSa.step b1
  clear hSa hwa HSB
  go_wp2_with fail
  refine (edges_any B cb b (by omega) HWB.out _ hSb1).mono ?_
  rintro e w2 ⟨P2, c2, rfl, s2, ok2, b2⟩
  have hSb2 := hSb1.step b2
  have hSa2 := hSa1.step b2
  have s12 := s1.step b2
  have hB2 : Below w.heap.size w w2 := b1.trans (b2.mono b1.size)
  have hfl := edgesL_len b
  have hel := edgesL_len a
  have HSA2 := Lib.hid hSa2
  have HSB2 := Lib.hid hSb2
  clear s1 b1 b2 hSb1 hSa1 HWB hSa2 hSb2
  obtain ⟨F, hF⟩ : ∃ F, F = edgesL b := ⟨_, rfl⟩
  rw [← hF] at s2 ok2 hfl ⊢
  have HF := Lib.hid hF
  clear hF
  go_wp2
  go_loopg [7, 9] F.length (fun g se si wx => ∃ (k : Nat) (E : List Int) (Q : Option Addr) (cq : Nat), k + g = F.length ∧ si = .int .i64 k ∧ se = .slice Q E.length cq ∧ Hid (E = (F.take k).foldl layL (edgesL a)) ∧ In wx Q E ∧ RowOk Q cq E.length ∧ Below w2.heap.size w2 wx)
  case atStart => exact ⟨0, edgesL a, P1, c1, by omega, rfl, rfl, Lib.hid (by simp), s12, ok1, Below.refl _ _⟩
  case round =>
    obtain ⟨k, E, Q, cq, hkg, rfl, rfl, HE, sE, okE, hb⟩ := hrel
    have hEl : E.length ≤ 2 + 2 * a.length + k := by
      have := (foldl_lay (F.take k) (edgesL a)).2.2
      rw [HE.out]; rw [List.length_take] at this; omega
    have hEu : Up E := by rw [HE.out]; exact (foldl_lay _ _).1 (edgesL_up a)
    have hwz := hb.size
    cases gk with
    | succ g =>
      have hk : k < F.length := by omega
      have hkz : (k : Int) < (F.length : Int) := by omega
      obtain ⟨bb, off, rfl, hbb, hc⟩ := s2 (by intro h; rw [h] at hk; simp at hk)
      have c0 := (hb.cell (p := ⟨bb, off + k, none⟩) hbb).trans (hc k hk)
      have hnx : (F.take (k + 1)).foldl layL (edgesL a) = layL E F[k] := by
        rw [List.take_succ_eq_append_getElem hk, List.foldl_append, ← HE.out]; rfl
      have HNX := Lib.hid hnx
      clear hnx hc
      generalize F[k] = y at *
      go_wp2_with fail
      refine (lay_c y sE okE hEu (by omega)).mono ?_
      rintro e w3 ⟨P3, c3, rfl, s3, ok3, b3⟩
      go_wp2
      go_roundg g
      case measure => omega
      case rel => exact ⟨k + 1, _, P3, c3, by omega, by go_num, rfl, Lib.hid HNX.out.symm, s3, ok3, hb.trans (b3.mono hwz)⟩
    | zero =>
      have hkz : ¬ ((k : Int) < (F.length : Int)) := by omega
      have hEb : E = bothL a b := by rw [HE.out, List.take_of_length_le (by omega), HF.out]; rfl
      have HEB := Lib.hid hEb
      have hE40 : E.length ≤ 4 + 2 * a.length + 2 * b.length := by rw [hEb]; exact bothL_len a b
      have HSA3 := Lib.hid (HSA2.out.step hb)
      have HSB3 := Lib.hid (HSB2.out.step hb)
      have hB3 : Below w.heap.size w wr := hB2.trans (hb.mono hB2.size)
      clear hEb HSA2 HSB2 HE hb hB2 s2 ok2 s12 ok1 hEl hfl hel hEu hkg
      obtain ⟨W1, hW1⟩ : ∃ W1, W1 = wr := ⟨_, rfl⟩
      rw [← hW1] at sE HSA3 HSB3 hB3 hwz ⊢
      clear hW1
      have SE := Lib.hid sE
      clear sE
      go_wp2
      go_loopg [10, 11] E.length (fun g so si wx => ∃ (k : Nat) (o : List Sp), k + g = E.length ∧ si = .int .i64 k ∧ Hid (refRun (fun e => kfOf n (decide (Tells a e)) (decide (Tells b e))) (E.drop k) o = refRun (fun e => kfOf n (decide (Tells a e)) (decide (Tells b e))) E []) ∧ o.length ≤ k ∧ wx.ownsRow W1.heap.size 42 2 so o.length (cellsS o) ∧ Below W1.heap.size W1 wx)
      case atStart => exact ⟨0, [], by omega, rfl, Lib.hid (by simp), by simp, by simpa [cellsS] using World.ownsRow_nil _ _ _ _, Below.refl _ _⟩
      case round =>
        obtain ⟨k, o, hkg, rfl, HO, hok, hown, hb⟩ := hrel
        have hwz1 := hb.size
        cases gk with
        | zero =>
          have hkz : ¬ ((k : Int) < (E.length : Int)) := by omega
          have hfin : o = refRun (fun e => kfOf n (decide (Tells a e)) (decide (Tells b e))) (bothL a b) [] := by
            have := HO.out
            rw [List.drop_eq_nil_of_le (by omega)] at this
            rw [← HEB.out]; exact this
          have HFIN := Lib.hid hfin
          clear hfin
          go_wp2
          go_ret
          have hr := ref_final a b (kfOf n)
          rw [← HFIN.out] at hr
          exact ⟨_, o, rfl, hr.1, hr.2, by omega, own_lower hown hB3.size, hB3.trans (hb.mono hB3.size)⟩
        | succ g =>
          have hk : k < E.length := by omega
          have hkz : (k : Int) < (E.length : Int) := by omega
          obtain ⟨bb, off, rfl, hbb, hc⟩ := SE.out (by intro h; rw [h] at hk; simp at hk)
          have c0 := (hb.cell (p := ⟨bb, off + k, none⟩) hbb).trans (hc k hk)
          obtain ⟨y0, y1⟩ := bothL_range (a := a) (b := b) (by rw [← HEB.out]; exact List.getElem_mem hk)
          have hst : Hid (∀ o', o' = refStep (fun e => kfOf n (decide (Tells a e)) (decide (Tells b e))) o E[k] E[k + 1]? → refRun (fun e => kfOf n (decide (Tells a e)) (decide (Tells b e))) (E.drop (k + 1)) o' = refRun (fun e => kfOf n (decide (Tells a e)) (decide (Tells b e))) E []) := Lib.hid (by
            rintro _ rfl
            rw [← HO.out, List.drop_eq_getElem_cons hk]
            show _ = refRun _ (E.drop (k + 1)) (refStep _ o E[k] (E.drop (k + 1)).head?)
            rw [List.head?_drop])
          have hsa := HSA3.out.step hb
          have hsb := HSB3.out.step hb
          have hown0 := Lib.hid hown
          clear HO hown
          obtain ⟨nx, hnx⟩ : ∃ nx, nx = E[k + 1]? := ⟨_, rfl⟩
          obtain ⟨y, hy⟩ : ∃ y, y = E[k] := ⟨_, rfl⟩
          rw [← hnx, ← hy] at hst
          rw [← hy] at c0 y0 y1
          have HNX := Lib.hid hnx
          have HY := Lib.hid hy
          have HC := Lib.hid hc
          clear hnx hy hc
          obtain ⟨h1v, hh1⟩ : ∃ h1v : Int, h1v = endOf nx := ⟨_, rfl⟩
          have HH1 := Lib.hid hh1
          clear hh1
          have hh1r : -1 ≤ h1v ∧ h1v ≤ 1114111 := by
            rw [HH1.out, HNX.out]
            rcases Nat.lt_or_ge (k + 1) E.length with h | h
            · rw [List.getElem?_eq_getElem h]
              have := bothL_range (a := a) (b := b) (y := E[k + 1]) (by rw [← HEB.out]; exact List.getElem_mem h)
              simp only [endOf]; omega
            · rw [List.getElem?_eq_none h]; simp only [endOf]; omega
          go_upto_if 40 with (fail)
          go_cut [12] (fun s12 wc => s12 = .int .i64 h1v ∧ wr = wc)
          case first =>
            by_cases hk1 : k + 1 < E.length
            · have hk1z : (k : Int) + 1 < (E.length : Int) := by omega
              have c1 := (hb.cell (p := ⟨bb, off + (k + 1), none⟩) hbb).trans (HC.out (k + 1) hk1)
              have hz := bothL_range (a := a) (b := b) (y := E[k + 1]) (by rw [← HEB.out]; exact List.getElem_mem hk1)
              have hv : h1v = E[k + 1] - 1 := by rw [HH1.out, HNX.out, List.getElem?_eq_getElem hk1]; rfl
              have HV := Lib.hid hv
              obtain ⟨hz0', hz1'⟩ := hz
              clear hv
              generalize E[k + 1] = z at *
              go_wp2
              go_meet
              exact ⟨by rw [HV.out], rfl⟩
            · have hk1z : ¬ ((k : Int) + 1 < (E.length : Int)) := by omega
              have hv : h1v = 1114111 := by rw [HH1.out, HNX.out, List.getElem?_eq_none (by omega)]; rfl
              have HV := Lib.hid hv
              clear hv
              go_wp2
              go_meet
              exact ⟨by rw [HV.out], rfl⟩
          case rest =>
            obtain ⟨rfl, rfl⟩ := hcut
            obtain ⟨h2v, hh2⟩ : ∃ h2v : Int, h2v = hiOf y nx := ⟨_, rfl⟩
            have hh2' : h2v = if y < 55296 then min h1v 55295 else h1v := by rw [hh2, HH1.out]; exact hiOf_eq y nx
            have HH2 := Lib.hid hh2
            have HH3 := Lib.hid hh2'
            clear hh2 hh2'
            obtain ⟨hr0, hr1⟩ := hh1r
            go_upto_if 51 with (fail)
            go_cut [12] (fun s12 wc => s12 = .int .i64 h2v ∧ wr = wc)
            case first =>
              by_cases hy5 : y < 55296
              · have d1 : decide (y < 55296) = true := decide_eq_true hy5
                have hv : h2v = min h1v 55295 := by rw [HH3.out, if_pos hy5]
                have HV := Lib.hid hv
                clear hv
                go_wp2
                go_meet
                refine ⟨?_, rfl⟩
                rw [HV.out]
              · have d1 : decide (y < 55296) = false := decide_eq_false hy5
                have hv : h2v = h1v := by rw [HH3.out, if_neg hy5]
                have HV := Lib.hid hv
                clear hv
                go_wp2
                go_meet
                exact ⟨by rw [HV.out], rfl⟩
            case rest =>
              obtain ⟨rfl, rfl⟩ := hcut
              obtain ⟨pa, hpa⟩ : ∃ pa, pa = decide (Tells a y) := ⟨_, rfl⟩
              obtain ⟨pb, hpb⟩ : ∃ pb, pb = decide (Tells b y) := ⟨_, rfl⟩
              have HPA := Lib.hid hpa
              have HPB := Lib.hid hpb
              clear hpa hpb
              go_wp2_with fail
              refine (rhas_any _ _ a y _ hsa (by omega)).mono ?_
              rintro e w' ⟨rfl, rfl⟩
              rw [← HPA.out]
              go_upto_if 59 with (fail)
              go_cut [13] (fun s13 wc => s13 = .int .i64 (kNum pa false) ∧ wr = wc)
              case first =>
                cases pa
                · go_wp2
                  go_meet
                  exact ⟨rfl, rfl⟩
                · go_wp2
                  go_meet
                  exact ⟨rfl, rfl⟩
              case rest =>
                obtain ⟨rfl, rfl⟩ := hcut
                go_wp2_with fail
                refine (rhas_any _ _ b y _ hsb (by omega)).mono ?_
                rintro e w' ⟨rfl, rfl⟩
                rw [← HPB.out]
                have hka : kNum pa false = 0 ∨ kNum pa false = 1 := by cases pa <;> simp [kNum]
                go_upto_if 67 with (fail)
                go_cut [13] (fun s13 wc => s13 = .int .i64 (kNum pa pb) ∧ wr = wc)
                case first =>
                  cases pb
                  · go_wp2
                    go_meet
                    exact ⟨rfl, rfl⟩
                  · cases pa
                    · have e0 : kNum false false = 0 := rfl
                      go_wp2
                      go_meet
                      exact ⟨rfl, rfl⟩
                    · have e0 : kNum true false = 1 := rfl
                      go_wp2
                      go_meet
                      exact ⟨rfl, rfl⟩
                case rest =>
                  obtain ⟨rfl, rfl⟩ := hcut
                  obtain ⟨sel, hsel⟩ : ∃ sel, sel = kfOf n pa pb := ⟨_, rfl⟩
                  have HSEL := Lib.hid hsel
                  clear hsel hka
                  go_upto_region 21 with (fail)
                  go_cut [85] (fun s85 wc => s85 = .bool (!sel) ∧ ∃ ob, wc = wr.alloc ob)
                  case first =>
                    rcases HN.out with rfl | rfl | rfl | rfl <;> cases pa <;> cases pb
                    all_goals (simp only [show kNum false false = 0 from rfl, show kNum true false = 1 from rfl, show kNum false true = 2 from rfl, show kNum true true = 3 from rfl]; go_wp2; go_meet; exact ⟨by rw [HSEL.out]; rfl, _, rfl⟩)
                  case rest =>
                    obtain ⟨rfl, ob, rfl⟩ := hcut
                    have hown1 := hown0.out.alloc ob
                    have hb1 : Below W1.heap.size W1 (wr.alloc ob) := hb.alloc hwz1 _
                    have hwz2 := hb1.size
                    replace c0 := (hb1.cell (p := ⟨bb, off + k, none⟩) hbb).trans (HC.out k hk)
                    rw [← HY.out] at c0
                    clear hown0 hb hsa hsb
                    generalize wr.alloc ob = wq at *
                    have hstep : Hid (∀ o', o' = (if sel = true then putSeg o y h2v else o) → refRun (fun e => kfOf n (decide (Tells a e)) (decide (Tells b e))) (E.drop (k + 1)) o' = refRun (fun e => kfOf n (decide (Tells a e)) (decide (Tells b e))) E []) := Lib.hid (by
                      rintro _ rfl
                      refine hst.out _ ?_
                      have hse : kfOf n (decide (Tells a y)) (decide (Tells b y)) = sel := by rw [← HPA.out, ← HPB.out, ← HSEL.out]
                      show _ = if kfOf n (decide (Tells a y)) (decide (Tells b y)) = true then putSeg o y (hiOf y nx) else o
                      rw [hse, HH2.out])
                    clear hst
                    cases sel
                    · go_wp2
                      go_roundg g
                      case measure => omega
                      case rel => exact ⟨k + 1, o, by omega, by first | rfl | go_num, Lib.hid (hstep.out _ (by simp)), by omega, hown1, hb1⟩
                    · have hstep2 : Hid (∀ o', o' = putSeg o y h2v → refRun (fun e => kfOf n (decide (Tells a e)) (decide (Tells b e))) (E.drop (k + 1)) o' = refRun (fun e => kfOf n (decide (Tells a e)) (decide (Tells b e))) E []) := Lib.hid (fun o' h => hstep.out o' (by rw [h]; rfl))
                      clear hstep
                      obtain ⟨Po, co, rfl⟩ := own_shape hown1
                      obtain ⟨tst, ht⟩ : ∃ tst, tst = lastAt o (y - 1) := ⟨_, rfl⟩
                      have HT := Lib.hid ht
                      clear ht
                      go_upto_region 22 with (fail)
                      go_cut [103] (fun s103 wc => s103 = .bool tst ∧ wc.ownsRow W1.heap.size 42 2 (.slice Po o.length co) o.length (cellsS o) ∧ Below W1.heap.size W1 wc)
                      case first =>
                        have HRD := Lib.hid hown1.drew
                        rcases List.eq_nil_or_concat o with rfl | ⟨l, s, rfl⟩
                        · have hv : tst = false := HT.out
                          have HV := Lib.hid hv
                          clear hv hown1
                          simp only [List.length_nil] at HRD ⊢
                          go_quiet (fail)
                          go_wp2
                          go_meet
                          exact ⟨by rw [HV.out], HRD.out, ⟨hb1.os, hb1.tape, hb1.output, hb1.size, hb1.block⟩⟩
                        · rw [List.concat_eq_append] at *
                          rw [List.length_append, List.length_singleton] at *
                          obtain ⟨gb, rfl, hgb, c3, _⟩ := own_last hown1
                          have hv : tst = decide (s.2 = y - 1) := by rw [HT.out]; unfold lastAt; rw [List.getLast?_concat]
                          have HV := Lib.hid hv
                          clear hv hown1
                          have hj0 : (0 : Int) < (l.length : Int) + 1 := by omega
                          have d7 : decide ((0 : Int) < (l.length : Int) + 1) = true := decide_eq_true hj0
                          have hj1 : (l.length : Int) < (l.length : Int) + 1 := by omega
                          obtain ⟨lo, hh⟩ := s
                          dsimp only at c3 HV
                          by_cases hq : hh = y - 1
                          · have d8 : (hh == y - 1) = true := by rw [beq_iff_eq]; exact hq
                            have HV2 := Lib.hid (HV.out.trans (decide_eq_true hq))
                            clear HV hq
                            go_quiet (fail)
                            go_wp2
                            go_meet
                            exact ⟨by rw [HV2.out], HRD.out, ⟨hb1.os, hb1.tape, hb1.output, hb1.size, hb1.block⟩⟩
                          · have d8 : (hh == y - 1) = false := by rw [beq_eq_false_iff_ne]; exact hq
                            have HV2 := Lib.hid (HV.out.trans (decide_eq_false hq))
                            clear HV hq
                            go_quiet (fail)
                            go_wp2
                            go_meet
                            exact ⟨by rw [HV2.out], HRD.out, ⟨hb1.os, hb1.tape, hb1.output, hb1.size, hb1.block⟩⟩
                      case rest =>
                        obtain ⟨rfl, hown2, hb2⟩ := hcut
                        clear hown1 hb1
                        have hwz3 := hb2.size
                        have c2' := (hb2.cell (p := ⟨bb, off + k, none⟩) hbb).trans (HC.out k hk)
                        rw [← HY.out] at c2'
                        clear c0
                        cases tst
                        · have HPUT : Hid (putSeg o y h2v = o ++ [(y, h2v)]) := Lib.hid (putSeg_new HT.out)
                          go_wp2_with (at_builtin; refine wpList_append_own _ rfl _ _ 28 rfl W1.heap.size 42 i0 (.agg #[.int .i64 0, .int .i64 0]) 2 16 Tryd.underlying28 hi hz0 hz1 hz2 rfl (by decide) _ _ _ rfl (hown2.alloc _) ⟨wc.heap.size, 0, none⟩ 1 1 [.int .i64 y, .int .i64 h2v] rfl rfl (cell_news _ _ _) (by simp [Value.oneCell']) (by unfold maxLen; omega) (by omega) (by rw [World.size_alloc]; omega) ?_; intro v' w2 hown' hgrow _)
                          go_roundg g
                          case measure => omega
                          case rel => exact ⟨k + 1, o ++ [(y, h2v)], by omega, by first | rfl | go_num, Lib.hid (hstep2.out _ HPUT.out.symm), by rw [List.length_append, List.length_singleton]; omega, by rw [cellsS_append, List.length_append]; exact hown', (hb2.alloc hwz3 _).grown hgrow (by rw [World.size_alloc]; omega) (fun j hj => (hown2.lt j hj).1)⟩
                        · obtain ⟨l, s, rfl, hs2⟩ := lastAt_true HT.out
                          have HPUT : Hid (putSeg (l ++ [s]) y h2v = l ++ [(s.1, h2v)]) := Lib.hid (by rw [putSeg_snoc, if_pos hs2])
                          rw [List.length_append, List.length_singleton] at hown2 hok ⊢
                          obtain ⟨gb, rfl, hgb, c3, hfz⟩ := own_last hown2
                          obtain ⟨hown3, hgrow⟩ := own_put h2v hown2
                          have hj1 : (l.length : Int) < (l.length : Int) + 1 := by omega
                          have HO3 := Lib.hid hown3
                          have HG := Lib.hid hgrow
                          clear hs2 hown2 hown3 hgrow c2'
                          go_wp2
                          go_roundg g
                          case measure => omega
                          case rel => exact ⟨k + 1, l ++ [(s.1, h2v)], by omega, by first | rfl | go_num, Lib.hid (hstep2.out _ HPUT.out.symm), by rw [List.length_append, List.length_singleton]; omega, by rw [List.length_append, List.length_singleton]; exact HO3.out, hb2.grown HG.out hwz3 (fun j hj => by simp at hj; omega)⟩
end Go.Proofs.YtkphbjppmiefkaaDoor
