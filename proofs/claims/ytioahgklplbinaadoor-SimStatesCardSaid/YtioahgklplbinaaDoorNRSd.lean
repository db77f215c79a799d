/- The document's Sound of machines. -/
import Derived.Test.YtioahgklplbinaaDoorNPSd
import Derived.Test.YtioahgklplbinaaDoorVREF
namespace Go.Proofs.YtioahgklplbinaaDoor
open Go.RowKit Go.Shelf Go.Maps SetM PropsM RxM WrM NfaM
theorem alike_n {W : World} {P Q : Option Addr} {c d n k : Nat} {l m : List Sp} (hn : n = l.length) (hk : k = m.length) (hs : Sl W P l) (ht : Sl W Q m) (hl : n ≤ 1000000) (hm : k ≤ 1000000) : Calls Tryd.prog 31 #[.slice P n c, .slice Q k d] W fun e W' => e = .returned (.bool (decide (l = m))) ∧ Below W.heap.size W W' := by
  subst hn hk
  exact alike_any P Q c d l m (by omega) (by omega) W hs ht
theorem okE_take {k : Nat} {es : List (Int × List Sp)} {j : Nat} (hj : j < es.length) (h : allE k (es.take j) = true) (h2 : okE k es[j] = true) : allE k (es.take (j + 1)) = true := by
  unfold allE at h ⊢
  rw [List.take_succ_eq_append_getElem hj, List.all_append, h]
  simp [h2]
theorem okE_bad {k : Nat} {es : List (Int × List Sp)} {j : Nat} (hj : j < es.length) (h2 : okE k es[j] = false) : allE k es = false := by
  unfold allE
  rw [List.all_eq_false]
  exact ⟨es[j], List.getElem_mem hj, by rw [h2]; simp⟩
theorem okI_take {k : Nat} {es : List Int} {j : Nat} (hj : j < es.length) (h : allI k (es.take j) = true) (h2 : okI k es[j] = true) : allI k (es.take (j + 1)) = true := by
  unfold allI at h ⊢
  rw [List.take_succ_eq_append_getElem hj, List.all_append, h]
  simp [h2]
theorem okI_bad {k : Nat} {es : List Int} {j : Nat} (hj : j < es.length) (h2 : okI k es[j] = false) : allI k es = false := by
  unfold allI
  rw [List.all_eq_false]
  exact ⟨es[j], List.getElem_mem hj, by rw [h2]; simp⟩
set_option maxRecDepth 100000 in
set_option maxHeartbeats 16000000 in
theorem rsoundM_c {W : World} {p0 p1 p2 : Option Addr} {n0 n1 k c0 c1 c2 : Nat} {m : Mc} (h : MR W p0 p1 p2 m) (e0 : n0 = m.ed.length) (e1 : n1 = m.fr.length) (e2 : k = m.tg.length) (hed : ∀ i < m.ed.length, (m.ed.getD i []).length ≤ 9223372036854775807 ∧ ∀ e ∈ m.ed.getD i [], e.2.length ≤ 100000 ∧ Wide e.2) (hfr : ∀ i < m.fr.length, (m.fr.getD i []).length ≤ 9223372036854775807) :
    Calls Tryd.prog 22 #[.agg #[.slice p0 n0 c0, .slice p1 n1 c1, .slice p2 k c2]] W fun e W' => e = .returned (.bool (sndM m)) ∧ Below W.heap.size W W' := by
  obtain ⟨V, hV⟩ : ∃ V, V = W.alloc (.cells #[.slice p0 n0 c0, .slice p1 n1 c1, .slice p2 k c2] 30) := ⟨_, rfl⟩
  have hb : Below W.heap.size W V := by rw [hV]; exact (Below.refl _ _).alloc (Nat.le_refl _) _
  have x0 : V.heap[W.heap.size]? = some (.cells #[.slice p0 n0 c0, .slice p1 n1 c1, .slice p2 k c2] 30 (0, 0)) := by rw [hV]; exact heap_alloc_new W _
  obtain ⟨⟨a0, a1, a2⟩, _⟩ := cells3 x0
  have HX := Lib.hid x0
  have HLT := Lib.hid (Array.getElem?_eq_some_iff.1 x0).1
  have HB0 := Lib.hid hb
  have HM := Lib.hid (h.step hb)
  have HE := Lib.hid (And.intro e0 (And.intro e1 e2))
  have HED := Lib.hid hed
  have HFR := Lib.hid hfr
  clear h e0 e1 e2 hed hfr hb x0
  go_enter Tryd.func22, Tryd.ntmps22
  go_upto_region 1 with fail
  rw [← hV]
  clear hV
  by_cases hsz : szM m
  · have HSZ := Lib.hid hsz
    have hk0 : ¬ (k : Int) < 1 := by have a := HE.out; unfold szM at hsz; omega
    have hk2 : ¬ (2000 : Int) < (k : Int) := by have a := HE.out; unfold szM at hsz; omega
    obtain ⟨rfl, rfl⟩ : n0 = k ∧ n1 = k := by have a := HE.out; unfold szM at hsz; omega
    have hkk : ((n1 : Int) != (n1 : Int)) = false := by rw [bne_eq_false_iff_eq]
    have hk8 : n1 ≤ 2000 := by omega
    clear hsz
    go_wp2_with fail
    go_loopg [4] n1 (fun gk s4 wx => ∃ r : Nat, r + gk = n1 ∧ s4 = .int .i64 r ∧ Hid (rowsM m r = true) ∧ Hid (Below V.heap.size V wx))
    case atStart => exact ⟨0, by omega, rfl, Lib.hid rfl, Lib.hid (Below.refl _ _)⟩
    case round =>
      obtain ⟨r, hrg, rfl, HA, HB⟩ := hrel
      obtain ⟨w1, hw1⟩ : ∃ w1, w1 = wr := ⟨_, rfl⟩
      subst hw1
      clear a0 a1 a2 hk0 hk2 hkk
      cases gk with
      | zero =>
        obtain rfl : r = n1 := by omega
        have hlt : ¬ (r : Int) < (r : Int) := by omega
        have HQ : Hid (sndM m = true) := Lib.hid (by rw [sndM_yes HSZ.out, ← HE.out.2.2]; exact HA.out)
        have HBE := Lib.hid (HB0.out.trans (HB.out.mono HB0.out.size))
        go_wp2
        go_ret
        exact ⟨by rw [HQ.out]; rfl, HBE.out⟩
      | succ gko =>
        have hlt : (r : Int) < (n1 : Int) := by omega
        have h0 : (0 : Int) ≤ (r : Int) := by omega
        have hwr : wrap64 ((r : Int) + 1) = ((r + 1 : Nat) : Int) := by rw [IntWalk.wrap64_in _ (by omega)]; omega
        have hre : r < m.ed.length := by have := HE.out; omega
        have hrf : r < m.fr.length := by have := HE.out; omega
        have hrt : r < m.tg.length := by have := HE.out; omega
        have hM := HM.out.step HB.out
        obtain ⟨g0, o0, Pe, ce, rfl, hg0, hc0, hed⟩ := hM.ed r hre
        obtain ⟨g1, o1, Pf, cf, rfl, hg1, hc1, hfr⟩ := hM.fr r hrf
        obtain ⟨g2, o2, rfl, hg2, hc2⟩ := hM.tg r hrt
        obtain ⟨t, ht⟩ : ∃ t, t = m.tg[r] := ⟨_, rfl⟩
        rw [← ht] at hc2
        obtain ⟨es, hes⟩ : ∃ es, es = m.ed[r] := ⟨_, rfl⟩
        rw [← hes] at hc0 hed
        obtain ⟨fs, hfs⟩ : ∃ fs, fs = m.fr[r] := ⟨_, rfl⟩
        rw [← hfs] at hc1 hfr
        have HK : Hid (okR m r = (decide (-1 ≤ t) && (allE n1 es && allI n1 fs))) := Lib.hid (by
          unfold okR
          rw [getD_of hrt, getD_of hre, getD_of hrf, ← ht, ← hes, ← hfs, ← HE.out.2.2])
        have HBAD : Hid (okR m r = false → sndM m = false) := Lib.hid (fun h => by rw [sndM_yes HSZ.out]; exact rows_bad h hrt)
        obtain ⟨le, hle⟩ : ∃ le, le = es.length := ⟨_, rfl⟩
        rw [← hle] at hc0
        obtain ⟨lf, hlf⟩ : ∃ lf, lf = fs.length := ⟨_, rfl⟩
        rw [← hlf] at hc1
        have hE8 := HED.out r hre
        rw [getD_of hre, ← hes, ← hle] at hE8
        have hF8 := HFR.out r hrf
        rw [getD_of hrf, ← hfs, ← hlf] at hF8
        have le8 := hE8.1
        have HE8 := Lib.hid hE8.2
        have HBXr := Lib.hid ((HB.out.block _ HLT.out).trans HX.out)
        have HCL := Lib.hid (fun (U : World) (hU : Below w1.heap.size w1 U) => (⟨(cells3 ((hU.block _ (by have := HB.out.size; have := HLT.out; omega)).trans HBXr.out)).1, (hU.cell (p := ⟨g0, o0 + r, none⟩) hg0).trans hc0, (hU.cell (p := ⟨g1, o1 + r, none⟩) hg1).trans hc1, (hU.cell (p := ⟨g2, o2 + r, none⟩) hg2).trans hc2⟩ : (U.cell? ⟨W.heap.size, 0, none⟩ = some (.slice (some ⟨g0, o0, none⟩) n1 c0) ∧ U.cell? ⟨W.heap.size, 1, none⟩ = some (.slice (some ⟨g1, o1, none⟩) n1 c1) ∧ U.cell? ⟨W.heap.size, 2, none⟩ = some (.slice (some ⟨g2, o2, none⟩) n1 c2)) ∧ U.cell? ⟨g0, o0 + r, none⟩ = some (.slice Pe le ce) ∧ U.cell? ⟨g1, o1 + r, none⟩ = some (.slice Pf lf cf) ∧ U.cell? ⟨g2, o2 + r, none⟩ = some (.int .i64 t)))
        have HEDR := Lib.hid hed
        have HFDR := Lib.hid hfr
        have HLE := Lib.hid hle
        have HLF := Lib.hid hlf
        have HBE := Lib.hid (HB0.out.trans (HB.out.mono HB0.out.size))
        clear hM hed hfr ht hes hfs hle hlf hE8 hc0 hc1 hc2 hg0 hg1 hg2 hre hrf hrt
        go_wp2_with fail
        go_loopg [5] le (fun g2k s5 wx => ∃ j : Nat, j + g2k = le ∧ s5 = .int .i64 j ∧ Hid (allE n1 (es.take j) = true) ∧ Hid (Below w1.heap.size w1 wx))
        case atStart => exact ⟨0, by omega, rfl, Lib.hid rfl, Lib.hid (Below.refl _ _)⟩
        case round =>
          obtain ⟨j, hjg, rfl, HA2, HB2⟩ := hrel
          obtain ⟨⟨a0, a1, a2⟩, d0, d1, d2⟩ := HCL.out wr HB2.out
          have HBW := Lib.hid (HBE.out.trans (HB2.out.mono HBE.out.size))
          cases gk with
          | zero =>
            obtain rfl : j = le := by omega
            have hlt2 : ¬ (j : Int) < (j : Int) := by omega
            have HAE : Hid (allE n1 es = true) := Lib.hid (by have h := HA2.out; rw [List.take_of_length_le (by have := HLE.out; omega)] at h; exact h)
            clear hlt2
            have hlt2 : ¬ (j : Int) < (j : Int) := by omega
            go_wp2_with fail
            go_loopg [7] lf (fun g3k s7 wx => ∃ j3 : Nat, j3 + g3k = lf ∧ s7 = .int .i64 j3 ∧ Hid (allI n1 (fs.take j3) = true) ∧ Hid (Below w1.heap.size w1 wx))
            case atStart => exact ⟨0, by omega, rfl, Lib.hid rfl, HB2⟩
            case round =>
              obtain ⟨j3, hj3g, rfl, HA3, HB3⟩ := hrel
              clear a0 a1 a2 d0 d1 d2
              obtain ⟨⟨a0, a1, a2⟩, d0, d1, d2⟩ := HCL.out wr HB3.out
              have HBW3 := Lib.hid (HBE.out.trans (HB3.out.mono HBE.out.size))
              cases gk with
              | zero =>
                obtain rfl : j3 = lf := by omega
                have hlt3 : ¬ (j3 : Int) < (j3 : Int) := by omega
                have HAI : Hid (allI n1 fs = true) := Lib.hid (by have h := HA3.out; rw [List.take_of_length_le (by have := HLF.out; omega)] at h; exact h)
                by_cases ht : t < -1
                · have HQ : Hid (sndM m = false) := Lib.hid (HBAD.out (by rw [HK.out, decide_eq_false (by omega)]; rfl))
                  go_wp2
                  go_ret
                  exact ⟨by rw [HQ.out]; rfl, HBW3.out⟩
                · have ht' : ¬ t < -1 := ht
                  have HT : Hid (rowsM m (r + 1) = true) := Lib.hid (by rw [rows_succ', HA.out, HK.out, HAE.out, HAI.out, decide_eq_true (by omega)]; rfl)
                  have HBV := Lib.hid (HB.out.trans (HB3.out.mono HB.out.size))
                  clear ht
                  go_wp2
                  go_roundg gko
                  case measure => omega
                  case rel => exact ⟨r + 1, by omega, by first | rw [hwr] | rfl | simp, HT, HBV⟩
              | succ gki =>
                have hlt3 : (j3 : Int) < (lf : Int) := by omega
                have hjl : j3 < fs.length := by have := HLF.out; omega
                have hj0 : (0 : Int) ≤ (j3 : Int) := by omega
                have hwj : wrap64 ((j3 : Int) + 1) = ((j3 + 1 : Nat) : Int) := by rw [IntWalk.wrap64_in _ (by omega)]; omega
                obtain ⟨g, o, rfl, hg, q1⟩ := (HFDR.out.step HB3.out) j3 hjl
                obtain ⟨te, he⟩ : ∃ e, e = fs[j3] := ⟨_, rfl⟩
                rw [← he] at q1
                have HEM : Hid (fs[j3] = te) := Lib.hid he.symm
                clear he hg
                by_cases t1 : te < 0
                · have HQ : Hid (sndM m = false) := Lib.hid (HBAD.out (by rw [HK.out, okI_bad hjl (by rw [HEM.out]; unfold okI; rw [decide_eq_false (by omega)])]; simp))
                  go_wp2
                  go_ret
                  exact ⟨by rw [HQ.out]; rfl, HBW3.out⟩
                · by_cases t2 : (n1 : Int) ≤ te
                  · have HQ : Hid (sndM m = false) := Lib.hid (HBAD.out (by rw [HK.out, okI_bad hjl (by rw [HEM.out]; unfold okI; rw [decide_eq_false (by omega)])]; simp))
                    go_wp2
                    go_ret
                    exact ⟨by rw [HQ.out]; rfl, HBW3.out⟩
                  · have HT := Lib.hid (okI_take hjl HA3.out (by rw [HEM.out]; unfold okI; rw [decide_eq_true (by omega)]))
                    go_wp2
                    go_roundg gki
                    case measure => omega
                    case rel => exact ⟨j3 + 1, by omega, by first | rw [hwj] | rfl | simp, HT, HB3⟩
          | succ gki =>
            have hlt2 : (j : Int) < (le : Int) := by omega
            have hjl : j < es.length := by have := HLE.out; omega
            have hj0 : (0 : Int) ≤ (j : Int) := by omega
            have hwj : wrap64 ((j : Int) + 1) = ((j + 1 : Nat) : Int) := by rw [IntWalk.wrap64_in _ (by omega)]; omega
            obtain ⟨g, o, sp, sc, rfl, hg, q1, q2, hsl⟩ := (HEDR.out.step HB2.out) j hjl
            have hmem := HE8.out _ (List.getElem_mem hjl)
            obtain ⟨e, he⟩ : ∃ e, e = es[j] := ⟨_, rfl⟩
            rw [← he] at q1 q2 hsl hmem
            have HEM : Hid (es[j] = e) := Lib.hid he.symm
            obtain ⟨te, se⟩ := e
            dsimp only at q1 q2 hsl hmem
            obtain ⟨ln, hln⟩ : ∃ ln, ln = se.length := ⟨_, rfl⟩
            rw [← hln] at q2
            obtain ⟨X, hX⟩ : ∃ X, X = wr.alloc (.cells #[.int .i64 te, .slice sp ln sc] 47) := ⟨_, rfl⟩
            have hbX : Below wr.heap.size wr X := by rw [hX]; exact (Below.refl _ _).alloc (Nat.le_refl _) _
            have xX : X.heap[wr.heap.size]? = some (.cells #[.int .i64 te, .slice sp ln sc] 47 (0, 0)) := by rw [hX]; exact heap_alloc_new wr _
            have hlX := (Array.getElem?_eq_some_iff.1 xX).1
            have HNO := Lib.hid (fun (U : World) (hU : Below X.heap.size X U) => rnormal_c (sc := sc) hln (by rw [hln]; exact hmem.1) hmem.2 ((hsl.step hbX).step hU))
            have HAK := Lib.hid (fun (U : World) (hU : Below X.heap.size X U) (Q : Option Addr) (mm c : Nat) (out : List Sp) (hm : mm = out.length) (hml : mm ≤ 400000) (hQ : Sl U Q out) => alike_n (c := c) (d := sc) hm hln hQ ((hsl.step hbX).step hU) (by omega) (by rw [hln]; have := hmem.1; omega))
            have HXC := Lib.hid (fun (U : World) (hU : Below X.heap.size X U) => (⟨(hU.cell (p := ⟨wr.heap.size, 0, none⟩) hlX).trans (show X.cell? ⟨wr.heap.size, 0, none⟩ = some (.int .i64 te) from cell_of_row X _ 0 _ _ _ xX), (hU.cell (p := ⟨wr.heap.size, 1, none⟩) hlX).trans (show X.cell? ⟨wr.heap.size, 1, none⟩ = some (.slice sp ln sc) from cell_of_row X _ 1 _ _ _ xX)⟩ : U.cell? ⟨wr.heap.size, 0, none⟩ = some (.int .i64 te) ∧ U.cell? ⟨wr.heap.size, 1, none⟩ = some (.slice sp ln sc)))
            have HBX := Lib.hid (HB2.out.trans (hbX.mono HB2.out.size))
            have HBY := Lib.hid (HBW.out.trans (hbX.mono HBW.out.size))
            clear he hsl hmem hln hbX xX hlX hg
            go_upto_region 11 with fail
            rw [← hX]
            clear hX a0 a1 a2 d0 d1 d2 q1 q2
            by_cases t1 : te < 0
            · have HQ : Hid (sndM m = false) := Lib.hid (HBAD.out (by rw [HK.out, okE_bad hjl (by rw [HEM.out]; unfold okE; rw [decide_eq_false (by omega)]; rfl)]; simp))
              obtain ⟨y0, y1⟩ := HXC.out X.drew ((Below.refl _ _).drew)
              go_region
              all_goals
                go_wp2
                go_ret
                exact ⟨by rw [HQ.out]; rfl, HBY.out.drew⟩
            · by_cases t2 : (n1 : Int) ≤ te
              · have HQ : Hid (sndM m = false) := Lib.hid (HBAD.out (by rw [HK.out, okE_bad hjl (by rw [HEM.out]; unfold okE; rw [decide_eq_false (by omega)]; rfl)]; simp))
                obtain ⟨y0, y1⟩ := HXC.out X.drew ((Below.refl _ _).drew)
                go_region
                all_goals
                  go_wp2
                  go_ret
                  exact ⟨by rw [HQ.out]; rfl, HBY.out.drew⟩
              · have hr : Below X.heap.size X X.drew := (Below.refl _ _).drew
                go_region_held3 (fun U => U.cell? ⟨wr.heap.size, 0, none⟩ = some (.int .i64 te) ∧ U.cell? ⟨wr.heap.size, 1, none⟩ = some (.slice sp ln sc))
                  (exact HXC.out _ hr)
                  (first
                    | (go_at_call 32; (refine (HNO.out _ hr).mono ?_); rintro ee w4 ⟨Q, mm, cc, out, rfl, hm, hm4, hN, hQ, b4⟩; have hr := hr.trans (b4.mono hr.size); have HA4 := Lib.hid (HAK.out _ hr Q mm cc out hm hm4 hQ); have HN4 := Lib.hid hN; clear hm hm4 hN hQ)
                    | (go_at_call 31; (refine HA4.out.mono ?_); rintro ee w5 ⟨rfl, b5⟩; have hr := hr.trans (b5.mono hr.size)))
                have HB5 := Lib.hid (HBX.out.trans (hr.mono HBX.out.size))
                have HB6 := Lib.hid (HBY.out.trans (hr.mono HBY.out.size))
                have HOK : Hid (okE n1 es[j] = decide (out = se)) := Lib.hid (by
                  rw [HEM.out]
                  unfold okE
                  rw [decide_eq_true (by omega), Bool.true_and]
                  refine Bool.eq_iff_iff.2 ?_
                  rw [isSet_norml, decide_eq_true_iff, HN4.out])
                clear hr b4 b5 HA4 HAK HNO HXC
                by_cases ho : out = se
                · rw [decide_eq_true ho] at HOK ⊢
                  have HT := Lib.hid (okE_take hjl HA2.out HOK.out)
                  clear ho
                  go_wp2
                  go_roundg gki
                  case measure => omega
                  case rel => exact ⟨j + 1, by omega, by first | rw [hwj] | rfl | simp, HT, HB5⟩
                · rw [decide_eq_false ho] at HOK ⊢
                  have HQ : Hid (sndM m = false) := Lib.hid (HBAD.out (by rw [HK.out, okE_bad hjl HOK.out]; simp))
                  clear ho
                  go_wp2
                  go_ret
                  exact ⟨by rw [HQ.out]; rfl, HB6.out⟩
  · have HQ : Hid (sndM m = false) := Lib.hid (sndM_no hsz)
    rcases (show k < 1 ∨ (¬ k < 1 ∧ 2000 < k) ∨ (¬ k < 1 ∧ ¬ 2000 < k ∧ n0 ≠ k) ∨ (¬ k < 1 ∧ ¬ 2000 < k ∧ n0 = k ∧ n1 ≠ k) by
      have a := HE.out
      unfold szM at hsz
      omega) with h1 | ⟨h1, h2⟩ | ⟨h1, h2, h3⟩ | ⟨h1, h2, h3, h4⟩
    · have g1 : (k : Int) < 1 := by omega
      clear hsz h1
      go_wp2
      go_ret
      exact ⟨by rw [HQ.out]; rfl, HB0.out⟩
    · have g1 : ¬ (k : Int) < 1 := by omega
      have g2 : (2000 : Int) < (k : Int) := by omega
      clear hsz h1 h2
      go_wp2
      go_ret
      exact ⟨by rw [HQ.out]; rfl, HB0.out⟩
    · have g1 : ¬ (k : Int) < 1 := by omega
      have g2 : ¬ (2000 : Int) < (k : Int) := by omega
      have g3 : ((n0 : Int) != (k : Int)) = true := by rw [bne_iff_ne]; omega
      clear hsz h1 h2 h3
      go_wp2
      go_ret
      exact ⟨by rw [HQ.out]; rfl, HB0.out⟩
    · have g1 : ¬ (k : Int) < 1 := by omega
      have g2 : ¬ (2000 : Int) < (k : Int) := by omega
      have g3 : ((n0 : Int) != (k : Int)) = false := by rw [bne_eq_false_iff_eq]; omega
      have g4 : ((n1 : Int) != (k : Int)) = true := by rw [bne_iff_ne]; omega
      clear hsz h1 h2 h3 h4
      go_wp2
      go_ret
      exact ⟨by rw [HQ.out]; rfl, HB0.out⟩
end Go.Proofs.YtioahgklplbinaaDoor
