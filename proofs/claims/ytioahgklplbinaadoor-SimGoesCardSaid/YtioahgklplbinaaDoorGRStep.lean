/- The document's Step. -/
import Derived.Test.YtioahgklplbinaaDoorGRef
namespace Go.Proofs.YtioahgklplbinaaDoor
open Go.RowKit Go.Shelf SetM NfaM SimM
set_option maxRecDepth 100000 in
set_option maxHeartbeats 16000000 in
theorem rstep_c {W : World} {p0 p1 p2 P : Option Addr} {n0 n1 k c0 c1 c2 n c : Nat} {m : Mc} {l : List Int} {r : Int} (h : MachV W p0 p1 p2 n0 n1 k m) (hl : InR W P l) (hn : n = l.length) (h8 : n ≤ 9223372036854775807) :
    Calls Tryd.prog 19 #[.agg #[.slice p0 n0 c0, .slice p1 n1 c1, .slice p2 k c2], .slice P n c, .int .i64 r] W fun e W' => ∃ v o, e = .returned v ∧ OwI W' W.heap.size v o ∧ (sndM m = true → o = stepF m l r) ∧ (sndM m = false → o = []) ∧ Below W.heap.size W W' := by
  obtain ⟨V, hV⟩ : ∃ V, V = W.alloc (.cells #[.slice p0 n0 c0, .slice p1 n1 c1, .slice p2 k c2] 30) := ⟨_, rfl⟩
  have hb : Below W.heap.size W V := by rw [hV]; exact (Below.refl _ _).alloc (Nat.le_refl _) _
  have x0 : V.heap[W.heap.size]? = some (.cells #[.slice p0 n0 c0, .slice p1 n1 c1, .slice p2 k c2] 30 (0, 0)) := by rw [hV]; exact heap_alloc_new W _
  obtain ⟨⟨a0, a1, a2⟩, _⟩ := cells3 x0
  have HMV := Lib.hid (h.step hb)
  have HSN := Lib.hid ((h.step hb).rsound (c0 := c0) (c1 := c1) (c2 := c2))
  have HB := Lib.hid hb
  have HX := Lib.hid x0
  have HLT := Lib.hid (Array.getElem?_eq_some_iff.1 x0).1
  have HL := Lib.hid (InR.step hl hb)
  have HN := Lib.hid hn
  clear h hb x0 hl hn
  obtain ⟨q, hq⟩ : ∃ q, q = sndM m := ⟨_, rfl⟩
  rw [← hq] at HSN
  have HQ : Hid (sndM m = q) := Lib.hid hq.symm
  clear hq
  go_enter Tryd.func19, Tryd.ntmps19
  go_upto_region 1 with fail
  rw [← hV]
  clear hV
  go_wp2_with fail
  refine HSN.out.mono ?_
  rintro e w1 ⟨rfl, b1⟩
  have HB1 := Lib.hid (HB.out.trans (b1.mono HB.out.size))
  have HV1 := Lib.hid b1
  obtain ⟨⟨d0, d1, d2⟩, _⟩ := cells3 ((b1.block _ HLT.out).trans HX.out)
  have HM1 := Lib.hid (HMV.out.step b1)
  clear a0 a1 a2 b1 HSN
  cases q with
  | false =>
    go_wp2_with fail
    go_ret
    exact ⟨_, [], rfl, OwI.nil _ _, fun h => by rw [HQ.out] at h; (cases h), fun _ => rfl, HB1.out⟩
  | true =>
    have hg := gm_of HM1.out.bd HQ.out
    have HG := Lib.hid hg
    have HEQ : Hid (n0 = k ∧ n1 = k ∧ k = m.tg.length) := Lib.hid (by have := HM1.out.e0; have := HM1.out.e1; have := HM1.out.e2; have := hg.fr.2.1; have := hg.ed; omega)
    have hk8 : k ≤ 2000 := by have := hg.k2; have := HM1.out.e2; omega
    have hk0 : (0 : Int) ≤ (k : Int) := by omega
    obtain ⟨w2, hmk, hR, hb2⟩ := make_marks w1 k (by omega)
    obtain ⟨g, hgd⟩ : ∃ g, g = w1.heap.size := ⟨_, rfl⟩
    rw [← hgd] at hmk
    have HR : Hid (MkG 3 (.int .i64 1) (.int .i64 0) w2 w1.heap.size g k (Mv m (Inn k (l.take 0)) r)) := Lib.hid (by rw [hgd]; exact hR.congr (fun j _ => (mv_zero m r k l j).symm))
    have HGL := Lib.hid HR.out.lt
    have HB2 := Lib.hid hb2
    have HG2 := Lib.hid (show w2.grownBy w2 (some g) from grown_refl' w2 (some g))
    have HWB := Lib.hid (fun (Y : World) (hY : w2.grownBy Y (some g)) => (show Below w1.heap.size w1 Y from HB2.out.trans (grown_below hY HGL.out.1 HB2.out.size)))
    have HRD := Lib.hid (fun (Y : World) (hY : w2.grownBy Y (some g)) => (show Y.cell? ⟨W.heap.size, 0, none⟩ = some (.slice p0 n0 c0) ∧ Y.cell? ⟨W.heap.size, 1, none⟩ = some (.slice p1 n1 c1) ∧ Y.cell? ⟨W.heap.size, 2, none⟩ = some (.slice p2 k c2) from (cells3 (((HWB.out Y hY).block _ (by have := HLT.out; have := HV1.out.size; omega)).trans ((HV1.out.block _ HLT.out).trans HX.out))).1))
    clear hg hR hb2 hgd
    go_upto_region 4 with fail
    clear hmk d0 d1 d2
    go_wp2_with fail
    go_loopg [8] n (fun gk s8 wx => ∃ q : Nat, q + gk = n ∧ s8 = .int .i64 q ∧ Hid (MkG 3 (.int .i64 1) (.int .i64 0) wx w1.heap.size g k (Mv m (Inn k (l.take q)) r)) ∧ Hid (w2.grownBy wx (some g)))
    case atStart => exact ⟨0, by omega, rfl, HR, HG2⟩
    case round =>
      obtain ⟨q, hqg, rfl, HRQ, HGQ⟩ := hrel
      cases gk with
      | zero =>
        obtain rfl : q = n := by omega
        have hlt : ¬ (q : Int) < (q : Int) := by omega
        have hR3 : MkG 3 (.int .i64 1) (.int .i64 0) wr w1.heap.size g k (Mv m (Inn k l) r) := by have := HRQ.out; rw [List.take_of_length_le (by have := HN.out; omega)] at this; exact this
        have hbw := HWB.out wr HGQ.out
        have HCL := Lib.hid (closed_c (n0 := n0) (n1 := n1) (c0 := c0) (c1 := c1) (c2 := c2) HM1.out.mr hbw hR3 HEQ.out.2.2 HG.out HEQ.out.2.1 (fun j hj => by rw [HEQ.out.2.2]; exact mv_lt HG.out hj))
        obtain ⟨d0, d1, d2⟩ := HRD.out wr HGQ.out
        have HBW := Lib.hid hbw
        clear hR3 hbw
        go_wp2_with fail
        refine HCL.out.mono ?_
        rintro e w3 ⟨v, rfl, hO, b3⟩
        have HE : Hid (OwI w3 W.heap.size v (stepF m l r)) := Lib.hid (by
          have h := hO.low (show W.heap.size ≤ wr.heap.size by have := HBW.out.size; have := HB1.out.size; omega)
          have e1 : stL k (Cl m (Mv m (Inn k l) r)) = stepF m l r := by unfold stepF; rw [HEQ.out.2.2]; rfl
          rw [e1] at h
          exact h)
        have HBE := Lib.hid (HB1.out.trans (b3.mono HB1.out.size))
        clear hO b3 d0 d1 d2
        go_wp2_with fail
        go_ret
        exact ⟨_, _, rfl, HE.out, fun _ => rfl, fun h => by rw [HQ.out] at h; (cases h), HBE.out⟩
      | succ gko =>
        have hlt : (q : Int) < (n : Int) := by omega
        have hql : q < l.length := by have := HN.out; omega
        have hq0 : (0 : Int) ≤ (q : Int) := by omega
        have hwq : wrap64 ((q : Int) + 1) = ((q + 1 : Nat) : Int) := by rw [IntWalk.wrap64_in _ (by omega)]; omega
        obtain ⟨g5, o5, rfl, hg5, hc5⟩ := HL.out q hql
        obtain ⟨x, hx⟩ : ∃ x, x = l[q] := ⟨_, rfl⟩
        rw [← hx] at hc5
        have hc51 := (HV1.out.cell (p := ⟨g5, o5 + q, none⟩) hg5).trans hc5
        have HCX := Lib.hid (fun (Y : World) (hY : w2.grownBy Y (some g)) => (((HWB.out Y hY).cell (p := ⟨g5, o5 + q, none⟩) (show g5 < w1.heap.size by have := HV1.out.size; omega)).trans hc51 : Y.cell? ⟨g5, o5 + q, none⟩ = some (.int .i64 x)))
        have HGD : Hid (w2.grownBy wr.drew (some g)) := Lib.hid (⟨HGQ.out.os, HGQ.out.tape, HGQ.out.output, HGQ.out.size, HGQ.out.block⟩)
        have HRD1 : Hid (MkG 3 (.int .i64 1) (.int .i64 0) wr.drew w1.heap.size g k (Mv m (Inn k (l.take q)) r)) := Lib.hid HRQ.out
        have e5 := HCX.out wr.drew HGD.out
        obtain ⟨d0, d1, d2⟩ := HRD.out wr.drew HGD.out
        have HSK := Lib.hid (fun (h : ¬ (0 ≤ x ∧ x < (k : Int))) (j : Nat) => mv_skip m r hql (by rw [← hx]; exact h) j)
        have HAD := Lib.hid (fun (s : Nat) (h : x = (s : Int)) (hs : s < k) (j : Nat) => mv_add m r hql (by rw [← hx]; exact h) hs j)
        clear hc5 hc51 hg5 hx hql
        by_cases hxr : 0 ≤ x ∧ x < (k : Int)
        · obtain ⟨s, rfl⟩ : ∃ s : Nat, x = (s : Int) := ⟨x.toNat, by omega⟩
          have hsk : s < k := by omega
          have h1 : ¬ ((s : Int) < 0) := by omega
          have h2 : ¬ ((k : Int) ≤ (s : Int)) := by omega
          have h2' : (s : Int) < (k : Int) := by omega
          have h3 : (0 : Int) ≤ (s : Int) := by omega
          have hd1 : decide ((s : Int) < 0) = false := decide_eq_false h1
          have hd2 : decide (k ≤ s) = false := decide_eq_false (by omega)
          have hse : s < m.ed.length := by have := HG.out.ed; have := HEQ.out; omega
          obtain ⟨ge, oe, Pe, ce, rfl, hge, hce, hEd⟩ := HM1.out.mr.ed s hse
          obtain ⟨es, hes⟩ : ∃ es, es = m.ed.getD s [] := ⟨_, rfl⟩
          have hee : m.ed[s] = es := by rw [hes, row_at hse]
          rw [hee] at hce hEd
          obtain ⟨ne, hne⟩ : ∃ ne, ne = es.length := ⟨_, rfl⟩
          rw [← hne] at hce
          have HCE := Lib.hid (fun (Y : World) (hY : w2.grownBy Y (some g)) => (((HWB.out Y hY).cell (p := ⟨ge, oe + s, none⟩) hge).trans hce : Y.cell? ⟨ge, oe + s, none⟩ = some (.slice Pe ne ce)))
          have HES : Hid (ne = es.length ∧ ne ≤ 9223372036854775807 ∧ ∀ e ∈ es, e.2.length ≤ 1000000) := Lib.hid ⟨hne, by rw [hne, hes]; exact (HG.out.len s hse).1, by rw [hes]; exact (HG.out.len s hse).2⟩
          have HET : Hid (∀ j (h : j < es.length), 0 ≤ es[j].1 ∧ es[j].1 < (k : Int)) := Lib.hid (fun j h => by
            have h1 : es[j] ∈ m.ed.getD s [] := by rw [← hes]; exact List.getElem_mem h
            obtain ⟨row, h2, h3⟩ := mem_row h1
            have := HG.out.tow row h2 _ h3
            have := HEQ.out
            omega)
          have HEV := Lib.hid hEd
          have HSN : Hid (∀ j, Mv m (Inn k (l.take (q + 1))) r j ↔ Mv m (Inn k (l.take q)) r j ∨ MvE es r j) := Lib.hid (fun j => by rw [hes]; exact HAD.out s rfl hsk j)
          have hne8 : ne ≤ 9223372036854775807 := HES.out.2.1
          have hn0k : (s : Int) < (n0 : Int) := by have := HEQ.out; omega
          clear hxr hsk hse hge hce hEd hes hee hne
          go_wp2_with fail
          go_region
          all_goals
            have HG3 : Hid (w2.grownBy wr.drew.drew (some g)) := Lib.hid (⟨HGQ.out.os, HGQ.out.tape, HGQ.out.output, HGQ.out.size, HGQ.out.block⟩)
            have HR3 : Hid (MkG 3 (.int .i64 1) (.int .i64 0) wr.drew.drew w1.heap.size g k (fun j => Mv m (Inn k (l.take q)) r j ∨ MvE (es.take 0) r j)) := Lib.hid (MkG.congr (show MkG _ _ _ wr.drew.drew _ _ _ _ from HRQ.out) (fun j _ => by rw [List.take_zero]; exact ⟨.inl, fun h => h.elim id (fun h => ((mve_nil r j).1 h).elim)⟩))
            clear e5 d0 d1 d2 hd1 hd2 h2
            have e5 := HCX.out _ HG3.out
            obtain ⟨d0, d1, d2⟩ := HRD.out _ HG3.out
            have e6 := HCE.out _ HG3.out
            go_wp2_with fail
            go_region
            all_goals
              clear e5 e6 d0 d1 d2 h1 h2' h3 hn0k
              go_wp2_with fail
              go_loopg [10] ne (fun gk s10 wx => ∃ j : Nat, j + gk = ne ∧ s10 = .int .i64 j ∧ Hid (MkG 3 (.int .i64 1) (.int .i64 0) wx w1.heap.size g k (fun i => Mv m (Inn k (l.take q)) r i ∨ MvE (es.take j) r i)) ∧ Hid (w2.grownBy wx (some g)))
              case atStart => exact ⟨0, by omega, rfl, HR3, HG3⟩
              case round =>
                obtain ⟨j, hjg, rfl, HRJ, HGJ⟩ := hrel
                cases gk with
                | zero =>
                  obtain rfl : j = ne := by omega
                  have hlt2 : ¬ (j : Int) < (j : Int) := by omega
                  have hte : es.take j = es := List.take_of_length_le (by have := HES.out; omega)
                  have HR4 : Hid (MkG 3 (.int .i64 1) (.int .i64 0) wr w1.heap.size g k (Mv m (Inn k (l.take (q + 1))) r)) := Lib.hid (HRJ.out.congr (fun i _ => by rw [hte]; exact (HSN.out i).symm))
                  clear hte
                  go_wp2_with fail
                  go_roundg gko
                  case measure => omega
                  case rel => exact ⟨q + 1, by omega, by first | rw [hwq] | rfl | simp, HR4, HGJ⟩
                | succ gk =>
                  have hlt2 : (j : Int) < (ne : Int) := by omega
                  have hjl : j < es.length := by have := HES.out; omega
                  have hj0 : (0 : Int) ≤ (j : Int) := by omega
                  have hwj : wrap64 ((j : Int) + 1) = ((j + 1 : Nat) : Int) := by rw [IntWalk.wrap64_in _ (by omega)]; omega
                  have hbw := HWB.out wr HGJ.out
                  obtain ⟨ga, oa, sp, sc, rfl, hga, c1', c2', hsl⟩ := HEV.out.step hbw j hjl
                  have htb := HET.out j hjl
                  obtain ⟨ee, hee⟩ : ∃ e, e = es[j] := ⟨_, rfl⟩
                  have HEJ : Hid (es.take (j + 1) = es.take j ++ [ee]) := Lib.hid (by rw [List.take_succ_eq_append_getElem hjl, hee])
                  have hl8 := HES.out.2.2 es[j] (List.getElem_mem hjl)
                  rw [← hee] at c1' c2' hsl htb hl8
                  obtain ⟨t, ls⟩ := ee
                  dsimp only at c1' c2' hsl htb hl8
                  obtain ⟨u, rfl⟩ : ∃ u : Nat, t = (u : Int) := ⟨t.toNat, by omega⟩
                  have hun : u < k := by omega
                  have hu0 : (0 : Int) ≤ (u : Int) := by omega
                  have hu1 : (u : Int) < (k : Int) := by omega
                  have HMJ : Hid (∀ i, (Mv m (Inn k (l.take q)) r i ∨ MvE (es.take (j + 1)) r i) ↔ ((Mv m (Inn k (l.take q)) r i ∨ MvE (es.take j) r i) ∨ (i = u ∧ Tells ls r))) := Lib.hid (fun i => by
                    rw [HEJ.out, mve_snoc, or_assoc]
                    refine or_congr Iff.rfl (or_congr Iff.rfl ?_)
                    constructor
                    · rintro ⟨h1, h2⟩; exact ⟨by dsimp only at h1; omega, h2⟩
                    · rintro ⟨rfl, h2⟩; exact ⟨rfl, h2⟩)
                  have HHAS := Lib.hid (rhas_any sp sc ls r wr hsl hl8)
                  obtain ⟨ln, hln⟩ : ∃ ln, ln = ls.length := ⟨_, rfl⟩
                  rw [← hln] at c2' HHAS
                  clear hsl hl8 htb hee hln hbw hjl hga
                  by_cases hT : Tells ls r
                  · have hd : decide (Tells ls r) = true := decide_eq_true hT
                    rw [hd] at HHAS
                    obtain ⟨w0, f2⟩ := HRJ.out.ex hun
                    have f3 := HRJ.out.frz u
                    obtain ⟨hR5, hg5⟩ := HRJ.out.set hun
                    have HR5 := Lib.hid (hR5.congr (fun i _ => (show _ ↔ (Mv m (Inn k (l.take q)) r i ∨ MvE (es.take (j + 1)) r i) by
                      rw [HMJ.out i]
                      exact or_congr Iff.rfl ⟨fun h => ⟨h, hT⟩, fun h => h.1⟩)))
                    have HG5 := Lib.hid (grown_trans HGJ.out hg5 (fun j hj => .inl (Option.some.inj hj).symm))
                    clear hT hun hR5 hg5 hd
                    go_wp2_with fail
                    refine HHAS.out.mono ?_
                    rintro e w4 ⟨rfl, rfl⟩
                    clear HHAS
                    go_wp2_with fail
                    go_roundg gk
                    case measure => omega
                    case rel => exact ⟨j + 1, by omega, by first | rw [hwj] | rfl | simp, HR5, HG5⟩
                  · have hd : decide (Tells ls r) = false := decide_eq_false hT
                    rw [hd] at HHAS
                    have HR5 := Lib.hid (HRJ.out.congr (fun i _ => (show _ ↔ (Mv m (Inn k (l.take q)) r i ∨ MvE (es.take (j + 1)) r i) by
                      rw [HMJ.out i]
                      exact ⟨.inl, fun h => h.elim id (fun h => absurd h.2 hT)⟩)))
                    clear hT hun hd
                    go_wp2_with fail
                    refine HHAS.out.mono ?_
                    rintro e w4 ⟨rfl, rfl⟩
                    clear HHAS
                    go_wp2_with fail
                    go_roundg gk
                    case measure => omega
                    case rel => exact ⟨j + 1, by omega, by first | rw [hwj] | rfl | simp, HR5, HGJ⟩
        · have HR3 : Hid (MkG 3 (.int .i64 1) (.int .i64 0) wr.drew w1.heap.size g k (Mv m (Inn k (l.take (q + 1))) r)) := Lib.hid (HRD1.out.congr (fun j _ => (HSK.out hxr j).symm))
          rcases (show x < 0 ∨ (¬ x < 0 ∧ (k : Int) ≤ x) by omega) with h1 | ⟨h1, h2⟩
          · have hd1 : decide (x < 0) = true := decide_eq_true h1
            clear hxr
            go_wp2_with fail
            go_region
            all_goals
              clear e5 d0 d1 d2 hd1
              go_wp2_with fail
              go_roundg gko
              case measure => omega
              case rel => exact ⟨q + 1, by omega, by first | rw [hwq] | rfl | simp, HR3, HGD⟩
          · have hd1 : decide (x < 0) = false := decide_eq_false h1
            have hd2 : decide ((k : Int) ≤ x) = true := decide_eq_true h2
            clear hxr
            go_wp2_with fail
            go_region
            all_goals
              clear e5 d0 d1 d2 hd1 hd2
              go_wp2_with fail
              go_roundg gko
              case measure => omega
              case rel => exact ⟨q + 1, by omega, by first | rw [hwq] | rfl | simp, HR3, HGD⟩
end Go.Proofs.YtioahgklplbinaaDoor
