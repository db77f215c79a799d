/- The program's Sound of machines. -/
import Derived.Test.YtioahgklplbinaaDoorNMr
import Derived.Deep.RegionHeld3
import Derived.Deep.RegionWith
namespace NfaM
open SetM WrM
def okR (m : Mc) (i : Nat) : Bool := decide (-1 ≤ m.tg.getD i 0) && (allE m.tg.length (m.ed.getD i []) && allI m.tg.length (m.fr.getD i []))
def szM (m : Mc) : Prop := 1 ≤ m.tg.length ∧ m.tg.length ≤ 2000 ∧ m.ed.length = m.tg.length ∧ m.fr.length = m.tg.length
instance (m : Mc) : Decidable (szM m) := by unfold szM; infer_instance
def rowsM (m : Mc) (r : Nat) : Bool := (List.range r).all (okR m)
def sndM (m : Mc) : Bool := decide (szM m) && rowsM m m.tg.length
theorem sndM_no {m : Mc} (h : ¬ szM m) : sndM m = false := by unfold sndM; rw [decide_eq_false h]; rfl
theorem sndM_yes {m : Mc} (h : szM m) : sndM m = rowsM m m.tg.length := by unfold sndM; rw [decide_eq_true h]; rfl
theorem rows_succ' (m : Mc) (r : Nat) : rowsM m (r + 1) = (rowsM m r && okR m r) := by unfold rowsM; rw [List.range_succ, List.all_append]; simp
theorem rows_bad {m : Mc} {i r : Nat} (h : okR m i = false) (hi : i < r) : rowsM m r = false := by
  unfold rowsM
  rw [List.all_eq_false]
  exact ⟨i, List.mem_range.2 hi, by rw [h]; simp⟩
end NfaM
namespace Go.Proofs.YtioahgklplbinaaDoor
open Go.RowKit Go.Shelf Go.Maps SetM PropsM RxM WrM NfaM
theorem getD_of {α : Type} {l : List α} {i : Nat} (h : i < l.length) (d : α) : l.getD i d = l[i] := by simp [List.getD, h]
set_option maxRecDepth 100000 in
set_option maxHeartbeats 16000000 in
theorem psound_c {W : World} {p0 p1 p2 : Option Addr} {n0 n1 k c0 c1 c2 : Nat} {m : Mc} (h : MR W p0 p1 p2 m) (e0 : n0 = m.ed.length) (e1 : n1 = m.fr.length) (e2 : k = m.tg.length) (hed : ∀ i < m.ed.length, (m.ed.getD i []).length ≤ 9223372036854775807 ∧ ∀ e ∈ m.ed.getD i [], e.2.length ≤ 1000000) (hfr : ∀ i < m.fr.length, (m.fr.getD i []).length ≤ 9223372036854775807) :
    Calls Tryd.prog 25 #[.agg #[.slice p0 n0 c0, .slice p1 n1 c1, .slice p2 k c2]] W fun e W' => e = .returned (.bool (sndM m)) ∧ Below W.heap.size W W' := by
  obtain ⟨V0, hV0⟩ : ∃ V, V = W.alloc (.cells #[.slice p0 n0 c0, .slice p1 n1 c1, .slice p2 k c2] 30) := ⟨_, rfl⟩
  obtain ⟨V1, hV1⟩ : ∃ V, V = V0.alloc (.cells #[.int .i64 k] 3) := ⟨_, rfl⟩
  have z0 : V0.heap.size = W.heap.size + 1 := by rw [hV0, World.size_alloc]
  have z1 : V1.heap.size = W.heap.size + 2 := by rw [hV1, World.size_alloc, z0]
  have hb0 : Below W.heap.size W V0 := by rw [hV0]; exact (Below.refl _ _).alloc (Nat.le_refl _) _
  have hb1 : Below W.heap.size W V1 := by rw [hV1]; exact hb0.alloc (by omega) _
  have x0 : V1.heap[W.heap.size]? = some (.cells #[.slice p0 n0 c0, .slice p1 n1 c1, .slice p2 k c2] 30 (0, 0)) := by rw [hV1, Lib.alloc_old _ _ _ (by omega), hV0]; exact heap_alloc_new W _
  have x1 : V1.heap[W.heap.size + 1]? = some (.cells #[.int .i64 k] 3 (0, 0)) := by rw [hV1, ← z0]; exact heap_alloc_new V0 _
  have y0 := (cells3 (show V0.heap[W.heap.size]? = some (.cells #[.slice p0 n0 c0, .slice p1 n1 c1, .slice p2 k c2] 30 (0, 0)) by rw [hV0]; exact heap_alloc_new W _)).1.2.2
  obtain ⟨⟨a0, a1, a2⟩, _⟩ := cells3 x0
  have b1 := cell1 x1
  have HX := Lib.hid (And.intro x0 x1)
  have HB1 := Lib.hid hb1
  have HZ0 := Lib.hid z0
  have HZ1 := Lib.hid z1
  have HM := Lib.hid h
  have HE := Lib.hid (And.intro e0 (And.intro e1 e2))
  have HED := Lib.hid hed
  have HFR := Lib.hid hfr
  clear h e0 e1 e2 hed hfr hb0 hb1 x0 x1 z1
  go_enter Tryd.func25, Tryd.ntmps25
  go_upto_region 2 with fail
  rw [← hV0, ← hV1]
  clear hV1 hV0 z0 y0
  by_cases hsz : szM m
  · have HSZ := Lib.hid hsz
    have hk0 : ((k : Int) == 0) = false := by rw [beq_eq_false_iff_ne]; have a := HE.out; unfold szM at hsz; omega
    have hk2 : ¬ (2000 : Int) < (k : Int) := by have a := HE.out; unfold szM at hsz; omega
    obtain ⟨rfl, rfl⟩ : n0 = k ∧ n1 = k := by have a := HE.out; unfold szM at hsz; omega
    have hkk : ((n1 : Int) != (n1 : Int)) = false := by rw [bne_eq_false_iff_eq]
    obtain ⟨V2, hV2⟩ : ∃ V, V = V1.alloc (.cells #[.func (.func 34) #[] #[.pointer (some ⟨W.heap.size + 1, 0, none⟩)]] 61) := ⟨_, rfl⟩
    have hst : (store ⟨V1.heap.size, 0, none⟩ (.func (.func 34) #[] #[.pointer (some ⟨W.heap.size + 1, 0, none⟩)])).run Tryd.prog (V1.alloc (.cells #[.nilFunc] 61)) = .ok () V2 := by
      have hnw := heap_alloc_new V1 (.cells #[.nilFunc] 61)
      have hcl : (V1.alloc (.cells #[.nilFunc] 61)).cell? ⟨V1.heap.size, 0, none⟩ = some .nilFunc := cell_of_row _ _ 0 _ _ _ hnw
      have hfz : (V1.alloc (.cells #[.nilFunc] 61)).frozen? ⟨V1.heap.size, 0, none⟩ = false := frozen_of_row _ _ 0 _ _ hnw
      rw [run_store _ _ _ _ _ rfl, hcl, hfz, World.setCell_alloc_new, hV2]
      rfl
    have hb2 : Below V1.heap.size V1 V2 := by rw [hV2]; exact (Below.refl _ _).alloc (Nat.le_refl _) _
    have hsd : SdB V2 (W.heap.size + 1) (W.heap.size + 2) n1 := ⟨(hb2.block _ (by have := HZ1.out; omega)).trans HX.out.2, by rw [hV2, ← HZ1.out]; exact heap_alloc_new V1 _⟩
    have HSD := Lib.hid hsd
    have HB2 := Lib.hid (HB1.out.trans (hb2.mono HB1.out.size))
    have HM2 := Lib.hid (HM.out.step HB2.out)
    have HBX := Lib.hid ((hb2.block _ (by have := HZ1.out; omega)).trans HX.out.1)
    have HBL := Lib.hid (Array.getElem?_eq_some_iff.1 HBX.out).1
    have hk8 : n1 ≤ 2000 := by omega
    clear hsz hb2 hsd
    go_upto_region 6 with fail
    rw [← hV2, HZ1.out]
    clear hV2 hst a0 a1 a2 b1 hk0 hk2 hkk
    have b2 := cell1 HSD.out.sx
    go_wp2_with fail

    go_loopg [6, 33] n1 (fun gk s6 s33 wx => ∃ r : Nat, r + gk = n1 ∧ s33 = .int .i64 r ∧ Hid (rowsM m r = true) ∧ Hid (Below V2.heap.size V2 wx))
    case atStart => exact ⟨0, by omega, rfl, Lib.hid rfl, Lib.hid (Below.refl _ _)⟩
    case round =>
      obtain ⟨r, hrg, rfl, HA, HB⟩ := hrel
      clear b2
      cases gk with
      | zero =>
        obtain rfl : r = n1 := by omega
        have hlt : ¬ (r : Int) < (r : Int) := by omega
        have HQ : Hid (sndM m = true) := Lib.hid (by rw [sndM_yes HSZ.out, ← HE.out.2.2]; exact HA.out)
        have HBE := Lib.hid (HB2.out.trans (HB.out.mono HB2.out.size))
        go_wp2
        go_ret
        exact ⟨by rw [HQ.out]; rfl, HBE.out⟩
      | succ gk =>
        have hlt : (r : Int) < (n1 : Int) := by omega
        have h0 : (0 : Int) ≤ (r : Int) := by omega
        have hwr : wrap64 ((r : Int) + 1) = ((r + 1 : Nat) : Int) := by rw [IntWalk.wrap64_in _ (by omega)]; omega
        have hre : r < m.ed.length := by have := HE.out; omega
        have hrf : r < m.fr.length := by have := HE.out; omega
        have hrt : r < m.tg.length := by have := HE.out; omega
        have hM := HM2.out.step HB.out
        obtain ⟨g0, o0, Pe, ce, rfl, hg0, hc0, hed⟩ := hM.ed r hre
        obtain ⟨g1, o1, Pf, cf, rfl, hg1, hc1, hfr⟩ := hM.fr r hrf
        obtain ⟨g2, o2, rfl, hg2, hc2⟩ := hM.tg r hrt
        obtain ⟨t, ht⟩ : ∃ t, t = m.tg[r] := ⟨_, rfl⟩
        rw [← ht] at hc2
        obtain ⟨es, hes⟩ : ∃ es, es = m.ed[r] := ⟨_, rfl⟩
        rw [← hes] at hc0 hed
        obtain ⟨fs, hfs⟩ : ∃ fs, fs = m.fr[r] := ⟨_, rfl⟩
        rw [← hfs] at hc1 hfr
        have HK : Hid (okR m r = (decide (-1 ≤ t) && (allE n1 es && allI n1 fs))) := Lib.hid (by
          unfold okR
          rw [getD_of hrt, getD_of hre, getD_of hrf, ← ht, ← hes, ← hfs, ← HE.out.2.2])
        obtain ⟨le, hle⟩ : ∃ le, le = es.length := ⟨_, rfl⟩
        rw [← hle] at hc0
        obtain ⟨lf, hlf⟩ : ∃ lf, lf = fs.length := ⟨_, rfl⟩
        rw [← hlf] at hc1
        have hE8 := HED.out r hre
        rw [getD_of hre, ← hes] at hE8
        have hF8 := HFR.out r hrf
        rw [getD_of hrf, ← hfs] at hF8
        have HBXr := Lib.hid ((HB.out.block _ HBL.out).trans HBX.out)
        have HCE := Lib.hid (fun (U : World) (hU : Below wr.heap.size wr U) => contE_c (c := ce) (hed.step hU) hle (by rw [hle]; exact hE8.1) hE8.2 ((HSD.out.step HB.out).step hU))
        have HCI := Lib.hid (fun (U : World) (hU : Below wr.heap.size wr U) => contI_c (c := cf) (hfr.step hU) hlf (by rw [hlf]; exact hF8) ((HSD.out.step HB.out).step hU))
        obtain ⟨qe, hqe⟩ : ∃ q, q = allE n1 es := ⟨_, rfl⟩
        rw [← hqe] at HCE HK
        obtain ⟨qf, hqf⟩ : ∃ q, q = allI n1 fs := ⟨_, rfl⟩
        rw [← hqf] at HCI HK
        have HCL := Lib.hid (fun (U : World) (hU : Below wr.heap.size wr U) => (⟨(cells3 ((hU.block _ (by have := HB.out.size; have := HBL.out; omega)).trans HBXr.out)).1, (hU.cell (p := ⟨g0, o0 + r, none⟩) hg0).trans hc0, (hU.cell (p := ⟨g1, o1 + r, none⟩) hg1).trans hc1, (hU.cell (p := ⟨g2, o2 + r, none⟩) hg2).trans hc2, cell1 ((HSD.out.step HB.out).step hU).sy⟩ : (U.cell? ⟨W.heap.size, 0, none⟩ = some (.slice (some ⟨g0, o0, none⟩) n1 c0) ∧ U.cell? ⟨W.heap.size, 1, none⟩ = some (.slice (some ⟨g1, o1, none⟩) n1 c1) ∧ U.cell? ⟨W.heap.size, 2, none⟩ = some (.slice (some ⟨g2, o2, none⟩) n1 c2)) ∧ U.cell? ⟨g0, o0 + r, none⟩ = some (.slice Pe le ce) ∧ U.cell? ⟨g1, o1 + r, none⟩ = some (.slice Pf lf cf) ∧ U.cell? ⟨g2, o2 + r, none⟩ = some (.int .i64 t) ∧ U.cell? ⟨W.heap.size + 2, 0, none⟩ = some (.func (.func 34) #[] #[.pointer (some ⟨W.heap.size + 1, 0, none⟩)])))
        have HBE := Lib.hid (HB2.out.trans (HB.out.mono HB2.out.size))
        clear hM hed hfr ht hes hfs hle hlf hE8 hF8 hqe hqf hc0 hc1 hc2 hg0 hg1 hg2 hre hrf
        go_upto_region 9 with fail
        by_cases hA : t < -1
        · have HQ : Hid (sndM m = false) := Lib.hid (by rw [sndM_yes HSZ.out]; exact rows_bad (by rw [HK.out, decide_eq_false (by omega)]; rfl) hrt)
          obtain ⟨⟨a0, a1, a2⟩, d0, d1, d2, d3⟩ := HCL.out wr.drew ((Below.refl _ _).drew)
          go_region
          all_goals
            go_wp2
            go_ret
            exact ⟨by rw [HQ.out]; rfl, HBE.out.drew⟩
        · have hA' : ¬ t < -1 := hA
          have hd : decide (-1 ≤ t) = true := decide_eq_true (by omega)
          rw [hd, Bool.true_and] at HK
          clear hd hA
          cases qe with
          | false =>
            have HQ : Hid (sndM m = false) := Lib.hid (by rw [sndM_yes HSZ.out]; exact rows_bad (by rw [HK.out]; rfl) hrt)
            have HF := Lib.hid (HCE.out wr.drew ((Below.refl _ _).drew))
            obtain ⟨⟨a0, a1, a2⟩, d0, d1, d2, d3⟩ := HCL.out wr.drew ((Below.refl _ _).drew)
            first
            | (go_region_with (first
              | (go_at_call 37; refine HF.out.mono ?_; rintro ee w4 ⟨rfl, b4⟩; have HB4 := Lib.hid (HBE.out.drew.trans (b4.mono HBE.out.drew.size)); obtain ⟨⟨x0, x1, x2⟩, y0, y1, y2, y3⟩ := HCL.out w4 ((Below.refl _ _).drew.trans b4); clear b4)))
            | fail
            all_goals
              clear a0 a1 a2 d0 d1 d2 d3 x0 x1 x2 y0 y1 y2 y3
              go_wp2
              go_ret
              exact ⟨by rw [HQ.out]; rfl, HB4.out⟩
          | true =>
            rw [Bool.true_and] at HK
            have hr : Below wr.heap.size wr wr.drew := (Below.refl _ _).drew
            go_region_held3 (fun U => (U.cell? ⟨W.heap.size, 0, none⟩ = some (.slice (some ⟨g0, o0, none⟩) n1 c0) ∧ U.cell? ⟨W.heap.size, 1, none⟩ = some (.slice (some ⟨g1, o1, none⟩) n1 c1) ∧ U.cell? ⟨W.heap.size, 2, none⟩ = some (.slice (some ⟨g2, o2, none⟩) n1 c2)) ∧ U.cell? ⟨g0, o0 + r, none⟩ = some (.slice Pe le ce) ∧ U.cell? ⟨g1, o1 + r, none⟩ = some (.slice Pf lf cf) ∧ U.cell? ⟨g2, o2 + r, none⟩ = some (.int .i64 t) ∧ U.cell? ⟨W.heap.size + 2, 0, none⟩ = some (.func (.func 34) #[] #[.pointer (some ⟨W.heap.size + 1, 0, none⟩)]))
              (exact HCL.out _ hr)
              (first
                | (go_at_call 37; (refine (HCE.out _ hr).mono ?_); rintro ee w4 ⟨rfl, b4⟩; have hr := hr.trans (b4.mono hr.size))
                | (go_at_call 38; (refine (HCI.out _ hr).mono ?_); rintro ee w5 ⟨rfl, b5⟩; have hr := hr.trans (b5.mono hr.size)))
            have HB5 := Lib.hid (HB.out.trans (hr.mono HB.out.size))
            have HB6 := Lib.hid (HB2.out.trans (HB5.out.mono HB2.out.size))
            clear hr b4 b5
            cases qf with
            | false =>
              have HQ : Hid (sndM m = false) := Lib.hid (by rw [sndM_yes HSZ.out]; exact rows_bad HK.out hrt)
              go_wp2
              go_ret
              exact ⟨by rw [HQ.out]; rfl, HB6.out⟩
            | true =>
              have HA2 : Hid (rowsM m (r + 1) = true) := Lib.hid (by rw [rows_succ', HA.out, HK.out]; rfl)
              go_wp2
              go_roundg gk
              case measure => omega
              case rel => exact ⟨r + 1, by omega, by first | rw [hwr] | rfl | simp, HA2, HB5⟩
  · have HQ : Hid (sndM m = false) := Lib.hid (sndM_no hsz)
    rcases (show k = 0 ∨ (¬ k = 0 ∧ 2000 < k) ∨ (¬ k = 0 ∧ ¬ 2000 < k ∧ n0 ≠ k) ∨ (¬ k = 0 ∧ ¬ 2000 < k ∧ n0 = k ∧ n1 ≠ k) by
      have a := HE.out
      unfold szM at hsz
      omega) with h1 | ⟨h1, h2⟩ | ⟨h1, h2, h3⟩ | ⟨h1, h2, h3, h4⟩
    · have g1 : ((k : Int) == 0) = true := by rw [beq_iff_eq]; omega
      clear hsz h1
      go_wp2
      go_ret
      exact ⟨by rw [HQ.out]; rfl, HB1.out⟩
    · have g1 : ((k : Int) == 0) = false := by rw [beq_eq_false_iff_ne]; omega
      have g2 : (2000 : Int) < (k : Int) := by omega
      clear hsz h1 h2
      go_wp2
      go_ret
      exact ⟨by rw [HQ.out]; rfl, HB1.out⟩
    · have g1 : ((k : Int) == 0) = false := by rw [beq_eq_false_iff_ne]; omega
      have g2 : ¬ (2000 : Int) < (k : Int) := by omega
      have g3 : ((n0 : Int) != (k : Int)) = true := by rw [bne_iff_ne]; omega
      clear hsz h1 h2 h3
      go_wp2
      go_ret
      exact ⟨by rw [HQ.out]; rfl, HB1.out⟩
    · have g1 : ((k : Int) == 0) = false := by rw [beq_eq_false_iff_ne]; omega
      have g2 : ¬ (2000 : Int) < (k : Int) := by omega
      have g3 : ((n0 : Int) != (k : Int)) = false := by rw [bne_eq_false_iff_eq]; omega
      have g4 : ((n1 : Int) != (k : Int)) = true := by rw [bne_iff_ne]; omega
      clear hsz h1 h2 h3 h4
      go_wp2
      go_ret
      exact ⟨by rw [HQ.out]; rfl, HB1.out⟩
end Go.Proofs.YtioahgklplbinaaDoor
