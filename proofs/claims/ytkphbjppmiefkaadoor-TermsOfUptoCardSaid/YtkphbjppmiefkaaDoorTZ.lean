/- Several texts in one: TSorted, TROf. -/
import Derived.BigQuiet
import Derived.Test.YtkphbjppmiefkaaDoorTRX
import Derived.Deep.RegionHeld3
import Derived.Test.YtkphbjppmiefkaaDoorTPU
section
/- The document's sorted: by their least scalars. -/
namespace TermsM
open SetM
theorem layP_at {x : List Sp} : ∀ {os : List (List Sp)} {k : Nat}, k ≤ os.length → (∀ j (h : j < os.length), j < k → lo os[j] < lo x) → (∀ h : k < os.length, ¬ lo os[k] < lo x) → layP os x = os.take k ++ (x :: os.drop k)
  | [], k, h, _, _ => by
    obtain rfl : k = 0 := by simpa using h
    rfl
  | y :: t, 0, _, _, h2 => by
    have : ¬ lo y < lo x := h2 (by simp)
    rw [layP, if_neg this]
    rfl
  | y :: t, k + 1, h, h1, h2 => by
    have h0 : lo y < lo x := h1 0 (by simp) (by omega)
    rw [layP, if_pos h0, layP_at (os := t) (k := k) (by rw [List.length_cons] at h; omega) (fun j hj hk => by have := h1 (j + 1) (by rw [List.length_cons]; omega) (by omega); simpa using this) (fun hk => by have := h2 (by rw [List.length_cons]; omega); simpa using this)]
    rfl
theorem layP_len (x : List Sp) : ∀ (os : List (List Sp)), (layP os x).length = os.length + 1
  | [] => rfl
  | y :: t => by
    rw [layP]
    split
    · rw [List.length_cons, layP_len x t, List.length_cons]
    · rfl
theorem sortP_take {ls : List (List Sp)} {i : Nat} (h : i < ls.length) : sortP (ls.take (i + 1)) = layP (sortP (ls.take i)) ls[i] := by rw [List.take_succ_eq_append_getElem h, sortP_snoc]
theorem lo_get {y : List Sp} (h : 0 < y.length) : lo y = y[0].1 := by
  cases y with
  | nil => simp at h
  | cons a t => rfl
end TermsM
namespace Go.Proofs.YtkphbjppmiefkaaDoor
open Go.RowKit Go.Shelf Go.Maps SetM TermsM
theorem Rs.form' {W : World} {P : Option Addr} {ls : List (List Sp)} (h : Rs W P ls) (hne : 0 < ls.length) : ∃ b off, P = some ⟨b, off, none⟩ := by
  obtain ⟨b, off, e, _⟩ := h (by intro e; rw [e] at hne; simp at hne)
  exact ⟨b, off, e⟩
theorem RO.rs2 {base : Nat} {W : World} {v : Value} {ls : List (List Sp)} (h : RO base W v ls) (hb : base ≤ W.heap.size) : ∃ P c, v = .slice P ls.length c ∧ Rs W P ls ∧ (P = none → c = 0) ∧ ls.length ≤ c := by
  obtain ⟨P, c, h1, h2, h3⟩ := h.rs hb
  refine ⟨P, c, h1, h2, h3, ?_⟩
  obtain ⟨xs, k1, _⟩ := h
  rcases k1.2 with ⟨e, h0⟩ | ⟨g, cap, cur, e, _, _, hc, _⟩
  · omega
  · rw [h1] at e
    cases e
    exact hc
theorem drewN_low {n : Nat} {W V : World} (h : Below n W V) (k : Nat) : Below n W (V.drewN k) := h.trans ⟨rfl, rfl, rfl, Nat.le_refl _, fun _ _ => rfl⟩
set_option maxRecDepth 100000 in
set_option maxHeartbeats 8000000 in
theorem rsorted_c {W : World} {A : Option Addr} {n ca : Nat} {ls : List (List Sp)} (hn : n = ls.length) (h8 : n ≤ 5000) (hR : Rs W A ls) (hne : ∀ x ∈ ls, x ≠ []) :
    Calls Tryd.prog 33 #[.slice A n ca] W fun e W' => ∃ P c, e = .returned (.slice P (sortP ls).length c) ∧ Rs W' P (sortP ls) ∧ (P = none → c = 0) ∧ Below W.heap.size W W' := by
  have HN := Lib.hid hn
  have HR := Lib.hid hR
  have HE := Lib.hid hne
  clear hn hR hne
  go_enter Tryd.func33, Tryd.ntmps33
  go_wp2_with fail
  go_loopg [3, 4] n (fun g s3 s4 wx => ∃ (i co : Nat) (Po : Option Addr) (os : List (List Sp)), i + g = n ∧ s4 = .int .i64 i ∧ s3 = .slice Po i co ∧ Hid (i = os.length ∧ os = sortP (ls.take i) ∧ ∀ y ∈ os, y ≠ []) ∧ Hid (Rs wx Po os ∧ (Po = none → co = 0) ∧ (i = 0 → Po = none) ∧ i ≤ co) ∧ Hid (Below W.heap.size W wx))
  case atStart => exact ⟨0, 0, none, [], by omega, rfl, rfl, Lib.hid ⟨rfl, rfl, fun y hy => by cases hy⟩, Lib.hid ⟨fun h => absurd rfl h, fun _ => rfl, fun _ => rfl, Nat.le_refl _⟩, Lib.hid (Below.refl _ _)⟩
  case round =>
    obtain ⟨i, co, Po, os, hig, rfl, rfl, HO, HRO, HB⟩ := hrel
    obtain ⟨V, rfl⟩ : ∃ V, V = wr := ⟨_, rfl⟩
    cases gk with
    | zero =>
      obtain rfl : i = n := by omega
      have hlt : ¬ (i : Int) < (i : Int) := by omega
      have HS : Hid (os = sortP ls) := Lib.hid (by rw [HO.out.2.1, HN.out, List.take_length])
      go_wp2_with fail
      go_ret
      exact ⟨Po, co, by rw [← HS.out, ← HO.out.1]; rfl, by rw [← HS.out]; exact HRO.out.1, HRO.out.2.1, HB.out⟩
    | succ g =>
      have hlt : (i : Int) < (n : Int) := by omega
      have hi8 : i + 1 ≤ 5000 := by omega
      have hil : i < ls.length := by have := HN.out; omega
      obtain ⟨b, off, rfl, hb, hrow⟩ := HR.out (by intro h; rw [h] at hil; simp at hil)
      obtain ⟨Px, cx, h1, h2, h3⟩ := hrow i hil
      have HIG := Lib.hid hig
      have HIL := Lib.hid hil
      have c9 := (HB.out.cell (p := ⟨b, off + i, none⟩) hb).trans h1
      have hxs : Spans V.heap.size V Px ls[i] := (h2.below HB.out).mono HB.out.size
      have hx0 : 0 < ls[i].length := List.length_pos_iff.2 (HE.out _ (List.getElem_mem hil))
      obtain ⟨bx, ox, hPx, hbx, hcx⟩ := hxs (List.length_pos_iff.1 hx0)
      have hcx0 := (hcx 0 hx0).1
      rw [← lo_get hx0, Nat.zero_mul, Nat.add_zero] at hcx0
      obtain ⟨nx, hnx⟩ : ∃ nx, nx = ls[i].length := ⟨_, rfl⟩
      have c0 : V.cell? ⟨b, off + i, none⟩ = some (.slice Px nx cx) := by rw [hnx]; exact c9
      have HX1 := Lib.hid c0
      have HXB : Hid (b < V.heap.size) := Lib.hid (by have := HB.out.size; omega)
      have HX0 := Lib.hid (And.intro hPx (And.intro hbx hcx0))
      have HXS := Lib.hid (And.intro hnx (And.intro hxs (And.intro h3 hx0)))
      obtain ⟨lx, hlx⟩ : ∃ lx, lx = lo ls[i] := ⟨_, rfl⟩
      have HLX := Lib.hid hlx
      clear hlx hig hil h1 h2 h3 hrow c0 c9 hxs hx0 hPx hbx hcx hcx0 hnx hb
      go_wp2_with fail
      go_loopg [5, 6] i (fun gq s5 s6 wy => ∃ (k : Nat) (v5 : Value), k + gq = i ∧ s6 = .int .i64 k ∧ v5 = s5 ∧ Hid (∀ j (h : j < os.length), j < k → lo os[j] < lo ls[i]) ∧ Hid (RO V.heap.size wy v5 (os.take k)) ∧ Hid (Below V.heap.size V wy))
      case atStart => exact ⟨0, _, by omega, rfl, rfl, Lib.hid (fun j h hj => absurd hj (Nat.not_lt_zero _)), Lib.hid (RO.nil _ _), Lib.hid (Below.refl _ _)⟩
      case round =>
        obtain ⟨k, v5, hkg, rfl, rfl, HL, HOW, HBV⟩ := hrel
        obtain ⟨hPx, hbx, hcx⟩ := HX0.out
        subst hPx
        rw [← HLX.out] at hcx
        have f2 : wr.cell? ⟨b, off + i, none⟩ = some (.slice (some ⟨bx, ox, none⟩) nx cx) := (HBV.out.cell (p := ⟨b, off + i, none⟩) HXB.out).trans HX1.out
        have f3 : wr.cell? ⟨bx, ox, none⟩ = some (.int .i64 lx) := (HBV.out.cell (p := ⟨bx, ox, none⟩) hbx).trans hcx
        have hi0 : (0 : Int) ≤ (i : Int) := by omega
        have hk0 : (0 : Int) ≤ (k : Int) := by omega
        have hlz := (HXS.out.2.2.2 : 0 < ls[i].length)
        rw [← HXS.out.1] at hlz
        clear hcx hbx
        rcases Nat.lt_or_ge k i with hk | hk
        · have hkz : (k : Int) < (i : Int) := by omega
          have hko : k < os.length := by have := HO.out.1; omega
          have hkn : 0 < os[k].length := List.length_pos_iff.2 (HO.out.2.2 _ (List.getElem_mem hko))
          obtain ⟨bo, oo, hPo, hbo, hrow⟩ := HRO.out.1 (by intro h; rw [h] at hko; simp at hko)
          subst hPo
          obtain ⟨Pk, ck, e1, e2, e3⟩ := hrow k hko
          obtain ⟨bk, ok, hPk, hbk, hck⟩ := e2 (List.length_pos_iff.1 hkn)
          have hck0 := (hck 0 hkn).1
          rw [← lo_get hkn, Nat.zero_mul, Nat.add_zero] at hck0
          obtain ⟨lk, hlk⟩ : ∃ lk, lk = lo os[k] := ⟨_, rfl⟩
          obtain ⟨nk, hnk⟩ : ∃ nk, nk = os[k].length := ⟨_, rfl⟩
          have HK9 : Hid (V.cell? ⟨bo, oo + k, none⟩ = some (.slice Pk nk ck)) := Lib.hid (by rw [hnk]; exact e1)
          have HBO := Lib.hid hbo
          have f0 : wr.cell? ⟨bo, oo + k, none⟩ = some (.slice Pk nk ck) := (HBV.out.cell (p := ⟨bo, oo + k, none⟩) hbo).trans HK9.out
          have f1 : wr.cell? ⟨bk, ok, none⟩ = some (.int .i64 lk) := by rw [hlk]; exact (HBV.out.cell (p := ⟨bk, ok, none⟩) hbk).trans hck0
          have hnkz : (0 : Int) < (nk : Int) := by rw [hnk]; omega
          have hnxz : (0 : Int) < (nx : Int) := by omega
          have HK1 := Lib.hid (And.intro hnk (And.intro e2 (And.intro e3 hko)))
          have HLK := Lib.hid hlk
          subst hPk
          have d1 : decide ((k : Int) < (i : Int)) = true := decide_eq_true hkz
          clear hnk hlk e1 e2 e3 hrow hck hck0 hkn hbo hbk hlz hk
          go_upto_region 7 with fail
          obtain ⟨gj, rfl⟩ : ∃ gj, gk = gj + 1 := ⟨gk - 1, by omega⟩
          by_cases hll : lk < lx
          · have d2 : decide (lk < lx) = true := decide_eq_true hll
            have HLL := Lib.hid hll
            clear hll
            go_cut [33] (fun s33 wc => s33 = .bool true ∧ Hid (RO V.heap.size wc v5 (os.take k)) ∧ Hid (Below V.heap.size V wc))
            case first =>
              go_quiet (fail)
              go_wp2
              go_meet
              exact ⟨rfl, Lib.hid (HOW.out.below (drewN_low (Below.refl _ _) _) HBV.out.size), Lib.hid (drewN_low HBV.out _)⟩
            case rest =>
              obtain ⟨rfl, HOC, HBC⟩ := hcut
              clear HOW HBV f0 f1 f2 f3 d1 d2
              have f0 : wc.cell? ⟨bo, oo + k, none⟩ = some (.slice (some ⟨bk, ok, none⟩) nk ck) := (HBC.out.cell (p := ⟨bo, oo + k, none⟩) HBO.out).trans HK9.out
              have hwz := HBC.out.size
              have hb2 : Below V.heap.size V (wc.alloc (.cells #[.slice (some ⟨bk, ok, none⟩) nk ck] 28)) := HBC.out.alloc hwz _
              have hb12 : Below wc.heap.size wc (wc.alloc (.cells #[.slice (some ⟨bk, ok, none⟩) nk ck] 28)) := (Below.refl _ _).alloc (Nat.le_refl _) _
              have hlt8 : (os.take k).length ≤ 50000 := by rw [List.length_take]; omega
              go_upto_region 9 with (at_builtin; refine wpList_ro1 rfl _ _ rfl V.heap.size _ (os.take k) rfl (HOC.out.below hb12 hwz) wc.heap.size rfl (some ⟨bk, ok, none⟩) nk ck (os[k]'HK1.out.2.2.2) HK1.out.1 (heap_alloc_new wc _) HK1.out.2.2.1 (HK1.out.2.1.below hb2) hlt8 (by rw [World.size_alloc]; omega) ?_; intro v2 w2 ho2 hg2)
              have HB3 : Hid (Below V.heap.size V w2) := Lib.hid (hb2.grown hg2 (by rw [World.size_alloc]; omega) (fun k e => HOC.out.own e))
              have HO3 : Hid (RO V.heap.size w2 v2 (os.take (k + 1))) := Lib.hid (by rw [List.take_succ_eq_append_getElem HK1.out.2.2.2]; exact ho2)
              have HL3 : Hid (∀ j (h : j < os.length), j < k + 1 → lo os[j] < lo ls[i]) := Lib.hid (fun j h hj => by
                rcases Nat.lt_or_ge j k with h1 | h1
                · exact HL.out j h h1
                · obtain rfl : j = k := by omega
                  rw [← HLK.out, ← HLX.out]; exact HLL.out)
              clear hb2 hb12 ho2 hg2 HOC HBC HL f0 hlt8
              go_wp2_with fail
              go_roundg gj
              case measure => omega
              case rel => exact ⟨k + 1, v2, by omega, by go_num, rfl, HL3, HO3, HB3⟩
          · have d2 : decide (lk < lx) = false := decide_eq_false hll
            have HLL := Lib.hid hll
            clear hll
            have HLay : Hid (layP os ls[i] = os.take k ++ [ls[i]] ++ os.drop k) := Lib.hid (by rw [layP_at (k := k) (by have := HO.out.1; omega) HL.out (fun h => by rw [← HLK.out, ← HLX.out]; exact HLL.out), List.append_assoc]; rfl)
            go_cut [33] (fun s33 wc => s33 = .bool false ∧ Hid (RO V.heap.size wc v5 (os.take k)) ∧ Hid (Below V.heap.size V wc))
            case first =>
              go_quiet (fail)
              go_wp2
              go_meet
              exact ⟨rfl, Lib.hid (HOW.out.below (drewN_low (Below.refl _ _) _) HBV.out.size), Lib.hid (drewN_low HBV.out _)⟩
            case rest =>
              obtain ⟨rfl, HOC, HBC⟩ := hcut
              clear HOW HBV HL
              have c1 : wc.cell? ⟨b, off + i, none⟩ = some (.slice (some ⟨bx, ox, none⟩) nx cx) := (HBC.out.cell (p := ⟨b, off + i, none⟩) HXB.out).trans HX1.out
              have hwz := HBC.out.size
              have hb2 : Below V.heap.size V (wc.alloc (.cells #[.slice (some ⟨bx, ox, none⟩) nx cx] 28)) := HBC.out.alloc hwz _
              have hb12 : Below wc.heap.size wc (wc.alloc (.cells #[.slice (some ⟨bx, ox, none⟩) nx cx] 28)) := (Below.refl _ _).alloc (Nat.le_refl _) _
              have hlt8 : (os.take k).length ≤ 40000 := by rw [List.length_take]; omega
              go_upto_region 11 with (at_builtin; refine wpList_ro1 rfl _ _ rfl V.heap.size _ (os.take k) rfl (HOC.out.below hb12 hwz) wc.heap.size rfl (some ⟨bx, ox, none⟩) nx cx (ls[i]'HIL.out) HXS.out.1 (heap_alloc_new wc _) HXS.out.2.2.1 (HXS.out.2.1.below hb2) (by omega) (by rw [World.size_alloc]; omega) ?_; intro v2 w2 ho2 hg2)
              have HB3 : Hid (Below V.heap.size V w2) := Lib.hid (hb2.grown hg2 (by rw [World.size_alloc]; omega) (fun k e => HOC.out.own e))
              have HO3 := Lib.hid ho2
              clear hb2 hb12 ho2 hg2 HOC HBC c1
              have hz3 := HB3.out.size
              have HDL : Hid (i - k = (os.drop k).length) := Lib.hid (by rw [List.length_drop]; have := HO.out.1; omega)
              have HR3 := HRO.out.1.step HB3.out
              have HRD : Hid (Rs w2 (some ⟨bo, oo + k, none⟩) (os.drop k)) := Lib.hid (fun _ => by
                obtain ⟨b', o', e, hb', hrow⟩ := HR3 (by intro h; have := HK1.out.2.2.2; rw [h] at this; simp at this)
                cases e
                exact ⟨bo, oo + k, rfl, hb', fun j hj => by
                  have hj' : k + j < os.length := by rw [List.length_drop] at hj; omega
                  have := hrow (k + j) hj'
                  rw [← Nat.add_assoc] at this
                  rw [List.getElem_drop]
                  exact this⟩)
              have HPC : Hid ((some ⟨bo, oo + k, none⟩ : Option Addr) = none → co - k = 0) := Lib.hid (fun e => by cases e)
              have HIN : Hid (∀ j (h : j < (os.drop k).length) Q c, (∃ b off, (some ⟨bo, oo + k, none⟩ : Option Addr) = some ⟨b, off, none⟩ ∧ w2.cell? ⟨b, off + j, none⟩ = some (.slice Q (os.drop k)[j].length c)) → Spans V.heap.size w2 Q (os.drop k)[j]) := Lib.hid (fun j hj Q c ⟨b', o', e, hc⟩ => by
                cases e
                have hj' : k + j < os.length := by rw [List.length_drop] at hj; omega
                rw [List.getElem_drop] at hc ⊢
                obtain ⟨b', o', e, hb', hrow⟩ := HRO.out.1 (by intro h; have := HK1.out.2.2.2; rw [h] at this; simp at this)
                cases e
                obtain ⟨P', c', q1, q2, _⟩ := hrow (k + j) hj'
                have q1' := (HB3.out.cell (p := ⟨bo, oo + (k + j), none⟩) hb').trans q1
                rw [← Nat.add_assoc, hc] at q1'
                cases q1'
                exact q2.below HB3.out)
              clear HR3
              have hcok : ¬ co = k := by have := HRO.out.2.2.2; omega
              have hkle : (k : Int) ≤ (i : Int) := by omega
              go_upto_region 12 with (at_builtin; refine wpList_ron rfl _ _ rfl V.heap.size _ _ rfl HO3.out _ _ _ (os.drop k) (by rw [List.length_drop]; have := HO.out.1; omega) rfl (fun e => by first | (cases e; done) | omega) HRD.out HIN.out (by have := HO.out.1; simp only [List.length_append, List.length_drop, List.length_singleton]; omega) hz3 ?_; intro v4 w4 ho4 hg4)
              have hb4 : Below V.heap.size V w4 := HB3.out.grown hg4 hz3 (fun k e => HO3.out.own e)
              obtain ⟨L, hL⟩ : ∃ L, L = layP os (ls[i]'HIL.out) := ⟨_, rfl⟩
              replace ho4 : RO V.heap.size w4 v4 L := by rw [hL]; exact (congrArg (RO V.heap.size w4 v4) HLay.out).mpr ho4
              obtain ⟨P4, c4, rfl, hr4, hp4, hc4⟩ := ho4.rs2 hb4.size
              have hll4 : L.length = i + 1 := by rw [hL, layP_len]; have := HO.out.1; omega
              rw [hll4]
              have HFI : Hid (Rs w4 P4 L ∧ (P4 = none → c4 = 0) ∧ (i + 1 = 0 → P4 = none) ∧ i + 1 ≤ c4) := Lib.hid ⟨hr4, hp4, fun h => by omega, by omega⟩
              have HFO : Hid (i + 1 = L.length ∧ L = sortP (ls.take (i + 1)) ∧ ∀ y ∈ L, y ≠ []) := Lib.hid ⟨hll4.symm, by rw [sortP_take HIL.out, ← HO.out.2.1]; exact hL, fun y hy => by
                rw [hL] at hy
                rcases (mem_layP _ _ _).1 hy with h | rfl
                · exact HO.out.2.2 y h
                · exact HE.out _ (List.getElem_mem HIL.out)⟩
              have HB5 := Lib.hid (HB.out.trans (hb4.mono HB.out.size))
              clear hL hb4 ho4 hg4 hr4 hp4 hc4 hll4 HO3 HB3 hz3
              go_wp2_with fail
              go_roundg g
              case measure => omega
              case rel => exact ⟨i + 1, c4, P4, L, by have := HIG.out; omega, by go_num, by first | rfl | rw [hi0], HFO, HFI, HB5⟩
        · have hkz : ¬ (k : Int) < (i : Int) := by omega
          have hki : i = k := by omega
          have HKI := Lib.hid hki
          have d1 : decide ((k : Int) < (i : Int)) = false := decide_eq_false hkz
          clear hki hk
          go_upto_region 7 with fail
          have HLay : Hid (layP os ls[i] = os.take k ++ [ls[i]] ++ os.drop k) := Lib.hid (by rw [layP_at (k := k) (by have := HO.out.1; omega) HL.out (fun h => absurd h (by have := HO.out.1; have := HKI.out; omega)), List.append_assoc]; rfl)
          go_cut [33] (fun s33 wc => s33 = .bool false ∧ Hid (RO V.heap.size wc v5 (os.take k)) ∧ Hid (Below V.heap.size V wc))
          case first =>
            go_quiet (fail)
            go_wp2
            go_meet
            exact ⟨rfl, Lib.hid (HOW.out.below (drewN_low (Below.refl _ _) _) HBV.out.size), Lib.hid (drewN_low HBV.out _)⟩
          case rest =>
            obtain ⟨rfl, HOC, HBC⟩ := hcut
            clear HOW HBV HL
            have c1 : wc.cell? ⟨b, off + i, none⟩ = some (.slice (some ⟨bx, ox, none⟩) nx cx) := (HBC.out.cell (p := ⟨b, off + i, none⟩) HXB.out).trans HX1.out
            have hwz := HBC.out.size
            have hb2 : Below V.heap.size V (wc.alloc (.cells #[.slice (some ⟨bx, ox, none⟩) nx cx] 28)) := HBC.out.alloc hwz _
            have hb12 : Below wc.heap.size wc (wc.alloc (.cells #[.slice (some ⟨bx, ox, none⟩) nx cx] 28)) := (Below.refl _ _).alloc (Nat.le_refl _) _
            have hlt8 : (os.take k).length ≤ 40000 := by rw [List.length_take]; omega
            go_upto_region 11 with (at_builtin; refine wpList_ro1 rfl _ _ rfl V.heap.size _ (os.take k) rfl (HOC.out.below hb12 hwz) wc.heap.size rfl (some ⟨bx, ox, none⟩) nx cx (ls[i]'HIL.out) HXS.out.1 (heap_alloc_new wc _) HXS.out.2.2.1 (HXS.out.2.1.below hb2) (by omega) (by rw [World.size_alloc]; omega) ?_; intro v2 w2 ho2 hg2)
            have HB3 : Hid (Below V.heap.size V w2) := Lib.hid (hb2.grown hg2 (by rw [World.size_alloc]; omega) (fun k e => HOC.out.own e))
            have HO3 := Lib.hid ho2
            clear hb2 hb12 ho2 hg2 HOC HBC c1
            have hz3 := HB3.out.size
            rcases Nat.eq_zero_or_pos i with hi0 | hi0
            · have hPo := HRO.out.2.2.1 hi0
              have hco0 := HRO.out.2.1 hPo
              subst hPo
              subst hco0
              have hk00 : k = 0 := by have := HKI.out; omega
              subst hk00
              have HRD : Hid (Rs w2 (none : Option Addr) (os.drop 0)) := Lib.hid (fun h => absurd (List.drop_of_length_le (by have := HO.out.1; omega)) h)
              have HPC : Hid ((none : Option Addr) = none → 0 - 0 = 0) := Lib.hid (fun e => by first | omega | cases e)
              have HIN : Hid (∀ j (h : j < (os.drop 0).length) Q c, (∃ b off, (none : Option Addr) = some ⟨b, off, none⟩ ∧ w2.cell? ⟨b, off + j, none⟩ = some (.slice Q (os.drop 0)[j].length c)) → Spans V.heap.size w2 Q (os.drop 0)[j]) := Lib.hid (fun j hj => absurd hj (by rw [List.length_drop]; have := HO.out.1; omega))
              have hkle : ((0 : Nat) : Int) ≤ (i : Int) := by omega
              go_upto_region 12 with (at_builtin; refine wpList_ron rfl _ _ rfl V.heap.size _ _ rfl HO3.out _ _ _ (os.drop 0) (by rw [List.length_drop]; have := HO.out.1; omega) rfl (fun e => by first | (cases e; done) | omega) HRD.out HIN.out (by have := HO.out.1; simp only [List.length_append, List.length_drop, List.length_singleton]; omega) hz3 ?_; intro v4 w4 ho4 hg4)
              have hb4 : Below V.heap.size V w4 := HB3.out.grown hg4 hz3 (fun k e => HO3.out.own e)
              obtain ⟨L, hL⟩ : ∃ L, L = layP os (ls[i]'HIL.out) := ⟨_, rfl⟩
              replace ho4 : RO V.heap.size w4 v4 L := by rw [hL]; exact (congrArg (RO V.heap.size w4 v4) HLay.out).mpr ho4
              obtain ⟨P4, c4, rfl, hr4, hp4, hc4⟩ := ho4.rs2 hb4.size
              have hll4 : L.length = i + 1 := by rw [hL, layP_len]; have := HO.out.1; omega
              rw [hll4]
              have HFI : Hid (Rs w4 P4 L ∧ (P4 = none → c4 = 0) ∧ (i + 1 = 0 → P4 = none) ∧ i + 1 ≤ c4) := Lib.hid ⟨hr4, hp4, fun h => by omega, by omega⟩
              have HFO : Hid (i + 1 = L.length ∧ L = sortP (ls.take (i + 1)) ∧ ∀ y ∈ L, y ≠ []) := Lib.hid ⟨hll4.symm, by rw [sortP_take HIL.out, ← HO.out.2.1]; exact hL, fun y hy => by
                rw [hL] at hy
                rcases (mem_layP _ _ _).1 hy with h | rfl
                · exact HO.out.2.2 y h
                · exact HE.out _ (List.getElem_mem HIL.out)⟩
              have HB5 := Lib.hid (HB.out.trans (hb4.mono HB.out.size))
              clear hL hb4 ho4 hg4 hr4 hp4 hc4 hll4 HO3 HB3 hz3
              go_wp2_with fail
              go_roundg g
              case measure => omega
              case rel => exact ⟨i + 1, c4, P4, L, by have := HIG.out; omega, by go_num, by first | rfl | rw [hi0], HFO, HFI, HB5⟩
            · obtain ⟨bo, oo, hPo⟩ := HRO.out.1.form' (by have := HO.out.1; omega)
              subst hPo
              by_cases hcok : co = k
              · have HRD : Hid (Rs w2 (some ⟨bo, oo, none⟩ : Option Addr) (os.drop k)) := Lib.hid (fun h => absurd (List.drop_of_length_le (by have := HO.out.1; omega)) h)
                have HPC : Hid ((some ⟨bo, oo, none⟩ : Option Addr) = none → co - k = 0) := Lib.hid (fun e => by first | omega | cases e)
                have HIN : Hid (∀ j (h : j < (os.drop k).length) Q c, (∃ b off, (some ⟨bo, oo, none⟩ : Option Addr) = some ⟨b, off, none⟩ ∧ w2.cell? ⟨b, off + j, none⟩ = some (.slice Q (os.drop k)[j].length c)) → Spans V.heap.size w2 Q (os.drop k)[j]) := Lib.hid (fun j hj => absurd hj (by rw [List.length_drop]; have := HO.out.1; omega))
                have hkle : (k : Int) ≤ (i : Int) := by omega
                go_upto_region 12 with (at_builtin; refine wpList_ron rfl _ _ rfl V.heap.size _ _ rfl HO3.out _ _ _ (os.drop k) (by rw [List.length_drop]; have := HO.out.1; omega) rfl (fun e => by first | (cases e; done) | omega) HRD.out HIN.out (by have := HO.out.1; simp only [List.length_append, List.length_drop, List.length_singleton]; omega) hz3 ?_; intro v4 w4 ho4 hg4)
                have hb4 : Below V.heap.size V w4 := HB3.out.grown hg4 hz3 (fun k e => HO3.out.own e)
                obtain ⟨L, hL⟩ : ∃ L, L = layP os (ls[i]'HIL.out) := ⟨_, rfl⟩
                replace ho4 : RO V.heap.size w4 v4 L := by rw [hL]; exact (congrArg (RO V.heap.size w4 v4) HLay.out).mpr ho4
                obtain ⟨P4, c4, rfl, hr4, hp4, hc4⟩ := ho4.rs2 hb4.size
                have hll4 : L.length = i + 1 := by rw [hL, layP_len]; have := HO.out.1; omega
                rw [hll4]
                have HFI : Hid (Rs w4 P4 L ∧ (P4 = none → c4 = 0) ∧ (i + 1 = 0 → P4 = none) ∧ i + 1 ≤ c4) := Lib.hid ⟨hr4, hp4, fun h => by omega, by omega⟩
                have HFO : Hid (i + 1 = L.length ∧ L = sortP (ls.take (i + 1)) ∧ ∀ y ∈ L, y ≠ []) := Lib.hid ⟨hll4.symm, by rw [sortP_take HIL.out, ← HO.out.2.1]; exact hL, fun y hy => by
                  rw [hL] at hy
                  rcases (mem_layP _ _ _).1 hy with h | rfl
                  · exact HO.out.2.2 y h
                  · exact HE.out _ (List.getElem_mem HIL.out)⟩
                have HB5 := Lib.hid (HB.out.trans (hb4.mono HB.out.size))
                clear hL hb4 ho4 hg4 hr4 hp4 hc4 hll4 HO3 HB3 hz3
                go_wp2_with fail
                go_roundg g
                case measure => omega
                case rel => exact ⟨i + 1, c4, P4, L, by have := HIG.out; omega, by go_num, by first | rfl | rw [hi0], HFO, HFI, HB5⟩
              · have HRD : Hid (Rs w2 (some ⟨bo, oo + k, none⟩ : Option Addr) (os.drop k)) := Lib.hid (fun h => absurd (List.drop_of_length_le (by have := HO.out.1; omega)) h)
                have HPC : Hid ((some ⟨bo, oo + k, none⟩ : Option Addr) = none → co - k = 0) := Lib.hid (fun e => by first | omega | cases e)
                have HIN : Hid (∀ j (h : j < (os.drop k).length) Q c, (∃ b off, (some ⟨bo, oo + k, none⟩ : Option Addr) = some ⟨b, off, none⟩ ∧ w2.cell? ⟨b, off + j, none⟩ = some (.slice Q (os.drop k)[j].length c)) → Spans V.heap.size w2 Q (os.drop k)[j]) := Lib.hid (fun j hj => absurd hj (by rw [List.length_drop]; have := HO.out.1; omega))
                have hkle : (k : Int) ≤ (i : Int) := by omega
                go_upto_region 12 with (at_builtin; refine wpList_ron rfl _ _ rfl V.heap.size _ _ rfl HO3.out _ _ _ (os.drop k) (by rw [List.length_drop]; have := HO.out.1; omega) rfl (fun e => by first | (cases e; done) | omega) HRD.out HIN.out (by have := HO.out.1; simp only [List.length_append, List.length_drop, List.length_singleton]; omega) hz3 ?_; intro v4 w4 ho4 hg4)
                have hb4 : Below V.heap.size V w4 := HB3.out.grown hg4 hz3 (fun k e => HO3.out.own e)
                obtain ⟨L, hL⟩ : ∃ L, L = layP os (ls[i]'HIL.out) := ⟨_, rfl⟩
                replace ho4 : RO V.heap.size w4 v4 L := by rw [hL]; exact (congrArg (RO V.heap.size w4 v4) HLay.out).mpr ho4
                obtain ⟨P4, c4, rfl, hr4, hp4, hc4⟩ := ho4.rs2 hb4.size
                have hll4 : L.length = i + 1 := by rw [hL, layP_len]; have := HO.out.1; omega
                rw [hll4]
                have HFI : Hid (Rs w4 P4 L ∧ (P4 = none → c4 = 0) ∧ (i + 1 = 0 → P4 = none) ∧ i + 1 ≤ c4) := Lib.hid ⟨hr4, hp4, fun h => by omega, by omega⟩
                have HFO : Hid (i + 1 = L.length ∧ L = sortP (ls.take (i + 1)) ∧ ∀ y ∈ L, y ≠ []) := Lib.hid ⟨hll4.symm, by rw [sortP_take HIL.out, ← HO.out.2.1]; exact hL, fun y hy => by
                  rw [hL] at hy
                  rcases (mem_layP _ _ _).1 hy with h | rfl
                  · exact HO.out.2.2 y h
                  · exact HE.out _ (List.getElem_mem HIL.out)⟩
                have HB5 := Lib.hid (HB.out.trans (hb4.mono HB.out.size))
                clear hL hb4 ho4 hg4 hr4 hp4 hc4 hll4 HO3 HB3 hz3
                go_wp2_with fail
                go_roundg g
                case measure => omega
                case rel => exact ⟨i + 1, c4, P4, L, by have := HIG.out; omega, by go_num, by first | rfl | rw [hi0], HFO, HFI, HB5⟩
end Go.Proofs.YtkphbjppmiefkaaDoor
end
section
/- The document's Of: each set cuts each part in two. -/
namespace TermsM
open SetM
theorem someL_len (o : List (List Sp)) (x : List Sp) : (someL o x).length ≤ o.length + 1 := by
  unfold someL
  split
  · omega
  · rw [List.length_append, List.length_singleton]; omega
theorem rest_next {S : List (List Sp)} {s x o : List Sp} (hx : ∀ r, Tells x r ↔ Sc r ∧ ¬ An S r) (ho : ∀ r, Mem o r ↔ Tells x r ∧ ¬ Tells s r) (r : Int) : Mem o r ↔ Sc r ∧ ¬ An (S ++ [s]) r := by
  rw [ho, hx, an_snoc]
  constructor
  · rintro ⟨⟨h1, h2⟩, h3⟩; exact ⟨h1, fun h => h.elim h2 h3⟩
  · rintro ⟨h1, h2⟩; exact ⟨⟨h1, fun h => h2 (.inl h)⟩, fun h => h2 (.inr h)⟩
end TermsM
namespace Go.Proofs.YtkphbjppmiefkaaDoor
open Go.RowKit Go.Shelf Go.Maps SetM TermsM
theorem bun_wide {S o : List (List Sp)} (h : Bun S (An S) o) {x : List Sp} (hx : x ∈ o) : Wide x :=
  wide_set (K := fun r => Mem x r) ⟨(h.nf x hx).1, fun r => Iff.rfl⟩ (fun _ hr => (h.clo hx).1 _ hr)
/-- What none has yet. -/
def RestIs (S : List (List Sp)) (rs : List Sp) : Prop := (∀ r, Tells rs r ↔ Sc r ∧ ¬ An S r) ∧ Wide rs ∧ rs.length ≤ 5000
theorem RestIs.start : RestIs [] [(0, 1114111)] := by
  refine ⟨fun r => ?_, fun s hs => ?_, by simp⟩
  · unfold Tells Mem Sc An
    simp
    omega
  · rw [List.mem_singleton.1 hs]
    simp
theorem RestIs.next {S : List (List Sp)} {s x o : List Sp} (hx : RestIs S x) (ho : IsSet o (fun r => Tells x r ∧ ¬ Tells s r)) (hl : (S ++ [s]).flatten.length ≤ 1000) : RestIs (S ++ [s]) o := by
  have hm := rest_next hx.1 ho.2
  have hsc : ∀ r, Mem o r → Sc r := fun r h => ((hm r).1 h).1
  refine ⟨fun r => ?_, wide_set ho (fun r h => h.1.1), ?_⟩
  · rw [← hm]
    exact ⟨fun h => h.2, fun h => ⟨hsc r h, h⟩⟩
  · have := rest_len ho.1 hm
    omega
/-- What Of hands back. -/
def RPartsPost (ls : List (List Sp)) (W : World) (e : Ending) (W' : World) : Prop :=
  ∃ P c p, e = .returned (.slice P (List.length p) c) ∧ Rs W' P p ∧ PartsOf ls p ∧ (P = none → c = 0) ∧ Below W.heap.size W W'
set_option maxRecDepth 100000 in
set_option maxHeartbeats 8000000 in
theorem rof_c {W : World} {A : Option Addr} {ca n : Nat} {ls : List (List Sp)} (hn : n = ls.length) (h8 : n ≤ 1000) (hR : Rs W A ls) (ht : ls.flatten.length ≤ 1000) (hw : ∀ x ∈ ls, Wide x) :
    Calls Tryd.prog 13 #[.slice A n ca] W (RPartsPost ls W) := by
  have HN := Lib.hid hn
  have HR := Lib.hid hR
  have HT := Lib.hid ht
  have HW := Lib.hid hw
  clear hn hR ht hw
  go_enter Tryd.func13, Tryd.ntmps13
  obtain ⟨U, hU⟩ : ∃ U, U = W.alloc (.cells #[.int .i64 0, .int .i64 1114111] 42) := ⟨_, rfl⟩
  have bU : Below W.heap.size W U := by rw [hU]; exact (Below.refl _ _).alloc (Nat.le_refl _) _
  have xU : U.heap[W.heap.size]? = some (.cells #[.int .i64 0, .int .i64 1114111] 42 (0, 0)) := by rw [hU]; exact heap_alloc_new W _
  have zU : W.heap.size < U.heap.size := by rw [hU, World.size_alloc]; omega
  have HBU := Lib.hid bU
  have HS0 : Hid (Sl0 U (some ⟨W.heap.size, 0, none⟩) [(0, 1114111)]) := Lib.hid (fun _ => ⟨W.heap.size, 0, rfl, zU, fun j hj => by
    have hj' : j < 1 := hj
    obtain rfl : j = 0 := by omega
    exact ⟨cell_of_row U _ 0 _ _ _ xU, cell_of_row U _ 1 _ _ _ xU⟩⟩)
  clear bU xU zU
  go_upto_region 3 with fail
  rw [← hU]
  clear hU
  go_wp2_with fail
  go_loopg [3, 4, 5] n (fun g s3 s4 s5 wx => ∃ (i no co nr cr : Nat) (Po Pr : Option Addr) (o : List (List Sp)) (rs : List Sp), i + g = n ∧ s5 = .int .i64 i ∧ s3 = .slice Po no co ∧ s4 = .slice Pr nr cr ∧ Hid (no = o.length ∧ nr = rs.length) ∧ Hid (Bun (ls.take i) (An (ls.take i)) o) ∧ Hid (RestIs (ls.take i) rs) ∧ Hid (Rs wx Po o ∧ (Po = none → co = 0)) ∧ Hid (Sl0 wx Pr rs) ∧ Hid (Below W.heap.size W wx))
  case atStart => exact ⟨0, 0, 0, 1, 1, none, _, [], [(0, 1114111)], by omega, rfl, rfl, rfl, Lib.hid ⟨rfl, rfl⟩, Lib.hid (by rw [List.take_zero]; exact (Bun.none []).congr (fun r => ⟨fun ⟨_, h, _⟩ => (by cases h), False.elim⟩)), Lib.hid RestIs.start, Lib.hid ⟨fun h => absurd rfl h, fun _ => rfl⟩, HS0, HBU⟩
  case round =>
    obtain ⟨i, no, co, nr, cr, Po, Pr, o, rs, hig, rfl, rfl, rfl, HL, HBN, HRI, HO, HS, HB⟩ := hrel
    have HIG := Lib.hid hig
    cases gk with
    | zero =>
      obtain rfl : i = n := by omega
      have hlt : ¬ (i : Int) < (i : Int) := by omega
      have hbn : Bun ls (An ls) o := by have := HBN.out; rwa [HN.out, List.take_length] at this
      have hmany := hbn.many
      have HSR := Lib.hid (rsorted_c (W := wr) (A := Po) (n := no) (ca := co) (ls := o) HL.out.1 (by have := HL.out.1; have := HT.out; omega) HO.out.1 (fun x hx => (hbn.nf x hx).2))
      have HP := Lib.hid hbn.sorted
      clear hbn hmany
      go_wp2_with fail
      refine HSR.out.mono ?_
      rintro e w2 ⟨P, c, rfl, hr, hp, hb⟩
      have HX : Hid (RPartsPost ls W (.returned (.slice P (sortP o).length c)) w2) := Lib.hid ⟨P, c, sortP o, rfl, hr, HP.out, hp, HB.out.trans (hb.mono HB.out.size)⟩
      clear hr hp hb HSR
      go_wp2_with fail
      go_ret
      exact HX.out
    | succ g =>
      have hlt : (i : Int) < (n : Int) := by omega
      have hil : i < ls.length := by have := HN.out; omega
      have hi0 : (0 : Int) ≤ (i : Int) := by omega
      obtain ⟨b, off, rfl⟩ := HR.out.form (by omega)
      obtain ⟨Qi, ci, hqi, hsi, hci⟩ := HR.out.row hil
      have hfl : (ls.take i).flatten.length ≤ 1000 := by have := flat_take_le ls i; have := HT.out; omega
      have hfl1 : (ls.take i ++ [ls[i]]).flatten.length ≤ 1000 := by rw [← List.take_succ_eq_append_getElem hil]; have := flat_take_le ls (i + 1); have := HT.out; omega
      have hsl : ls[i].length ≤ 1000 := by have := flat_memm (List.getElem_mem hil); have := HT.out; omega
      have hwi := HW.out _ (List.getElem_mem hil)
      have hno : no ≤ 2002 := by have := HBN.out.many; have := HL.out.1; omega
      obtain ⟨s, hs⟩ : ∃ s, s = ls[i] := ⟨_, rfl⟩
      rw [← hs] at hsi hci hfl1 hsl hwi
      obtain ⟨ns, hns⟩ : ∃ ns, ns = s.length := ⟨_, rfl⟩
      rw [← hns] at hci hsl
      have HSI := Lib.hid (And.intro hns (And.intro hsi (And.intro hwi (And.intro hsl hfl1))))
      have HCI : Hid (∀ V, Below wr.heap.size wr V → V.cell? ⟨b, off + i, none⟩ = some (.slice Qi ns ci)) := Lib.hid (fun V hV => hci V (HB.out.trans (hV.mono HB.out.size)))
      have HST : Hid (ls.take (i + 1) = ls.take i ++ [s]) := Lib.hid (by rw [List.take_succ_eq_append_getElem hil, hs])
      have HFL := Lib.hid hfl
      clear hqi hsi hci hfl hfl1 hsl hwi hs hns hig hil
      obtain ⟨V, rfl⟩ : ∃ V, V = wr := ⟨_, rfl⟩
      go_wp2_with fail
      go_loopg [6, 7] no (fun gq s6 s7 wy => ∃ (k m cm : Nat) (Pm : Option Addr) (nx : List (List Sp)), k + gq = no ∧ s7 = .int .i64 k ∧ s6 = .slice Pm m cm ∧ Hid (m = nx.length ∧ m ≤ 2 * k) ∧ Hid (Bun (ls.take i ++ [s]) (Fr o k) nx) ∧ Hid (Rs wy Pm nx ∧ (Pm = none → cm = 0)) ∧ Hid (Below V.heap.size V wy))
      case atStart => exact ⟨0, 0, 0, none, [], by omega, rfl, rfl, Lib.hid ⟨rfl, by omega⟩, Lib.hid ((Bun.none _).congr (fun r => ⟨fun ⟨_, h, _⟩ => (by simp at h), False.elim⟩)), Lib.hid ⟨fun h => absurd rfl h, fun _ => rfl⟩, Lib.hid (Below.refl _ _)⟩
      case round =>
        obtain ⟨k, m, cm, Pm, nx, hkg, rfl, rfl, HM, HNX, HRN, HBV⟩ := hrel
        have HKG := Lib.hid hkg
        cases gk with
        | zero =>
          obtain rfl : k = no := by omega
          have hltk : ¬ (k : Int) < (k : Int) := by omega
          have c0 := HCI.out _ HBV.out
          have hBW := HB.out.trans (HBV.out.mono HB.out.size)
          have hz := hBW.size
          have hrs : Sl0 wr Pr rs := (Spans.below HBV.out HS.out).mono HBV.out.size
          have hsw : Sl0 wr Qi s := (Spans.below hBW HSI.out.2.1).mono hz
          have hIN := rinter_c (W := wr) (c := cr) (d := ci) (P := Pr) (Q := Qi) (l := rs) (m := s) hrs hsw (by have := HRI.out.2.2; omega) (by have := HSI.out.1; have := HSI.out.2.2.2.1; omega) HRI.out.2.1 HSI.out.2.2.1
          rw [← HL.out.2, ← HSI.out.1] at hIN
          have HIN := Lib.hid hIN
          have HBW := Lib.hid hBW
          clear hIN hrs hsw hz hBW
          go_wp2_with fail
          refine HIN.out.mono ?_
          rintro e w3 ⟨P3, c3, a, rfl, ia, _, sa, za, b3⟩
          have HIA := Lib.hid ia
          have hso := rsome_c (W := w3) (A := Pm) (Q := P3) (n := m) (ca := cm) (k := a.length) (cq := c3) (ls := nx) (x := a) HM.out.1 (by have := HM.out.2; omega) (HRN.out.1.step b3) HRN.out.2 rfl sa za
          have HSO := Lib.hid hso
          have HB3 := Lib.hid (HBW.out.trans (b3.mono HBW.out.size))
          have HV3 := Lib.hid (HBV.out.trans (b3.mono HBV.out.size))
          obtain ⟨na, hna⟩ : ∃ na, na = a.length := ⟨_, rfl⟩
          rw [← hna] at HSO ⊢
          clear ia sa za b3 hso HIN c0 hna
          go_wp2_with fail
          refine HSO.out.mono ?_
          rintro e w4 ⟨P4, c4, rfl, hr4, hp4, b4⟩
          have HO4 : Hid (Bun (ls.take (i + 1)) (An (ls.take (i + 1))) (someL nx a)) := Lib.hid (by
            rw [HST.out]
            refine HBN.out.last (by rw [← HL.out.1]; exact HNX.out) HIA.out.1 (fun r => ?_)
            rw [HIA.out.2]
            show (Tells rs r ∧ Tells s r) ↔ _
            rw [HRI.out.1]
            exact ⟨fun h => ⟨h.1.2, h.2⟩, fun h => ⟨⟨h.2.1, h.1⟩, h.2⟩⟩)
          obtain ⟨o4, ho4⟩ : ∃ o4, o4 = someL nx a := ⟨_, rfl⟩
          rw [← ho4] at hr4 HO4 ⊢
          obtain ⟨n4, hn4⟩ : ∃ n4, n4 = o4.length := ⟨_, rfl⟩
          rw [← hn4]
          have HN4 := Lib.hid hn4
          have HB4 := Lib.hid (HB3.out.trans (b4.mono HB3.out.size))
          have HV4 := Lib.hid (HV3.out.trans (b4.mono HV3.out.size))
          have HR4 := Lib.hid (And.intro hr4 hp4)
          have c0 := HCI.out _ HV4.out
          have hrs : Sl0 w4 Pr rs := (Spans.below HV4.out HS.out).mono HV4.out.size
          have hsw : Sl0 w4 Qi s := (Spans.below HB4.out HSI.out.2.1).mono HB4.out.size
          have hMI := rminus_c (W := w4) (c := cr) (d := ci) (P := Pr) (Q := Qi) (l := rs) (m := s) hrs hsw (by have := HRI.out.2.2; omega) (by have := HSI.out.1; have := HSI.out.2.2.2.1; omega) HRI.out.2.1 HSI.out.2.2.1
          rw [← HL.out.2, ← HSI.out.1] at hMI
          have HMI := Lib.hid hMI
          clear hMI hrs hsw hr4 hp4 b4 ho4 hn4 HSO
          go_wp2_with fail
          refine HMI.out.mono ?_
          rintro e w5 ⟨P5, c5, r5, rfl, i5, _, s5, _, b5⟩
          have HR5 : Hid (RestIs (ls.take (i + 1)) r5) := Lib.hid (by rw [HST.out]; exact HRI.out.next i5 HSI.out.2.2.2.2)
          obtain ⟨n5, hn5⟩ : ∃ n5, n5 = r5.length := ⟨_, rfl⟩
          rw [← hn5]
          have HL5 := Lib.hid (And.intro HN4.out hn5)
          have HO5 := Lib.hid (And.intro (HR4.out.1.step b5) HR4.out.2)
          have HS5 : Hid (Sl0 w5 P5 r5) := Lib.hid s5
          have HB5 := Lib.hid (HB4.out.trans (b5.mono HB4.out.size))
          clear i5 s5 b5 hn5 HMI c0
          go_wp2_with fail
          go_roundg g
          case measure => omega
          case rel => exact ⟨i + 1, n4, c4, n5, c5, P4, P5, o4, r5, by have := HIG.out; omega, by go_num, rfl, rfl, HL5, HO4, HR5, HO5, HS5, HB5⟩
        | succ gq =>
          have hltk : (k : Int) < (no : Int) := by omega
          have hk0 : (0 : Int) ≤ (k : Int) := by omega
          have hko : k < o.length := by have := HL.out.1; omega
          obtain ⟨bo, oo, rfl⟩ := HO.out.1.form (by omega)
          obtain ⟨Qk, ck, hqk, hsk, hck⟩ := HO.out.1.row hko
          have hlk : o[k].length ≤ 5000 := by have := HBN.out.len (List.getElem_mem hko); have := HFL.out; omega
          have hwk := bun_wide HBN.out (List.getElem_mem hko)
          have HTK : Hid (∀ r, Tells o[k] r ↔ Mem o[k] r) := Lib.hid (HBN.out.wide (List.getElem_mem hko))
          obtain ⟨nk, hnk⟩ : ∃ nk, nk = o[k].length := ⟨_, rfl⟩
          rw [← hnk] at hck hlk
          have HKO := Lib.hid hko
          have HCK := Lib.hid hck
          have HBk : Hid (∀ U, Below V.heap.size V U → Sl0 U Qk (o[k]'HKO.out) ∧ Sl0 U Qi s) := Lib.hid (fun U hU => ⟨(Spans.below hU hsk).mono hU.size, by
            have h := HB.out.trans (hU.mono HB.out.size)
            exact (Spans.below h HSI.out.2.1).mono h.size⟩)
          have HIN : Hid (∀ U, Below V.heap.size V U → Calls Tryd.prog 31 #[.slice Qk nk ck, .slice Qi ns ci] U (SetStep U (fun r => Tells (o[k]'HKO.out) r ∧ Tells s r) 20000)) := Lib.hid (fun U hU => by
            have h := rinter_c (c := ck) (d := ci) (HBk.out U hU).1 (HBk.out U hU).2 (by omega) (by have := HSI.out.1; have := HSI.out.2.2.2.1; omega) hwk HSI.out.2.2.1
            rw [← hnk, ← HSI.out.1] at h
            refine h.mono (fun e W' ⟨P, c, o, h1, h2, h3, h4⟩ => ⟨P, c, o, h1, h2, by have := HSI.out.2.2.2.1; omega, h4⟩))
          have HMI : Hid (∀ U, Below V.heap.size V U → Calls Tryd.prog 32 #[.slice Qk nk ck, .slice Qi ns ci] U (SetStep U (fun r => Tells (o[k]'HKO.out) r ∧ ¬ Tells s r) 20000)) := Lib.hid (fun U hU => by
            have h := rminus_c (c := ck) (d := ci) (HBk.out U hU).1 (HBk.out U hU).2 (by omega) (by have := HSI.out.1; have := HSI.out.2.2.2.1; omega) hwk HSI.out.2.2.1
            rw [← hnk, ← HSI.out.1] at h
            refine h.mono (fun e W' ⟨P, c, o, h1, h2, h3, h4⟩ => ⟨P, c, o, h1, h2, by have := HSI.out.2.2.2.1; omega, h4⟩))
          clear hqk hsk hck hlk hwk hnk hkg
          have c0 := HCI.out _ HBV.out
          have c1 := HCK.out _ HBV.out
          go_upto_region 10 with fail
          go_cut [6] (fun s6 wc => ∃ (m2 c2 : Nat) (P2 : Option Addr) (a : List Sp), s6 = .slice P2 m2 c2 ∧ Hid (m2 = (someL nx a).length) ∧ Hid (IsSet a (fun r => Tells (o[k]'HKO.out) r ∧ Tells s r)) ∧ Hid (Rs wc P2 (someL nx a) ∧ (P2 = none → c2 = 0)) ∧ Hid (Below V.heap.size V wc))
          case first =>
            have hr : Below V.heap.size V wr.drew := HBV.out.drew
            have hm1 : Below wr.heap.size wr wr.drew := (Below.refl _ _).drew
            go_region_held3 (fun U => U.cell? ⟨b, off + i, none⟩ = some (.slice Qi ns ci) ∧ U.cell? ⟨bo, oo + k, none⟩ = some (.slice Qk nk ck))
              (exact ⟨HCI.out _ hr, HCK.out _ hr⟩)
              (first
                | (go_at_call 31; (refine (HIN.out _ hr).mono ?_); rintro ee w6 ⟨P6, c6, a, rfl, ia, _, sa, za, b6⟩; have hr := hr.trans (b6.mono hr.size); have hm1 := hm1.trans (b6.mono hm1.size))
                | (go_at_call 30; (refine (rsome_c (A := Pm) (Q := P6) (n := m) (ca := cm) (k := a.length) (cq := c6) (ls := nx) (x := a) HM.out.1 (by have := HM.out.2; omega) (HRN.out.1.step hm1) HRN.out.2 rfl sa za).mono ?_); rintro ee w7 ⟨P7, c7, rfl, hr7, hp7, b7⟩; have hr := hr.trans (b7.mono hr.size)))
            all_goals
              have HF : Hid (IsSet a (fun r => Tells (o[k]'HKO.out) r ∧ Tells s r)) := Lib.hid ia
              have HG := Lib.hid (And.intro hr7 hp7)
              have HH := Lib.hid hr
              clear ia hr7 hp7 hr hm1 sa za
              go_wp2_with fail
              go_meet
              exact ⟨_, _, _, a, rfl, Lib.hid rfl, HF, HG, HH⟩
          case rest =>
            obtain ⟨m2, c2, P2, a, rfl, HM2, HIA, HR2, HBC⟩ := hcut
            have HM2' : Hid (m2 ≤ 2 * k + 1) := Lib.hid (by have := someL_len nx a; have := HM.out; have := HM2.out; omega)
            clear c0 c1 HRN
            have c0 := HCI.out _ HBC.out
            have c1 := HCK.out _ HBC.out
            go_upto_region 11 with fail
            have hr : Below V.heap.size V wc.drew := HBC.out.drew
            have hm1 : Below wc.heap.size wc wc.drew := (Below.refl _ _).drew
            go_region_held3 (fun U => U.cell? ⟨b, off + i, none⟩ = some (.slice Qi ns ci) ∧ U.cell? ⟨bo, oo + k, none⟩ = some (.slice Qk nk ck))
              (exact ⟨HCI.out _ hr, HCK.out _ hr⟩)
              (first
                | (go_at_call 32; (refine (HMI.out _ hr).mono ?_); rintro ee w6 ⟨P6, c6, a3, rfl, ia, _, sa, za, b6⟩; have hr := hr.trans (b6.mono hr.size); have hm1 := hm1.trans (b6.mono hm1.size))
                | (go_at_call 30; (refine (rsome_c (A := P2) (Q := P6) (n := m2) (ca := c2) (k := a3.length) (cq := c6) (ls := someL nx a) (x := a3) HM2.out (by have := HM2'.out; omega) (HR2.out.1.step hm1) HR2.out.2 rfl sa za).mono ?_); rintro ee w7 ⟨P7, c7, rfl, hr7, hp7, b7⟩; have hr := hr.trans (b7.mono hr.size)))
            all_goals
              have HIA3 : Hid (IsSet a3 (fun r => Tells (o[k]'HKO.out) r ∧ ¬ Tells s r)) := Lib.hid ia
              have HR3 := Lib.hid (And.intro hr7 hp7)
              have HBD := Lib.hid hr
              obtain ⟨m3, hm3⟩ : ∃ m3, m3 = (someL (someL nx a) a3).length := ⟨_, rfl⟩
              rw [← hm3]
              have HM3' : Hid (m3 = (someL (someL nx a) a3).length ∧ m3 ≤ 2 * (k + 1)) := Lib.hid ⟨hm3, by have := someL_len (someL nx a) a3; have := HM2.out; have := HM2'.out; omega⟩
              have HN3 : Hid (Bun (ls.take i ++ [s]) (Fr o (k + 1)) (someL (someL nx a) a3)) := Lib.hid (HBN.out.cut HKO.out HNX.out HIA.out.1 HIA3.out.1 (fun r => by
                rw [HIA.out.2]
                show (Tells (o[k]'HKO.out) r ∧ Tells s r) ↔ _
                rw [HTK.out]) (fun r => by
                rw [HIA3.out.2]
                show (Tells (o[k]'HKO.out) r ∧ ¬ Tells s r) ↔ _
                rw [HTK.out]))
              clear ia hr7 hp7 hr hm1 sa za hm3
              go_wp2_with fail
              go_roundg gq
              case measure => omega
              case rel => exact ⟨k + 1, m3, c7, P7, someL (someL nx a) a3, by have := HKG.out; omega, by go_num, rfl, HM3', HN3, HR3, HBD⟩
end Go.Proofs.YtkphbjppmiefkaaDoor
end
