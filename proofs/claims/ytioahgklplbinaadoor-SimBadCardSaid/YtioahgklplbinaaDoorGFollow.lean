/- The program's rows of marks: what free ways lead to is gathered. -/
import Derived.Test.YtioahgklplbinaaDoorGMarks
namespace Go.Proofs.YtioahgklplbinaaDoor
open Go.RowKit Go.Shelf SetM NfaM SimM
/-- What is left to be looked at, as numbers. -/
def nI (L : List Nat) : List Int := L.map (fun k : Nat => (k : Int))
theorem nI_app (L K : List Nat) : nI (L ++ K) = nI L ++ nI K := List.map_append ..
theorem nI_len (L : List Nat) : (nI L).length = L.length := List.length_map ..
/-- Ways that lead to states alone. -/
def FrOk (m : Mc) : Prop := (∀ row ∈ m.fr, ∀ t ∈ row, 0 ≤ t ∧ t < (m.tg.length : Int)) ∧ m.fr.length = m.tg.length ∧ ∀ i < m.fr.length, (m.fr.getD i []).length ≤ 9223372036854775807
theorem cl_lt {m : Mc} (hfr : FrOk m) {P : Nat → Prop} (hP : ∀ j, P j → j < m.tg.length) : ∀ {j}, Cl m P j → j < m.tg.length := by
  intro j hj
  induction hj with
  | base k hp => exact hP k hp
  | step i k _ hm ih =>
    obtain ⟨row, h1, h2⟩ := mem_row hm
    have := hfr.1 row h1 _ h2
    omega
set_option maxRecDepth 100000 in
set_option maxHeartbeats 16000000 in
theorem follow_c {V W : World} {p0 p1 p2 : Option Addr} {c1 g k n1 : Nat} {m : Mc} {P : Nat → Prop} (hm : MR V p0 p1 p2 m) (hB : Below V.heap.size V W) (h : MkG 4 (.bool true) (.bool false) W V.heap.size g k P) (hk : k = m.tg.length) (hk8 : k ≤ 100000) (hn1 : n1 = k) (hfr : FrOk m) (hP : ∀ j, P j → j < k) :
    Calls Tryd.prog 43 #[.slice (some ⟨g, 0, none⟩) k k, .slice p1 n1 c1] W fun e W' => e = .returned (.tuple #[]) ∧ MkG 4 (.bool true) (.bool false) W' V.heap.size g k (Cl m P) ∧ W.grownBy W' (some g) := by
  subst hn1
  obtain ⟨i0, hi, hz0, hz1, hz2⟩ := info_parts infoIn
  have HM := Lib.hid hm
  have HV := Lib.hid hB
  have HR0 := Lib.hid h
  have HG := Lib.hid h.lt
  have HK := Lib.hid hk
  have HFR := Lib.hid hfr
  have HST := Lib.hid (states_c h (by omega))
  have HP := Lib.hid hP
  clear hm hB h hk hfr hP
  go_enter Tryd.func43, Tryd.ntmps43
  go_wp2_with fail
  refine HST.out.mono ?_
  rintro e w1 ⟨v, rfl, hO, b1⟩
  have HO := Lib.hid (show OwI w1 W.heap.size v (nI (stN n1 P)) from hO)
  have HG1 := Lib.hid (show W.grownBy w1 (some g) from ⟨b1.os, b1.tape, b1.output, b1.size, fun k hk _ => b1.block k hk⟩)
  have HR1 := Lib.hid (HR0.out.step b1)
  have HWK := Lib.hid (Wk.begin m P (stN n1 P) (fun j => ⟨fun hj => mem_stN.2 ⟨HP.out j hj, hj⟩, fun hj => (mem_stN.1 hj).2⟩))
  clear hO b1 HST
  go_wp2_with fail
  go_loopg [4] (un n1 P + (stN n1 P).length) (fun gk s4 wx => ∃ (M : Nat → Prop) (L : List Nat) (v4 : Value), un n1 M + L.length = gk ∧ v4 = s4 ∧ Hid (gk ≤ 200000) ∧ Hid (OwI wx W.heap.size v4 (nI L)) ∧ Hid (MkG 4 (.bool true) (.bool false) wx V.heap.size g n1 M) ∧ Hid (Wk m P M L) ∧ Hid (W.grownBy wx (some g)))
  case atStart => exact ⟨P, _, _, rfl, rfl, Lib.hid (by have := un_le n1 P; have := stN_len n1 P; omega), HO, HR1, HWK, HG1⟩
  case round =>
    obtain ⟨M, L, v4, hun, rfl, HGK, HO, HR, HW, HGR⟩ := hrel
    rcases snoc_cases L with rfl | ⟨K, i, rfl⟩
    · obtain ⟨Q, c, hv, _, _, _, _⟩ := HO.out.form
      have e0 : (nI []).length = 0 := rfl
      rw [e0] at hv
      subst hv
      have HE : Hid (MkG 4 (.bool true) (.bool false) wr V.heap.size g n1 (Cl m P)) := Lib.hid (HR.out.congr (fun j _ => HW.out.fin j))
      clear hun e0
      go_wp2
      go_returns
      exact ⟨rfl, HE.out, HGR.out⟩
    · obtain ⟨q, hq⟩ : ∃ q, q = K.length := ⟨_, rfl⟩
      have hlq : (nI (K ++ [i])).length = q + 1 := by rw [nI_len, List.length_append, hq]; rfl
      obtain ⟨gko, rfl⟩ : ∃ g, gk = g + 1 := ⟨un n1 M + q, by rw [List.length_append] at hun; simp at hun; omega⟩
      have HUN : Hid (un n1 M + K.length = gko) := Lib.hid (by rw [List.length_append] at hun; simp at hun; omega)
      obtain ⟨Q, c, hv, hIn, hQ, hqc, hcm⟩ := HO.out.form
      obtain ⟨lg, rfl, hlg⟩ := hQ 0 (by omega)
      rw [hlq] at hv hqc
      obtain ⟨g2, o2, e2, hg2, hc2⟩ := hIn q (by omega)
      cases e2
      have hel : (nI (K ++ [i]))[q]'(by omega) = (i : Int) := by
        have : (nI (K ++ [i]))[q]? = some (i : Int) := by rw [nI_app, List.getElem?_append_right (by rw [nI_len]; omega), nI_len, hq, Nat.sub_self]; rfl
        rw [List.getElem?_eq_getElem (by omega)] at this
        exact Option.some.inj this
      rw [hel, Nat.zero_add] at hc2
      have hMi : M i := HW.out.inL i (by simp)
      have hin : i < n1 := by rw [HK.out]; exact cl_lt HFR.out (fun j hj => by rw [← HK.out]; exact HP.out j hj) (HW.out.cl i hMi)
      have hif : i < m.fr.length := by have := HFR.out.2.1; have := HK.out; omega
      have hVW : Below V.heap.size V wr := HV.out.trans (grown_below HGR.out HG.out.1 HV.out.size)
      obtain ⟨g1, o1, Pf, cf, rfl, hg1, hc1, hfin⟩ := HM.out.fr i hif
      obtain ⟨fs, hfs⟩ : ∃ fs, fs = m.fr.getD i [] := ⟨_, rfl⟩
      have hfe : m.fr[i] = fs := by rw [hfs, row_at hif]
      rw [hfe] at hc1 hfin
      obtain ⟨nf, hnf⟩ : ∃ nf, nf = fs.length := ⟨_, rfl⟩
      rw [← hnf] at hc1
      have hc1 := (hVW.cell (p := ⟨g1, o1 + i, none⟩) hg1).trans hc1
      have HNF : Hid (nf = fs.length ∧ nf ≤ 9223372036854775807 ∧ fs = m.fr.getD i []) := Lib.hid ⟨hnf, by rw [hnf, hfs]; exact HFR.out.2.2 i hif, hfs⟩
      have HFI : Hid (InR V Pf fs) := Lib.hid hfin
      have HFB : Hid (∀ r (h : r < fs.length), 0 ≤ fs[r] ∧ fs[r] < (n1 : Int)) := Lib.hid (fun r h => by
        have h1 : fs[r] ∈ m.fr.getD i [] := by rw [← hfs]; exact List.getElem_mem h
        obtain ⟨row, h2, h3⟩ := mem_row h1
        have := HFR.out.1 row h2 _ h3
        have := HK.out
        omega)
      have HWK := Lib.hid (HW.out.take)
      have HOF : Hid (OwI wr W.heap.size (.slice (some ⟨lg, 0, none⟩) q c) (nI K)) := Lib.hid (by
        have h := HO.out
        rw [nI_app, hv, ← hlq, nI_app] at h
        have := OwI.front (k := nI [i]) h
        rw [nI_len, ← hq] at this
        exact this)
      subst hv
      have hi0 : (0 : Int) ≤ (i : Int) := by omega
      have hin' : (i : Int) < (n1 : Int) := by omega
      have hq0 : (0 : Int) < (q : Int) + 1 := by omega
      have hq1 : (q : Int) < (q : Int) + 1 := by omega
      have hq2 : (0 : Int) ≤ (q : Int) := by omega
      have hq3 : (q : Int) ≤ (c : Int) := by omega
      have hqw : wrap64 (q : Int) = (q : Int) := IntWalk.wrap64_in _ (by omega)
      have hnf8 : nf ≤ 9223372036854775807 := HNF.out.2.1
      clear hq hlq hun hIn hQ hel hMi hfe hVW hnf hfin hfs hlg hg1 hg2 HO HW hqc hif hcm
      go_wp2_with fail
      rw [hqw]
      clear hqw hq0 hq1 hq2 hq3 hc1 hc2 hi0 hin'
      go_loopg [4, 29] nf (fun gk s4 s29 wx => ∃ (r : Nat) (M1 : Nat → Prop) (L1 : List Nat) (v1 : Value), r + gk = nf ∧ s29 = .int .i64 r ∧ v1 = s4 ∧ Hid (un n1 M1 + L1.length = gko) ∧ Hid (OwI wx W.heap.size v1 (nI L1)) ∧ Hid (MkG 4 (.bool true) (.bool false) wx V.heap.size g n1 M1) ∧ Hid (Wk1 m P M1 L1 i r) ∧ Hid (W.grownBy wx (some g)))
      case atStart => exact ⟨0, M, K, _, by omega, rfl, rfl, HUN, HOF, HR, HWK, HGR⟩
      case round =>
        obtain ⟨r, M1, L1, v1, hrg, rfl, rfl, HU1, HO1, HR1, HW1, HG1⟩ := hrel
        cases gk with
        | zero =>
          obtain rfl : r = nf := by omega
          have hlt : ¬ (r : Int) < (r : Int) := by omega
          have HWL := Lib.hid (HW1.out.last (by rw [HNF.out.1, HNF.out.2.2]))
          go_wp2
          go_roundg gko
          case measure => omega
          case rel => exact ⟨M1, L1, _, HU1.out, rfl, Lib.hid (by have := HGK.out; omega), HO1, HR1, HWL, HG1⟩
        | succ gk =>
          have hlt : (r : Int) < (nf : Int) := by omega
          have hrl : r < fs.length := by have := HNF.out.1; omega
          have h0 : (0 : Int) ≤ (r : Int) := by omega
          have hwr : wrap64 ((r : Int) + 1) = ((r + 1 : Nat) : Int) := by rw [IntWalk.wrap64_in _ (by omega)]; omega
          obtain ⟨g3, o3, rfl, hg3, hc3⟩ := HFI.out r hrl
          have hVW : Below V.heap.size V wr := HV.out.trans (grown_below HG1.out HG.out.1 HV.out.size)
          have hc4 := (hVW.cell (p := ⟨g3, o3 + r, none⟩) hg3).trans hc3
          clear hc3
          have hxb := HFB.out r hrl
          obtain ⟨s, hs⟩ : ∃ s : Nat, fs[r] = (s : Int) := ⟨fs[r].toNat, by omega⟩
          rw [hs] at hc4 hxb
          have hsn : s < n1 := by omega
          have hs0 : (0 : Int) ≤ (s : Int) := by omega
          have hs1 : (s : Int) < (n1 : Int) := by omega
          have HSR : Hid (∃ h : r < (m.fr.getD i []).length, (m.fr.getD i [])[r] = (s : Int)) := Lib.hid (by
            have e := HNF.out.2.2
            subst e
            exact ⟨hrl, hs⟩)
          by_cases hm : M1 s
          · have c1 := HR1.out.yes hsn hm
            obtain ⟨hr', hs'⟩ := HSR.out
            have HW2 := Lib.hid (HW1.out.skip hr' hs' hm)
            clear hxb hs hrl hg3 hVW hr' hs' hsn
            go_wp2
            go_roundg gk
            case measure => omega
            case rel => exact ⟨r + 1, M1, L1, _, by omega, by first | rw [hwr] | rfl | simp, rfl, HU1, HO1, HR1, HW2, HG1⟩
          · have c1 := HR1.out.no hsn hm
            have f1 := HR1.out.frz s
            obtain ⟨hr', hs'⟩ := HSR.out
            have HW2 := Lib.hid (HW1.out.add hr' hs')
            obtain ⟨hR2, hg2⟩ := HR1.out.set hsn
            obtain ⟨X, hX⟩ : ∃ X, X = wr.setCell ⟨g, s, none⟩ (.bool true) := ⟨_, rfl⟩
            rw [← hX] at hR2 hg2
            have hne : v1.ownBlock = none ∨ v1.ownBlock ≠ some g := by
              cases hv : v1.ownBlock with
              | none => exact .inl rfl
              | some b => right; intro e; have := Option.some.inj e; have := (World.ownsRow.lt HO1.out b hv).1; have := HG.out; omega
            have HO2 := Lib.hid (HO1.out.kept hg2 hne)
            have HG2 := Lib.hid (grown_trans HG1.out hg2 (fun j hj => .inl (Option.some.inj hj).symm))
            have HR2 := Lib.hid hR2
            have HU2 : Hid (un n1 (fun x => M1 x ∨ x = s) + (L1.length + 1) = gko) := Lib.hid (by have := un_add n1 hsn hm; have := HU1.out; omega)
            have hown := HO2.out
            have hll : L1.length ≤ 200000 := by have := HU1.out; have := HGK.out; omega
            unfold OwI at hown
            rw [nI_len] at hown
            have HXS : Hid (X.heap.size = wr.heap.size) := Lib.hid (by rw [hX, World.size_setCell])
            clear hxb hs hrl hg3 hVW hr' hs' hsn hR2 hg2
            replace hne : v1.ownBlock ≠ some g := by rcases hne with h | h; (rw [h]; simp); exact h
            have HNE := Lib.hid hne
            clear hne
            go_upto_region 10 with fail
            rw [← hX]
            clear hX c1 f1
            go_wp2_with (at_builtin; refine wpList_append_own _ rfl _ _ 24 rfl W.heap.size 3 i0 (.int .i64 0) 1 8 Tryd.underlying24 hi hz0 hz1 hz2 rfl (by decide) _ _ _ rfl (hown.alloc _) ⟨X.heap.size, 0, none⟩ 1 1 [.int .i64 s] rfl rfl (cell_news _ _ _) (by simp [Value.oneCell']) (by unfold maxLen; omega) (by omega) (by rw [World.size_alloc]; have := HXS.out; have := HG1.out.size; omega) ?_; intro v' w2 hown' hgrow _)
            go_roundg gk
            case measure => omega
            case rel => exact ⟨r + 1, _, L1 ++ [s], _, by omega, by first | rw [hwr] | rfl | simp, rfl, Lib.hid (by rw [List.length_append]; exact HU2.out), Lib.hid (by unfold OwI; rw [nI_app, List.map_append, List.length_append, nI_len]; exact hown'), Lib.hid ((HR2.out.kept (World.grownBy_alloc _ _ none) (by simp)).kept hgrow (fun e => HNE.out e)), HW2, Lib.hid (grown_trans (grown_trans HG2.out (World.grownBy_alloc _ _ none) (fun j hj => by cases hj)) hgrow (fun j hj => .inr (World.ownsRow.lt hown j hj).1))⟩
end Go.Proofs.YtioahgklplbinaaDoor
