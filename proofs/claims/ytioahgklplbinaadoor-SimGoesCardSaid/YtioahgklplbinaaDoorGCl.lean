/- The document's closed: what free ways lead to, by rounds. -/
import Derived.Test.YtioahgklplbinaaDoorGPub
namespace Go.Proofs.YtioahgklplbinaaDoor
open Go.RowKit Go.Shelf SetM NfaM SimM
set_option maxRecDepth 100000 in
set_option maxHeartbeats 16000000 in
theorem closed_c {V W : World} {p0 p1 p2 : Option Addr} {n0 n1 k c0 c1 c2 g : Nat} {m : Mc} {P : Nat → Prop} (hm : MR V p0 p1 p2 m) (hB : Below V.heap.size V W) (h : MkG 3 (.int .i64 1) (.int .i64 0) W V.heap.size g k P) (hk : k = m.tg.length) (hg : Gm m) (hn1 : n1 = k) (hP : ∀ j, P j → j < k) :
    Calls Tryd.prog 28 #[.agg #[.slice p0 n0 c0, .slice p1 n1 c1, .slice p2 k c2], .slice (some ⟨g, 0, none⟩) k k] W fun e W' => ∃ v, e = .returned v ∧ OwI W' W.heap.size v (stL k (Cl m P)) ∧ Below V.heap.size V W' := by
  subst hn1
  obtain ⟨i0, hi, hz0, hz1, hz2⟩ := info_parts infoIn
  obtain ⟨U, hU⟩ : ∃ U, U = W.alloc (.cells #[.slice p0 n0 c0, .slice p1 n1 c1, .slice p2 n1 c2] 30) := ⟨_, rfl⟩
  have hb : Below W.heap.size W U := by rw [hU]; exact (Below.refl _ _).alloc (Nat.le_refl _) _
  have x0 : U.heap[W.heap.size]? = some (.cells #[.slice p0 n0 c0, .slice p1 n1 c1, .slice p2 n1 c2] 30 (0, 0)) := by rw [hU]; exact heap_alloc_new W _
  have HM := Lib.hid hm
  have HR0 := Lib.hid (h.step hb)
  have HGL := Lib.hid h.lt
  have HBU := Lib.hid (hB.trans (hb.mono hB.size))
  have HZ : Hid (W.heap.size ≤ U.heap.size) := Lib.hid hb.size
  have HX := Lib.hid x0
  have HLT := Lib.hid (Array.getElem?_eq_some_iff.1 x0).1
  have HG := Lib.hid hg
  have HK := Lib.hid hk
  have HP := Lib.hid hP
  have hk8 : n1 ≤ 2000 := by have := hg.k2; omega
  have HWV := Lib.hid hB.size
  clear hm hB h hb x0 hg hP hk
  have HU0 := Lib.hid (show U.grownBy U (some g) from grown_refl' U (some g))
  -- what is read of the machine, in any world that only wrote the marks
  have HRD := Lib.hid (fun (Y : World) (hY : U.grownBy Y (some g)) => (show (Y.cell? ⟨W.heap.size, 1, none⟩ = some (.slice p1 n1 c1)) ∧ Below V.heap.size V Y from ⟨(cells3 ((hY.block _ HLT.out (fun e => by have := Option.some.inj e; have := HGL.out; omega)).trans HX.out)).1.2.1, HBU.out.trans (grown_below hY HGL.out.1 HBU.out.size)⟩))
  go_enter Tryd.func28, Tryd.ntmps28
  go_upto_region 1 with fail
  rw [← hU]
  clear hU
  go_wp2_with fail
  go_loopg [5] (un n1 P + 1) (fun gk s5 wx => ∃ (M : Nat → Prop) (mo : Bool), un n1 M + (if mo = true then 1 else 0) ≤ gk ∧ s5 = .bool mo ∧ Hid (∀ j, P j → M j) ∧ Hid (∀ j, M j → Cl m P j) ∧ Hid (mo = false → ∀ j, M j ↔ Cl m P j) ∧ Hid (MkG 3 (.int .i64 1) (.int .i64 0) wx V.heap.size g n1 M) ∧ Hid (U.grownBy wx (some g)))
  case atStart => exact ⟨P, true, by simp, rfl, Lib.hid (fun _ h => h), Lib.hid (fun j h => .base j h), Lib.hid (fun h => by cases h), HR0, HU0⟩
  case round =>
    obtain ⟨M, mo, hun, rfl, HS, HC, HF, HR, HGR⟩ := hrel
    cases mo with
    | false =>
      have HRC := Lib.hid (HR.out.congr (fun j _ => HF.out rfl j))
      have HVB := Lib.hid (HRD.out wr HGR.out).2
      obtain ⟨w1, hw1⟩ : ∃ w1, w1 = wr := ⟨_, rfl⟩
      subst hw1
      clear hun
      go_wp2_with fail
      go_loopg [8, 9] n1 (fun gk s8 s9 wx => ∃ (r : Nat) (v : Value), r + gk = n1 ∧ s9 = .int .i64 r ∧ v = s8 ∧ Hid (OwI wx w1.heap.size v (stL r (Cl m P))) ∧ Hid (Below w1.heap.size w1 wx))
      case atStart => exact ⟨0, _, by omega, rfl, rfl, Lib.hid (OwI.nil _ _), Lib.hid (Below.refl _ _)⟩
      case round =>
        obtain ⟨r, v8, hrg, rfl, rfl, HO, HB⟩ := hrel
        cases gk with
        | zero =>
          obtain rfl : r = n1 := by omega
          have hlt : ¬ (r : Int) < (r : Int) := by omega
          have HE := Lib.hid (HVB.out.trans (HB.out.mono HVB.out.size))
          have HOL := Lib.hid (HO.out.low (show W.heap.size ≤ w1.heap.size by have := HGR.out.size; have := HZ.out; omega))
          go_wp2_with fail
          go_ret
          exact ⟨_, rfl, HOL.out, HE.out⟩
        | succ gk =>
          have hlt : (r : Int) < (n1 : Int) := by omega
          have hrk : r < n1 := by omega
          have h0 : (0 : Int) ≤ (r : Int) := by omega
          have hwr : wrap64 ((r : Int) + 1) = ((r + 1 : Nat) : Int) := by rw [IntWalk.wrap64_in _ (by omega)]; omega
          have hb := HB.out
          have hgl : g < w1.heap.size := HRC.out.lt.2
          by_cases hm : Cl m P r
          · have c1 := (hb.cell (p := ⟨g, r, none⟩) hgl).trans (HRC.out.yes hrk hm)
            have hown := HO.out
            have HSY := Lib.hid (stL_yes hm)
            have hle := stL_len r (Cl m P)
            generalize stL r (Cl m P) = L at *
            unfold OwI at hown
            have hwz1 := hb.size
            go_wp2_with (at_builtin; refine wpList_append_own _ rfl _ _ 24 rfl w1.heap.size 3 i0 (.int .i64 0) 1 8 Tryd.underlying24 hi hz0 hz1 hz2 rfl (by decide) _ _ _ rfl (hown.alloc _) ⟨wr.heap.size, 0, none⟩ 1 1 [.int .i64 r] rfl rfl (cell_news _ _ _) (by simp [Value.oneCell']) (by unfold maxLen; omega) (by omega) (by rw [World.size_alloc]; omega) ?_; intro v' w2 hown' hgrow _)
            go_roundg gk
            case measure => omega
            case rel => exact ⟨r + 1, _, by omega, by first | rw [hwr] | rfl | simp, rfl, Lib.hid (by rw [HSY.out]; unfold OwI; rw [List.map_append, List.length_append]; exact hown'), Lib.hid ((hb.alloc hwz1 _).grown hgrow (by rw [World.size_alloc]; omega) (fun j hj => (hown.lt j hj).1))⟩
          · have c1 := (hb.cell (p := ⟨g, r, none⟩) hgl).trans (HRC.out.no hrk hm)
            have HO2 : Hid (OwI wr w1.heap.size v8 (stL (r + 1) (Cl m P))) := Lib.hid (by rw [stL_no hm]; exact HO.out)
            go_wp2_with fail
            go_roundg gk
            case measure => omega
            case rel => exact ⟨r + 1, _, by omega, by first | rw [hwr] | rfl | simp, rfl, HO2, HB⟩
    | true =>
      obtain ⟨gko, rfl⟩ : ∃ x, gk = x + 1 := ⟨gk - 1, by simp at hun; omega⟩
      have HUN : Hid (un n1 M ≤ gko) := Lib.hid (by simp at hun; omega)
      have HRB := Lib.hid (Rd.begin HS.out HC.out)
      clear hun
      go_wp2_with fail
      go_loopg [5, 6] n1 (fun gk s5 s6 wx => ∃ (i : Nat) (M2 : Nat → Prop) (mo : Bool), i + gk = n1 ∧ s6 = .int .i64 i ∧ s5 = .bool mo ∧ Hid (Rd m P M M2 mo i 0) ∧ Hid (MkG 3 (.int .i64 1) (.int .i64 0) wx V.heap.size g n1 M2) ∧ Hid (U.grownBy wx (some g)))
      case atStart => exact ⟨0, M, false, by omega, rfl, rfl, HRB, HR, HGR⟩
      case round =>
        obtain ⟨i, M2, mo, hig, rfl, rfl, HD, HR2, HG2⟩ := hrel
        cases gk with
        | zero =>
          obtain rfl : i = n1 := by omega
          have hlt : ¬ (i : Int) < (i : Int) := by omega
          have HLE : Hid (un i M2 + (if mo = true then 1 else 0) ≤ gko) := Lib.hid (by
            cases mo with
            | false =>
              have := un_congr (n := i) (M := M) (M' := M2) (fun j _ => ⟨HD.out.up j, HD.out.no rfl j⟩)
              have := HUN.out
              simp; omega
            | true =>
              obtain ⟨j, h1, h2, h3⟩ := HD.out.yes rfl
              have := un_lt (n := i) HD.out.up (by have := HG.out.fr.2.1; have := HK.out; omega) h2 h3
              have := HUN.out
              simp; omega)
          have HF2 : Hid (mo = false → ∀ j, M2 j ↔ Cl m P j) := Lib.hid (fun e j => by
            subst e
            exact HD.out.fin (fun x hx => by rw [HK.out]; exact cl_lt HG.out.fr (fun j hj => by rw [← HK.out]; exact HP.out j hj) (HD.out.cl x hx)) j)
          have HS2 := Lib.hid HD.out.sub
          have HC2 := Lib.hid HD.out.cl
          go_wp2_with fail
          go_roundg gko
          case measure => omega
          case rel => exact ⟨M2, mo, HLE.out, rfl, HS2, HC2, HF2, HR2, HG2⟩
        | succ gki =>
          have hlt : (i : Int) < (n1 : Int) := by omega
          have hin : i < n1 := by omega
          have hi0 : (0 : Int) ≤ (i : Int) := by omega
          have hwi : wrap64 ((i : Int) + 1) = ((i + 1 : Nat) : Int) := by rw [IntWalk.wrap64_in _ (by omega)]; omega
          have hif : i < m.fr.length := by have := HG.out.fr.2.1; have := HK.out; omega
          obtain ⟨g1, o1, Pf, cf, rfl, hg1, hc1, hfin⟩ := HM.out.fr i hif
          obtain ⟨fs, hfs⟩ : ∃ fs, fs = m.fr.getD i [] := ⟨_, rfl⟩
          have hfe : m.fr[i] = fs := by rw [hfs, row_at hif]
          rw [hfe] at hc1 hfin
          obtain ⟨nf, hnf⟩ : ∃ nf, nf = fs.length := ⟨_, rfl⟩
          rw [← hnf] at hc1
          have HNF : Hid (nf = fs.length ∧ nf ≤ 9223372036854775807 ∧ fs = m.fr.getD i []) := Lib.hid ⟨hnf, by rw [hnf, hfs]; exact HG.out.fr.2.2 i hif, hfs⟩
          have HFI : Hid (InR V Pf fs) := Lib.hid hfin
          have HFB : Hid (∀ r (h : r < fs.length), 0 ≤ fs[r] ∧ fs[r] < (n1 : Int)) := Lib.hid (fun r h => by
            have h1 : fs[r] ∈ m.fr.getD i [] := by rw [← hfs]; exact List.getElem_mem h
            obtain ⟨row, h2, h3⟩ := mem_row h1
            have := HG.out.fr.1 row h2 _ h3
            have := HK.out
            omega)
          have HRO := Lib.hid (fun (Y : World) (hY : U.grownBy Y (some g)) => (show (Y.cell? ⟨W.heap.size, 1, none⟩ = some (.slice (some ⟨g1, o1, none⟩) n1 c1)) ∧ Y.cell? ⟨g1, o1 + i, none⟩ = some (.slice Pf nf cf) ∧ Below V.heap.size V Y from ⟨(HRD.out Y hY).1, ((HRD.out Y hY).2.cell (p := ⟨g1, o1 + i, none⟩) hg1).trans hc1, (HRD.out Y hY).2⟩))
          have hnf8 : nf ≤ 9223372036854775807 := HNF.out.2.1
          have HIN := Lib.hid hin
          clear hc1 hfin hfs hfe hnf hif hg1 hin
          go_wp2_with fail
          go_loopg [5, 7] nf (fun gk s5 s7 wx => ∃ (r : Nat) (M3 : Nat → Prop) (mo : Bool), r + gk = nf ∧ s7 = .int .i64 r ∧ s5 = .bool mo ∧ Hid (Rd m P M M3 mo i r) ∧ Hid (MkG 3 (.int .i64 1) (.int .i64 0) wx V.heap.size g n1 M3) ∧ Hid (U.grownBy wx (some g)))
          case atStart => exact ⟨0, M2, mo, by omega, rfl, rfl, HD, HR2, HG2⟩
          case round =>
            obtain ⟨r, M3, mo3, hrg, rfl, rfl, HD3, HR3, HG3⟩ := hrel
            obtain ⟨e1, e2, _⟩ := HRO.out wr HG3.out
            have hr0 : (0 : Int) ≤ (r : Int) := by omega
            have hi1 : (i : Int) < (n1 : Int) := hlt
            cases gk with
            | zero =>
              obtain rfl : r = nf := by omega
              have hlt2 : ¬ (r : Int) < (r : Int) := by omega
              have HD4 := Lib.hid (HD3.out.row (fun _ => by rw [HNF.out.1, HNF.out.2.2]))
              go_wp2_with fail
              go_roundg gki
              case measure => omega
              case rel => exact ⟨i + 1, M3, mo3, by omega, by first | rw [hwi] | rfl | simp, rfl, HD4, HR3, HG3⟩
            | succ gk =>
              have hlt2 : (r : Int) < (nf : Int) := by omega
              by_cases hMi : M3 i
              · have f1 := HR3.out.yes HIN.out hMi
                have hrl : r < fs.length := by have := HNF.out.1; omega
                have hwr : wrap64 ((r : Int) + 1) = ((r + 1 : Nat) : Int) := by rw [IntWalk.wrap64_in _ (by omega)]; omega
                obtain ⟨g3, o3, rfl, hg3, hc3⟩ := HFI.out r hrl
                have hc4 := ((HRO.out wr HG3.out).2.2.cell (p := ⟨g3, o3 + r, none⟩) hg3).trans hc3
                clear hc3
                have hxb := HFB.out r hrl
                obtain ⟨s, hs⟩ : ∃ s : Nat, fs[r] = (s : Int) := ⟨fs[r].toNat, by omega⟩
                rw [hs] at hc4 hxb
                have hsn : s < n1 := by omega
                have hs0 : (0 : Int) ≤ (s : Int) := by omega
                have hs1 : (s : Int) < (n1 : Int) := by omega
                have HSR : Hid (∃ h : r < (m.fr.getD i []).length, (m.fr.getD i [])[r] = (s : Int)) := Lib.hid (by
                  have e := HNF.out.2.2
                  subst e
                  exact ⟨hrl, hs⟩)
                by_cases hm : M3 s
                · have c1 := HR3.out.yes hsn hm
                  obtain ⟨hr', hs'⟩ := HSR.out
                  have HD4 := Lib.hid (HD3.out.skip hr' hs' hm)
                  clear hxb hs hrl hg3 hr' hs' hsn hm hMi
                  go_wp2_with fail
                  go_roundg gk
                  case measure => omega
                  case rel => exact ⟨r + 1, M3, mo3, by omega, by first | rw [hwr] | rfl | simp, rfl, HD4, HR3, HG3⟩
                · have c1 := HR3.out.no hsn hm
                  have fz := HR3.out.frz s
                  obtain ⟨hr', hs'⟩ := HSR.out
                  have HD4 := Lib.hid (HD3.out.add hr' hs' hMi hm (by have := HG.out.fr.2.1; have := HK.out; omega))
                  obtain ⟨hR4, hg4⟩ := HR3.out.set hsn
                  have HR4 := Lib.hid hR4
                  have HG4 := Lib.hid (grown_trans HG3.out hg4 (fun j hj => .inl (Option.some.inj hj).symm))
                  clear hxb hs hrl hg3 hr' hs' hsn hm hMi hR4 hg4
                  go_wp2_with fail
                  go_roundg gk
                  case measure => omega
                  case rel => exact ⟨r + 1, _, true, by omega, by first | rw [hwr] | rfl | simp, rfl, HD4, HR4, HG4⟩
              · have f1 := HR3.out.no HIN.out hMi
                have HD4 := Lib.hid (HD3.out.row (fun h => absurd h hMi))
                clear hMi
                go_wp2_with fail
                go_roundg gki
                case measure => omega
                case rel => exact ⟨i + 1, M3, mo3, by omega, by first | rw [hwi] | rfl | simp, rfl, HD4, HR3, HG3⟩
end Go.Proofs.YtioahgklplbinaaDoor
