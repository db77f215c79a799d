/- TermsMake: the walk. -/
import Derived.BigQuiet
import Derived.Test.YtkphbjppmiefkaaDoorTPU
import Derived.Test.YtkphbjppmiefkaaDoorTRY
import Derived.Test.YtkphbjppmiefkaaDoorTRX
import Derived.Test.YtkphbjppmiefkaaDoorTUT
namespace TermsM
open SetM
theorem places_at {p : List Sp → Bool} : ∀ (l : List (List Sp)) (i : Nat) (z : Int), z ∈ placesF p l i ↔ ∃ j, ∃ h : j < l.length, z = ((i + j : Nat) : Int) ∧ p l[j] = true
  | [], i, z => by simp [placesF]
  | x :: l, i, z => by
    have ih := places_at (p := p) l (i + 1) z
    unfold placesF
    by_cases hp : p x = true
    · rw [if_pos hp, List.mem_cons, ih]
      constructor
      · rintro (h | ⟨j, hj, e, h⟩)
        · exact ⟨0, by simp, by simpa using h, hp⟩
        · exact ⟨j + 1, by simpa using hj, by omega, h⟩
      · rintro ⟨j, hj, e, h⟩
        cases j with
        | zero => exact .inl (by simpa using e)
        | succ j => exact .inr ⟨j, by simpa using hj, by omega, h⟩
    · rw [if_neg hp, ih]
      constructor
      · rintro ⟨j, hj, e, h⟩; exact ⟨j + 1, by simpa using hj, by omega, h⟩
      · rintro ⟨j, hj, e, h⟩
        cases j with
        | zero => exact absurd h hp
        | succ j => exact ⟨j, by simpa using hj, by omega, h⟩
theorem places_le {p : List Sp → Bool} : ∀ (l : List (List Sp)) (i : Nat), (placesF p l i).length ≤ l.length
  | [], _ => by simp [placesF]
  | x :: l, i => by
    have := places_le (p := p) l (i + 1)
    unfold placesF
    split <;> simp <;> omega
/-- The rows of some places. -/
def pickL (p : List (List Sp)) (zs : List Int) : List (List Sp) := zs.map (fun z => p.getD z.toNat [])
theorem pick_succ {p : List (List Sp)} {zs : List Int} {i j : Nat} (h : i < zs.length) (hj : zs[i] = (j : Int)) (hp : j < p.length) : pickL p (zs.take (i + 1)) = pickL p (zs.take i) ++ [p[j]] := by
  unfold pickL
  rw [List.take_succ_eq_append_getElem h, List.map_append, hj]
  congr 1
  simp [List.getD, hp]
theorem PartsOf.picked {l p : List (List Sp)} (h : PartsOf l p) {s : List Sp} (hs : s ∈ l) (r : Int) : (∃ y ∈ pickL p (placesF (fun x => comB x s) p 0), Tells y r) ↔ Tells s r := by
  rw [← h.made hs r]
  unfold pickL
  constructor
  · rintro ⟨y, hy, ht⟩
    obtain ⟨z, hz, rfl⟩ := List.mem_map.1 hy
    obtain ⟨j, hj, rfl, hc⟩ := (places_at p 0 z).1 hz
    have e : p.getD ((0 + j : Nat) : Int).toNat [] = p[j] := by simp [List.getD, hj]
    rw [e] at ht
    exact ⟨p[j], List.getElem_mem hj, comB_iff.1 hc, ht⟩
  · rintro ⟨x, hx, hc, ht⟩
    obtain ⟨j, hj, rfl⟩ := List.mem_iff_getElem.1 hx
    refine ⟨p[j], List.mem_map.2 ⟨(j : Int), (places_at p 0 _).2 ⟨j, hj, by simp, comB_iff.2 hc⟩, by simp [List.getD, hj]⟩, ht⟩
theorem pick_filter {q : List Sp → Bool} : ∀ (l pre : List (List Sp)), (placesF q l pre.length).map (fun z => (pre ++ l).getD z.toNat []) = l.filter q
  | [], pre => rfl
  | x :: l, pre => by
    have ih := pick_filter (q := q) l (pre ++ [x])
    rw [List.append_assoc, List.singleton_append, List.length_append, List.length_singleton] at ih
    unfold placesF
    by_cases h : q x = true
    · rw [if_pos h, List.map_cons, ih, List.filter_cons_of_pos h]
      congr 1
      simp [List.getD]
    · rw [if_neg h, ih, List.filter_cons_of_neg h]
theorem flat_filter (q : List Sp → Bool) (l : List (List Sp)) : (l.filter q).flatten.length ≤ l.flatten.length := by
  induction l with
  | nil => simp
  | cons x l ih =>
    by_cases h : q x = true
    · rw [List.filter_cons_of_pos h, List.flatten_cons, List.flatten_cons, List.length_append, List.length_append]; omega
    · rw [List.filter_cons_of_neg h, List.flatten_cons, List.length_append]; omega
theorem pick_flat (q : List Sp → Bool) (p : List (List Sp)) : (pickL p (placesF q p 0)).flatten.length ≤ p.flatten.length := by
  have := pick_filter (q := q) p []
  unfold pickL
  rw [show (placesF q p 0).map (fun z => p.getD z.toNat []) = p.filter q from this]
  exact flat_filter q p
theorem pick_mem {p : List (List Sp)} {zs : List Int} (h : ∀ z ∈ zs, ∃ j : Nat, z = j ∧ j < p.length) {y : List Sp} (hy : y ∈ pickL p zs) : y ∈ p := by
  obtain ⟨z, hz, rfl⟩ := List.mem_map.1 hy
  obtain ⟨j, rfl, hj⟩ := h z hz
  simp [List.getD, hj]
end TermsM
namespace Go.Proofs.YtkphbjppmiefkaaDoor
open Go.RowKit Go.Shelf Go.Maps SetM TermsM
set_option maxRecDepth 100000 in
set_option maxHeartbeats 8000000 in
theorem termsMake_any {W : World} {A : Option Addr} {n ca : Nat} {kz : Int} {cs : List (List Int)} (h0 : 0 < W.heap.size) (hA : Areas W) (hn : n = cs.length) (hn8 : n ≤ 9223372036854775807) (hC : Css W A cs) (hk0 : 0 ≤ kz) (hk1 : kz ≤ 255) :
    Calls Tryd.prog 7 #[.slice A n ca, .int .u8 kz] W fun e W' => e = .returned (.bool true) ∧ Below W.heap.size W W' := by
  have HK : Hid (∀ V, Below W.heap.size W V → Calls Tryd.prog 9 #[] V fun e W' => e = .returned (.bool true) ∧ Below V.heap.size V W') := Lib.hid (fun V hV => known10 (by have := hV.size; omega) (hA.below hV h0))
  have HLI := Lib.hid (list_c (W := W) (A := A) (n := n) (ca := ca) (cs := cs) hn hn8 hC)
  have HA := Lib.hid (And.intro h0 hA)
  have HW0 := Lib.hid (listF_wide hC)
  clear h0 hA hn hn8 hC
  go_enter Tryd.func7, Tryd.ntmps7
  go_wp2_with fail
  refine HLI.out.mono ?_
  rintro e w2 ⟨P2, c2, rfl, hR2, hP2, hc2, b2⟩
  have HX : Hid ((listF cs 8).length ≤ 8 ∧ (∀ y ∈ listF cs 8, y.length ≤ 30) ∧ (listF cs 8).flatten.length ≤ 240) := Lib.hid (listF_le cs)
  obtain ⟨x, hx⟩ : ∃ x, x = listF cs 8 := ⟨_, rfl⟩
  rw [← hx] at hR2 hc2 HX HW0 ⊢
  obtain ⟨nx, hnx⟩ : ∃ nx, nx = x.length := ⟨_, rfl⟩
  rw [← hnx]
  have HNX := Lib.hid hnx
  have HB2 := Lib.hid b2
  have HR2 := Lib.hid hR2
  have HOF : Hid (∀ V, Below w2.heap.size w2 V → Calls Tryd.prog 11 #[.slice P2 nx c2] V (PartsPost x V)) := Lib.hid (fun V hV => of_c (by have := b2.size; have := hV.size; have := HA.out.1; omega) ((HA.out.2.below b2 HA.out.1).below hV (by have := b2.size; have := HA.out.1; omega)) hnx (hR2.step hV) (by have := HX.out.1; omega) (by have := HX.out.2.2; omega))
  clear hx hnx hP2 hc2 b2 hR2 HLI
  by_cases hz : nx = 0
  · have hzz : (nx : Int) = 0 := by omega
    subst hz
    go_wp2_with fail
    refine (HK.out _ HB2.out).mono ?_
    rintro e w3 ⟨rfl, b3⟩
    have HB3 := Lib.hid b3
    have HBW := Lib.hid (HB2.out.trans (b3.mono HB2.out.size))
    clear b3
    go_wp2_with fail
    refine (HOF.out _ HB3.out).mono ?_
    rintro e w4 ⟨P4, c4, p, rfl, _, hpp, _, hn4, _, _, b4⟩
    have hp0 : p.length = 0 := by
      rcases Nat.eq_zero_or_pos p.length with h | h
      · exact h
      · exfalso
        have hx := List.getElem_mem h
        have hm := lo_mem (hpp.bun.nf _ hx).1 (hpp.bun.nf _ hx).2
        obtain ⟨s, hs, _⟩ := (hpp.bun.dom _).2 ⟨_, hx, hm⟩
        have := List.length_pos_of_mem hs
        have := HNX.out
        omega
    rw [hp0]
    have HB4 := Lib.hid (HBW.out.trans (b4.mono HBW.out.size))
    clear hpp hn4 b4 hp0
    go_wp2_with fail
    go_ret
    exact ⟨rfl, HB4.out⟩
  · have hne : (nx : Int) ≠ 0 := by omega
    have hne' : ¬ (nx : Int) = 0 := hne
    have hpos : (0 : Int) < (nx : Int) := by omega
    obtain ⟨i, hi⟩ : ∃ i : Nat, kz % (nx : Int) = (i : Int) := ⟨(kz % (nx : Int)).toNat, (Int.toNat_of_nonneg (Int.emod_nonneg _ hne)).symm⟩
    have hin : (i : Int) < (nx : Int) := by rw [← hi]; exact Int.emod_lt_of_pos _ hpos
    have hi0 : (0 : Int) ≤ (i : Int) := by omega
    have hix : i < x.length := by have := HNX.out; omega
    obtain ⟨bx, ox, rfl⟩ := HR2.out.form (by omega)
    obtain ⟨Qs, cq, hqs, hss, hcs⟩ := HR2.out.row hix
    have c0 := hcs _ (Below.refl _ _)
    obtain ⟨s, hs⟩ : ∃ s, s = x[i] := ⟨_, rfl⟩
    rw [← hs] at hss c0
    have HSX : Hid (s ∈ x) := Lib.hid (by rw [hs]; exact List.getElem_mem hix)
    obtain ⟨ns, hns⟩ : ∃ ns, ns = s.length := ⟨_, rfl⟩
    rw [← hns] at c0
    have HNS := Lib.hid hns
    have HSS := Lib.hid hss
    have HIX := Lib.hid (And.intro hix hqs)
    clear hcs hs hns hss hix hqs
    go_upto_region 5 with fail
    clear hi hin hi0 c0 hk0 hk1
    go_wp2_with fail
    refine (HOF.out _ (Below.refl _ _)).mono ?_
    rintro e w3 ⟨P3, c3, p, rfl, hR3, hpp, hf3, hn3, hP3, hc3, b3⟩
    obtain ⟨np, hnp⟩ : ∃ np, np = p.length := ⟨_, rfl⟩
    rw [← hnp]
    have hnp8 : np ≤ 2000 := by have := HX.out.2.2; omega
    have HNP := Lib.hid (And.intro hnp hpp)
    have HR3 := Lib.hid hR3
    have HF3 : Hid (p.flatten.length ≤ 2000) := Lib.hid (by have := HX.out.2.2; omega)
    have HL3 : Hid (∀ y ∈ p, y.length ≤ 2000) := Lib.hid (fun y hy => by have := flat_memm hy; have := HF3.out; omega)
    have HB3 := Lib.hid (HB2.out.trans (b3.mono HB2.out.size))
    have HB23 := Lib.hid b3
    have hA3 := HA.out.2.below HB3.out HA.out.1
    have h03 : 0 < w3.heap.size := by have := HB3.out.size; have := HA.out.1; omega
    have hs3 : Sl0 w3 Qs s := (Spans.below b3 HSS.out).mono b3.size
    have hs30 : s.length ≤ 30 := HX.out.2.1 _ HSX.out
    have HPA := Lib.hid (parts_c (W := w3) (A := P3) (Q := Qs) (n := np) (c := c3) (k := ns) (d := cq) (ls := p) (s := s) h03 hA3 hnp (by omega) hR3 (fun y hy => by have := HL3.out y hy; omega) HNS.out (by have := HNS.out; omega) hs3)
    have HS3 := Lib.hid hs3
    clear hnp hpp hf3 hn3 hP3 hc3 b3 hR3 hs3 hA3 h03 HOF
    go_wp2_with fail
    refine HPA.out.mono ?_
    rintro e w4 ⟨P4, c4, o, zs, rfl, hZ, _, hm, hzs, b4⟩
    have he := places_congr (q := fun x => comB x s) p 0 (fun x _ => meet_iff (x := x) hm)
    rw [he] at hzs
    obtain ⟨m, hm'⟩ : ∃ m, m = zs.length := ⟨_, rfl⟩
    rw [← hm']
    have hm8 : m ≤ 2000 := by rw [hm', hzs]; have := places_le (p := fun x => comB x s) p 0; have := HNP.out.1; omega
    have HZN : Hid (∀ z ∈ zs, ∃ j : Nat, z = j ∧ j < p.length) := Lib.hid (fun z hz => by
      rw [hzs] at hz
      obtain ⟨j, hj, e, _⟩ := (places_at p 0 z).1 hz
      exact ⟨j, by omega, hj⟩)
    have HZ := Lib.hid (And.intro hm' hzs)
    have HZZ := Lib.hid hZ
    have HB4 := Lib.hid b4
    have HW4 := Lib.hid (HB3.out.trans (b4.mono HB3.out.size))
    have HR4 := Lib.hid (HR3.out.step b4)
    clear hZ hm hzs he b4 HPA hm'
    go_wp2_with fail
    go_loopg [9, 10] m (fun g s9 s10 wx => ∃ (i : Nat) (v9 : Value), i + g = m ∧ s10 = .int .i64 i ∧ v9 = s9 ∧ Hid (RO w4.heap.size wx v9 (pickL p (zs.take i))) ∧ Hid (Below w4.heap.size w4 wx))
    case atStart => exact ⟨0, _, by omega, rfl, rfl, Lib.hid (RO.nil _ _), Lib.hid (Below.refl _ _)⟩
    case round =>
      obtain ⟨j, v9, hjg, rfl, rfl, HO, HB⟩ := hrel
      have HJG := Lib.hid hjg
      cases gk with
      | zero =>
        obtain rfl : j = m := by omega
        have hlt : ¬ (j : Int) < (j : Int) := by omega
        have hBW := HW4.out.trans (HB.out.mono HW4.out.size)
        have HBW := Lib.hid hBW
        obtain ⟨L, hL⟩ : ∃ L, L = pickL p (zs.take j) := ⟨_, rfl⟩
        have hLz : L = pickL p zs := by rw [hL, HZ.out.1, List.take_length]
        have hro := HO.out
        rw [← hL] at hro
        obtain ⟨P9, c9, rfl, hr9, _⟩ := hro.rs HB.out.size
        have HR9 := Lib.hid hr9
        have hLm : ∀ y ∈ L, y ∈ p := fun y hy => pick_mem HZN.out (by rw [← hLz]; exact hy)
        have hLl : L.length = j := by rw [hLz]; unfold pickL; rw [List.length_map]; exact HZ.out.1.symm
        have hp2 : ∀ y ∈ p, Wide y := fun y hy => wide_set (K := fun r => Mem y r) ⟨(HNP.out.2.bun.nf y hy).1, fun r => Iff.rfl⟩ (fun r hr => HNP.out.2.sc hy hr)
        have HLW : Hid (∀ y ∈ L, Wide y) := Lib.hid (fun y hy => hp2 y (hLm y hy))
        have htot : total L ≤ 20000 := by
          have h1 := pick_flat (fun x => comB x s) p
          rw [← HZ.out.2, ← hLz] at h1
          have := HF3.out
          unfold total flat
          omega
        have HLT := Lib.hid (And.intro htot (And.intro hLl hLz))
        clear hL hLz hro hr9 hLm hLl hp2 htot hBW HO
        go_wp2_with fail
        refine (HK.out _ HBW.out).mono ?_
        rintro e w6 ⟨rfl, b6⟩
        have HR6 := Lib.hid (HR9.out.step b6)
        have HB6 := Lib.hid (HBW.out.trans (b6.mono HBW.out.size))
        have HV6 := Lib.hid (HB.out.trans (b6.mono HB.out.size))
        clear b6
        have HUN := Lib.hid (runion_any P9 c9 L (by have := HLT.out.2.1; omega) HLT.out.1 HLW.out w6 HR6.out)
        go_wp2_with fail
        refine HUN.out.mono ?_
        rintro e w7 ⟨P7, c7, o7, rfl, i7, _, s7, _, b7⟩
        have hi7 : IsSet o7 (fun r => Tells s r) := i7.congr (fun r => by rw [HLT.out.2.2, HZ.out.2]; exact HNP.out.2.picked HSX.out r)
        have hw0 : Wide s := HW0.out s HSX.out
        have hs30 := HX.out.2.1 s HSX.out
        have hl7 : o7.length ≤ 4 + 2 * s.length := nf_len hi7.1 hi7.2
        have hsv : Sl w7 Qs s := by
          have h1 := HV6.out.trans (b7.mono HV6.out.size)
          have h2 := HB4.out.trans (h1.mono HB4.out.size)
          exact (Spans.below h2 HS3.out).mono h2.size
        have hsm := rsame_c (W := w7) (P := P7) (Q := Qs) (c := c7) (d := cq) (l := o7) (m := s) s7 hsv (by omega) (by omega) (wide_set hi7 (fun r h => h.1)) hw0
        rw [← HNS.out] at hsm
        have HSM := Lib.hid hsm
        have HI7 := Lib.hid hi7
        have HB7 := Lib.hid (HB6.out.trans (b7.mono HB6.out.size))
        clear i7 s7 b7 hi7 hw0 hs30 hl7 hsv hsm HUN
        go_wp2_with fail
        refine HSM.out.mono ?_
        rintro e w8 ⟨u, v, hu, hv, rfl, b8⟩
        have huv : u = v := hu.eq hv (fun r => HI7.out.tells (fun _ h => h.1) r)
        rw [decide_eq_true huv]
        have HB8 := Lib.hid (HB7.out.trans (b8.mono HB7.out.size))
        clear hu hv huv b8 HSM
        go_wp2_with fail
        go_ret
        exact ⟨rfl, HB8.out⟩
      | succ g =>
        have hlt : (j : Int) < (m : Int) := by omega
        have hjz : j < zs.length := by have := HZ.out.1; omega
        have hj0 : (0 : Int) ≤ (j : Int) := by omega
        obtain ⟨t, ht, htp⟩ := HZN.out _ (List.getElem_mem hjz)
        obtain ⟨b4', o4, rfl, hb4, hc4⟩ := HZZ.out (by intro h; rw [h] at hjz; simp at hjz)
        have c0 := (HB.out.cell (p := ⟨b4', o4 + j, none⟩) hb4).trans (hc4 j hjz)
        rw [ht] at c0
        have ht0 : ¬ (t : Int) < 0 := by omega
        have ht0' : (0 : Int) ≤ (t : Int) := by omega
        have htn : (t : Int) < (np : Int) := by have := HNP.out.1; omega
        have htn' : ¬ (t : Int) ≥ (np : Int) := by omega
        obtain ⟨bp, op, rfl⟩ := HR4.out.form (by omega)
        obtain ⟨Qt, ct, hqt, hst, hct⟩ := HR4.out.row htp
        have c1 := hct _ HB.out
        obtain ⟨nt, hnt⟩ : ∃ nt, nt = p[t].length := ⟨_, rfl⟩
        rw [← hnt] at c1
        have HST := Lib.hid (And.intro hnt (And.intro hst hqt))
        have HPK := Lib.hid (pick_succ hjz ht htp)
        have HTP := Lib.hid htp
        clear hc4 hct hnt hst hqt ht hb4
        have hwz := HB.out.size
        have hb2 : Below w4.heap.size w4 (wr.alloc (.cells #[.slice Qt nt ct] 28)) := HB.out.alloc hwz _
        have hb12 : Below wr.heap.size wr (wr.alloc (.cells #[.slice Qt nt ct] 28)) := (Below.refl _ _).alloc (Nat.le_refl _) _
        have hlt8 : (pickL p (zs.take j)).length ≤ 2000 := by unfold pickL; rw [List.length_map, List.length_take]; omega
        go_upto_region 10 with (at_builtin; refine wpList_ro1 rfl _ _ rfl w4.heap.size _ (pickL p (zs.take j)) rfl (HO.out.below hb12 hwz) wr.heap.size rfl Qt nt ct (p[t]'HTP.out) HST.out.1 (heap_alloc_new wr _) HST.out.2.2 (HST.out.2.1.below hb2) (by omega) (by rw [World.size_alloc]; omega) ?_; intro v2 w5 ho5 hg5)
        have HB5 : Hid (Below w4.heap.size w4 w5) := Lib.hid (hb2.grown hg5 (by rw [World.size_alloc]; omega) (fun k e => HO.out.own e))
        have HO5 : Hid (RO w4.heap.size w5 v2 (pickL p (zs.take (j + 1)))) := Lib.hid (by rw [HPK.out]; exact ho5)
        clear hb2 hb12 ho5 hg5 HO HB c0 c1
        go_wp2_with fail
        go_roundg g
        case measure => omega
        case rel => exact ⟨j + 1, v2, by have := HJG.out; omega, by go_num, rfl, HO5, HB5⟩
end Go.Proofs.YtkphbjppmiefkaaDoor
