/- Several texts in one: TKnown, TList. -/
import Derived.Test.YtkphbjppmiefkaaDoorTParts
section
/- The chapter's example. -/
namespace TermsM
open SetM
def kIn : List (List Sp) := [[(0, 9)], [(5, 20)]]
def kOut : List (List Sp) := [[(0, 4)], [(5, 9)], [(10, 20)]]
theorem mem_one (a b r : Int) : Mem [(a, b)] r ↔ a ≤ r ∧ r ≤ b := by simp [Mem]
theorem tells_one (a b r : Int) : Tells [(a, b)] r ↔ Sc r ∧ a ≤ r ∧ r ≤ b := by unfold Tells; rw [mem_one]
theorem al_k (r r' : Int) : Al kIn r r' ↔ ((Sc r ∧ 0 ≤ r ∧ r ≤ 9 ↔ Sc r' ∧ 0 ≤ r' ∧ r' ≤ 9) ∧ (Sc r ∧ 5 ≤ r ∧ r ≤ 20 ↔ Sc r' ∧ 5 ≤ r' ∧ r' ≤ 20)) := by simp [Al, kIn, tells_one]
theorem an_k (r : Int) : An kIn r ↔ (Sc r ∧ 0 ≤ r ∧ r ≤ 9) ∨ (Sc r ∧ 5 ≤ r ∧ r ≤ 20) := by simp [An, kIn, tells_one]
theorem ex_k (r : Int) : (∃ x ∈ kOut, Mem x r) ↔ (0 ≤ r ∧ r ≤ 4) ∨ (5 ≤ r ∧ r ≤ 9) ∨ (10 ≤ r ∧ r ≤ 20) := by simp [kOut, mem_one]
theorem parts_k : PartsOf kIn kOut := by
  refine ⟨⟨fun x hx => ?_, fun x hx r r' hr hr' => ?_, fun x hx r r' hr hr' ha => ?_, fun r => ?_, ?_⟩, ?_⟩
  · simp [kOut] at hx
    rcases hx with rfl | rfl | rfl <;> exact ⟨by simp [Nf], by simp⟩
  · rw [al_k]
    unfold Sc
    simp [kOut] at hx
    rcases hx with rfl | rfl | rfl <;> rw [mem_one] at hr hr' <;> omega
  · rw [al_k] at ha
    rw [an_k] at hr'
    unfold Sc at ha hr'
    simp [kOut] at hx
    rcases hx with rfl | rfl | rfl <;> rw [mem_one] at hr ⊢ <;> omega
  · rw [an_k, ex_k]
    unfold Sc
    omega
  · unfold kOut
    refine List.pairwise_cons.2 ⟨fun x hx r h1 h2 => ?_, List.pairwise_cons.2 ⟨fun x hx r h1 h2 => ?_, List.pairwise_singleton _ _⟩⟩
    · rw [mem_one] at h1
      simp at hx
      rcases hx with rfl | rfl <;> rw [mem_one] at h2 <;> omega
    · rw [mem_one] at h1
      simp at hx
      subst hx
      rw [mem_one] at h2
      omega
  · decide
theorem which_k1 : whichZ kOut 20 = 2 := by decide
theorem which_k2 : whichZ kOut 21 = -1 := by decide
theorem places_k : placesF (fun x => decide (∃ u ∈ x, meetB [(6, 7)] u = true)) kOut 0 = [1] := by decide
theorem one_k {o : List Sp} (h : Nf o) (hm : ∀ r, Mem o r ↔ Tells [(6, 7)] r) : o = [(6, 7)] := by
  refine nf_unique o _ h (by simp [Nf]) (fun r => ?_)
  rw [hm]
  unfold Tells Sc
  rw [mem_one]
  omega
end TermsM
namespace Go.Proofs.YtkphbjppmiefkaaDoor
open Go.RowKit Go.Shelf Go.Maps SetM TermsM
set_option maxRecDepth 100000 in
set_option maxHeartbeats 8000000 in
theorem known10 {W : World} (h0 : 0 < W.heap.size) (hA : Areas W) : Calls Tryd.prog 9 #[] W fun e W' => e = .returned (.bool true) ∧ Below W.heap.size W W' := by
  obtain ⟨U1, hU1⟩ : ∃ U, U = W.alloc (.cells #[.int .i64 0, .int .i64 9] 42) := ⟨_, rfl⟩
  obtain ⟨U2, hU2⟩ : ∃ U, U = U1.alloc (.cells #[.int .i64 5, .int .i64 20] 42) := ⟨_, rfl⟩
  obtain ⟨U3, hU3⟩ : ∃ U, U = U2.alloc (.cells #[.slice (some ⟨W.heap.size, 0, none⟩) 1 1, .slice (some ⟨W.heap.size + 1, 0, none⟩) 1 1] 28) := ⟨_, rfl⟩
  have z1 : U1.heap.size = W.heap.size + 1 := by rw [hU1]; exact World.size_alloc _ _
  have z2 : U2.heap.size = W.heap.size + 1 + 1 := by rw [hU2, World.size_alloc, z1]
  have z3 : U3.heap.size = W.heap.size + 1 + 1 + 1 := by rw [hU3, World.size_alloc, z2]
  have b1 : Below W.heap.size W U1 := by rw [hU1]; exact (Below.refl _ _).alloc (Nat.le_refl _) _
  have b2 : Below U1.heap.size U1 U2 := by rw [hU2]; exact (Below.refl _ _).alloc (Nat.le_refl _) _
  have b3 : Below U2.heap.size U2 U3 := by rw [hU3]; exact (Below.refl _ _).alloc (Nat.le_refl _) _
  have b13 : Below U1.heap.size U1 U3 := b2.trans (b3.mono (by omega))
  have b03 : Below W.heap.size W U3 := b1.trans (b13.mono (by omega))
  have x1 : U3.heap[W.heap.size]? = some (.cells #[.int .i64 0, .int .i64 9] 42 (0, 0)) := by rw [b13.block _ (by omega), hU1]; exact heap_alloc_new W _
  have x2 : U3.heap[W.heap.size + 1]? = some (.cells #[.int .i64 5, .int .i64 20] 42 (0, 0)) := by rw [b3.block _ (by omega), hU2, ← z1]; exact heap_alloc_new U1 _
  have x3 : U3.heap[W.heap.size + 1 + 1]? = some (.cells #[.slice (some ⟨W.heap.size, 0, none⟩) 1 1, .slice (some ⟨W.heap.size + 1, 0, none⟩) 1 1] 28 (0, 0)) := by rw [hU3, ← z2]; exact heap_alloc_new U2 _
  obtain ⟨⟨p0, p1⟩, _⟩ := cells2 x1
  obtain ⟨⟨q0, q1⟩, _⟩ := cells2 x2
  obtain ⟨⟨r0, r1⟩, _⟩ := cells2 x3
  have hR : Rs U3 (some ⟨W.heap.size + 1 + 1, 0, none⟩) kIn := fun _ => ⟨_, 0, rfl, by omega, fun j hj => by
    match j, hj with
    | 0, _ => exact ⟨_, 1, r0, fun _ => ⟨_, 0, rfl, by omega, fun i hi => by
        have hi' : i < 1 := hi
        obtain rfl : i = 0 := by omega
        exact ⟨p0, p1⟩⟩, fun e => by cases e⟩
    | 1, _ => exact ⟨_, 1, r1, fun _ => ⟨_, 0, rfl, by omega, fun i hi => by
        have hi' : i < 1 := hi
        obtain rfl : i = 0 := by omega
        exact ⟨q0, q1⟩⟩, fun e => by cases e⟩⟩
  have HO := Lib.hid (of_c (ca := 2) (n := 2) (by omega) (hA.below b03 h0) rfl hR (by omega) (by decide))
  have HB := Lib.hid b03
  have HA := Lib.hid hA
  have H0 := Lib.hid h0
  clear x1 x2 x3 p0 p1 q0 q1 r0 r1 b1 b2 b3 b13 b03 hR h0 hA
  go_enter Tryd.func9, Tryd.ntmps9
  go_wp2_with fail
  rw [← hU1, ← hU2, ← hU3]
  refine HO.out.mono ?_
  rintro e w2 ⟨P, c, p, rfl, hRs, hP, hf1, hf2, hPc, hpc, hb2⟩
  obtain rfl := hP.unique parts_k
  have hB2 := HB.out.trans (hb2.mono HB.out.size)
  have hA2 := HA.out.below hB2 H0.out
  have h02 := H0.out
  have hsz2 := hB2.size
  have HW1 : Hid (Calls Tryd.prog 15 #[.slice P 3 c, .int .i64 20] w2 fun e W' => e = .returned (.int .i64 2) ∧ Below w2.heap.size w2 W') := Lib.hid ((which_c (c := c) (n := 3) (ls := kOut) (r := 20) (by omega) hA2 rfl (by omega) hRs (by decide)).mono (fun e W' h => ⟨by rw [h.1, which_k1], h.2⟩))
  have HW2 : Hid (∀ V : World, Below w2.heap.size w2 V → Calls Tryd.prog 15 #[.slice P 3 c, .int .i64 21] V fun e W' => e = .returned (.int .i64 (-1)) ∧ Below V.heap.size V W') := Lib.hid (fun V hV => (which_c (n := 3) (ls := kOut) (r := 21) (c := c) (by have := hV.size; omega) (hA2.below hV (by omega)) rfl (by omega) (hRs.step hV) (by decide)).mono (fun e W' h => ⟨by rw [h.1, which_k2], h.2⟩))
  have HPA : Hid (∀ V : World, Below w2.heap.size w2 V → Calls Tryd.prog 18 #[.slice P 3 c, .slice (some ⟨V.heap.size, 0, none⟩) 1 1] (V.alloc (.cells #[.int .i64 6, .int .i64 7] 42)) fun e W' => ∃ P cp, e = .returned (.slice P 1 cp) ∧ Below w2.heap.size w2 W') := Lib.hid (fun V hV => by
    have hbA : Below V.heap.size V (V.alloc (.cells #[.int .i64 6, .int .i64 7] 42)) := (Below.refl _ _).alloc (Nat.le_refl _) _
    have hVA := hV.trans (hbA.mono hV.size)
    have hsA := hVA.size
    have xA := heap_alloc_new V (.cells #[.int .i64 6, .int .i64 7] 42)
    obtain ⟨⟨s0, s1⟩, _⟩ := cells2 xA
    refine (parts_c (n := 3) (c := c) (k := 1) (d := 1) (ls := kOut) (s := [(6, 7)]) (by omega) (hA2.below hVA (by omega)) rfl (by omega) (hRs.step hVA) (by decide) rfl (by omega) (fun _ => ⟨_, 0, rfl, by rw [World.size_alloc]; omega, fun i hi => by
        have hi' : i < 1 := hi
        obtain rfl : i = 0 := by omega
        exact ⟨s0, s1⟩⟩)).mono ?_
    rintro e W' ⟨P', cp, o, l, rfl, _, h1, h2, h3, h4⟩
    obtain rfl := one_k h1 h2
    rw [places_k] at h3
    subst h3
    exact ⟨P', cp, rfl, hVA.trans (h4.mono hsA)⟩)
  obtain ⟨bb, off, rfl, hbb, hrow⟩ := hRs (by decide)
  obtain ⟨P1, c1, r1, r2, r3⟩ := hrow 1 (by decide)
  obtain ⟨b5, o5, rfl, hb5, hc5⟩ := r2 (by decide)
  obtain ⟨s0, s1⟩ := hc5 0 (by decide)
  have s0 : w2.cell? ⟨b5, o5, none⟩ = some (.int .i64 5) := s0
  have s1 : w2.cell? ⟨b5, o5 + 1, none⟩ = some (.int .i64 9) := s1
  have r1 : w2.cell? ⟨bb, off + 1, none⟩ = some (.slice (some ⟨b5, o5, none⟩) 1 c1) := r1
  have HB2 := Lib.hid hB2
  have e3 : kOut.length = 3 := rfl
  rw [e3]
  clear hRs hP hf1 hf2 hPc hpc hb2 hA2 hrow r2 r3 hc5 hB2 e3
  go_wp2_with fail
  refine HW1.out.mono ?_
  rintro e w3 ⟨rfl, b3⟩
  have HB3 := Lib.hid b3
  clear b3 s0 s1 r1
  go_wp2_with fail
  refine (HW2.out _ HB3.out).mono ?_
  rintro e w4 ⟨rfl, b4⟩
  have HB4 := Lib.hid (HB3.out.trans (b4.mono HB3.out.size))
  clear b4
  go_wp2_with fail
  refine (HPA.out _ HB4.out).mono ?_
  rintro e w5 ⟨P5, c5, rfl, b5⟩
  have HB5 := Lib.hid (HB2.out.trans (b5.mono HB2.out.size))
  clear b5
  go_wp2_with fail
  go_ret
  exact ⟨rfl, HB5.out⟩
end Go.Proofs.YtkphbjppmiefkaaDoor
end
section
/- The law's List: sets, as choices say. -/
namespace TermsM
open SetM
end TermsM
namespace Go.Proofs.YtkphbjppmiefkaaDoor
open Go.RowKit Go.Shelf Go.Maps SetM TermsM
/-- The sets that choices make: of the first so many. -/
def listF (cs : List (List Int)) (i : Nat) : List (List Sp) := ((cs.take i).filter (fun x => decide (x.length < 12))).map makeF
theorem listF_succ {cs : List (List Int)} {i : Nat} (h : i < cs.length) : listF cs (i + 1) = if cs[i].length < 12 then listF cs i ++ [makeF cs[i]] else listF cs i := by
  unfold listF
  rw [List.take_succ_eq_append_getElem h, List.filter_append, List.map_append]
  by_cases hl : cs[i].length < 12 <;> simp [hl]
/-- Rows of choices. -/
def Css (W : World) (A : Option Addr) (cs : List (List Int)) : Prop :=
  ∀ j (h : j < cs.length), ∃ b off P cp, A = some ⟨b, off, none⟩ ∧ b < W.heap.size ∧ W.cell? ⟨b, off + j, none⟩ = some (.slice P cs[j].length cp) ∧ U16s W.heap.size W P cs[j]
theorem Css.step {W W' : World} {A : Option Addr} {cs : List (List Int)} (h : Css W A cs) (hb : Below W.heap.size W W') : Css W' A cs := fun j hj => by
  obtain ⟨b, off, P, cp, e, h1, h2, h3⟩ := h j hj
  exact ⟨b, off, P, cp, e, by have := hb.size; omega, (hb.cell (p := ⟨b, off + j, none⟩) h1).trans h2, (h3.below hb).mono hb.size⟩
theorem Fam.add {W : World} {n : Nat} {R : Nat → Rw} (h : Fam W n R) {r : Rw} (hr : r.ok W) (hv : ∀ k, r.v.ownBlock = some k → ¬ Has n R k) : Fam W (n + 1) (upd R n r) ∧ (∀ k, Has (n + 1) (upd R n r) k → Has n R k ∨ r.v.ownBlock = some k) := by
  refine ⟨⟨fun i hi => ?_, fun a b ha hb hab k hk hk' => ?_⟩, ?_⟩
  · by_cases e : i = n
    · subst e; rw [upd_same]; exact hr
    · rw [upd_other R r e]; exact h.own i (by omega)
  · by_cases ea : a = n
    · subst ea
      rw [upd_same] at hk
      rw [upd_other R r (fun e => hab e.symm)] at hk'
      exact hv k hk ⟨b, by omega, hk'⟩
    · rw [upd_other R r ea] at hk
      by_cases eb : b = n
      · subst eb
        rw [upd_same] at hk'
        exact hv k hk' ⟨a, by omega, hk⟩
      · rw [upd_other R r eb] at hk'
        exact h.apart a b (by omega) (by omega) hab k hk hk'
  · rintro k ⟨j, hj, hk⟩
    by_cases e : j = n
    · subst e; rw [upd_same] at hk; exact .inr hk
    · rw [upd_other R r e] at hk; exact .inl ⟨j, by omega, hk⟩
/-- A part that was made elsewhere. -/
theorem PF.push {base : Nat} {W W1 : World} {R : Nat → Rw} {p : List (List Sp)} (h : PF base W R p) (hbw : base ≤ W.heap.size) {v : Value} {o : List Sp} (hv : (⟨42, 2, v, o.length, cellsS o⟩ : Rw).ok W) (hfr : ∀ k, v.ownBlock = some k → base ≤ k ∧ ¬ Has (1 + p.length) R k)
    {g cap : Nat} (hr : ((R 0).more g cap [v]).ok W1) (hg : W.grownBy W1 (R 0).v.ownBlock) (hat : (R 0).v.ownBlock = some g ∨ g = W.heap.size) :
    ∃ R', PF base W1 R' (p ++ [o]) ∧ (R' 0).v = .slice (some ⟨g, 0, none⟩) (p.length + 1) cap := by
  have h1 := h.fam.grow (i := 0) (by omega) (r := (R 0).more g cap [v]) (g := g) hg hr rfl hat
  have hv1 : (⟨42, 2, v, o.length, cellsS o⟩ : Rw).ok W1 := hv.of_block (fun k hk => hg.block k (hv.lt hk) (fun e => (hfr k hk).2 ⟨0, by omega, e.symm⟩))
  have h2 := Fam.add h1.1 (r := ⟨42, 2, v, o.length, cellsS o⟩) hv1 (fun k hk hh => by
    rcases h1.2 k hh with h3 | h3
    · exact (hfr k hk).2 h3
    · have := hv.lt hk; omega)
  obtain ⟨R', hR'⟩ : ∃ R', R' = upd (upd R 0 ((R 0).more g cap [v])) (1 + p.length) ⟨42, 2, v, o.length, cellsS o⟩ := ⟨_, rfl⟩
  rw [← hR'] at h2
  have e0 : R' 0 = (R 0).more g cap [v] := by rw [hR', upd_other _ _ (by omega), upd_same]
  have eo : ∀ i, i < p.length → R' (1 + i) = R (1 + i) := fun i hi => by rw [hR', upd_other _ _ (by omega), upd_other _ _ (by omega)]
  have en : R' (1 + p.length) = ⟨42, 2, v, o.length, cellsS o⟩ := by rw [hR', upd_same]
  have hl : (p ++ [o]).length = p.length + 1 := by simp
  refine ⟨R', ⟨by rw [hl, ← Nat.add_assoc]; exact h2.1, fun k hk => ?_, ?_, fun i hi => ?_⟩, by rw [e0]; show Value.slice _ ((R 0).n + 1) cap = _; rw [h.r0.2.2.1]⟩
  · rw [hl, ← Nat.add_assoc] at hk
    rcases h2.2 k hk with hk | hk
    · rcases h1.2 k hk with hk | hk
      · exact h.own k hk
      · omega
    · exact (hfr k hk).1
  · rw [e0, hl]
    refine ⟨h.r0.1, h.r0.2.1, by show (R 0).n + 1 = _; rw [h.r0.2.2.1], ?_⟩
    show (R 0).xs ++ [_] = _
    rw [h.r0.2.2.2, List.range_succ, List.map_append]
    congr 1
    · exact List.map_congr_left (fun i hi => by rw [eo i (List.mem_range.1 hi)])
    · simp [en]
  · rcases Nat.lt_or_ge i p.length with h3 | h3
    · rw [eo i h3]
      have := h.ri i h3
      rw [List.getElem_append_left h3]
      exact this
    · have h4 : i = p.length := by rw [hl] at hi; omega
      subst h4
      rw [en]
      simp
/-- What List hands back. -/
def ListPost (cs : List (List Int)) (W : World) (e : Ending) (W' : World) : Prop :=
  ∃ P c, e = .returned (.slice P (listF cs 8).length c) ∧ Rs W' P (listF cs 8) ∧ (P = none → c = 0) ∧ (listF cs 8).length ≤ c ∧ Below W.heap.size W W'
set_option maxRecDepth 100000 in
set_option maxHeartbeats 8000000 in
theorem list_c {W : World} {A : Option Addr} {n ca : Nat} {cs : List (List Int)} (hn : n = cs.length) (h8 : n ≤ 9223372036854775807) (hC : Css W A cs) : Calls Tryd.prog 10 #[.slice A n ca] W (ListPost cs W) := by
  have HN := Lib.hid hn
  have HC := Lib.hid hC
  clear hn hC
  go_enter Tryd.func10, Tryd.ntmps10
  go_wp2_with fail
  go_loopg [3, 4] 8 (fun g s3 s4 wx => ∃ (i : Nat) (R : Nat → Rw), i + g = 8 ∧ i ≤ n ∧ s4 = .int .i64 i ∧ s3 = (R 0).v ∧ Hid (PF W.heap.size wx R (listF cs i)) ∧ Hid ((listF cs i).length ≤ i) ∧ Hid (Below W.heap.size W wx))
  case atStart => exact ⟨0, _, by omega, Nat.zero_le _, rfl, rfl, Lib.hid (PF.start _ _), Lib.hid (Nat.le_refl _), Lib.hid (Below.refl _ _)⟩
  case round =>
    obtain ⟨i, R, hig, hin, rfl, hs3, HP, HL, HB⟩ := hrel
    obtain ⟨Pp, cp, hp1, hp2, hp3, hp4⟩ := HP.out.rows
    rw [hp1] at hs3
    obtain ⟨pl, hpl⟩ : ∃ pl, pl = (listF cs i).length := ⟨_, rfl⟩
    rw [← hpl] at hs3 hp1
    have HPL := Lib.hid hpl
    have HP1 := Lib.hid hp1
    subst hs3
    have HIG := Lib.hid hig
    have hi8 : i ≤ 8 := by omega
    have HFIN : Hid (i = n ∨ i = 8 → ListPost cs W (.returned (.slice Pp pl cp)) wr) := Lib.hid (fun h => by
      have e : listF cs 8 = listF cs i := by
        rcases h with h | h
        · unfold listF
          rw [List.take_of_length_le (by have := HN.out; omega), List.take_of_length_le (by have := HN.out; omega)]
        · rw [h]
      refine ⟨Pp, cp, by rw [e, ← HPL.out], by rw [e]; exact hp2, hp3, by rw [e]; exact hp4, HB.out⟩)
    clear hp1 hp2 hp3 hp4 hpl
    by_cases hend : i < n ∧ i < 8
    · obtain ⟨hlt, hlt8⟩ := hend
      have hltz : (i : Int) < (n : Int) := by omega
      have hltz8 : (i : Int) < 8 := by omega
      have hil : i < cs.length := by have := HN.out; omega
      obtain ⟨b, off, Px, cx, rfl, hb, h1, h2⟩ := HC.out i hil
      have c0 := (HB.out.cell (p := ⟨b, off + i, none⟩) hb).trans h1
      have hst := listF_succ hil
      obtain ⟨nx, hnx⟩ : ∃ nx, nx = cs[i].length := ⟨_, rfl⟩
      have hwz := HB.out.size
      have HMK := Lib.hid (make_any Px cx cs[i] wr ((h2.below HB.out).mono hwz))
      rw [← hnx] at c0 HMK hst
      have HST := Lib.hid hst
      obtain ⟨g, rfl⟩ : ∃ g, gk = g + 1 := ⟨gk - 1, by omega⟩
      clear h1 h2 hnx hst
      by_cases hx : nx < 12
      · have hxz : (nx : Int) < 12 := by omega
        have hsl : listF cs (i + 1) = listF cs i ++ [makeF cs[i]] := by rw [HST.out, if_pos hx]
        have HSL := Lib.hid hsl
        clear hsl
        go_wp2_with fail
        refine HMK.out.mono ?_
        rintro e w1 ⟨v, rfl, ho, hb1⟩
        obtain ⟨Pv, cv, hv, _⟩ := spans_of ho
        subst hv
        obtain ⟨o, hod⟩ : ∃ o, o = makeF cs[i] := ⟨_, rfl⟩
        rw [← hod] at ho HSL
        rw [← hod]
        obtain ⟨no, hno⟩ : ∃ no, no = o.length := ⟨_, rfl⟩
        rw [← hno] at ho
        rw [← hno]
        have HNO := Lib.hid hno
        have hpf1 := HP.out.below hb1
        obtain ⟨V5, hV5⟩ : ∃ V5, V5 = w1.alloc (.cells #[.slice Pv no cv] 28) := ⟨_, rfl⟩
        have hb5 : Below w1.heap.size w1 V5 := by rw [hV5]; exact (Below.refl _ _).alloc (Nat.le_refl _) _
        have hpf5 := hpf1.below hb5
        have hnew5 : V5.heap[w1.heap.size]? = some (.cells #[.slice Pv no cv] 28 (0, 0)) := by rw [hV5]; exact heap_alloc_new w1 _
        obtain ⟨x0, hx0d⟩ : ∃ x0, x0 = (R 0).xs := ⟨_, rfl⟩
        have hR0 : R 0 = ⟨28, 1, .slice Pp pl cp, pl, x0⟩ := by rw [← HP1.out, hx0d]; exact rw_eta ⟨hpf5.r0.1, hpf5.r0.2.1, by rw [hpf5.r0.2.2.1, HPL.out], rfl⟩
        have hok5 : (⟨28, 1, .slice Pp pl cp, pl, x0⟩ : Rw).ok V5 := by rw [← hR0]; exact hpf5.fam.own 0 (by omega)
        have hpl8 : pl ≤ 1000000 := by have := HL.out; have := HPL.out; omega
        have hov : (⟨42, 2, .slice Pv no cv, no, cellsS o⟩ : Rw).ok w1 := by
          refine ⟨ho.1, ?_⟩
          rcases ho.2 with h1 | ⟨g', cap, cur, k1, k2, k3⟩
          · exact .inl h1
          · exact .inr ⟨g', cap, cur, k1, Nat.zero_le _, k3⟩
        have hov5 : (⟨42, 2, .slice Pv no cv, no, cellsS o⟩ : Rw).ok V5 := hov.of_block (fun k hk => hb5.block k (hov.lt hk))
        have hfrv : ∀ k, (Value.slice Pv no cv).ownBlock = some k → wr.heap.size ≤ k := fun k hk => (World.ownsRow.lt ho k hk).1
        have hz1 := hb1.size
        have hz5 := hb5.size
        have HNEW : Hid (∀ (g1 cap1 : Nat) (w5 : World), ((⟨28, 1, .slice Pp pl cp, pl, x0⟩ : Rw).more g1 cap1 [.slice Pv no cv]).ok w5 → V5.grownBy w5 (Value.slice Pp pl cp).ownBlock → ((Value.slice Pp pl cp).ownBlock = some g1 ∨ g1 = V5.heap.size) →
            (∃ R2, PF W.heap.size w5 R2 (listF cs (i + 1)) ∧ (R2 0).v = .slice (some ⟨g1, 0, none⟩) (pl + 1) cap1) ∧ Below W.heap.size W w5) := Lib.hid (by
          intro g1 cap1 w5 k1 k2 k3
          have h1 := hpf5.push (W := V5) (W1 := w5) (v := .slice Pv no cv) (o := o) (g := g1) (cap := cap1) (by omega) (by rw [← HNO.out]; exact hov5) (fun k hk => ⟨by have := hfrv k hk; omega, fun hh => by
            have := HP.out.fam.lt hh
            have := hfrv k hk
            omega⟩) (by rw [hR0]; exact k1) (by rw [hR0]; exact k2) (by rw [hR0]; exact k3)
          rw [← HSL.out, ← HPL.out] at h1
          refine ⟨h1, ?_⟩
          have hB5 : Below W.heap.size W V5 := (HB.out.trans (hb1.mono hwz)).trans (hb5.mono (by omega))
          exact hB5.grown k2 (by omega) (fun k e => hpf5.own k ⟨0, by omega, by rw [hR0]; exact e⟩))
        clear ho hpf1 hpf5 hx0d hR0 hov hov5 hfrv hb5 hno hod
        go_wp2_with (at_builtin; refine wpList_fam rfl _ _ 24 rfl ⟨28, 1, .slice Pp pl cp, pl, x0⟩ Tryd.underlying24 infoSl rfl Nat.zero_lt_one (by decide) (by rw [← hV5]; exact hok5) rfl w1.heap.size rfl [.slice Pv no cv] (by rw [← hV5]; exact hnew5) rfl (by simp [Value.oneCell']) hpl8 ?_; intro g1 cap1 w5 k1 k2 k3; rw [← hV5] at k2 k3)
        obtain ⟨⟨R2, hpf2, hv2⟩, hbx2⟩ := HNEW.out g1 cap1 w5 k1 k2 k3
        have HPF2 := Lib.hid hpf2
        have HV2 := Lib.hid hv2
        have HBX2 := Lib.hid hbx2
        have HLN : Hid ((listF cs (i + 1)).length ≤ i + 1) := Lib.hid (by rw [HSL.out, List.length_append]; simp; exact HL.out)
        clear k1 k2 k3 hpf2 hv2 hbx2 HNEW hV5 hnew5 hok5
        go_wp2_with fail
        go_roundg g
        case measure => omega
        case rel => exact ⟨i + 1, R2, by have := HIG.out; omega, by omega, by go_num, HV2.out.symm, HPF2, HLN, HBX2⟩
      · have hxz : ¬ (nx : Int) < 12 := by omega
        have HSL : Hid (listF cs (i + 1) = listF cs i) := Lib.hid (by rw [HST.out, if_neg hx])
        go_wp2_with fail
        go_roundg g
        case measure => omega
        case rel => exact ⟨i + 1, R, by have := HIG.out; omega, by omega, by go_num, HP1.out.symm, by rw [HSL.out]; exact HP, by rw [HSL.out]; exact Lib.hid (by have := HL.out; omega), HB⟩
    · have HE : Hid (ListPost cs W (.returned (.slice Pp pl cp)) wr) := Lib.hid (HFIN.out (by omega))
      clear HFIN HP HL HB
      by_cases hlt : i < n
      · have hltz : (i : Int) < (n : Int) := by omega
        have hltz8 : ¬ (i : Int) < 8 := by omega
        go_wp2_with fail
        go_ret
        exact HE.out
      · have hltz : ¬ (i : Int) < (n : Int) := by omega
        go_wp2_with fail
        go_ret
        exact HE.out
end Go.Proofs.YtkphbjppmiefkaaDoor
end
