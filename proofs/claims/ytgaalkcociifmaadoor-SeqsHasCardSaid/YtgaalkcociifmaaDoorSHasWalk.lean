/- SeqsHas: the walk. -/
import Derived.Test.YtgaalkcociifmaaDoorSBothWalk
import Derived.Test.YtgaalkcociifmaaDoorURdec
namespace Go.Proofs.YtgaalkcociifmaaDoor
open Go.RowKit Go.Shelf SeqM
open U.UtfM (enc dec)

/-- Bytes that are read as no scalar, or not to their end, are no row's. -/
theorem takes_no (l : List SetM.Sp) {b : List Int} (h : (dec b).1 < 0 ∨ (dec b).2 ≠ b.length) : anyFits (rowsOf (nrm l)) b = false := by
  rw [Bool.eq_false_iff]
  intro ht
  obtain ⟨r, h1, rfl⟩ := (takes_iff l b).1 ht
  have hs := (sc_iff r).2 h1.1
  have h2 := U.UtfM.dec_enc hs []
  rw [List.append_nil] at h2
  rw [h2] at h
  unfold U.UtfM.Sc at hs
  simp only at h
  omega
/-- Bytes that are read as a scalar to their end are its bytes. -/
theorem takes_yes (l : List SetM.Sp) {b : List Int} (hb : U.UtfM.IsBytes b) (h1 : 0 ≤ (dec b).1) (h2 : (dec b).2 = b.length) : anyFits (rowsOf (nrm l)) b = decide (SetM.Tells l (dec b).1) := by
  by_cases hne : b = []
  · subst hne; exact absurd h1 (by decide)
  · have hd := U.UtfM.dec_ok hb hne
    unfold U.UtfM.DecOk at hd
    have hy : U.UtfM.Sc (dec b).1 ∧ b = enc (dec b).1 := by
      obtain ⟨_, _, h3⟩ := hd
      rcases h3 with h3 | h3
      · omega
      · exact ⟨h3.1, by have := h3.2; rw [h2, List.take_length] at this; exact this.symm⟩
    have e := takes_sc l hy.1
    rw [← hy.2] at e
    exact e

set_option maxRecDepth 100000 in
set_option maxHeartbeats 8000000 in
theorem seqsHas_any (A B : Option Addr) (ca cb : Nat) (cs : List Int) (r : Int) (b : List Int) (hr : 0 ≤ r) (hr2 : r ≤ 4294967295) (w : World) (hU : U16s w.heap.size w A cs) (hY : U.By w B b) (hbl : b.length ≤ 9223372036854775807) (hC : Ctl w w) :
    Calls Tryd.prog 7 #[.slice A cs.length ca, .int .u32 r, .slice B b.length cb] w fun e w' => e = .returned (.bool true) ∧ Below w.heap.size w w' := by
  by_cases h60 : 60 < cs.length
  · have hz : (60 : Int) < (cs.length : Int) := by omega
    go_enter Tryd.func7, Tryd.ntmps7
    go_wp2_with fail
    refine (known3_c hC).mono ?_
    rintro e W2 ⟨rfl, b2⟩
    go_wp2
    go_ret
    exact ⟨rfl, (hC.step b2).below⟩
  have hz : ¬ ((60 : Int) < (cs.length : Int)) := by omega
  by_cases h20 : 20 < b.length
  · have hy : (20 : Int) < (b.length : Int) := by omega
    go_enter Tryd.func7, Tryd.ntmps7
    go_wp2_with fail
    refine (known3_c hC).mono ?_
    rintro e W2 ⟨rfl, b2⟩
    go_wp2
    go_ret
    exact ⟨rfl, (hC.step b2).below⟩
  have hy : ¬ ((20 : Int) < (b.length : Int)) := by omega
  have HBY := Lib.hid hY
  have hx0 : 0 ≤ r % 1114112 := by omega
  have hx1 : r % 1114112 ≤ 1114111 := by omega
  have lA := makeF_len cs
  have HFST : Hid (1 < cs.length → ∃ p : SetM.Sp, (makeF cs)[0]? = some p ∧ 0 ≤ p.1 ∧ p.1 ≤ 1114111) := Lib.hid (fun h => by
    have hl : 0 < (makeF cs).length := by unfold makeF; rw [mkTo_len]; unfold mkN; omega
    refine ⟨(makeF cs)[0], List.getElem?_eq_getElem hl, ?_⟩
    have e : (makeF cs)[0] = pairF cs 0 := by simp [makeF, mkTo]
    rw [e]
    unfold pairF
    have h0 : (0 : Int) ≤ (cs[2 * 0]? : Option Int).getD 0 := by
      rw [List.getElem?_eq_getElem (show 2 * 0 < cs.length by omega)]
      exact (hU.1 _ (List.getElem_mem (show 2 * 0 < cs.length by omega))).1
    exact placeF_in _ h0)
  go_enter Tryd.func7, Tryd.ntmps7
  go_wp2_with fail
  refine (known3_c hC).mono ?_
  rintro e W2 ⟨rfl, b2⟩
  have hC2 := hC.step b2
  have HB2 := Lib.hid (HBY.out.step b2)
  clear b2 HBY
  go_wp2_with fail
  refine (make_c hU hC2.ctx).mono ?_
  rintro e W3 ⟨PA, cA, rfl, SA, ZA, b3⟩
  have hC3 := hC2.step b3
  have HB3 := Lib.hid (HB2.out.step b3)
  clear b3 HB2
  go_wp2_with fail
  refine (of_c hC3 SA (by omega)).mono ?_
  rintro e W4 ⟨P4, c4, rfl, R4, b4⟩
  have hC4 := hC3.step b4
  have HB4 := Lib.hid (HB3.out.step b4)
  have HS4 := Lib.hid (SA.step b4)
  have HR4 := Lib.hid R4
  clear b4 SA R4 HB3
  have hd0 : 0 ≤ r / 3 % 50 := by omega
  have hd1 : r / 3 % 50 ≤ 49 := by omega
  have h3 : ∃ x : Int, (1 < cs.length ∧ r % 3 = 0 ∧ ∃ p : SetM.Sp, (makeF cs)[0]? = some p ∧ 0 ≤ p.1 ∧ p.1 ≤ 1114111 ∧ x = p.1 + r / 3 % 50 - 5) ∨ ((cs.length ≤ 1 ∨ r % 3 ≠ 0) ∧ x = r % 1114112) := by
    by_cases ha : 1 < cs.length
    · by_cases hb : r % 3 = 0
      · obtain ⟨p, hp, hp1, hp2⟩ := HFST.out ha
        exact ⟨_, .inl ⟨ha, hb, p, hp, hp1, hp2, rfl⟩⟩
      · exact ⟨_, .inr ⟨.inr hb, rfl⟩⟩
    · exact ⟨_, .inr ⟨.inl (by omega), rfl⟩⟩
  obtain ⟨x, ⟨ha, hb, p, hp, hp1, hp2, hxe⟩ | ⟨hab, hxe⟩⟩ := h3
  · have haz : (1 : Int) < (cs.length : Int) := by omega
    have hbz : (r % 3 == 0) = true := by rw [beq_iff_eq]; exact hb
    have hne : makeF cs ≠ [] := by intro h; rw [h] at hp; simp at hp
    obtain ⟨g, off, hPA, _, hcell⟩ := HS4.out hne
    have hl0 : 0 < (makeF cs).length := List.length_pos_iff.2 hne
    obtain ⟨c0, _⟩ := hcell 0 hl0
    rw [List.getElem?_eq_getElem hl0] at hp
    have hp' := Option.some.inj hp
    rw [hp', Nat.zero_mul, Nat.add_zero] at c0
    subst hPA
    have HXE := Lib.hid hxe
    clear hcell hp hp' hne hxe hb
    go_wp2_with fail
    rw [← HXE.out]
    have hxb0 : -5 ≤ x := by have := HXE.out; omega
    have hxb1 : x ≤ 1200000 := by have := HXE.out; omega
    clear HXE c0 haz hbz
    refine (U.renc_c x _).mono ?_
    rintro e W5 ⟨P5, c5, rfl, h5, _, _, _, _, b5⟩
    have hC5 := hC4.step b5
    have HB5 := Lib.hid (HB4.out.step b5)
    have HS5 := Lib.hid (HS4.out.step b5)
    have HR5 := Lib.hid (HR4.out.step b5)
    have HE5 := Lib.hid h5
    clear b5 h5 HB4 HS4 HR4
    by_cases hS : U.UtfM.Sc x
    · have hpos := U.UtfM.enc_pos hS
      have z1 : (0 : Int) < ((enc x).length : Int) := by omega
      have HT := Lib.hid (takes_sc (makeF cs) hS)
      clear hpos hS
      go_wp2_with fail
      refine (match_c (makeF cs) (by omega) (enc x) HR5.out HE5.out).mono ?_
      rintro e W6 ⟨rfl, b6⟩
      rw [HT.out]
      have hC6 := hC5.step b6
      have HB6 := Lib.hid (HB5.out.step b6)
      have HS6 := Lib.hid (HS5.out.step b6)
      have HR6 := Lib.hid (HR5.out.step b6)
      clear b6 HB5 HS5 HR5 HE5 HT
      go_wp2_with fail
      refine (rhas_any _ _ (makeF cs) x W6 HS6.out (by omega)).mono ?_
      rintro e W7 ⟨rfl, rfl⟩
      generalize decide (SetM.Tells (makeF cs) x) = q
      cases q
      all_goals
        go_wp2_with fail
        refine (U.rdec_c HB6.out).mono ?_
        rintro e W8 ⟨rfl, b8⟩
        unfold U.decV
        have hC8 := hC6.step b8
        have HB8 := Lib.hid (HB6.out.step b8)
        have HS8 := Lib.hid (HS6.out.step b8)
        have HR8 := Lib.hid (HR6.out.step b8)
        clear b8 HB6 HS6 HR6
        by_cases hg : (dec b).1 < 0
        · have HT := Lib.hid (takes_no (makeF cs) (b := b) (.inl hg))
          go_wp2_with fail
          refine (match_c (makeF cs) (by omega) b HR8.out HB8.out).mono ?_
          rintro e W9 ⟨rfl, b9⟩
          rw [HT.out]
          have hC9 := hC8.step b9
          go_wp2
          go_ret
          exact ⟨rfl, hC9.below⟩
        · by_cases hn : (dec b).2 = b.length
          · have HT := Lib.hid (takes_yes (makeF cs) HB8.out.1 (by omega) hn)
            have tn : (((dec b).2 : Int) == (b.length : Int)) = true := by rw [beq_iff_eq]; omega
            have tn2 : (((dec b).2 : Int) != (b.length : Int)) = false := by rw [bne, tn]; rfl
            go_wp2_with fail
            refine (match_c (makeF cs) (by omega) b HR8.out HB8.out).mono ?_
            rintro e W9 ⟨rfl, b9⟩
            rw [HT.out]
            have hC9 := hC8.step b9
            have HS9 := Lib.hid (HS8.out.step b9)
            clear b9
            go_wp2_with fail
            refine (rhas_any _ _ (makeF cs) (dec b).1 W9 HS9.out (by omega)).mono ?_
            rintro e W10 ⟨rfl, rfl⟩
            generalize decide (SetM.Tells (makeF cs) (dec b).1) = q2
            cases q2
            all_goals
              go_wp2
              go_ret
              exact ⟨rfl, hC9.below⟩
          · have HT := Lib.hid (takes_no (makeF cs) (b := b) (.inr hn))
            have tn : (((dec b).2 : Int) == (b.length : Int)) = false := by rw [beq_eq_false_iff_ne]; omega
            have tn2 : (((dec b).2 : Int) != (b.length : Int)) = true := by rw [bne, tn]; rfl
            go_wp2_with fail
            refine (match_c (makeF cs) (by omega) b HR8.out HB8.out).mono ?_
            rintro e W9 ⟨rfl, b9⟩
            rw [HT.out]
            have hC9 := hC8.step b9
            go_wp2
            go_ret
            exact ⟨rfl, hC9.below⟩
    · have e0 := U.UtfM.enc0 hS
      have z1 : ¬ ((0 : Int) < ((enc x).length : Int)) := by rw [e0]; simp
      clear hS e0
      go_wp2_with fail
      refine (U.rdec_c HB5.out).mono ?_
      rintro e W8 ⟨rfl, b8⟩
      unfold U.decV
      have hC8 := hC5.step b8
      have HB8 := Lib.hid (HB5.out.step b8)
      have HS8 := Lib.hid (HS5.out.step b8)
      have HR8 := Lib.hid (HR5.out.step b8)
      clear b8 HB5 HS5 HR5
      by_cases hg : (dec b).1 < 0
      · have HT := Lib.hid (takes_no (makeF cs) (b := b) (.inl hg))
        go_wp2_with fail
        refine (match_c (makeF cs) (by omega) b HR8.out HB8.out).mono ?_
        rintro e W9 ⟨rfl, b9⟩
        rw [HT.out]
        have hC9 := hC8.step b9
        go_wp2
        go_ret
        exact ⟨rfl, hC9.below⟩
      · by_cases hn : (dec b).2 = b.length
        · have HT := Lib.hid (takes_yes (makeF cs) HB8.out.1 (by omega) hn)
          have tn : (((dec b).2 : Int) == (b.length : Int)) = true := by rw [beq_iff_eq]; omega
          have tn2 : (((dec b).2 : Int) != (b.length : Int)) = false := by rw [bne, tn]; rfl
          go_wp2_with fail
          refine (match_c (makeF cs) (by omega) b HR8.out HB8.out).mono ?_
          rintro e W9 ⟨rfl, b9⟩
          rw [HT.out]
          have hC9 := hC8.step b9
          have HS9 := Lib.hid (HS8.out.step b9)
          clear b9
          go_wp2_with fail
          refine (rhas_any _ _ (makeF cs) (dec b).1 W9 HS9.out (by omega)).mono ?_
          rintro e W10 ⟨rfl, rfl⟩
          generalize decide (SetM.Tells (makeF cs) (dec b).1) = q2
          cases q2
          all_goals
            go_wp2
            go_ret
            exact ⟨rfl, hC9.below⟩
        · have HT := Lib.hid (takes_no (makeF cs) (b := b) (.inr hn))
          have tn : (((dec b).2 : Int) == (b.length : Int)) = false := by rw [beq_eq_false_iff_ne]; omega
          have tn2 : (((dec b).2 : Int) != (b.length : Int)) = true := by rw [bne, tn]; rfl
          go_wp2_with fail
          refine (match_c (makeF cs) (by omega) b HR8.out HB8.out).mono ?_
          rintro e W9 ⟨rfl, b9⟩
          rw [HT.out]
          have hC9 := hC8.step b9
          go_wp2
          go_ret
          exact ⟨rfl, hC9.below⟩
  · rcases hab with ha | hb
    · have haz : ¬ ((1 : Int) < (cs.length : Int)) := by omega
      have hxb0 : -5 ≤ x := by omega
      have hxb1 : x ≤ 1200000 := by omega
      have HXE := Lib.hid hxe
      clear hxe
      go_wp2_with fail
      rw [← HXE.out]
      clear HXE haz
      refine (U.renc_c x _).mono ?_
      rintro e W5 ⟨P5, c5, rfl, h5, _, _, _, _, b5⟩
      have hC5 := hC4.step b5
      have HB5 := Lib.hid (HB4.out.step b5)
      have HS5 := Lib.hid (HS4.out.step b5)
      have HR5 := Lib.hid (HR4.out.step b5)
      have HE5 := Lib.hid h5
      clear b5 h5 HB4 HS4 HR4
      by_cases hS : U.UtfM.Sc x
      · have hpos := U.UtfM.enc_pos hS
        have z1 : (0 : Int) < ((enc x).length : Int) := by omega
        have HT := Lib.hid (takes_sc (makeF cs) hS)
        clear hpos hS
        go_wp2_with fail
        refine (match_c (makeF cs) (by omega) (enc x) HR5.out HE5.out).mono ?_
        rintro e W6 ⟨rfl, b6⟩
        rw [HT.out]
        have hC6 := hC5.step b6
        have HB6 := Lib.hid (HB5.out.step b6)
        have HS6 := Lib.hid (HS5.out.step b6)
        have HR6 := Lib.hid (HR5.out.step b6)
        clear b6 HB5 HS5 HR5 HE5 HT
        go_wp2_with fail
        refine (rhas_any _ _ (makeF cs) x W6 HS6.out (by omega)).mono ?_
        rintro e W7 ⟨rfl, rfl⟩
        generalize decide (SetM.Tells (makeF cs) x) = q
        cases q
        all_goals
          go_wp2_with fail
          refine (U.rdec_c HB6.out).mono ?_
          rintro e W8 ⟨rfl, b8⟩
          unfold U.decV
          have hC8 := hC6.step b8
          have HB8 := Lib.hid (HB6.out.step b8)
          have HS8 := Lib.hid (HS6.out.step b8)
          have HR8 := Lib.hid (HR6.out.step b8)
          clear b8 HB6 HS6 HR6
          by_cases hg : (dec b).1 < 0
          · have HT := Lib.hid (takes_no (makeF cs) (b := b) (.inl hg))
            go_wp2_with fail
            refine (match_c (makeF cs) (by omega) b HR8.out HB8.out).mono ?_
            rintro e W9 ⟨rfl, b9⟩
            rw [HT.out]
            have hC9 := hC8.step b9
            go_wp2
            go_ret
            exact ⟨rfl, hC9.below⟩
          · by_cases hn : (dec b).2 = b.length
            · have HT := Lib.hid (takes_yes (makeF cs) HB8.out.1 (by omega) hn)
              have tn : (((dec b).2 : Int) == (b.length : Int)) = true := by rw [beq_iff_eq]; omega
              have tn2 : (((dec b).2 : Int) != (b.length : Int)) = false := by rw [bne, tn]; rfl
              go_wp2_with fail
              refine (match_c (makeF cs) (by omega) b HR8.out HB8.out).mono ?_
              rintro e W9 ⟨rfl, b9⟩
              rw [HT.out]
              have hC9 := hC8.step b9
              have HS9 := Lib.hid (HS8.out.step b9)
              clear b9
              go_wp2_with fail
              refine (rhas_any _ _ (makeF cs) (dec b).1 W9 HS9.out (by omega)).mono ?_
              rintro e W10 ⟨rfl, rfl⟩
              generalize decide (SetM.Tells (makeF cs) (dec b).1) = q2
              cases q2
              all_goals
                go_wp2
                go_ret
                exact ⟨rfl, hC9.below⟩
            · have HT := Lib.hid (takes_no (makeF cs) (b := b) (.inr hn))
              have tn : (((dec b).2 : Int) == (b.length : Int)) = false := by rw [beq_eq_false_iff_ne]; omega
              have tn2 : (((dec b).2 : Int) != (b.length : Int)) = true := by rw [bne, tn]; rfl
              go_wp2_with fail
              refine (match_c (makeF cs) (by omega) b HR8.out HB8.out).mono ?_
              rintro e W9 ⟨rfl, b9⟩
              rw [HT.out]
              have hC9 := hC8.step b9
              go_wp2
              go_ret
              exact ⟨rfl, hC9.below⟩
      · have e0 := U.UtfM.enc0 hS
        have z1 : ¬ ((0 : Int) < ((enc x).length : Int)) := by rw [e0]; simp
        clear hS e0
        go_wp2_with fail
        refine (U.rdec_c HB5.out).mono ?_
        rintro e W8 ⟨rfl, b8⟩
        unfold U.decV
        have hC8 := hC5.step b8
        have HB8 := Lib.hid (HB5.out.step b8)
        have HS8 := Lib.hid (HS5.out.step b8)
        have HR8 := Lib.hid (HR5.out.step b8)
        clear b8 HB5 HS5 HR5
        by_cases hg : (dec b).1 < 0
        · have HT := Lib.hid (takes_no (makeF cs) (b := b) (.inl hg))
          go_wp2_with fail
          refine (match_c (makeF cs) (by omega) b HR8.out HB8.out).mono ?_
          rintro e W9 ⟨rfl, b9⟩
          rw [HT.out]
          have hC9 := hC8.step b9
          go_wp2
          go_ret
          exact ⟨rfl, hC9.below⟩
        · by_cases hn : (dec b).2 = b.length
          · have HT := Lib.hid (takes_yes (makeF cs) HB8.out.1 (by omega) hn)
            have tn : (((dec b).2 : Int) == (b.length : Int)) = true := by rw [beq_iff_eq]; omega
            have tn2 : (((dec b).2 : Int) != (b.length : Int)) = false := by rw [bne, tn]; rfl
            go_wp2_with fail
            refine (match_c (makeF cs) (by omega) b HR8.out HB8.out).mono ?_
            rintro e W9 ⟨rfl, b9⟩
            rw [HT.out]
            have hC9 := hC8.step b9
            have HS9 := Lib.hid (HS8.out.step b9)
            clear b9
            go_wp2_with fail
            refine (rhas_any _ _ (makeF cs) (dec b).1 W9 HS9.out (by omega)).mono ?_
            rintro e W10 ⟨rfl, rfl⟩
            generalize decide (SetM.Tells (makeF cs) (dec b).1) = q2
            cases q2
            all_goals
              go_wp2
              go_ret
              exact ⟨rfl, hC9.below⟩
          · have HT := Lib.hid (takes_no (makeF cs) (b := b) (.inr hn))
            have tn : (((dec b).2 : Int) == (b.length : Int)) = false := by rw [beq_eq_false_iff_ne]; omega
            have tn2 : (((dec b).2 : Int) != (b.length : Int)) = true := by rw [bne, tn]; rfl
            go_wp2_with fail
            refine (match_c (makeF cs) (by omega) b HR8.out HB8.out).mono ?_
            rintro e W9 ⟨rfl, b9⟩
            rw [HT.out]
            have hC9 := hC8.step b9
            go_wp2
            go_ret
            exact ⟨rfl, hC9.below⟩
    · have hxb0 : -5 ≤ x := by omega
      have hxb1 : x ≤ 1200000 := by omega
      have hbz : (r % 3 == 0) = false := by rw [beq_eq_false_iff_ne]; exact hb
      have HXE := Lib.hid hxe
      clear hxe hb
      by_cases ha : 1 < cs.length
      · have haz : (1 : Int) < (cs.length : Int) := by omega
        go_wp2_with fail
        rw [← HXE.out]
        clear HXE haz hbz
        refine (U.renc_c x _).mono ?_
        rintro e W5 ⟨P5, c5, rfl, h5, _, _, _, _, b5⟩
        have hC5 := hC4.step b5
        have HB5 := Lib.hid (HB4.out.step b5)
        have HS5 := Lib.hid (HS4.out.step b5)
        have HR5 := Lib.hid (HR4.out.step b5)
        have HE5 := Lib.hid h5
        clear b5 h5 HB4 HS4 HR4
        by_cases hS : U.UtfM.Sc x
        · have hpos := U.UtfM.enc_pos hS
          have z1 : (0 : Int) < ((enc x).length : Int) := by omega
          have HT := Lib.hid (takes_sc (makeF cs) hS)
          clear hpos hS
          go_wp2_with fail
          refine (match_c (makeF cs) (by omega) (enc x) HR5.out HE5.out).mono ?_
          rintro e W6 ⟨rfl, b6⟩
          rw [HT.out]
          have hC6 := hC5.step b6
          have HB6 := Lib.hid (HB5.out.step b6)
          have HS6 := Lib.hid (HS5.out.step b6)
          have HR6 := Lib.hid (HR5.out.step b6)
          clear b6 HB5 HS5 HR5 HE5 HT
          go_wp2_with fail
          refine (rhas_any _ _ (makeF cs) x W6 HS6.out (by omega)).mono ?_
          rintro e W7 ⟨rfl, rfl⟩
          generalize decide (SetM.Tells (makeF cs) x) = q
          cases q
          all_goals
            go_wp2_with fail
            refine (U.rdec_c HB6.out).mono ?_
            rintro e W8 ⟨rfl, b8⟩
            unfold U.decV
            have hC8 := hC6.step b8
            have HB8 := Lib.hid (HB6.out.step b8)
            have HS8 := Lib.hid (HS6.out.step b8)
            have HR8 := Lib.hid (HR6.out.step b8)
            clear b8 HB6 HS6 HR6
            by_cases hg : (dec b).1 < 0
            · have HT := Lib.hid (takes_no (makeF cs) (b := b) (.inl hg))
              go_wp2_with fail
              refine (match_c (makeF cs) (by omega) b HR8.out HB8.out).mono ?_
              rintro e W9 ⟨rfl, b9⟩
              rw [HT.out]
              have hC9 := hC8.step b9
              go_wp2
              go_ret
              exact ⟨rfl, hC9.below⟩
            · by_cases hn : (dec b).2 = b.length
              · have HT := Lib.hid (takes_yes (makeF cs) HB8.out.1 (by omega) hn)
                have tn : (((dec b).2 : Int) == (b.length : Int)) = true := by rw [beq_iff_eq]; omega
                have tn2 : (((dec b).2 : Int) != (b.length : Int)) = false := by rw [bne, tn]; rfl
                go_wp2_with fail
                refine (match_c (makeF cs) (by omega) b HR8.out HB8.out).mono ?_
                rintro e W9 ⟨rfl, b9⟩
                rw [HT.out]
                have hC9 := hC8.step b9
                have HS9 := Lib.hid (HS8.out.step b9)
                clear b9
                go_wp2_with fail
                refine (rhas_any _ _ (makeF cs) (dec b).1 W9 HS9.out (by omega)).mono ?_
                rintro e W10 ⟨rfl, rfl⟩
                generalize decide (SetM.Tells (makeF cs) (dec b).1) = q2
                cases q2
                all_goals
                  go_wp2
                  go_ret
                  exact ⟨rfl, hC9.below⟩
              · have HT := Lib.hid (takes_no (makeF cs) (b := b) (.inr hn))
                have tn : (((dec b).2 : Int) == (b.length : Int)) = false := by rw [beq_eq_false_iff_ne]; omega
                have tn2 : (((dec b).2 : Int) != (b.length : Int)) = true := by rw [bne, tn]; rfl
                go_wp2_with fail
                refine (match_c (makeF cs) (by omega) b HR8.out HB8.out).mono ?_
                rintro e W9 ⟨rfl, b9⟩
                rw [HT.out]
                have hC9 := hC8.step b9
                go_wp2
                go_ret
                exact ⟨rfl, hC9.below⟩
        · have e0 := U.UtfM.enc0 hS
          have z1 : ¬ ((0 : Int) < ((enc x).length : Int)) := by rw [e0]; simp
          clear hS e0
          go_wp2_with fail
          refine (U.rdec_c HB5.out).mono ?_
          rintro e W8 ⟨rfl, b8⟩
          unfold U.decV
          have hC8 := hC5.step b8
          have HB8 := Lib.hid (HB5.out.step b8)
          have HS8 := Lib.hid (HS5.out.step b8)
          have HR8 := Lib.hid (HR5.out.step b8)
          clear b8 HB5 HS5 HR5
          by_cases hg : (dec b).1 < 0
          · have HT := Lib.hid (takes_no (makeF cs) (b := b) (.inl hg))
            go_wp2_with fail
            refine (match_c (makeF cs) (by omega) b HR8.out HB8.out).mono ?_
            rintro e W9 ⟨rfl, b9⟩
            rw [HT.out]
            have hC9 := hC8.step b9
            go_wp2
            go_ret
            exact ⟨rfl, hC9.below⟩
          · by_cases hn : (dec b).2 = b.length
            · have HT := Lib.hid (takes_yes (makeF cs) HB8.out.1 (by omega) hn)
              have tn : (((dec b).2 : Int) == (b.length : Int)) = true := by rw [beq_iff_eq]; omega
              have tn2 : (((dec b).2 : Int) != (b.length : Int)) = false := by rw [bne, tn]; rfl
              go_wp2_with fail
              refine (match_c (makeF cs) (by omega) b HR8.out HB8.out).mono ?_
              rintro e W9 ⟨rfl, b9⟩
              rw [HT.out]
              have hC9 := hC8.step b9
              have HS9 := Lib.hid (HS8.out.step b9)
              clear b9
              go_wp2_with fail
              refine (rhas_any _ _ (makeF cs) (dec b).1 W9 HS9.out (by omega)).mono ?_
              rintro e W10 ⟨rfl, rfl⟩
              generalize decide (SetM.Tells (makeF cs) (dec b).1) = q2
              cases q2
              all_goals
                go_wp2
                go_ret
                exact ⟨rfl, hC9.below⟩
            · have HT := Lib.hid (takes_no (makeF cs) (b := b) (.inr hn))
              have tn : (((dec b).2 : Int) == (b.length : Int)) = false := by rw [beq_eq_false_iff_ne]; omega
              have tn2 : (((dec b).2 : Int) != (b.length : Int)) = true := by rw [bne, tn]; rfl
              go_wp2_with fail
              refine (match_c (makeF cs) (by omega) b HR8.out HB8.out).mono ?_
              rintro e W9 ⟨rfl, b9⟩
              rw [HT.out]
              have hC9 := hC8.step b9
              go_wp2
              go_ret
              exact ⟨rfl, hC9.below⟩
      · have haz : ¬ ((1 : Int) < (cs.length : Int)) := by omega
        go_wp2_with fail
        rw [← HXE.out]
        clear HXE haz hbz
        refine (U.renc_c x _).mono ?_
        rintro e W5 ⟨P5, c5, rfl, h5, _, _, _, _, b5⟩
        have hC5 := hC4.step b5
        have HB5 := Lib.hid (HB4.out.step b5)
        have HS5 := Lib.hid (HS4.out.step b5)
        have HR5 := Lib.hid (HR4.out.step b5)
        have HE5 := Lib.hid h5
        clear b5 h5 HB4 HS4 HR4
        by_cases hS : U.UtfM.Sc x
        · have hpos := U.UtfM.enc_pos hS
          have z1 : (0 : Int) < ((enc x).length : Int) := by omega
          have HT := Lib.hid (takes_sc (makeF cs) hS)
          clear hpos hS
          go_wp2_with fail
          refine (match_c (makeF cs) (by omega) (enc x) HR5.out HE5.out).mono ?_
          rintro e W6 ⟨rfl, b6⟩
          rw [HT.out]
          have hC6 := hC5.step b6
          have HB6 := Lib.hid (HB5.out.step b6)
          have HS6 := Lib.hid (HS5.out.step b6)
          have HR6 := Lib.hid (HR5.out.step b6)
          clear b6 HB5 HS5 HR5 HE5 HT
          go_wp2_with fail
          refine (rhas_any _ _ (makeF cs) x W6 HS6.out (by omega)).mono ?_
          rintro e W7 ⟨rfl, rfl⟩
          generalize decide (SetM.Tells (makeF cs) x) = q
          cases q
          all_goals
            go_wp2_with fail
            refine (U.rdec_c HB6.out).mono ?_
            rintro e W8 ⟨rfl, b8⟩
            unfold U.decV
            have hC8 := hC6.step b8
            have HB8 := Lib.hid (HB6.out.step b8)
            have HS8 := Lib.hid (HS6.out.step b8)
            have HR8 := Lib.hid (HR6.out.step b8)
            clear b8 HB6 HS6 HR6
            by_cases hg : (dec b).1 < 0
            · have HT := Lib.hid (takes_no (makeF cs) (b := b) (.inl hg))
              go_wp2_with fail
              refine (match_c (makeF cs) (by omega) b HR8.out HB8.out).mono ?_
              rintro e W9 ⟨rfl, b9⟩
              rw [HT.out]
              have hC9 := hC8.step b9
              go_wp2
              go_ret
              exact ⟨rfl, hC9.below⟩
            · by_cases hn : (dec b).2 = b.length
              · have HT := Lib.hid (takes_yes (makeF cs) HB8.out.1 (by omega) hn)
                have tn : (((dec b).2 : Int) == (b.length : Int)) = true := by rw [beq_iff_eq]; omega
                have tn2 : (((dec b).2 : Int) != (b.length : Int)) = false := by rw [bne, tn]; rfl
                go_wp2_with fail
                refine (match_c (makeF cs) (by omega) b HR8.out HB8.out).mono ?_
                rintro e W9 ⟨rfl, b9⟩
                rw [HT.out]
                have hC9 := hC8.step b9
                have HS9 := Lib.hid (HS8.out.step b9)
                clear b9
                go_wp2_with fail
                refine (rhas_any _ _ (makeF cs) (dec b).1 W9 HS9.out (by omega)).mono ?_
                rintro e W10 ⟨rfl, rfl⟩
                generalize decide (SetM.Tells (makeF cs) (dec b).1) = q2
                cases q2
                all_goals
                  go_wp2
                  go_ret
                  exact ⟨rfl, hC9.below⟩
              · have HT := Lib.hid (takes_no (makeF cs) (b := b) (.inr hn))
                have tn : (((dec b).2 : Int) == (b.length : Int)) = false := by rw [beq_eq_false_iff_ne]; omega
                have tn2 : (((dec b).2 : Int) != (b.length : Int)) = true := by rw [bne, tn]; rfl
                go_wp2_with fail
                refine (match_c (makeF cs) (by omega) b HR8.out HB8.out).mono ?_
                rintro e W9 ⟨rfl, b9⟩
                rw [HT.out]
                have hC9 := hC8.step b9
                go_wp2
                go_ret
                exact ⟨rfl, hC9.below⟩
        · have e0 := U.UtfM.enc0 hS
          have z1 : ¬ ((0 : Int) < ((enc x).length : Int)) := by rw [e0]; simp
          clear hS e0
          go_wp2_with fail
          refine (U.rdec_c HB5.out).mono ?_
          rintro e W8 ⟨rfl, b8⟩
          unfold U.decV
          have hC8 := hC5.step b8
          have HB8 := Lib.hid (HB5.out.step b8)
          have HS8 := Lib.hid (HS5.out.step b8)
          have HR8 := Lib.hid (HR5.out.step b8)
          clear b8 HB5 HS5 HR5
          by_cases hg : (dec b).1 < 0
          · have HT := Lib.hid (takes_no (makeF cs) (b := b) (.inl hg))
            go_wp2_with fail
            refine (match_c (makeF cs) (by omega) b HR8.out HB8.out).mono ?_
            rintro e W9 ⟨rfl, b9⟩
            rw [HT.out]
            have hC9 := hC8.step b9
            go_wp2
            go_ret
            exact ⟨rfl, hC9.below⟩
          · by_cases hn : (dec b).2 = b.length
            · have HT := Lib.hid (takes_yes (makeF cs) HB8.out.1 (by omega) hn)
              have tn : (((dec b).2 : Int) == (b.length : Int)) = true := by rw [beq_iff_eq]; omega
              have tn2 : (((dec b).2 : Int) != (b.length : Int)) = false := by rw [bne, tn]; rfl
              go_wp2_with fail
              refine (match_c (makeF cs) (by omega) b HR8.out HB8.out).mono ?_
              rintro e W9 ⟨rfl, b9⟩
              rw [HT.out]
              have hC9 := hC8.step b9
              have HS9 := Lib.hid (HS8.out.step b9)
              clear b9
              go_wp2_with fail
              refine (rhas_any _ _ (makeF cs) (dec b).1 W9 HS9.out (by omega)).mono ?_
              rintro e W10 ⟨rfl, rfl⟩
              generalize decide (SetM.Tells (makeF cs) (dec b).1) = q2
              cases q2
              all_goals
                go_wp2
                go_ret
                exact ⟨rfl, hC9.below⟩
            · have HT := Lib.hid (takes_no (makeF cs) (b := b) (.inr hn))
              have tn : (((dec b).2 : Int) == (b.length : Int)) = false := by rw [beq_eq_false_iff_ne]; omega
              have tn2 : (((dec b).2 : Int) != (b.length : Int)) = true := by rw [bne, tn]; rfl
              go_wp2_with fail
              refine (match_c (makeF cs) (by omega) b HR8.out HB8.out).mono ?_
              rintro e W9 ⟨rfl, b9⟩
              rw [HT.out]
              have hC9 := hC8.step b9
              go_wp2
              go_ret
              exact ⟨rfl, hC9.below⟩
end Go.Proofs.YtgaalkcociifmaaDoor
