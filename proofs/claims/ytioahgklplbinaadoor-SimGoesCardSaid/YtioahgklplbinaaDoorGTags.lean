/- The program's tags of states. -/
import Derived.Test.YtioahgklplbinaaDoorGStep
import Derived.Test.YtioahgklplbinaaDoorGSort
namespace SimM
open SetM NfaM
/-- The tags of a row of states, in their order. -/
def tgL (m : Mc) (L : List Int) : List Int := (L.map (fun x => m.tg.getD x.toNat (-1))).filter (fun t => decide (0 ≤ t))
theorem tgl_yes (m : Mc) (L : List Int) (k : Nat) (h : 0 ≤ m.tg.getD k (-1)) : tgL m (L ++ [(k : Int)]) = tgL m L ++ [m.tg.getD k (-1)] := by
  unfold tgL
  rw [List.map_append, List.filter_append]
  simp only [List.map_cons, List.map_nil, Int.toNat_natCast]
  congr 1
  rw [List.filter_cons, if_pos (decide_eq_true h), List.filter_nil]
theorem tgl_no (m : Mc) (L : List Int) (k : Nat) (h : ¬ 0 ≤ m.tg.getD k (-1)) : tgL m (L ++ [(k : Int)]) = tgL m L := by
  unfold tgL
  rw [List.map_append, List.filter_append]
  simp only [List.map_cons, List.map_nil, Int.toNat_natCast]
  rw [List.filter_cons, if_neg (by rw [decide_eq_false h]; decide), List.filter_nil, List.append_nil]
theorem tgl_len (m : Mc) (L : List Int) : (tgL m L).length ≤ L.length := by
  unfold tgL
  have := List.length_filter_le (fun t : Int => decide (0 ≤ t)) (L.map (fun x => m.tg.getD x.toNat (-1)))
  rw [List.length_map] at this
  exact this
theorem tgl_is (m : Mc) (at_ : List Int) : IsTags m at_ (tgsF (tgL m (stL m.tg.length (Inn m.tg.length at_)))) := by
  refine ⟨tgs_rise _, fun t => ?_⟩
  rw [tgs_mem]
  unfold tgL TgP
  rw [List.mem_filter, List.mem_map]
  constructor
  · rintro ⟨⟨x, hx, rfl⟩, h2⟩
    obtain ⟨k, h3, h4, rfl⟩ := mem_stL.1 hx
    exact ⟨by simpa using h2, k, h4, by simp⟩
  · rintro ⟨h0, k, h1, rfl⟩
    exact ⟨⟨(k : Int), mem_stL.2 ⟨k, h1.1, h1, rfl⟩, by simp⟩, by simpa using h0⟩
end SimM
namespace Go.Proofs.YtioahgklplbinaaDoor
open Go.RowKit Go.Shelf SetM NfaM SimM
set_option maxRecDepth 100000 in
set_option maxHeartbeats 16000000 in
theorem tags_c {W : World} {p0 p1 p2 P : Option Addr} {n0 n1 k c0 c1 c2 n c : Nat} {m : Mc} {l : List Int} (hm : MR W p0 p1 p2 m) (hk8 : k ≤ 100000) (hk : k = m.tg.length) (hl : InR W P l) (hn : n = l.length) (h8 : n ≤ 9223372036854775807) :
    Calls Tryd.prog 29 #[.agg #[.slice p0 n0 c0, .slice p1 n1 c1, .slice p2 k c2], .slice P n c] W fun e W' => ∃ v o, e = .returned v ∧ OwI W' W.heap.size v o ∧ o.length ≤ 100000 ∧ IsTags m l o ∧ Below W.heap.size W W' := by
  obtain ⟨i0, hi, hz0, hz1, hz2⟩ := info_parts infoIn
  obtain ⟨V, hV⟩ : ∃ V, V = W.alloc (.cells #[.slice p0 n0 c0, .slice p1 n1 c1, .slice p2 k c2] 30) := ⟨_, rfl⟩
  have hb : Below W.heap.size W V := by rw [hV]; exact (Below.refl _ _).alloc (Nat.le_refl _) _
  have x0 : V.heap[W.heap.size]? = some (.cells #[.slice p0 n0 c0, .slice p1 n1 c1, .slice p2 k c2] 30 (0, 0)) := by rw [hV]; exact heap_alloc_new W _
  obtain ⟨⟨a0, a1, a2⟩, _⟩ := cells3 x0
  have HMK := Lib.hid (marked_c (W := V) (p0 := p0) (p1 := p1) (p2 := p2) (n0 := n0) (n1 := n1) (c0 := c0) (c1 := c1) (c2 := c2) (c := c) (InR.step hl hb) hn h8 hk8)
  have HMV := Lib.hid (hm.step hb)
  have HBV := Lib.hid hb
  have HX := Lib.hid x0
  have HLT := Lib.hid (Array.getElem?_eq_some_iff.1 x0).1
  have HK := Lib.hid hk
  clear hm hk hb x0 hl hn h8
  go_enter Tryd.func29, Tryd.ntmps29
  go_upto_region 1 with fail
  rw [← hV]
  clear hV
  go_wp2_with fail
  refine HMK.out.mono ?_
  rintro e w2 ⟨g2, rfl, hM2, b2⟩
  have HST := Lib.hid (states_c hM2 hk8)
  have HB2 := Lib.hid b2
  clear a0 a1 a2 hM2 b2 HMK
  go_wp2_with fail
  refine HST.out.mono ?_
  rintro e w3 ⟨v, rfl, hO, b3⟩
  obtain ⟨Q, cq, rfl, hIn, _, _, _⟩ := hO.form
  have HB3 := Lib.hid (HB2.out.trans (b3.mono HB2.out.size))
  obtain ⟨F, hF⟩ : ∃ F, F = stL k (Inn k l) := ⟨_, rfl⟩
  rw [← hF] at hIn
  rw [← hF]
  have hmm : ∀ x ∈ F, 0 ≤ x ∧ x < (k : Int) := by
    rw [hF]
    intro x hx
    obtain ⟨j, h2, _, h3⟩ := mem_stL.1 hx
    omega
  have HFL : Hid (∀ r (h : r < F.length), 0 ≤ F[r] ∧ F[r] < (k : Int)) := Lib.hid (fun r h => hmm _ (List.getElem_mem h))
  have HIN := Lib.hid hIn
  obtain ⟨fl, hfl⟩ : ∃ fl, fl = F.length := ⟨_, rfl⟩
  rw [← hfl]
  have HFN := Lib.hid hfl
  have HF := Lib.hid hF
  have hf8 : fl ≤ 100000 := by rw [hfl, hF]; have := stL_len k (Inn k l); omega
  have HTL : Hid (∀ r, (tgL m (F.take r)).length ≤ 100000) := Lib.hid (fun r => by
    have h1 := tgl_len m (F.take r)
    have h2 : (F.take r).length ≤ F.length := by rw [List.length_take]; omega
    omega)
  clear hO b3 hIn hfl hF HST hmm
  go_wp2_with fail
  go_loopg [5, 14] fl (fun gk s5 s14 wx => ∃ (q : Nat) (v : Value), q + gk = fl ∧ s14 = .int .i64 q ∧ v = s5 ∧ Hid (OwI wx w3.heap.size v (tgL m (F.take q))) ∧ Hid (Below w3.heap.size w3 wx))
  case atStart => exact ⟨0, _, by omega, rfl, rfl, Lib.hid (OwI.nil _ _), Lib.hid (Below.refl _ _)⟩
  case round =>
    obtain ⟨q, v5, hqg, rfl, rfl, HO, HW⟩ := hrel
    cases gk with
    | zero =>
      obtain rfl : q = fl := by omega
      have hlt : ¬ (q : Int) < (q : Int) := by omega
      have h8 : (tgL m (F.take q)).length ≤ 100000 := HTL.out q
      have HS := Lib.hid (sort_any HO.out (by omega))
      have HSL : Hid ((sortF (tgL m (F.take q))).length ≤ 1000000) := Lib.hid (by rw [sort_len]; omega)
      have HLE : Hid ((tgsF (tgL m (F.take q))).length ≤ 100000) := Lib.hid (Nat.le_trans (tgs_le _) h8)
      have HIS : Hid (IsTags m l (tgsF (tgL m (F.take q)))) := Lib.hid (by
        have h := tgl_is m l
        rw [List.take_of_length_le (by have := HFN.out; omega), HF.out, HK.out]
        exact h)
      have HOL : Hid (∀ j, v5.ownBlock = some j → w3.heap.size ≤ j) := Lib.hid (fun j hj => (World.ownsRow.lt HO.out j hj).1)
      clear h8
      go_wp2_with fail
      refine HS.out.mono ?_
      rintro e w4 ⟨rfl, hO4, hg4⟩
      have HC := Lib.hid (comp_any hO4 HSL.out)
      have HB4 := Lib.hid (HW.out.grown hg4 HW.out.size HOL.out)
      clear hO4 hg4 HS
      go_wp2_with fail
      refine HC.out.mono ?_
      rintro e w5 ⟨v', rfl, hO5, hg5⟩
      have HB5 := Lib.hid (HB4.out.grown hg5 HB4.out.size HOL.out)
      have hVW : W.heap.size ≤ w3.heap.size := by have := HBV.out.size; have := HB3.out.size; omega
      have HE := Lib.hid (OwI.low hO5 hVW)
      have HBE := Lib.hid (HBV.out.trans ((HB3.out.trans (HB5.out.mono HB3.out.size)).mono HBV.out.size))
      clear hO5 hg5 hVW
      go_wp2
      go_ret
      exact ⟨_, _, rfl, HE.out, HLE.out, HIS.out, HBE.out⟩
    | succ gk =>
      have hlt : (q : Int) < (fl : Int) := by omega
      have hql : q < F.length := by have := HFN.out; omega
      have h0 : (0 : Int) ≤ (q : Int) := by omega
      have hwr : wrap64 ((q : Int) + 1) = ((q + 1 : Nat) : Int) := by rw [IntWalk.wrap64_in _ (by omega)]; omega
      obtain ⟨g5, o5, rfl, hg5, hc5⟩ := HIN.out q hql
      have hc6 := (HW.out.cell (p := ⟨g5, o5 + q, none⟩) hg5).trans hc5
      clear hc5
      have hxb := HFL.out q hql
      obtain ⟨i, hi'⟩ : ∃ i : Nat, F[q] = (i : Int) := ⟨F[q].toNat, by omega⟩
      rw [hi'] at hc6 hxb
      have hit : i < m.tg.length := by have := HK.out; omega
      obtain ⟨gt, ot, rfl, hgt, hct⟩ := HMV.out.tg i hit
      have hbw : Below V.heap.size V wr := HB3.out.trans (HW.out.mono HB3.out.size)
      have hct2 := (hbw.cell (p := ⟨gt, ot + i, none⟩) hgt).trans hct
      obtain ⟨⟨a0, a1, a2⟩, _⟩ := cells3 ((hbw.block _ HLT.out).trans HX.out)
      obtain ⟨t, ht⟩ : ∃ t, t = m.tg.getD i (-1) := ⟨_, rfl⟩
      have hte : m.tg[i] = t := by rw [ht]; simp [List.getD, hit]
      rw [hte] at hct2
      have HTS : Hid (F.take (q + 1) = F.take q ++ [(i : Int)] ∧ t = m.tg.getD i (-1)) := Lib.hid ⟨by rw [List.take_succ_eq_append_getElem hql, hi'], ht⟩
      have hi0 : (0 : Int) ≤ (i : Int) := by omega
      have hi1 : (i : Int) < (k : Int) := by omega
      clear hct hgt hbw ht hte hit hg5 hxb hi' hql
      by_cases h0t : 0 ≤ t
      · have HT2 : Hid (tgL m (F.take (q + 1)) = tgL m (F.take q) ++ [t]) := Lib.hid (by rw [HTS.out.1, HTS.out.2]; exact tgl_yes _ _ _ (by rw [← HTS.out.2]; exact h0t))
        have hown := HO.out
        have hle := HTL.out q
        generalize tgL m (F.take q) = L at *
        unfold OwI at hown
        have hwz := HW.out.size
        go_wp2_with (at_builtin; refine wpList_append_own _ rfl _ _ 24 rfl w3.heap.size 3 i0 (.int .i64 0) 1 8 Tryd.underlying24 hi hz0 hz1 hz2 rfl (by decide) _ _ _ rfl (hown.alloc _) ⟨wr.heap.size, 0, none⟩ 1 1 [.int .i64 t] rfl rfl (cell_news _ _ _) (by simp [Value.oneCell']) (by unfold maxLen; omega) (by omega) (by rw [World.size_alloc]; omega) ?_; intro v' w2' hown' hgrow _)
        go_roundg gk
        case measure => omega
        case rel => exact ⟨q + 1, _, by omega, by first | rw [hwr] | rfl | simp, rfl, Lib.hid (by rw [HT2.out]; unfold OwI; rw [List.map_append, List.length_append]; exact hown'), Lib.hid ((HW.out.alloc hwz _).grown hgrow (by rw [World.size_alloc]; omega) (fun j hj => (hown.lt j hj).1))⟩
      · have HO2 : Hid (OwI wr w3.heap.size v5 (tgL m (F.take (q + 1)))) := Lib.hid (by rw [HTS.out.1, tgl_no _ _ _ (by rw [← HTS.out.2]; exact h0t)]; exact HO.out)
        go_wp2
        go_roundg gk
        case measure => omega
        case rel => exact ⟨q + 1, _, by omega, by first | rw [hwr] | rfl | simp, rfl, HO2, HW⟩
end Go.Proofs.YtioahgklplbinaaDoor
