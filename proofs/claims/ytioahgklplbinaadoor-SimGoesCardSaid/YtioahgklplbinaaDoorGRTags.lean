/- The document's Tags. -/
import Derived.Test.YtioahgklplbinaaDoorGRef
import Derived.Laws.AppendOwnNone
import Derived.Deep.DeepCutAuto
namespace SimM
open SetM NfaM
/-- The tags of the first q places. -/
def IsT (m : Mc) (l : List Int) (q : Nat) (o : List Int) : Prop := Up o ∧ ∀ t, t ∈ o ↔ TgP m (l.take q) t
theorem IsT.zero (m : Mc) (l : List Int) : IsT m l 0 [] := ⟨List.Pairwise.nil, fun t => by
  constructor
  · intro h; cases h
  · rintro ⟨_, k, ⟨_, h⟩, _⟩; simp at h⟩
theorem tgp_skip {m : Mc} {l : List Int} {q : Nat} (hq : q < l.length) (h : ¬ (0 ≤ l[q] ∧ l[q] < (m.tg.length : Int) ∧ 0 ≤ m.tg.getD l[q].toNat (-1))) (t : Int) : TgP m (l.take (q + 1)) t ↔ TgP m (l.take q) t := by
  unfold TgP Inn
  constructor
  · rintro ⟨h0, k, ⟨h1, h2⟩, h3⟩
    rw [List.take_succ_eq_append_getElem hq, List.mem_append] at h2
    simp only [List.mem_singleton] at h2
    rcases h2 with h2 | h2
    · exact ⟨h0, k, ⟨h1, h2⟩, h3⟩
    · exfalso
      refine h ⟨by omega, by have : m.len = m.tg.length := rfl; omega, ?_⟩
      rw [← h2, Int.toNat_natCast, h3]
      exact h0
  · rintro ⟨h0, k, ⟨h1, h2⟩, h3⟩
    exact ⟨h0, k, ⟨h1, by rw [List.take_succ_eq_append_getElem hq, List.mem_append]; exact .inl h2⟩, h3⟩
theorem IsT.skip {m : Mc} {l o : List Int} {q : Nat} (h : IsT m l q o) (hq : q < l.length) (hn : ¬ (0 ≤ l[q] ∧ l[q] < (m.tg.length : Int) ∧ 0 ≤ m.tg.getD l[q].toNat (-1))) : IsT m l (q + 1) o :=
  ⟨h.1, fun t => (h.2 t).trans (tgp_skip hq hn t).symm⟩
theorem IsT.add {m : Mc} {l o : List Int} {q s : Nat} (h : IsT m l q o) (hq : q < l.length) (hs : l[q] = (s : Int)) (hk : s < m.tg.length) (h0 : 0 ≤ m.tg.getD s (-1)) : IsT m l (q + 1) (layL o (m.tg.getD s (-1))) := by
  refine ⟨up_layL h.1 _, fun t => ?_⟩
  rw [mem_layL, h.2]
  unfold TgP Inn
  rw [List.take_succ_eq_append_getElem hq]
  simp only [List.mem_append, List.mem_singleton, hs]
  constructor
  · rintro (rfl | ⟨h0, k, ⟨h1, h2⟩, h3⟩)
    · exact ⟨h0, s, ⟨hk, .inr rfl⟩, rfl⟩
    · exact ⟨h0, k, ⟨h1, .inl h2⟩, h3⟩
  · rintro ⟨h0, k, ⟨h1, h2 | h2⟩, h3⟩
    · exact .inr ⟨h0, k, ⟨h1, h2⟩, h3⟩
    · have e : k = s := by omega
      exact .inl (by rw [← h3, e])
end SimM
namespace Go.Proofs.YtioahgklplbinaaDoor
open Go.RowKit Go.Shelf SetM NfaM SimM
theorem gk_succ {j gk lo : Nat} (h : j + gk = lo) (h1 : (j : Int) < (lo : Int)) : ∃ x, gk = x + 1 := ⟨gk - 1, by omega⟩
theorem take_len_le (j : Nat) (o : List Int) : (o.take j).length ≤ o.length := by rw [List.length_take]; exact Nat.min_le_right _ _
set_option maxRecDepth 100000 in
set_option maxHeartbeats 16000000 in
theorem rtags_c {W : World} {p0 p1 p2 P : Option Addr} {n0 n1 k c0 c1 c2 n c : Nat} {m : Mc} {l : List Int} (h : MachV W p0 p1 p2 n0 n1 k m) (hl : InR W P l) (hn : n = l.length) (h8 : n ≤ 100000) :
    Calls Tryd.prog 18 #[.agg #[.slice p0 n0 c0, .slice p1 n1 c1, .slice p2 k c2], .slice P n c] W fun e W' => ∃ v o, e = .returned v ∧ OwI W' W.heap.size v o ∧ (sndM m = true → IsTags m l o) ∧ (sndM m = false → o = []) ∧ Below W.heap.size W W' := by
  obtain ⟨i0, hi, hz0, hz1, hz2⟩ := info_parts infoIn
  obtain ⟨V, hV⟩ : ∃ V, V = W.alloc (.cells #[.slice p0 n0 c0, .slice p1 n1 c1, .slice p2 k c2] 30) := ⟨_, rfl⟩
  have hb : Below W.heap.size W V := by rw [hV]; exact (Below.refl _ _).alloc (Nat.le_refl _) _
  have x0 : V.heap[W.heap.size]? = some (.cells #[.slice p0 n0 c0, .slice p1 n1 c1, .slice p2 k c2] 30 (0, 0)) := by rw [hV]; exact heap_alloc_new W _
  obtain ⟨⟨a0, a1, a2⟩, _⟩ := cells3 x0
  have HMV := Lib.hid (h.step hb)
  have HSN := Lib.hid ((h.step hb).rsound (c0 := c0) (c1 := c1) (c2 := c2))
  have HB := Lib.hid hb
  have HX := Lib.hid x0
  have HLT := Lib.hid (Array.getElem?_eq_some_iff.1 x0).1
  have HL := Lib.hid (InR.step hl hb)
  have HN := Lib.hid hn
  clear h hb x0 hl hn
  obtain ⟨q, hq⟩ : ∃ q, q = sndM m := ⟨_, rfl⟩
  rw [← hq] at HSN
  have HQ : Hid (sndM m = q) := Lib.hid hq.symm
  clear hq
  go_enter Tryd.func18, Tryd.ntmps18
  go_upto_region 1 with fail
  rw [← hV]
  clear hV
  go_wp2_with fail
  refine HSN.out.mono ?_
  rintro e w1 ⟨rfl, b1⟩
  have HB1 := Lib.hid (HB.out.trans (b1.mono HB.out.size))
  have HV1 := Lib.hid b1
  have HM1 := Lib.hid (HMV.out.step b1)
  clear a0 a1 a2 b1 HSN
  cases q with
  | false =>
    go_wp2_with fail
    go_ret
    exact ⟨_, [], rfl, OwI.nil _ _, fun h => by rw [HQ.out] at h; (cases h), fun _ => rfl, HB1.out⟩
  | true =>
    have HRD := Lib.hid (fun (Y : World) (hY : Below w1.heap.size w1 Y) => (show Y.cell? ⟨W.heap.size, 0, none⟩ = some (.slice p0 n0 c0) ∧ Y.cell? ⟨W.heap.size, 1, none⟩ = some (.slice p1 n1 c1) ∧ Y.cell? ⟨W.heap.size, 2, none⟩ = some (.slice p2 k c2) from (cells3 ((hY.block _ (by have := HLT.out; have := HV1.out.size; omega)).trans ((HV1.out.block _ HLT.out).trans HX.out))).1))
    have HKT : Hid (k = m.tg.length) := Lib.hid HM1.out.e2
    go_wp2_with fail
    go_loopg [5, 6] n (fun gk s5 s6 wx => ∃ (q : Nat) (o : List Int) (v : Value), q + gk = n ∧ s6 = .int .i64 q ∧ v = s5 ∧ Hid (o.length ≤ q) ∧ Hid (IsT m l q o) ∧ Hid (OwI wx w1.heap.size v o) ∧ Hid (Below w1.heap.size w1 wx))
    case atStart => exact ⟨0, [], _, by omega, rfl, rfl, Lib.hid (Nat.le_refl _), Lib.hid (IsT.zero m l), Lib.hid (OwI.nil _ _), Lib.hid (Below.refl _ _)⟩
    case round =>
      obtain ⟨q, o, v5, hqg, rfl, rfl, HOL, HIT, HO, HW⟩ := hrel
      cases gk with
      | zero =>
        obtain rfl : q = n := by omega
        have hlt : ¬ (q : Int) < (q : Int) := by omega
        have HE := Lib.hid (HO.out.low HB1.out.size)
        have HBE := Lib.hid (HB1.out.trans (HW.out.mono HB1.out.size))
        have HI : Hid (IsTags m l o) := Lib.hid (by
          have := HIT.out
          unfold IsT at this
          rw [List.take_of_length_le (by have := HN.out; omega)] at this
          exact ⟨this.1, this.2⟩)
        go_wp2_with fail
        go_ret
        exact ⟨_, rfl, o, HE.out, fun _ => HI.out, fun h => by rw [HQ.out] at h; (cases h), HBE.out⟩
      | succ gko =>
        have hlt : (q : Int) < (n : Int) := by omega
        have hql : q < l.length := by have := HN.out; omega
        have hq0 : (0 : Int) ≤ (q : Int) := by omega
        have hwq : wrap64 ((q : Int) + 1) = ((q + 1 : Nat) : Int) := by rw [IntWalk.wrap64_in _ (by omega)]; omega
        obtain ⟨g5, o5, rfl, hg5, hc5⟩ := HL.out q hql
        obtain ⟨x, hx⟩ : ∃ x, x = l[q] := ⟨_, rfl⟩
        rw [← hx] at hc5
        have hc51 := (HV1.out.cell (p := ⟨g5, o5 + q, none⟩) hg5).trans hc5
        have HCX := Lib.hid (fun (Y : World) (hY : Below w1.heap.size w1 Y) => ((hY.cell (p := ⟨g5, o5 + q, none⟩) (show g5 < w1.heap.size by have := HV1.out.size; omega)).trans hc51 : Y.cell? ⟨g5, o5 + q, none⟩ = some (.int .i64 x)))
        have HWD := Lib.hid HW.out.drew
        have HOD : Hid (OwI wr.drew w1.heap.size v5 o) := Lib.hid HO.out
        have HSK := Lib.hid (fun (h : ¬ (0 ≤ x ∧ x < (m.tg.length : Int) ∧ 0 ≤ m.tg.getD x.toNat (-1))) => HIT.out.skip hql (by rw [← hx]; exact h))
        have HAD := Lib.hid (fun (s : Nat) (h : x = (s : Int)) (hs : s < m.tg.length) (h0 : 0 ≤ m.tg.getD s (-1)) => HIT.out.add hql (by rw [← hx]; exact h) hs h0)
        have HOL1 : Hid (o.length ≤ q + 1) := Lib.hid (by have := HOL.out; omega)
        have e5 := HCX.out _ HWD.out
        obtain ⟨d0, d1, d2⟩ := HRD.out _ HWD.out
        clear hc5 hc51 hg5 hx hql
        by_cases hxr : 0 ≤ x ∧ x < (k : Int)
        · obtain ⟨s, rfl⟩ : ∃ s : Nat, x = (s : Int) := ⟨x.toNat, by omega⟩
          have hst : s < m.tg.length := by have := HKT.out; omega
          obtain ⟨gt, ot, rfl, hgt, hct⟩ := HM1.out.mr.tg s hst
          obtain ⟨t, ht⟩ : ∃ t, t = m.tg.getD s (-1) := ⟨_, rfl⟩
          have hte : m.tg[s] = t := by rw [ht]; simp [List.getD, hst]
          rw [hte] at hct
          have HCT := Lib.hid (fun (Y : World) (hY : Below w1.heap.size w1 Y) => ((hY.cell (p := ⟨gt, ot + s, none⟩) hgt).trans hct : Y.cell? ⟨gt, ot + s, none⟩ = some (.int .i64 t)))
          have HTE : Hid (t = m.tg.getD s (-1) ∧ s < m.tg.length) := Lib.hid ⟨ht, hst⟩
          have h1 : ¬ ((s : Int) < 0) := by omega
          have h2 : ¬ ((k : Int) ≤ (s : Int)) := by omega
          have h2' : (s : Int) < (k : Int) := by omega
          have h3 : (0 : Int) ≤ (s : Int) := by omega
          have hd1 : decide ((s : Int) < 0) = false := decide_eq_false h1
          have hd2 : decide (k ≤ s) = false := decide_eq_false (by omega)
          have e6 := HCT.out _ HWD.out
          clear hxr hst hgt hct ht hte
          by_cases ht0 : t < 0
          · have hd3 : decide (t < 0) = true := decide_eq_true ht0
            have HI2 := Lib.hid (HSK.out (by rw [Int.toNat_natCast, ← HTE.out.1]; omega))
            go_wp2_with fail
            go_region
            all_goals
              clear e5 e6 d0 d1 d2 hd1 hd2 hd3 h1 h2 h2' h3
              go_wp2_with fail
              go_roundg gko
              case measure => omega
              case rel => exact ⟨q + 1, o, _, by omega, by first | rw [hwq] | rfl | simp, rfl, HOL1, HI2, HOD, HWD⟩
          · have hd3 : decide (t < 0) = false := decide_eq_false ht0
            have HI2 : Hid (IsT m l (q + 1) (layL o t)) := Lib.hid (by rw [HTE.out.1]; exact HAD.out s rfl HTE.out.2 (by rw [← HTE.out.1]; omega))
            have HL2 : Hid ((layL o t).length ≤ q + 1) := Lib.hid (by have := layL_len o t; have := HOL.out; omega)
            go_wp2_with fail
            go_region
            all_goals
              clear e5 e6 d0 d1 d2 hd1 hd2 hd3
              have HWD2 := Lib.hid (HWD.out.drew)
              have HOD2 : Hid (OwI wr.drew.drew w1.heap.size v5 o) := Lib.hid HO.out
              have e5 := HCX.out _ HWD2.out
              obtain ⟨d0, d1, d2⟩ := HRD.out _ HWD2.out
              have e6 := HCT.out _ HWD2.out
              go_wp2_with fail
              go_region
              all_goals
                clear e5 e6 d0 d1 d2 h1 h2 h2' h3 ht0
                obtain ⟨w2, hw2⟩ : ∃ w2, w2 = wr.drew.drew := ⟨_, rfl⟩
                rw [← hw2] at HWD2 HOD2 ⊢
                clear hw2
                go_wp2_with fail
                have hv5 := HOD2.out.form
                obtain ⟨Q5, c5, rfl, hIn5, hQ5, hlc, hcm⟩ := hv5
                obtain ⟨lo, hlo⟩ : ∃ lo, lo = o.length := ⟨_, rfl⟩
                rw [← hlo]
                have HLO := Lib.hid hlo
                have HIN5 := Lib.hid hIn5
                have HQ5 := Lib.hid hQ5
                have HNIL : Hid (Q5 = none → c5 = 0) := Lib.hid (fun e => by
                  rcases HOD2.out.2 with ⟨e1, _⟩ | ⟨g, cap, cur, e1, _⟩
                  · injection e1
                  · subst e; injection e1 with e1; cases e1)
                have HADR : Hid ((Q5 = none ∧ c5 = 0) ∨ ∃ g o, Q5 = some ⟨g, o, none⟩) := Lib.hid (by
                  rcases HOD2.out.2 with ⟨e1, _⟩ | ⟨g, cap, cur, e1, _⟩
                  · injection e1 with a b c; exact .inl ⟨a, c⟩
                  · injection e1 with a b c; exact .inr ⟨g, 0, a⟩)
                have hlc' : lo ≤ c5 := by omega
                have hlo8 : lo ≤ 100000 := by have := HOL.out; omega
                clear hlo hIn5 hQ5 hlc hcm
                go_loopg [7, 9] lo (fun gk s7 s9 wx => ∃ (j : Nat) (v7 : Value), j + gk = lo ∧ s9 = .int .i64 j ∧ v7 = s7 ∧ Hid (∀ i (hi : i < o.length), i < j → o[i] < t) ∧ Hid (OwI wx w2.heap.size v7 (o.take j)) ∧ Hid (Below w2.heap.size w2 wx))
                case atStart => exact ⟨0, _, by omega, rfl, rfl, Lib.hid (fun i hi h => by omega), Lib.hid (OwI.nil _ _), Lib.hid (Below.refl _ _)⟩
                case round =>
                  obtain ⟨j, v7, hjg, rfl, rfl, HLS, HO7, HB7⟩ := hrel
                  have hj0 : (0 : Int) ≤ (j : Int) := by omega
                  have hjl8 : j ≤ lo := by omega
                  by_cases hgo : ∃ h : j < o.length, o[j] < t
                  · obtain ⟨hjo, hot⟩ := hgo
                    have hjlo : (j : Int) < (lo : Int) := by have := HLO.out; omega
                    have hwj : wrap64 ((j : Int) + 1) = ((j + 1 : Nat) : Int) := by rw [IntWalk.wrap64_in _ (by omega)]; omega
                    obtain ⟨g9, o9, rfl, hg9, hc9⟩ := HIN5.out j hjo
                    have hc91 := (HB7.out.cell (p := ⟨g9, o9 + j, none⟩) hg9).trans hc9
                    have HTK : Hid (o.take (j + 1) = o.take j ++ [o[j]]) := Lib.hid (List.take_succ_eq_append_getElem hjo)
                    have HLS2 : Hid (∀ i (hi : i < o.length), i < j + 1 → o[i] < t) := Lib.hid (fun i hi h => by
                      by_cases e : i = j
                      · subst e; exact hot
                      · exact HLS.out i hi (Nat.lt_of_le_of_ne (Nat.le_of_lt_succ h) e))
                    obtain ⟨y, hy⟩ : ∃ y, y = o[j] := ⟨_, rfl⟩
                    rw [← hy] at hc91 HTK hot
                    have hd4 : decide (y < t) = true := decide_eq_true hot
                    have hown := HO7.out
                    have htl : (o.take j).length ≤ 100000 := Nat.le_trans (take_len_le j o) (HLO.out ▸ hlo8)
                    obtain ⟨gk', rfl⟩ := gk_succ hjg hjlo
                    unfold OwI at hown
                    have hwz := HB7.out.size
                    clear hc9 hg9 hy hot hjo
                    go_wp2_with (at_builtin; refine wpList_append_own _ rfl _ _ 24 rfl w2.heap.size 3 i0 (.int .i64 0) 1 8 Tryd.underlying24 hi hz0 hz1 hz2 rfl (by decide) _ _ _ rfl (hown.alloc _) ⟨wr.heap.size, 0, none⟩ 1 1 [.int .i64 y] rfl rfl (cell_news _ _ _) (by simp [Value.oneCell']) (by unfold maxLen; omega) (by omega) (by rw [World.size_alloc]; omega) ?_; intro v' w2' hown' hgrow _)
                    go_roundg gk'
                    case measure => omega
                    case rel => exact ⟨j + 1, _, by omega, by first | rw [hwj] | rfl | simp, rfl, HLS2, Lib.hid (by rw [HTK.out]; unfold OwI; rw [List.map_append, List.length_append]; exact hown'), Lib.hid ((HB7.out.alloc hwz _).grown hgrow (by rw [World.size_alloc]; omega) (fun j hj => (hown.lt j hj).1))⟩
                  · have hstop : ∀ h : j < o.length, t ≤ o[j] := fun h => Int.not_lt.1 (fun h1 => hgo ⟨h, h1⟩)
                    have hcut := layL_cut HIT.out.1 t j (by have := HLO.out; omega) HLS.out hstop
                    clear hgo
                    have hown := HO7.out
                    unfold OwI at hown
                    have hb7 := HB7.out
                    have hwz := hb7.size
                    have htl : (o.take j).length ≤ 100000 := Nat.le_trans (take_len_le j o) (by have := HLO.out; omega)
                    by_cases hjo : j < o.length
                    · have hjlo : (j : Int) < (lo : Int) := by have := HLO.out; omega
                      obtain ⟨g9, o9, rfl, hg9, hc9⟩ := HIN5.out j hjo
                      have hc91 := (hb7.cell (p := ⟨g9, o9 + j, none⟩) hg9).trans hc9
                      have hyx := hstop hjo
                      rw [List.getElem?_eq_getElem hjo] at hcut
                      have HG9 := Lib.hid hg9
                      obtain ⟨y, hy⟩ : ∃ y, y = o[j] := ⟨_, rfl⟩
                      rw [← hy] at hc91 hyx hcut
                      have hd4 : decide (y < t) = false := decide_eq_false (by omega)
                      have HDR : Hid (∀ kk, ∀ i (hi : i < (o.drop kk).length), w2.cell? ⟨g9, o9 + kk + i, none⟩ = some (.int .i64 (o.drop kk)[i])) := Lib.hid (fun kk i hi => by
                        rw [List.length_drop] at hi
                        obtain ⟨gx, ox, e1, _, e2⟩ := HIN5.out (kk + i) (by omega)
                        cases e1
                        rw [show o9 + kk + i = o9 + (kk + i) by omega, e2, List.getElem_drop])
                      clear hc9 hg9 hy hstop hlt
                      by_cases hxy : y = t
                      · have d2 : (y == t) = true := by rw [beq_iff_eq]; exact hxy
                        rw [if_pos (by rw [hxy])] at hcut
                        by_cases hck : c5 = j + 1
                        · have hd0 : o.drop (j + 1) = [] := List.drop_eq_nil_of_le (by have := HLO.out; omega)
                          rw [hd0] at hcut
                          have HCUT := Lib.hid hcut
                          have hm0 : lo - (j + 1) = 0 := by have := HLO.out; omega
                          have hck2 : c5 - (j + 1) = 0 := by omega
                          clear hcut hxy hd0 hyx
                          go_wp2_with (first | (at_builtin; refine wpList_append_own _ rfl (.tmp 88) (.tmp 90) 24 rfl w2.heap.size 3 i0 (.int .i64 0) 1 8 Tryd.underlying24 hi hz0 hz1 hz2 rfl (by decide) _ _ _ rfl (hown.alloc _) ⟨wr.heap.size, 0, none⟩ 1 1 [.int .i64 t] rfl rfl (cell_news _ _ _) (by simp [Value.oneCell']) (by unfold maxLen; omega) (by omega) (by rw [World.size_alloc]; omega) ?_; intro v' w4 hown' hgrow _; have hb2 := (hb7.alloc hwz _).grown hgrow (by rw [World.size_alloc]; omega) (fun j hj => (hown.lt j hj).1); have hwz2 := hb2.size) | (at_builtin; refine wpList_append_own _ rfl (.tmp 92) (.tmp 95) 24 rfl w2.heap.size 3 i0 (.int .i64 0) 1 8 Tryd.underlying24 hi hz0 hz1 hz2 rfl (by decide) _ _ _ rfl hown' ⟨g9, o9, none⟩ 0 0 [] rfl rfl (fun j u hj => by simp at hj) (by simp) (by unfold maxLen; omega) (by omega) hwz2 ?_; intro v3 w3 hown3 hgrow3 _))
                          go_roundg gko
                          case measure => omega
                          case rel => exact ⟨q + 1, _, _, by omega, by first | rw [hwq] | rfl | simp, rfl, HL2, HI2, Lib.hid (OwI.low (base := w2.heap.size) (by rw [HCUT.out]; unfold OwI; rw [show (o.take j ++ [t]).length = (o.take j).length + 1 by simp, show (o.take j ++ [t]).map (Value.int .i64) = (o.take j).map (Value.int .i64) ++ [.int .i64 t] by simp]; simpa using hown3) HWD2.out.size), Lib.hid (HWD2.out.trans ((hb2.grown hgrow3 hwz2 (fun j hj => (hown'.lt j hj).1)).mono HWD2.out.size))⟩
                        · have HCUT := Lib.hid hcut
                          have HCD := Lib.hid (HDR.out (j + 1))
                          clear hcut hxy hyx
                          go_wp2_with (first | (at_builtin; refine wpList_append_own _ rfl (.tmp 88) (.tmp 90) 24 rfl w2.heap.size 3 i0 (.int .i64 0) 1 8 Tryd.underlying24 hi hz0 hz1 hz2 rfl (by decide) _ _ _ rfl (hown.alloc _) ⟨wr.heap.size, 0, none⟩ 1 1 [.int .i64 t] rfl rfl (cell_news _ _ _) (by simp [Value.oneCell']) (by unfold maxLen; omega) (by omega) (by rw [World.size_alloc]; omega) ?_; intro v' w4 hown' hgrow _; have hb2 := (hb7.alloc hwz _).grown hgrow (by rw [World.size_alloc]; omega) (fun j hj => (hown.lt j hj).1); have hwz2 := hb2.size) | (at_builtin; refine wpList_append_own _ rfl (.tmp 92) (.tmp 95) 24 rfl w2.heap.size 3 i0 (.int .i64 0) 1 8 Tryd.underlying24 hi hz0 hz1 hz2 rfl (by decide) _ _ _ rfl hown' ⟨g9, o9 + (j + 1), none⟩ (lo - (j + 1)) (c5 - (j + 1)) ((o.drop (j + 1)).map (Value.int .i64)) rfl (by have := HLO.out; simp; omega) (ints_news (fun i hi => (hb2.cell (p := ⟨g9, o9 + (j + 1) + i, none⟩) HG9.out).trans (HCD.out i hi))) (one_ints _) (by unfold maxLen; omega) (by omega) hwz2 ?_; intro v3 w3 hown3 hgrow3 _))
                          go_roundg gko
                          case measure => omega
                          case rel => exact ⟨q + 1, _, _, by omega, by first | rw [hwq] | rfl | simp, rfl, HL2, HI2, Lib.hid (OwI.low (base := w2.heap.size) (by rw [HCUT.out]; unfold OwI; rw [show (o.take j ++ t :: o.drop (j + 1)).length = (o.take j).length + 1 + (o.drop (j + 1)).length by simp; omega, show (o.take j ++ t :: o.drop (j + 1)).map (Value.int .i64) = (o.take j).map (Value.int .i64) ++ [.int .i64 t] ++ (o.drop (j + 1)).map (Value.int .i64) by simp]; simpa [HLO.out] using hown3) HWD2.out.size), Lib.hid (HWD2.out.trans ((hb2.grown hgrow3 hwz2 (fun j hj => (hown'.lt j hj).1)).mono HWD2.out.size))⟩
                      · have d2 : (y == t) = false := by rw [beq_eq_false_iff_ne]; exact hxy
                        rw [if_neg (by simpa using hxy)] at hcut
                        have HCUT := Lib.hid hcut
                        have HCD := Lib.hid (HDR.out j)
                        have hcj : ¬ c5 = j := by have := HLO.out; omega
                        clear hcut hxy hyx
                        go_wp2_with (first | (at_builtin; refine wpList_append_own _ rfl (.tmp 88) (.tmp 90) 24 rfl w2.heap.size 3 i0 (.int .i64 0) 1 8 Tryd.underlying24 hi hz0 hz1 hz2 rfl (by decide) _ _ _ rfl (hown.alloc _) ⟨wr.heap.size, 0, none⟩ 1 1 [.int .i64 t] rfl rfl (cell_news _ _ _) (by simp [Value.oneCell']) (by unfold maxLen; omega) (by omega) (by rw [World.size_alloc]; omega) ?_; intro v' w4 hown' hgrow _; have hb2 := (hb7.alloc hwz _).grown hgrow (by rw [World.size_alloc]; omega) (fun j hj => (hown.lt j hj).1); have hwz2 := hb2.size) | (at_builtin; refine wpList_append_own _ rfl (.tmp 92) (.tmp 95) 24 rfl w2.heap.size 3 i0 (.int .i64 0) 1 8 Tryd.underlying24 hi hz0 hz1 hz2 rfl (by decide) _ _ _ rfl hown' ⟨g9, o9 + j, none⟩ (lo - j) (c5 - j) ((o.drop j).map (Value.int .i64)) rfl (by have := HLO.out; simp; omega) (ints_news (fun i hi => (hb2.cell (p := ⟨g9, o9 + j + i, none⟩) HG9.out).trans (HCD.out i hi))) (one_ints _) (by unfold maxLen; omega) (by omega) hwz2 ?_; intro v3 w3 hown3 hgrow3 _))
                        go_roundg gko
                        case measure => omega
                        case rel => exact ⟨q + 1, _, _, by omega, by first | rw [hwq] | rfl | simp, rfl, HL2, HI2, Lib.hid (OwI.low (base := w2.heap.size) (by rw [HCUT.out]; unfold OwI; rw [show (o.take j ++ t :: o.drop j).length = (o.take j).length + 1 + (o.drop j).length by simp; omega, show (o.take j ++ t :: o.drop j).map (Value.int .i64) = (o.take j).map (Value.int .i64) ++ [.int .i64 t] ++ (o.drop j).map (Value.int .i64) by simp]; simpa [HLO.out] using hown3) HWD2.out.size), Lib.hid (HWD2.out.trans ((hb2.grown hgrow3 hwz2 (fun j hj => (hown'.lt j hj).1)).mono HWD2.out.size))⟩
                    · obtain rfl : j = lo := by have := HLO.out; omega
                      have hkz : ¬ ((j : Int) < (j : Int)) := by omega
                      rw [List.getElem?_eq_none (by omega), if_neg (by simp), List.drop_eq_nil_of_le (by have := HLO.out; omega)] at hcut
                      have HCUT := Lib.hid hcut
                      have hm0 : j - j = 0 := Nat.sub_self _
                      clear hcut hstop hjo hlt
                      rcases HADR.out with ⟨rfl, rfl⟩ | ⟨g9, o9, rfl⟩
                      · go_wp2_with (first | (at_builtin; refine wpList_append_own _ rfl (.tmp 88) (.tmp 90) 24 rfl w2.heap.size 3 i0 (.int .i64 0) 1 8 Tryd.underlying24 hi hz0 hz1 hz2 rfl (by decide) _ _ _ rfl (hown.alloc _) ⟨wr.heap.size, 0, none⟩ 1 1 [.int .i64 t] rfl rfl (cell_news _ _ _) (by simp [Value.oneCell']) (by unfold maxLen; omega) (by omega) (by rw [World.size_alloc]; omega) ?_; intro v' w4 hown' hgrow _; have hb2 := (hb7.alloc hwz _).grown hgrow (by rw [World.size_alloc]; omega) (fun j hj => (hown.lt j hj).1); have hwz2 := hb2.size) | (at_builtin; refine wpList_append_own_none rfl (.tmp 92) (.tmp 95) 24 rfl w2.heap.size 3 i0 1 Tryd.underlying24 hi _ _ _ rfl hown' rfl ?_))
                        go_roundg gko
                        case measure => omega
                        case rel => exact ⟨q + 1, _, _, by omega, by first | rw [hwq] | rfl | simp, rfl, HL2, HI2, Lib.hid (OwI.low (base := w2.heap.size) (by rw [HCUT.out]; unfold OwI; rw [show (o.take j ++ [t]).length = (o.take j).length + 1 by simp, show (o.take j ++ [t]).map (Value.int .i64) = (o.take j).map (Value.int .i64) ++ [.int .i64 t] by simp]; exact hown') HWD2.out.size), Lib.hid (HWD2.out.trans (hb2.mono HWD2.out.size))⟩
                      · by_cases hck : c5 = j
                        · have hck2 : c5 - j = 0 := by omega
                          go_wp2_with (first | (at_builtin; refine wpList_append_own _ rfl (.tmp 88) (.tmp 90) 24 rfl w2.heap.size 3 i0 (.int .i64 0) 1 8 Tryd.underlying24 hi hz0 hz1 hz2 rfl (by decide) _ _ _ rfl (hown.alloc _) ⟨wr.heap.size, 0, none⟩ 1 1 [.int .i64 t] rfl rfl (cell_news _ _ _) (by simp [Value.oneCell']) (by unfold maxLen; omega) (by omega) (by rw [World.size_alloc]; omega) ?_; intro v' w4 hown' hgrow _; have hb2 := (hb7.alloc hwz _).grown hgrow (by rw [World.size_alloc]; omega) (fun j hj => (hown.lt j hj).1); have hwz2 := hb2.size) | (at_builtin; refine wpList_append_own _ rfl (.tmp 92) (.tmp 95) 24 rfl w2.heap.size 3 i0 (.int .i64 0) 1 8 Tryd.underlying24 hi hz0 hz1 hz2 rfl (by decide) _ _ _ rfl hown' ⟨g9, o9, none⟩ 0 0 [] rfl rfl (fun j u hj => by simp at hj) (by simp) (by unfold maxLen; omega) (by omega) hwz2 ?_; intro v3 w3 hown3 hgrow3 _))
                          go_roundg gko
                          case measure => omega
                          case rel => exact ⟨q + 1, _, _, by omega, by first | rw [hwq] | rfl | simp, rfl, HL2, HI2, Lib.hid (OwI.low (base := w2.heap.size) (by rw [HCUT.out]; unfold OwI; rw [show (o.take j ++ [t]).length = (o.take j).length + 1 by simp, show (o.take j ++ [t]).map (Value.int .i64) = (o.take j).map (Value.int .i64) ++ [.int .i64 t] by simp]; simpa using hown3) HWD2.out.size), Lib.hid (HWD2.out.trans ((hb2.grown hgrow3 hwz2 (fun j hj => (hown'.lt j hj).1)).mono HWD2.out.size))⟩
                        · go_wp2_with (first | (at_builtin; refine wpList_append_own _ rfl (.tmp 88) (.tmp 90) 24 rfl w2.heap.size 3 i0 (.int .i64 0) 1 8 Tryd.underlying24 hi hz0 hz1 hz2 rfl (by decide) _ _ _ rfl (hown.alloc _) ⟨wr.heap.size, 0, none⟩ 1 1 [.int .i64 t] rfl rfl (cell_news _ _ _) (by simp [Value.oneCell']) (by unfold maxLen; omega) (by omega) (by rw [World.size_alloc]; omega) ?_; intro v' w4 hown' hgrow _; have hb2 := (hb7.alloc hwz _).grown hgrow (by rw [World.size_alloc]; omega) (fun j hj => (hown.lt j hj).1); have hwz2 := hb2.size) | (at_builtin; refine wpList_append_own _ rfl (.tmp 92) (.tmp 95) 24 rfl w2.heap.size 3 i0 (.int .i64 0) 1 8 Tryd.underlying24 hi hz0 hz1 hz2 rfl (by decide) _ _ _ rfl hown' ⟨g9, o9 + j, none⟩ 0 (c5 - j) [] rfl rfl (fun j u hj => by simp at hj) (by simp) (by unfold maxLen; omega) (by omega) hwz2 ?_; intro v3 w3 hown3 hgrow3 _))
                          go_roundg gko
                          case measure => omega
                          case rel => exact ⟨q + 1, _, _, by omega, by first | rw [hwq] | rfl | simp, rfl, HL2, HI2, Lib.hid (OwI.low (base := w2.heap.size) (by rw [HCUT.out]; unfold OwI; rw [show (o.take j ++ [t]).length = (o.take j).length + 1 by simp, show (o.take j ++ [t]).map (Value.int .i64) = (o.take j).map (Value.int .i64) ++ [.int .i64 t] by simp]; simpa using hown3) HWD2.out.size), Lib.hid (HWD2.out.trans ((hb2.grown hgrow3 hwz2 (fun j hj => (hown'.lt j hj).1)).mono HWD2.out.size))⟩
        · have HI2 := Lib.hid (HSK.out (fun h => hxr ⟨h.1, by have := HKT.out; omega⟩))
          rcases (show x < 0 ∨ (¬ x < 0 ∧ (k : Int) ≤ x) by omega) with h1 | ⟨h1, h2⟩
          · have hd1 : decide (x < 0) = true := decide_eq_true h1
            clear hxr
            go_wp2_with fail
            go_region
            all_goals
              clear e5 d0 d1 d2 hd1
              go_wp2_with fail
              go_roundg gko
              case measure => omega
              case rel => exact ⟨q + 1, o, _, by omega, by first | rw [hwq] | rfl | simp, rfl, HOL1, HI2, HOD, HWD⟩
          · have hd1 : decide (x < 0) = false := decide_eq_false h1
            have hd2 : decide ((k : Int) ≤ x) = true := decide_eq_true h2
            clear hxr
            go_wp2_with fail
            go_region
            all_goals
              clear e5 d0 d1 d2 hd1 hd2
              go_wp2_with fail
              go_roundg gko
              case measure => omega
              case rel => exact ⟨q + 1, o, _, by omega, by first | rw [hwq] | rfl | simp, rfl, HOL1, HI2, HOD, HWD⟩
end Go.Proofs.YtioahgklplbinaaDoor
