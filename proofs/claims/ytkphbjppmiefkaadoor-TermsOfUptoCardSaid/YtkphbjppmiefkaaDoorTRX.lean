/- Several texts in one: TOne, TRo, TSome. -/
import Derived.Test.YtkphbjppmiefkaaDoorTKL
section
/- TermsOne. -/
namespace TermsM
open SetM
theorem al_two (l : List (List Sp)) (r r' : Int) : Al (l ++ l) r r' ↔ Al l r r' := by
  unfold Al
  constructor
  · intro h s hs; exact h s (List.mem_append.2 (.inl hs))
  · intro h s hs; exact h s ((List.mem_append.1 hs).elim id id)
theorem an_two (l : List (List Sp)) (r : Int) : An (l ++ l) r ↔ An l r := by
  unfold An
  constructor
  · rintro ⟨s, hs, h⟩; exact ⟨s, (List.mem_append.1 hs).elim id id, h⟩
  · rintro ⟨s, hs, h⟩; exact ⟨s, List.mem_append.2 (.inl hs), h⟩
theorem parts_two {l q : List (List Sp)} (h : PartsOf (l ++ l) q) : PartsOf l q := by
  obtain ⟨⟨h1, h2, h3, h4, h5⟩, h6⟩ := h
  exact ⟨⟨h1, fun x hx r r' a b => (al_two l r r').1 (h2 x hx r r' a b), fun x hx r r' a b c => h3 x hx r r' a ((an_two l r').2 b) ((al_two l r r').2 c), fun r => (an_two l r).symm.trans (h4 r), h5⟩, h6⟩
theorem parts_one {l p : List (List Sp)} (h : PartsOf l p) (hl : l.length ≤ 1) : p.length ≤ 1 := by
  rcases Nat.lt_or_ge 1 p.length with h1 | h1
  · exfalso
    have hx := List.getElem_mem (l := p) (n := 0) (by omega)
    have hy := List.getElem_mem (l := p) (n := 1) h1
    obtain ⟨hxn, hxe⟩ := h.bun.nf _ hx
    obtain ⟨hyn, hye⟩ := h.bun.nf _ hy
    have mx := lo_mem hxn hxe
    have my := lo_mem hyn hye
    have ax := (h.bun.dom _).2 ⟨_, hx, mx⟩
    have ay := (h.bun.dom _).2 ⟨_, hy, my⟩
    obtain ⟨s, hs, ts⟩ := ax
    obtain ⟨t, ht, tt⟩ := ay
    have e : s = t := by
      match l, hl, hs, ht with
      | [a], _, hs, ht => rw [List.mem_singleton.1 hs, List.mem_singleton.1 ht]
    subst e
    have hal : Al l (lo p[0]) (lo p[1]) := fun u hu => by
      have : u = s := by
        match l, hl, hs, hu with
        | [a], _, hs, hu => rw [List.mem_singleton.1 hs, List.mem_singleton.1 hu]
      subst this
      exact ⟨fun _ => tt, fun _ => ts⟩
    have hm := h.bun.cls _ hx _ _ mx ⟨s, hs, tt⟩ hal
    exact List.pairwise_iff_getElem.1 h.bun.dis 0 1 (by omega) h1 (by omega) _ hm my
  · exact h1
end TermsM
namespace Go.Proofs.YtkphbjppmiefkaaDoor
open Go.RowKit Go.Shelf Go.Maps SetM TermsM
theorem own_form {W : World} {base t sz n : Nat} {v : Value} {xs : List Value} (h : W.ownsRow base t sz v n xs) : ∃ P c, v = .slice P n c := by
  rcases h.2 with ⟨h1, h2⟩ | ⟨g, cap, _, h1, _⟩
  · exact ⟨none, 0, by rw [h1, h2]⟩
  · exact ⟨_, _, h1⟩
/-- The values of a row of rows. -/
theorem rs_vals {W : World} {P : Option Addr} {ls : List (List Sp)} (h : Rs W P ls) : ∃ vals : List Value, vals.length = ls.length ∧ (∀ j (hj : j < ls.length), ∃ Q c, vals[j]? = some (.slice Q ls[j].length c) ∧ Spans W.heap.size W Q ls[j] ∧ (Q = none → c = 0)) ∧ (∀ ad, P = some ad → ∀ j u, vals[j]? = some u → W.cell? (ad.add j) = some u) ∧ (∀ u ∈ vals, u.oneCell' = true) := by
  by_cases hne : ls = []
  · subst hne
    exact ⟨[], rfl, fun j hj => absurd hj (Nat.not_lt_zero _), fun ad _ j u hu => by simp at hu, fun u hu => by cases hu⟩
  · obtain ⟨b, off, rfl, hb, hr⟩ := h hne
    have hch : ∀ j : Nat, ∃ qc : Option Addr × Nat, ∀ hj : j < ls.length, W.cell? ⟨b, off + j, none⟩ = some (.slice qc.1 ls[j].length qc.2) ∧ Spans W.heap.size W qc.1 ls[j] ∧ (qc.1 = none → qc.2 = 0) := fun j => by
      by_cases hj : j < ls.length
      · obtain ⟨Q, c, h1, h2, h3⟩ := hr j hj
        exact ⟨(Q, c), fun _ => ⟨h1, h2, h3⟩⟩
      · exact ⟨(none, 0), fun h => absurd h hj⟩
    obtain ⟨f, hf⟩ := Classical.axiomOfChoice hch
    refine ⟨(List.range ls.length).map (fun j => .slice (f j).1 (ls.getD j []).length (f j).2), by simp, fun j hj => ?_, fun ad e j u hu => ?_, fun u hu => ?_⟩
    · obtain ⟨h1, h2, h3⟩ := hf j hj
      exact ⟨(f j).1, (f j).2, by simp [hj], h2, h3⟩
    · cases e
      have hj : j < ls.length := by
        rcases Nat.lt_or_ge j ls.length with h | h
        · exact h
        · rw [List.getElem?_eq_none (by simpa using h)] at hu; cases hu
      have e1 : (⟨b, off, none⟩ : Addr).add j = ⟨b, off + j, none⟩ := by unfold Addr.add; split <;> simp_all
      rw [e1, (hf j hj).1]
      rw [List.getElem?_map, List.getElem?_range hj] at hu
      simp [hj] at hu
      rw [← hu]
    · obtain ⟨j, _, rfl⟩ := List.mem_map.1 hu
      rfl
/-- Rows appended to rows of the call's own. -/
theorem wpList_append_rows {w : World} {ops : Array Oper} {rest : List Oper} {o : Oper} {a : Act} {Q : Exit → Act → World → Prop} (hgd : o.guard = none) (s x : Operand)
    (ho : o.op = .call { callee := .builtin .append, args := #[s, x], argTypes := #[24, 24] }) (base : Nat)
    (v : Value) (k : List Value) (hs : a.eval s = v) (hown : w.ownsRow base 28 1 v k.length k)
    (P : Option Addr) (n c : Nat) (vals : List Value) (hn : n = vals.length) (hx : a.eval x = .slice P n c) (hP : P = none → c = 0) (hne : P = none → vals = []) (hc : ∀ ad, P = some ad → ∀ j u, vals[j]? = some u → w.cell? (ad.add j) = some u) (h1 : ∀ u ∈ vals, u.oneCell' = true)
    (h63 : k.length + vals.length ≤ 100000) (hbase : base ≤ w.heap.size)
    (h : ∀ v' w', w'.ownsRow base 28 1 v' (k ++ vals).length (k ++ vals) → w.grownBy w' v.ownBlock → wpList Tryd.prog ops Q rest (a.put o.dst v') w') : wpList Tryd.prog ops Q (o :: rest) a w := by
  subst hn
  obtain ⟨iB, hiB, hzB0, hzB1, hzB2⟩ := info_parts infoSl
  cases P with
  | none =>
    have hl := hne rfl
    subst hl
    rw [hP rfl] at hx
    refine wpList_append_own_none hgd s x 24 ho base 28 iB 1 Tryd.underlying24 hiB v k.length k hs hown hx ?_
    exact h v w (by rw [List.append_nil]; exact hown) (grown_refl' _ _)
  | some ad =>
    refine wpList_append_own _ hgd s x 24 ho base 28 iB (.slice none 0 0) 1 24 Tryd.underlying24 hiB hzB0 hzB1 hzB2 rfl (by decide) v k.length k hs hown ad vals.length c vals hx (by simp) (hc ad rfl) h1 (by unfold maxLen; omega) (by omega) hbase ?_
    intro v' w' h2 h3 _
    exact h v' w' (by rw [List.length_append]; exact h2) h3
set_option maxRecDepth 100000 in
set_option maxHeartbeats 8000000 in
theorem termsOne_any {W : World} {A : Option Addr} {n ca : Nat} {cs : List Int} (h0 : 0 < W.heap.size) (hA : Areas W) (hn : n = cs.length) (hU : U16s W.heap.size W A cs) : Calls Tryd.prog 3 #[.slice A n ca] W fun e W' => e = .returned (.bool true) ∧ Below W.heap.size W W' := by
  have HK : Hid (∀ V, Below W.heap.size W V → Calls Tryd.prog 9 #[] V fun e W' => e = .returned (.bool true) ∧ Below V.heap.size V W') := Lib.hid (fun V hV => known10 (by have := hV.size; omega) (hA.below hV h0))
  have HN := Lib.hid hn
  have HU := Lib.hid hU
  have HA := Lib.hid hA
  have H0 := Lib.hid h0
  clear hn hU hA h0
  by_cases h40 : 40 < n
  · have hz : (40 : Int) < (n : Int) := by omega
    go_enter Tryd.func3, Tryd.ntmps3
    go_wp2_with fail
    refine (HK.out _ (Below.refl _ _)).mono ?_
    rintro e w1 ⟨rfl, b1⟩
    go_wp2_with fail
    go_ret
    exact ⟨rfl, b1⟩
  · have hz : ¬ (40 : Int) < (n : Int) := by omega
    go_enter Tryd.func3, Tryd.ntmps3
    go_wp2_with fail
    refine (HK.out _ (Below.refl _ _)).mono ?_
    rintro e w1 ⟨rfl, b1⟩
    have HB1 := Lib.hid b1
    clear b1
    obtain ⟨U, hUd⟩ : ∃ U, U = w1.alloc (.cells #[.slice A n ca] 22) := ⟨_, rfl⟩
    have bU : Below w1.heap.size w1 U := by rw [hUd]; exact (Below.refl _ _).alloc (Nat.le_refl _) _
    have xU : U.heap[w1.heap.size]? = some (.cells #[.slice A n ca] 22 (0, 0)) := by rw [hUd]; exact heap_alloc_new w1 _
    have zU : w1.heap.size < U.heap.size := by rw [hUd, World.size_alloc]; omega
    have HBU := Lib.hid (HB1.out.trans (bU.mono HB1.out.size))
    have HLI := Lib.hid (list_c (W := U) (A := some ⟨w1.heap.size, 0, none⟩) (n := 1) (ca := 1) (cs := [cs]) rfl (by omega) (fun j hj => by
      have hj' : j < 1 := hj
      obtain rfl : j = 0 := by omega
      exact ⟨_, 0, A, ca, rfl, zU, by rw [Nat.zero_add, cell_of_row U _ 0 _ _ _ xU]; rw [HN.out]; rfl, (HU.out.below HBU.out).mono HBU.out.size⟩))
    clear bU xU zU
    go_wp2_with fail
    rw [← hUd]
    clear hUd
    refine HLI.out.mono ?_
    rintro e w2 ⟨P2, c2, rfl, hR2, hP2, hc2, b2⟩
    obtain ⟨l, hl⟩ : ∃ l, l = listF [cs] 8 := ⟨_, rfl⟩
    rw [← hl] at hR2 hc2 ⊢
    have hl1 : l.length ≤ 1 := by rw [hl]; unfold listF; rw [List.length_map]; exact Nat.le_trans (List.length_filter_le _ _) (by simp)
    have hlf : l.flatten.length ≤ 30 := by
      match l, hl, hl1 with
      | [], _, _ => simp
      | [a], hl, _ =>
        have ha : a ∈ listF [cs] 8 := by rw [← hl]; simp
        obtain ⟨x, _, rfl⟩ := List.mem_map.1 ha
        simpa using makeF_len x
    obtain ⟨nl, hnl⟩ : ∃ nl, nl = l.length := ⟨_, rfl⟩
    rw [← hnl]
    have HL := Lib.hid (And.intro hnl (And.intro hl1 hlf))
    have HB2 := Lib.hid (HBU.out.trans (b2.mono HBU.out.size))
    have HOF := Lib.hid (of_c (W := w2) (ca := c2) (by have := HB2.out.size; have := H0.out; omega) (HA.out.below HB2.out H0.out) hnl hR2 (by omega) (by omega))
    have HR2 := Lib.hid (And.intro hR2 hP2)
    clear hl hR2 hP2 hc2 b2 hl1 hlf hnl HLI
    go_wp2_with fail
    refine HOF.out.mono ?_
    rintro e w3 ⟨P3, c3, p, rfl, hR3, hpp, hf3, hn3, hP3, hc3, b3⟩
    obtain ⟨np, hnp⟩ : ∃ np, np = p.length := ⟨_, rfl⟩
    rw [← hnp]
    have HNP := Lib.hid (And.intro hnp (And.intro hpp (parts_one hpp HL.out.2.1)))
    have HR3 := Lib.hid hR3
    have HB3 := Lib.hid (HB2.out.trans (b3.mono HB2.out.size))
    have hRl := HR2.out.1.step b3
    obtain ⟨vals, hv1, hv2, hv3, hv4⟩ := rs_vals hRl
    have HV := Lib.hid (And.intro hv1 hv2)
    have hPn : P2 = none → vals = [] := fun e => by
      by_cases hne : l = []
      · exact List.eq_nil_of_length_eq_zero (by rw [hv1, hne]; rfl)
      · obtain ⟨b, off, e2, _⟩ := hRl hne
        rw [e] at e2; cases e2
    have hnv : nl = vals.length := by rw [hv1]; exact HL.out.1
    have hnl8 : vals.length ≤ 1 := by rw [hv1]; exact HL.out.2.1
    have hlt2 : ∀ ad, P2 = some ad → vals ≠ [] → ad.block < w3.heap.size := fun ad e hne => by
      obtain ⟨b, off, e2, hb, _⟩ := hRl (fun h => hne (List.eq_nil_of_length_eq_zero (by rw [hv1, h]; rfl)))
      rw [e] at e2; cases e2; exact hb
    have HLT := Lib.hid hlt2
    have HV3 := Lib.hid hv3
    have HNV := Lib.hid hnv
    clear hnv
    clear hnp hR3 hpp hf3 hn3 hP3 hc3 b3 hRl hv1 hv2 hlt2 HOF
    go_upto_region 7 with (at_builtin; refine wpList_append_rows rfl _ _ rfl w3.heap.size (.slice none 0 0) [] rfl (World.ownsRow_nil _ _ _ _) P2 nl c2 vals HNV.out rfl HR2.out.2 hPn hv3 hv4 (by simp; omega) (Nat.le_refl _) ?_; intro v1 w4 ho1 hg1; rw [List.nil_append] at ho1)
    have hv5 : ∀ ad, P2 = some ad → ∀ j u, vals[j]? = some u → w4.cell? (ad.add j) = some u := fun ad e j u hu => by
      have hne : vals ≠ [] := fun h => by rw [h] at hu; simp at hu
      have hb := HLT.out ad e hne
      have hab : (ad.add j).block = ad.block := by unfold Addr.add; split <;> rfl
      exact (World.cell?_of_block (hg1.block _ (by rw [hab]; exact hb) (by simp [Value.ownBlock]))).trans (HV3.out ad e j u hu)
    have hg1s := hg1.size
    go_upto_region 8 with (at_builtin; refine wpList_append_rows rfl _ _ rfl w3.heap.size v1 vals rfl ho1 P2 nl c2 vals HNV.out rfl HR2.out.2 hPn hv5 hv4 (by omega) hg1s ?_; intro v2 w5 ho2 hg2)
    have hb35 : Below w3.heap.size w3 w5 := by
      have h1 : Below w3.heap.size w3 w4 := (Below.refl _ _).grown hg1 (Nat.le_refl _) (fun k e => by simp [Value.ownBlock] at e)
      exact h1.grown hg2 hg1s (fun k e => (World.ownsRow.lt ho1 k e).1)
    obtain ⟨Pt, ct, hvt⟩ := own_form ho2
    have hvl : (vals ++ vals).length = nl + nl := by rw [List.length_append, ← HNV.out]
    rw [hvl] at ho2 hvt
    have hll : (l ++ l).length = nl + nl := by rw [List.length_append, ← HL.out.1]
    have hRt : Rs w5 Pt (l ++ l) := fun hne => by
      have hn0 : 0 < nl + nl := by rw [← hll]; exact List.length_pos_iff.2 hne
      rcases ho2.2 with ⟨k1, k2⟩ | ⟨g, cap, cur, k1, k2, k3, _⟩
      · omega
      · rw [hvt] at k1
        simp only [Value.slice.injEq, true_and] at k1
        refine ⟨g, 0, k1.1, (Array.getElem?_eq_some_iff.1 k3).1, fun j hj => ?_⟩
        rw [hll] at hj
        rw [hvt, k1.1] at ho2
        have hc := World.ownsRow.cellAt ho2 j (by omega)
        have hjm : (vals ++ vals)[j]? = vals[j % nl]? ∧ (l ++ l)[j]'(by rw [hll]; exact hj) = l[j % nl]'(by rw [← HL.out.1]; exact Nat.mod_lt _ (by omega)) := by
          have hvn : vals.length = nl := HNV.out.symm
          have hln : l.length = nl := HL.out.1.symm
          rcases Nat.lt_or_ge j nl with h | h
          · have hm : j % nl = j := Nat.mod_eq_of_lt h
            refine ⟨by rw [List.getElem?_append_left (by omega), hm], ?_⟩
            rw [List.getElem_append_left (by omega)]
            simp only [hm]
          · have hm : j % nl = j - nl := by rw [Nat.mod_eq_sub_mod h, Nat.mod_eq_of_lt (by omega)]
            refine ⟨by rw [List.getElem?_append_right (by omega), hm, hvn], ?_⟩
            rw [List.getElem_append_right (by omega)]
            simp only [hm, hln]
        obtain ⟨Q, cq, q1, q2, q3⟩ := HV.out.2 (j % nl) (by rw [← HL.out.1]; exact Nat.mod_lt _ (by omega))
        refine ⟨Q, cq, ?_, ?_, q3⟩
        · rw [Nat.zero_add, hc, hjm.1, q1, hjm.2]
        · rw [hjm.2]; exact (q2.below hb35).mono hb35.size
    subst hvt
    have HB5 := Lib.hid (HB3.out.trans (hb35.mono HB3.out.size))
    have HR3' := Lib.hid (HR3.out.step hb35)
    have HOF2 := Lib.hid (of_c (W := w5) (ca := ct) (n := nl + nl) (by have := HB5.out.size; have := H0.out; omega) (HA.out.below HB5.out H0.out) hll.symm hRt (by have := HL.out; omega) (by rw [List.flatten_append, List.length_append]; have := HL.out; omega))
    clear hv3 hv4 hv5 hPn hnl8 ho1 hg1 hg1s ho2 hg2 hb35 hvl hll hRt
    go_wp2_with fail
    refine HOF2.out.mono ?_
    rintro e w6 ⟨P6, c6, q, rfl, hR6, hq, hf6, hn6, hP6, hc6, b6⟩
    obtain rfl := (parts_two hq).unique HNP.out.2.1
    have hnp := HNP.out.1
    have hnp1 := HNP.out.2.2
    rw [← hnp] at hnp1 ⊢
    have HB6 := Lib.hid (HB5.out.trans (b6.mono HB5.out.size))
    by_cases hz0 : np = 0
    · subst hz0
      clear hR6 hq hf6 hn6 hP6 hc6 b6 hnp1 hnp
      go_wp2_with fail
      go_region
      all_goals
        go_wp2_with fail
        go_ret
        exact ⟨rfl, HB6.out.drew⟩
    · obtain rfl : np = 1 := by omega
      have hR3 := HR3'.out.step b6
      have hpne : q ≠ [] := fun e => by rw [e] at hnp; simp at hnp
      obtain ⟨d3, o3, rfl, hd3, hrow3⟩ := hR3 hpne
      obtain ⟨d6, o6, rfl, hd6, hrow6⟩ := hR6 hpne
      obtain ⟨Q3, k3, q3, -, -⟩ := hrow3 0 (by omega)
      obtain ⟨Q6, k6, q6, -, -⟩ := hrow6 0 (by omega)
      obtain ⟨m, hm⟩ : ∃ m, m = q[0].length := ⟨_, rfl⟩
      rw [← hm] at q3 q6
      have q3 : w6.drew.cell? ⟨d3, o3, none⟩ = some (.slice Q3 m k3) := q3
      have q6 : w6.drew.cell? ⟨d6, o6, none⟩ = some (.slice Q6 m k6) := q6
      clear hrow3 hrow6 hR3 hR6 hm hq hf6 hn6 hP6 hc6 b6 hpne hnp1 hnp
      go_wp2_with fail
      go_region
      all_goals
        go_wp2_with fail
        go_ret
        exact ⟨by simp, HB6.out.drew⟩
end Go.Proofs.YtkphbjppmiefkaaDoor
end
section
/- Rows of rows of spans: a row of the call's own, what it holds below. -/
namespace Go.Proofs.YtkphbjppmiefkaaDoor
open Go.RowKit Go.Shelf Go.Maps SetM TermsM
/-- A row of the call's own that holds rows of spans which lie below. -/
def RO (base : Nat) (W : World) (v : Value) (ls : List (List Sp)) : Prop :=
  ∃ xs : List Value, W.ownsRow base 28 1 v ls.length xs ∧ xs.length = ls.length ∧ ∀ j (h : j < ls.length), ∃ Q c, xs[j]? = some (.slice Q ls[j].length c) ∧ Spans base W Q ls[j] ∧ (Q = none → c = 0)
theorem RO.nil (base : Nat) (W : World) : RO base W (.slice none 0 0) [] := ⟨[], World.ownsRow_nil _ _ _ _, rfl, fun j h => absurd h (Nat.not_lt_zero _)⟩
theorem RO.below {base : Nat} {W W' : World} {v : Value} {ls : List (List Sp)} (h : RO base W v ls) (hb : Below W.heap.size W W') (hl : base ≤ W.heap.size) : RO base W' v ls := by
  obtain ⟨xs, h1, h2, h3⟩ := h
  exact ⟨xs, own_below h1 hb, h2, fun j hj => let ⟨Q, c, q1, q2, q3⟩ := h3 j hj; ⟨Q, c, q1, q2.below (hb.mono hl), q3⟩⟩
theorem RO.own {base : Nat} {W : World} {v : Value} {ls : List (List Sp)} (h : RO base W v ls) {k : Nat} (hk : v.ownBlock = some k) : base ≤ k := let ⟨_, h1, _⟩ := h; (World.ownsRow.lt h1 k hk).1
/-- Rows more. -/
theorem RO.app {base : Nat} {W W' : World} {v v' : Value} {ls ms : List (List Sp)} {xs ys : List Value} (h : RO base W v ls) (hx : W.ownsRow base 28 1 v ls.length xs) (hl : xs.length = ls.length) (hr : ∀ j (h : j < ls.length), ∃ Q c, xs[j]? = some (.slice Q ls[j].length c) ∧ Spans base W Q ls[j] ∧ (Q = none → c = 0))
    (hy : ys.length = ms.length) (hyr : ∀ j (h : j < ms.length), ∃ Q c, ys[j]? = some (.slice Q ms[j].length c) ∧ Spans base W Q ms[j] ∧ (Q = none → c = 0)) (ho : W'.ownsRow base 28 1 v' (ls ++ ms).length (xs ++ ys)) (hg : W.grownBy W' v.ownBlock) (hb : base ≤ W.heap.size) : RO base W' v' (ls ++ ms) := by
  have hB : Below base W W' := (Below.refl base W).grown hg hb (fun k e => h.own e)
  refine ⟨xs ++ ys, ho, by rw [List.length_append, List.length_append, hl, hy], fun j hj => ?_⟩
  rcases Nat.lt_or_ge j ls.length with h1 | h1
  · obtain ⟨Q, c, q1, q2, q3⟩ := hr j h1
    refine ⟨Q, c, by rw [List.getElem?_append_left (by omega), List.getElem_append_left h1]; exact q1, by rw [List.getElem_append_left h1]; exact q2.below hB, q3⟩
  · have hjm : j - ls.length < ms.length := by rw [List.length_append] at hj; omega
    obtain ⟨Q, c, q1, q2, q3⟩ := hyr (j - ls.length) hjm
    refine ⟨Q, c, by rw [List.getElem?_append_right (by omega), List.getElem_append_right h1, hl]; exact q1, by rw [List.getElem_append_right h1]; exact q2.below hB, q3⟩
theorem RO.rs {base : Nat} {W : World} {v : Value} {ls : List (List Sp)} (h : RO base W v ls) (hb : base ≤ W.heap.size) : ∃ P c, v = .slice P ls.length c ∧ Rs W P ls ∧ (P = none → c = 0) := by
  obtain ⟨xs, h1, h2, h3⟩ := h
  rcases h1.2 with ⟨k1, k2⟩ | ⟨g, cap, cur, k1, k2, k3, _⟩
  · refine ⟨none, 0, by rw [k1, k2], fun hne => absurd (List.eq_nil_of_length_eq_zero k2) hne, fun _ => rfl⟩
  · refine ⟨_, cap, k1, fun _ => ⟨g, 0, rfl, (Array.getElem?_eq_some_iff.1 k3).1, fun j hj => ?_⟩, fun e => by cases e⟩
    obtain ⟨Q, c, q1, q2, q3⟩ := h3 j hj
    rw [k1] at h1
    have hc := World.ownsRow.cellAt h1 j (by omega)
    exact ⟨Q, c, by rw [Nat.zero_add, hc, q1], q2.mono hb, q3⟩
/-- One row more, at the operation. -/
theorem wpList_ro1 {w : World} {ops : Array Oper} {rest : List Oper} {o : Oper} {a : Act} {Q : Exit → Act → World → Prop} (hgd : o.guard = none) (s x : Operand)
    (ho : o.op = .call { callee := .builtin .append, args := #[s, x], argTypes := #[24, 24] }) (base : Nat)
    (v : Value) (ls : List (List Sp)) (hs : a.eval s = v) (hown : RO base w v ls) (g0 : Nat) (hx : a.eval x = .slice (some ⟨g0, 0, none⟩) 1 1) (P : Option Addr) (n c : Nat) (m : List Sp) (hn : n = m.length) (hb : w.heap[g0]? = some (.cells #[.slice P n c] 28 (0, 0))) (hP : P = none → c = 0) (hm : Spans base w P m)
    (h63 : ls.length ≤ 50000) (hbase : base ≤ w.heap.size)
    (h : ∀ v' w', RO base w' v' (ls ++ [m]) → w.grownBy w' v.ownBlock → wpList Tryd.prog ops Q rest (a.put o.dst v') w') : wpList Tryd.prog ops Q (o :: rest) a w := by
  obtain ⟨iB, hiB, hzB0, hzB1, hzB2⟩ := info_parts infoSl
  obtain ⟨xs, h1, h2, h3⟩ := id hown
  refine wpList_append_own _ hgd s x 24 ho base 28 iB (.slice none 0 0) 1 24 Tryd.underlying24 hiB hzB0 hzB1 hzB2 rfl (by decide) v ls.length xs hs h1 ⟨g0, 0, none⟩ 1 1 [.slice P n c] hx rfl (fun j y hy => World.news_of_block hb j y (by simpa using hy)) (by simp [Value.oneCell']) (by unfold maxLen; omega) (by omega) hbase ?_
  intro v' w' k1 k2 _
  refine h v' w' ?_ k2
  refine RO.app hown h1 h2 h3 (ms := [m]) (ys := [.slice P n c]) rfl (fun j hj => ?_) (by rw [List.length_append]; exact k1) k2 hbase
  have hj' : j < 1 := hj
  obtain rfl : j = 0 := by omega
  exact ⟨P, c, by rw [hn]; rfl, hm, hP⟩
/-- A slice of rows more, at the operation. -/
theorem wpList_ron {w : World} {ops : Array Oper} {rest : List Oper} {o : Oper} {a : Act} {Q : Exit → Act → World → Prop} (hgd : o.guard = none) (s x : Operand)
    (ho : o.op = .call { callee := .builtin .append, args := #[s, x], argTypes := #[24, 24] }) (base : Nat)
    (v : Value) (ls : List (List Sp)) (hs : a.eval s = v) (hown : RO base w v ls) (P : Option Addr) (n c : Nat) (ms : List (List Sp)) (hn : n = ms.length) (hx : a.eval x = .slice P n c) (hP : P = none → c = 0) (hR : Rs w P ms)
    (hin : ∀ j (h : j < ms.length) Q c, (∃ b off, P = some ⟨b, off, none⟩ ∧ w.cell? ⟨b, off + j, none⟩ = some (.slice Q ms[j].length c)) → Spans base w Q ms[j])
    (h63 : ls.length + ms.length ≤ 50000) (hbase : base ≤ w.heap.size)
    (h : ∀ v' w', RO base w' v' (ls ++ ms) → w.grownBy w' v.ownBlock → wpList Tryd.prog ops Q rest (a.put o.dst v') w') : wpList Tryd.prog ops Q (o :: rest) a w := by
  obtain ⟨vals, hv1, hv2, hv3, hv4⟩ := rs_vals hR
  obtain ⟨xs, h1, h2, h3⟩ := id hown
  have hPn : P = none → vals = [] := fun e => by
    by_cases hne : ms = []
    · exact List.eq_nil_of_length_eq_zero (by rw [hv1, hne]; rfl)
    · obtain ⟨b, off, e2, _⟩ := hR hne
      rw [e] at e2; cases e2
  have h1' : w.ownsRow base 28 1 v xs.length xs := by rw [h2]; exact h1
  refine wpList_append_rows hgd s x ho base v xs hs h1' P n c vals (by rw [hn, hv1]) hx hP hPn hv3 hv4 (by omega) hbase ?_
  intro v' w' k1 k2
  refine h v' w' ?_ k2
  refine RO.app hown h1 h2 h3 (ys := vals) hv1 (fun j hj => ?_) (by rw [List.length_append, ← h2, ← hv1, ← List.length_append]; exact k1) k2 hbase
  obtain ⟨Q', c', q1, q2, q3⟩ := hv2 j hj
  refine ⟨Q', c', q1, ?_, q3⟩
  obtain ⟨b, off, e, _⟩ := hR (fun e => by rw [e] at hj; simp at hj)
  have hc := hv3 _ e j _ q1
  rw [show (⟨b, off, none⟩ : Addr).add j = ⟨b, off + j, none⟩ by unfold Addr.add; split <;> simp_all] at hc
  exact hin j hj Q' c' ⟨b, off, e, hc⟩
end Go.Proofs.YtkphbjppmiefkaaDoor
end
section
/- The document's some: a part more, if it has something. -/
namespace Go.Proofs.YtkphbjppmiefkaaDoor
open Go.RowKit Go.Shelf Go.Maps SetM TermsM
/-- The row that stands in a cell of rows. -/
theorem Rs.at {W : World} {A : Option Addr} {ls : List (List Sp)} (hR : Rs W A ls) : ∀ j (h : j < ls.length) Q c, (∃ b off, A = some ⟨b, off, none⟩ ∧ W.cell? ⟨b, off + j, none⟩ = some (.slice Q ls[j].length c)) → Spans W.heap.size W Q ls[j] := fun j h Q c ⟨b, off, e, hc⟩ => by
  obtain ⟨b', off', e', _, hrow⟩ := hR (by intro h2; rw [h2] at h; simp at h)
  obtain ⟨P, c', h1, h2, _⟩ := hrow j h
  rw [e] at e'
  cases e'
  rw [hc] at h1
  cases h1
  exact h2
set_option maxRecDepth 100000 in
set_option maxHeartbeats 4000000 in
theorem rsome_c {W : World} {A Q : Option Addr} {n ca k cq : Nat} {ls : List (List Sp)} {x : List Sp} (hn : n = ls.length) (h8 : n ≤ 20000) (hR : Rs W A ls) (hA : A = none → ca = 0) (hk : k = x.length) (hS : Sl0 W Q x) (hQ : Q = none → cq = 0) :
    Calls Tryd.prog 30 #[.slice A n ca, .slice Q k cq] W fun e W' => ∃ P c, e = .returned (.slice P (someL ls x).length c) ∧ Rs W' P (someL ls x) ∧ (P = none → c = 0) ∧ Below W.heap.size W W' := by
  have HN := Lib.hid hn
  have HR := Lib.hid hR
  have HA := Lib.hid hA
  have HK := Lib.hid hk
  have HS := Lib.hid hS
  have HQ := Lib.hid hQ
  clear hn hR hA hk hS hQ
  by_cases h0 : k = 0
  · subst h0
    have hx : x = [] := List.eq_nil_of_length_eq_zero HK.out.symm
    have HX : Hid (someL ls x = ls) := Lib.hid (by unfold someL; rw [if_pos hx])
    go_enter Tryd.func30, Tryd.ntmps30
    go_wp2_with fail
    go_ret
    exact ⟨A, ca, by rw [HX.out, ← HN.out]; rfl, by rw [HX.out]; exact HR.out, HA.out, Below.refl _ _⟩
  · have hz : ¬ (k : Int) = 0 := by omega
    have HX : Hid (someL ls x = ls ++ [x]) := Lib.hid (by unfold someL; rw [if_neg (by intro h; rw [h] at HK; exact h0 HK.out)])
    go_enter Tryd.func30, Tryd.ntmps30
    go_upto_region 5 with (at_builtin; refine wpList_ron rfl _ _ rfl W.heap.size (.slice none 0 0) [] rfl (RO.nil _ _) A n ca ls HN.out rfl HA.out HR.out HR.out.at (by simp; have := HN.out; omega) (Nat.le_refl _) ?_; intro v1 w1 ho1 hg1; rw [List.nil_append] at ho1)
    have hb1 : Below W.heap.size W w1 := (Below.refl _ _).grown hg1 (Nat.le_refl _) (fun k e => by simp [Value.ownBlock] at e)
    have hz1 := hb1.size
    have hb2 : Below W.heap.size W (w1.alloc (.cells #[.slice Q k cq] 28)) := hb1.alloc hz1 _
    have hb12 : Below w1.heap.size w1 (w1.alloc (.cells #[.slice Q k cq] 28)) := (Below.refl _ _).alloc (Nat.le_refl _) _
    go_upto_region 6 with (at_builtin; refine wpList_ro1 rfl _ _ rfl W.heap.size v1 ls rfl (ho1.below hb12 hz1) w1.heap.size rfl Q k cq x HK.out (heap_alloc_new w1 _) HQ.out (Spans.below hb2 HS.out) (by have := HN.out; omega) (by rw [World.size_alloc]; omega) ?_; intro v2 w2 ho2 hg2)
    have HB3 : Hid (Below W.heap.size W w2) := Lib.hid (hb2.grown hg2 (by rw [World.size_alloc]; omega) (fun k e => ho1.own e))
    obtain ⟨P, c, rfl, hr, hp⟩ := ho2.rs HB3.out.size
    have HF := Lib.hid (And.intro hr hp)
    clear hb1 hb2 hb12 hz1 ho1 hg1 ho2 hg2 hr hp
    go_wp2_with fail
    go_ret
    exact ⟨P, c, by rw [HX.out]; rfl, by rw [HX.out]; exact HF.out.1, HF.out.2, HB3.out⟩
end Go.Proofs.YtkphbjppmiefkaaDoor
end
