/- The program's endsOf: the numbers at which sets begin or have ended, rising, and the place of each. -/
import Derived.Test.YtkphbjppmiefkaaDoorTSort
import Derived.Test.YtkphbjppmiefkaaDoorTG
namespace TermsM
open SetM
/-- The ends of spans, as they come. -/
def eL (l : List Sp) : List Int := l.flatMap (fun u => [u.1, u.2 + 1])
theorem eL_snoc (l : List Sp) (u : Sp) : eL (l ++ [u]) = eL l ++ [u.1, u.2 + 1] := by unfold eL; simp
theorem mem_eL {l : List Sp} {x : Int} : x ∈ eL l ↔ Tog l x := by
  unfold eL Tog
  rw [List.mem_flatMap]
  constructor
  · rintro ⟨u, hu, h⟩; exact ⟨u, hu, by simpa using h⟩
  · rintro ⟨u, hu, h⟩; exact ⟨u, hu, by simpa using h⟩
theorem eL_len : ∀ l : List Sp, (eL l).length = 2 * l.length
  | [] => rfl
  | u :: t => by
    have := eL_len t
    unfold eL at this ⊢
    rw [List.flatMap_cons, List.length_append, this]; simp; omega
theorem nodup_len : ∀ (l m : List Int), l.Nodup → (∀ x ∈ l, x ∈ m) → l.length ≤ m.length
  | [], _, _, _ => Nat.zero_le _
  | a :: t, m, hn, hs => by
    have h1 := List.nodup_cons.1 hn
    have ha := hs a (by simp)
    have h2 := nodup_len t (m.erase a) h1.2 (fun x hx => (List.mem_erase_of_ne (fun e => h1.1 (by rw [← e]; exact hx))).2 (hs x (by simp [hx])))
    rw [List.length_erase_of_mem ha] at h2
    have := List.length_pos_of_mem ha
    simp; omega
theorem flat_take {ls : List (List Sp)} {k : Nat} (h : k < ls.length) : (ls.take (k + 1)).flatten = (ls.take k).flatten ++ ls[k] := by
  rw [List.take_succ_eq_append_getElem h, List.flatten_append]; simp
theorem flat_le (ls : List (List Sp)) (k : Nat) : (ls.take k).flatten.length ≤ ls.flatten.length := by
  have e : ls.flatten = (ls.take k).flatten ++ (ls.drop k).flatten := by rw [← List.flatten_append, List.take_append_drop]
  rw [e, List.length_append]; omega
theorem tog_flat {ls : List (List Sp)} {x : Int} : Tog ls.flatten x ↔ ∃ s ∈ ls, Tog s x := by
  constructor
  · rintro ⟨u, hu, h⟩
    obtain ⟨s, hs, hu⟩ := List.mem_flatten.1 hu
    exact ⟨s, hs, u, hu, h⟩
  · rintro ⟨s, hs, u, hu, h⟩
    exact ⟨u, List.mem_flatten.2 ⟨s, hs, hu⟩, h⟩
/-- Seen so far: each at place 0. -/
def seenF (L : List Int) : Int → Option Int := fun x => if x ∈ L then some 0 else none
theorem seenF_snoc (L : List Int) (k : Int) : (fun x => if x = k then some 0 else seenF L x) = seenF (L ++ [k]) := by
  funext x
  unfold seenF
  by_cases h : x = k
  · simp [h]
  · simp [h]
/-- Places that are told so far. -/
def plF (e : List Int) (i : Nat) : Int → Option Int := fun x => if x ∈ e then some (if e.idxOf x < i then (e.idxOf x : Int) else 0) else none
theorem plF_zero {L e : List Int} (h : ∀ x, x ∈ e ↔ x ∈ L) : seenF L = plF e 0 := by
  funext x
  unfold seenF plF
  by_cases hx : x ∈ e
  · rw [if_pos hx, if_pos ((h x).1 hx)]; rfl
  · rw [if_neg hx, if_neg (fun k => hx ((h x).2 k))]
theorem plF_step {e : List Int} (h : e.Pairwise (· < ·)) {i : Nat} (hi : i < e.length) : (fun x => if x = e[i] then some (i : Int) else plF e i x) = plF e (i + 1) := by
  have hnd : e.Nodup := h.imp (fun h => by omega)
  funext x
  unfold plF
  by_cases hx : x = e[i]
  · subst hx
    rw [if_pos rfl, if_pos (List.getElem_mem hi), hnd.idxOf_getElem i hi, if_pos (by omega)]
  · rw [if_neg hx]
    by_cases hm : x ∈ e
    · rw [if_pos hm, if_pos hm]
      have : e.idxOf x ≠ i := fun h1 => by
        have h2 := List.getElem_idxOf (List.idxOf_lt_length_iff.2 hm)
        exact hx (by rw [← h2]; simp only [h1])
      by_cases h3 : e.idxOf x < i
      · rw [if_pos h3, if_pos (by omega)]
      · rw [if_neg h3, if_neg (by omega)]
    · rw [if_neg hm, if_neg hm]
/-- All places. -/
def place (e : List Int) : Int → Option Int := fun x => if x ∈ e then some (e.idxOf x : Int) else none
theorem plF_all (e : List Int) : plF e e.length = place e := by
  funext x
  unfold plF place
  by_cases hm : x ∈ e
  · rw [if_pos hm, if_pos hm, if_pos (List.idxOf_lt_length_iff.2 hm)]
  · rw [if_neg hm, if_neg hm]
/-- Rows of spans, each within the numbers that scalars are. -/
def Small (ls : List (List Sp)) : Prop := ∀ s ∈ ls, ∀ u ∈ s, 0 ≤ u.1 ∧ u.1 ≤ 1114111 ∧ 0 ≤ u.2 ∧ u.2 ≤ 1114111
end TermsM
namespace Go.Proofs.YtkphbjppmiefkaaDoor
open Go.RowKit Go.Shelf Go.Maps SetM TermsM
/-- What endsOf hands back. -/
def EndsPost (ls : List (List Sp)) (W : World) (e : Ending) (W' : World) : Prop :=
  ∃ P c E M n, e = .returned (.tuple #[.slice P (List.length E) c, .map (some M)]) ∧ Zs W' P E ∧ MapF W' 3 3 .i64 M n (onI (place E)) ∧ E.Pairwise (· < ·) ∧ (∀ x, x ∈ E ↔ ∃ s ∈ ls, Tog s x) ∧ E.length ≤ 2 * ls.flatten.length ∧ Below W.heap.size W W'
set_option maxRecDepth 100000 in
set_option maxHeartbeats 8000000 in
theorem ends_c {W : World} {A : Option Addr} {ca n : Nat} {ls : List (List Sp)} (hn : n = ls.length) (hR : Rs W A ls) (hs : Small ls) (ht : ls.flatten.length ≤ 20000) (h8 : n ≤ 20000) :
    Calls Tryd.prog 27 #[.slice A n ca] W (EndsPost ls W) := by
  have hmm := @run_makeMap Tryd.prog
  have HN := Lib.hid hn
  have HR := Lib.hid hR
  have HS := Lib.hid hs
  have HT := Lib.hid ht
  obtain ⟨M, hM⟩ : ∃ M, M = W.heap.size := ⟨_, rfl⟩
  have HM := Lib.hid hM
  have HF0 : Hid (MapF (W.alloc (.map #[] 0)) 3 3 .i64 M 0 (onI (seenF (eL [])))) := Lib.hid (by
    rw [hM]
    exact (MapF.made W _ _ _).congr (fun x _ => by cases x with
      | int q y => cases q <;> rfl
      | _ => rfl))
  have HB0 : Hid (Below W.heap.size W (W.alloc (.map #[] 0))) := Lib.hid ((Below.refl _ _).alloc (Nat.le_refl _) _)
  clear hn hR hs ht
  go_enter Tryd.func27, Tryd.ntmps27
  go_upto_region 2 with fail
  rw [← hM]
  clear hmm
  clear hM
  go_wp2_with fail
  go_loopg [15] n (fun g s15 wx => ∃ k : Nat, k + g = n ∧ s15 = .int .i64 k ∧ Hid (∃ m, m ≤ 2 * (ls.take k).flatten.length ∧ MapF wx 3 3 .i64 M m (onI (seenF (eL (ls.take k).flatten)))) ∧ Hid (Below W.heap.size W wx))
  case atStart => exact ⟨0, by omega, rfl, Lib.hid ⟨0, by simp, HF0.out⟩, HB0⟩
  case round =>
    obtain ⟨k, hkg, rfl, HF, HB⟩ := hrel
    cases gk with
    | zero =>
      obtain rfl : k = n := by omega
      have hlt : ¬ (k : Int) < (k : Int) := by omega
      obtain ⟨m, hm, hf⟩ := HF.out
      rw [List.take_of_length_le (by have := HN.out; omega)] at hm hf
      have hm2 : m ≤ 40000 := by have := HT.out; omega
      have HF2 := Lib.hid hf
      have HBM : Hid (∀ V : World, Below wr.heap.size wr V → MapF V 3 3 .i64 M m (onI (seenF (eL ls.flatten)))) := Lib.hid (fun V hV => hf.of_block (hV.block M hf.lt))
      clear hf hm HF
      go_wp2_with fail
      refine (keysI_c _ _).mono ?_
      rintro e w2 ⟨rfl, rfl⟩
      go_wp2_with fail
      refine (sortedI_c M m _ wr HF2.out (by omega)).mono ?_
      rintro e w3 ⟨P, c, E, rfl, hz, hup, hmem, _, hb3⟩
      have hb4 : Below wr.heap.size wr w3 := ((Below.refl _ _).alloc (Nat.le_refl _) _).trans (hb3.mono (by rw [World.size_alloc]; omega))
      have hmE : ∀ x, x ∈ E ↔ x ∈ eL ls.flatten := fun x => by
        rw [hmem]
        unfold seenF
        by_cases h : x ∈ eL ls.flatten <;> simp [h]
      obtain ⟨nE, hnE⟩ : ∃ nE, nE = E.length := ⟨_, rfl⟩
      rw [← hnE]
      have hEl : nE ≤ 40000 := by
        have := nodup_len E (eL ls.flatten) (hup.imp (fun h => by omega)) (fun x hx => (hmE x).1 hx)
        rw [eL_len] at this
        have := HT.out
        omega
      have HE2 : Hid (nE ≤ 2 * ls.flatten.length) := Lib.hid (by
        have := nodup_len E (eL ls.flatten) (hup.imp (fun h => by omega)) (fun x hx => (hmE x).1 hx)
        rw [eL_len] at this
        omega)
      have HNE := Lib.hid hnE
      have HZ := Lib.hid hz
      have HUP := Lib.hid hup
      have HME := Lib.hid hmE
      have HB3 := Lib.hid (HB.out.trans (hb4.mono HB.out.size))
      have HF3 : Hid (MapF w3 3 3 .i64 M m (onI (plF E 0))) := Lib.hid (by rw [← plF_zero hmE]; exact HBM.out w3 hb4)
      have HRNG : Hid (∀ x ∈ E, 0 ≤ x ∧ x ≤ 1114112) := Lib.hid (fun x hx => by
        obtain ⟨s, h1, u, hu, h⟩ := tog_flat.1 (mem_eL.1 ((hmE x).1 hx))
        have := HS.out s h1 u hu
        omega)
      clear hz hup hmem hmE hb3 hb4 HF2 HBM hnE
      go_wp2_with fail
      go_loopg [39] nE (fun g s39 wx => ∃ i : Nat, i + g = nE ∧ s39 = .int .i64 i ∧ Hid (MapF wx 3 3 .i64 M (m + i) (onI (plF E i))) ∧ Hid (Below w3.heap.size w3 w3 ∧ w3.grownBy wx (some M)))
      case atStart => exact ⟨0, by omega, rfl, HF3, Lib.hid ⟨Below.refl _ _, grown_refl' w3 (some M)⟩⟩
      case round =>
        obtain ⟨i, hig, rfl, HFi, HGi⟩ := hrel
        have HZi : Hid (∀ j (h : j < E.length), ∃ b off, P = some ⟨b, off, none⟩ ∧ wr.cell? ⟨b, off + j, none⟩ = some (.int .i64 E[j])) := Lib.hid (fun j h => by
          obtain ⟨b, off, e1, h1, h2⟩ := HZ.out (by intro h0; rw [h0] at h; simp at h)
          refine ⟨b, off, e1, ?_⟩
          have h3 := h2 j h
          have hne : b ≠ M := fun e => HF3.out.no_cell (by rw [← e]; exact h3)
          exact (World.cell?_of_block (HGi.out.2.block b h1 (fun e => hne (Option.some.inj e)))).trans h3)
        cases gk with
        | zero =>
          obtain rfl : i = nE := by omega
          have hlt : ¬ (i : Int) < (i : Int) := by omega
          have HE : Hid (EndsPost ls W (.returned (.tuple #[.slice P i c, .map (some M)])) wr) := Lib.hid (by
            have h1 := HFi.out
            rw [HNE.out, plF_all] at h1
            refine ⟨P, c, E, M, _, by rw [HNE.out], fun hne => ?_, h1, HUP.out, fun x => ?_, by have := HNE.out; have := HE2.out; omega, ?_⟩
            · obtain ⟨b, off, e1, h2, h3⟩ := HZ.out hne
              refine ⟨b, off, e1, by have := HGi.out.2.size; omega, fun j hj => ?_⟩
              obtain ⟨b', off', e2, h4⟩ := HZi.out j hj
              rw [e1] at e2
              cases e2
              exact h4
            · rw [HME.out, mem_eL, tog_flat]
            · exact HB3.out.grown HGi.out.2 HB3.out.size (fun k e => by cases e; have := HM.out; omega))
          clear HZi HFi HGi HB3 HB
          go_wp2_with fail
          go_ret2
          exact HE.out
        | succ g =>
          have hlt : (i : Int) < (nE : Int) := by omega
          have hil : i < E.length := by have := HNE.out; omega
          obtain ⟨b, off, rfl, hc⟩ := HZi.out i hil
          obtain ⟨x, hx⟩ : ∃ x, x = E[i] := ⟨_, rfl⟩
          rw [← hx] at hc
          have hxr := HRNG.out x (by rw [hx]; exact List.getElem_mem hil)
          have HST : Hid (onI (plF E (i + 1)) = putF (onI (plF E i)) (.int .i64 x) (i : Int)) := Lib.hid (by rw [onI_put, ← plF_step HUP.out hil, hx])
          clear hx HZi
          go_wp2_with (at_mapUpdate; refine wpList_storeF rfl _ _ _ _ rfl HFi.out keyedI mapI_t Tryd.underlying3 (by unfold maxLen; omega) rfl rfl (keyI (wf64 (by omega) (by omega))) rfl (wf64 (by omega) (by omega)) ?_; intro w4 hf4 hg4)
          have HF4 : Hid (MapF w4 3 3 .i64 M (m + (i + 1)) (onI (plF E (i + 1)))) := Lib.hid (by rw [HST.out]; exact hf4)
          have HG4 := Lib.hid (HGi.out.2.trans hg4)
          clear hf4 hg4 hc
          go_wp2_with fail
          go_roundg g
          case measure => omega
          case rel => exact ⟨i + 1, by omega, by go_num, HF4, Lib.hid ⟨Below.refl _ _, HG4.out⟩⟩
    | succ g =>
      have hlt : (k : Int) < (n : Int) := by omega
      have hkl : k < ls.length := by have := HN.out; omega
      obtain ⟨b, off, rfl, hbb, hrow⟩ := HR.out (by intro h; rw [h] at hkl; simp at hkl)
      obtain ⟨Q, d, h1, h2, h3⟩ := hrow k hkl
      have c0 := (HB.out.cell (p := ⟨b, off + k, none⟩) hbb).trans h1
      obtain ⟨s, hs⟩ : ∃ s, s = ls[k] := ⟨_, rfl⟩
      rw [← hs] at c0 h2
      have HQ : Hid (Sl0 W Q s) := Lib.hid h2
      obtain ⟨ns, hns⟩ : ∃ ns, ns = s.length := ⟨_, rfl⟩
      rw [← hns] at c0
      have HNS := Lib.hid hns
      have HSM : Hid (∀ u ∈ s, 0 ≤ u.1 ∧ u.1 ≤ 1114111 ∧ 0 ≤ u.2 ∧ u.2 ≤ 1114111) := Lib.hid (fun u hu => HS.out s (by rw [hs]; exact List.getElem_mem hkl) u hu)
      obtain ⟨p0, hp0⟩ : ∃ p0, p0 = (ls.take k).flatten := ⟨_, rfl⟩
      rw [← hp0] at HF
      have HFL : Hid ((ls.take (k + 1)).flatten = p0 ++ s) := Lib.hid (by rw [flat_take hkl, hp0, hs])
      have hlen : p0.length + ns ≤ 20000 := by
        have h4 := flat_le ls (k + 1)
        rw [HFL.out, List.length_append] at h4
        have := HT.out
        omega
      clear hrow h1 h2 h3 hs hp0 hns
      go_wp2_with fail
      go_loopg [21] ns (fun gq s21 wx => ∃ q : Nat, q + gq = ns ∧ s21 = .int .i64 q ∧ Hid (∃ m, m ≤ 2 * (p0.length + q) ∧ MapF wx 3 3 .i64 M m (onI (seenF (eL (p0 ++ s.take q))))) ∧ Hid (Below W.heap.size W wx))
      case atStart => exact ⟨0, by omega, rfl, Lib.hid (by obtain ⟨m, h1, h2⟩ := HF.out; exact ⟨m, by omega, by simpa using h2⟩), HB⟩
      case round =>
        clear c0
        obtain ⟨q, hqg, rfl, HFq, HBq⟩ := hrel
        cases gk with
        | zero =>
          obtain rfl : q = ns := by omega
          have hlt2 : ¬ (q : Int) < (q : Int) := by omega
          have HE : Hid (∃ m, m ≤ 2 * (ls.take (k + 1)).flatten.length ∧ MapF wr 3 3 .i64 M m (onI (seenF (eL (ls.take (k + 1)).flatten)))) := Lib.hid (by
            obtain ⟨m, h1, h2⟩ := HFq.out
            rw [List.take_of_length_le (by have := HNS.out; omega)] at h2
            rw [HFL.out]
            exact ⟨m, by rw [List.length_append]; have := HNS.out; omega, h2⟩)
          clear HFq
          go_wp2_with fail
          go_roundg g
          case measure => omega
          case rel => exact ⟨k + 1, by omega, by go_num, HE, HBq⟩
        | succ gi =>
          have hlt2 : (q : Int) < (ns : Int) := by omega
          have hql : q < s.length := by have := HNS.out; omega
          obtain ⟨b2, off2, rfl, hb2, hc2⟩ := HQ.out (by intro h; rw [h] at hql; simp at hql)
          obtain ⟨u, hu⟩ : ∃ u, u = s[q] := ⟨_, rfl⟩
          have hsm := HSM.out u (by rw [hu]; exact List.getElem_mem hql)
          have e1 := (HBq.out.cell (p := ⟨b2, off2 + q * 2, none⟩) hb2).trans (hc2 q hql).1
          have e2 := (HBq.out.cell (p := ⟨b2, off2 + q * 2 + 1, none⟩) hb2).trans (hc2 q hql).2
          rw [← hu] at e1 e2
          obtain ⟨lo, hlo⟩ : ∃ lo, lo = u.1 := ⟨_, rfl⟩
          obtain ⟨hi, hhi⟩ : ∃ hi, hi = u.2 := ⟨_, rfl⟩
          rw [← hlo] at e1 hsm
          rw [← hhi] at e2 hsm
          have HSQ : Hid (eL (p0 ++ s.take (q + 1)) = eL (p0 ++ s.take q) ++ [lo] ++ [hi + 1]) := Lib.hid (by
            rw [List.take_succ_eq_append_getElem hql, ← List.append_assoc, eL_snoc, ← hu, hlo, hhi]; simp)
          obtain ⟨m, hm, hf⟩ := HFq.out
          have hmM := hf.lt
          obtain ⟨V, hV⟩ : ∃ V, V = wr.alloc (.cells #[.int .i64 lo, .int .i64 hi] 42) := ⟨_, rfl⟩
          have hx0 : V.heap[wr.heap.size]? = some (.cells #[.int .i64 lo, .int .i64 hi] 42 (0, 0)) := by rw [hV]; exact heap_alloc_new wr _
          have HX0 := Lib.hid hx0
          have HVB : Hid (Below wr.heap.size wr V) := Lib.hid (by rw [hV]; exact (Below.refl _ _).alloc (Nat.le_refl _) _)
          have HFV : Hid (MapF V 3 3 .i64 M m (onI (seenF (eL (p0 ++ s.take q))))) := Lib.hid (hf.of_block (HVB.out.block M hmM))
          obtain ⟨⟨d0, d1⟩, _⟩ := cells2 hx0
          have hwq : wrap64 (hi + 1) = hi + 1 := IntWalk.wrap64_in _ (by omega)
          clear hu hlo hhi hc2 hf hx0 HFq
          go_upto_region 8 with fail
          rw [← hV]
          clear hV e1 e2
          go_wp2_with (at_mapUpdate; first
            | (refine wpList_storeF rfl _ _ _ _ rfl hf1 keyedI mapI_t Tryd.underlying3 (by unfold maxLen; omega) rfl rfl (keyI (wf64 (by omega) (by omega))) rfl (wf64 (by omega) (by omega)) ?_; intro w2 hf2 hg2)
            | (refine wpList_storeF rfl _ _ _ _ rfl HFV.out keyedI mapI_t Tryd.underlying3 (by unfold maxLen; omega) rfl rfl (keyI (wf64 (by omega) (by omega))) rfl (wf64 (by omega) (by omega)) ?_; intro w1 hf1 hg1; obtain ⟨⟨a0, a1⟩, _⟩ := cells2 ((hg1.block _ (Array.getElem?_eq_some_iff.1 HX0.out).1 (fun e => by have := Option.some.inj e; omega)).trans HX0.out)))
          have HE : Hid (∃ m, m ≤ 2 * (p0.length + (q + 1)) ∧ MapF w2 3 3 .i64 M m (onI (seenF (eL (p0 ++ s.take (q + 1)))))) := Lib.hid (by
            refine ⟨m + 1 + 1, by omega, ?_⟩
            rw [HSQ.out, ← seenF_snoc, ← seenF_snoc, ← onI_put, ← onI_put]
            exact hf2)
          have HBE : Hid (Below W.heap.size W w2) := Lib.hid (by
            have h1 := HBq.out.trans (HVB.out.mono HBq.out.size)
            have h2 := h1.grown hg1 h1.size (fun k e => by cases e; have := HM.out; omega)
            exact h2.grown hg2 h2.size (fun k e => by cases e; have := HM.out; omega))
          clear hf1 hg1 hf2 hg2 a0 a1 d0 d1 HX0 HVB HFV HSQ
          go_roundg gi
          case measure => omega
          case rel => exact ⟨q + 1, by omega, by go_num, HE, HBE⟩
end Go.Proofs.YtkphbjppmiefkaaDoor
