/- The program's turnsOf: at which places some sets begin or have ended. -/
import Derived.Test.YtkphbjppmiefkaaDoorTEnds
namespace TermsM
open SetM
theorem tgl_flat {c : List (List Sp)} {x : Int} (h : ¬ Tog c.flatten x) : tgl c x = 0 := bitsOf_zero.2 (fun s hs ht => h (tog_flat.2 ⟨s, hs, ht⟩))
theorem bitsOf_swap {p : List Sp → Prop} [DecidablePred p] {a : List (List Sp)} {s s' : List Sp} (h : p s ↔ p s') : bitsOf p (a ++ [s]) = bitsOf p (a ++ [s']) := by
  refine Nat.eq_of_testBit_eq (fun j => ?_)
  rw [bitsOf_bit, bitsOf_bit]
  rcases Nat.lt_trichotomy j a.length with hj | rfl | hj
  · rw [List.getElem?_append_left hj, List.getElem?_append_left hj]
  · simp [decide_eq_decide.2 h]
  · rw [List.getElem?_eq_none (by simp; omega), List.getElem?_eq_none (by simp; omega)]
/-- What turns at a place, of some sets. -/
def tF (E : List Int) (c : List (List Sp)) : Int → Option Int := fun p => if 0 ≤ p ∧ p < (E.length : Int) ∧ Tog c.flatten (E.getD p.toNat 0) then some (tgl c (E.getD p.toNat 0) : Int) else none
theorem tF_nil (E : List Int) : tF E [] = fun _ => none := by
  funext p
  unfold tF
  rw [if_neg (fun h => by obtain ⟨_, _, u, hu, _⟩ := h; simp at hu)]
theorem tF_nils (E : List Int) (a : List (List Sp)) : tF E (a ++ [[]]) = tF E a := by
  funext p
  unfold tF
  have e1 : (a ++ [[]]).flatten = a.flatten := by simp
  have e2 : ∀ x, tgl (a ++ [[]]) x = tgl a x := fun x => bitsOf_none (fun h => by obtain ⟨u, hu, _⟩ := h; cases hu)
  rw [e1, e2]
theorem tF_get (E : List Int) (c : List (List Sp)) {j : Nat} (h : j < E.length) : (tF E c (j : Int)).getD 0 = (tgl c E[j] : Int) := by
  unfold tF
  have e : E.getD (j : Int).toNat 0 = E[j] := by rw [List.getD_eq_getElem?_getD, Int.toNat_natCast, List.getElem?_eq_getElem h]; rfl
  rw [e]
  by_cases ht : Tog c.flatten E[j]
  · rw [if_pos ⟨by omega, by omega, ht⟩]; rfl
  · rw [if_neg (fun k => ht k.2.2), tgl_flat ht]; rfl
theorem tog_append {s t : List Sp} {x : Int} : Tog (s ++ t) x ↔ Tog s x ∨ Tog t x := by
  constructor
  · rintro ⟨u, hu, h⟩
    rcases List.mem_append.1 hu with hu | hu
    · exact .inl ⟨u, hu, h⟩
    · exact .inr ⟨u, hu, h⟩
  · rintro (⟨u, hu, h⟩ | ⟨u, hu, h⟩)
    · exact ⟨u, List.mem_append.2 (.inl hu), h⟩
    · exact ⟨u, List.mem_append.2 (.inr hu), h⟩
theorem tF_step {E : List Int} (hup : E.Pairwise (· < ·)) {a : List (List Sp)} {t : List Sp} {u : Sp} (ht : Apt (t ++ [u])) {pl ph : Nat} (hl : pl < E.length) (hh : ph < E.length) (el : E[pl] = u.1) (eh : E[ph] = u.2 + 1) :
    pl ≠ ph ∧ (fun p => if p = (ph : Int) then some ((tgl (a ++ [t]) (u.2 + 1) ^^^ (1 <<< a.length) : Nat) : Int) else if p = (pl : Int) then some ((tgl (a ++ [t]) u.1 ^^^ (1 <<< a.length) : Nat) : Int) else tF E (a ++ [t]) p) = tF E (a ++ [t ++ [u]]) := by
  have hu1 : u.1 ≤ u.2 := ht.1 u (by simp)
  have hfar : ∀ v ∈ t, v.2 + 1 < u.1 := fun v hv => (List.pairwise_append.1 ht.2).2.2 v hv u (by simp)
  have hvv : ∀ v ∈ t, v.1 ≤ v.2 := fun v hv => ht.1 v (by simp [hv])
  have hne : pl ≠ ph := fun e => by subst e; omega
  have n1 : ¬ Tog t u.1 := by rintro ⟨v, hv, h⟩; have := hfar v hv; have := hvv v hv; omega
  have n2 : ¬ Tog t (u.2 + 1) := by rintro ⟨v, hv, h⟩; have := hfar v hv; have := hvv v hv; omega
  have t1 : Tog (t ++ [u]) u.1 := ⟨u, by simp, .inl rfl⟩
  have t2 : Tog (t ++ [u]) (u.2 + 1) := ⟨u, by simp, .inr rfl⟩
  have fl : ∀ {x}, Tog (t ++ [u]) x → Tog (a ++ [t ++ [u]]).flatten x := fun h => tog_flat.2 ⟨_, by simp, h⟩
  refine ⟨hne, ?_⟩
  funext p
  by_cases hp1 : p = (ph : Int)
  · subst hp1
    rw [if_pos rfl]
    unfold tF
    have e : E.getD (ph : Int).toNat 0 = u.2 + 1 := by rw [List.getD_eq_getElem?_getD, Int.toNat_natCast, List.getElem?_eq_getElem hh]; exact eh
    rw [e, if_pos ⟨by omega, by omega, fl t2⟩]
    congr 2
    exact bitsOf_last n2 t2
  · rw [if_neg hp1]
    by_cases hp2 : p = (pl : Int)
    · subst hp2
      rw [if_pos rfl]
      unfold tF
      have e : E.getD (pl : Int).toNat 0 = u.1 := by rw [List.getD_eq_getElem?_getD, Int.toNat_natCast, List.getElem?_eq_getElem hl]; exact el
      rw [e, if_pos ⟨by omega, by omega, fl t1⟩]
      congr 2
      exact bitsOf_last n1 t1
    · rw [if_neg hp2]
      unfold tF
      by_cases hr : 0 ≤ p ∧ p < (E.length : Int)
      · obtain ⟨x, hx⟩ : ∃ x, x = E.getD p.toNat 0 := ⟨_, rfl⟩
        have hpl : p.toNat < E.length := by omega
        have hxe : x = E[p.toNat] := by rw [hx, List.getD_eq_getElem?_getD, List.getElem?_eq_getElem hpl]; rfl
        have hinj : ∀ (j : Nat) (hj : j < E.length), E[j] = x → p = (j : Int) := fun j hj e => by
          rcases Nat.lt_trichotomy j p.toNat with h | h | h
          · have := List.pairwise_iff_getElem.1 hup j p.toNat hj hpl h; omega
          · omega
          · have := List.pairwise_iff_getElem.1 hup p.toNat j hpl hj h; omega
        have x1 : x ≠ u.1 := fun e => hp2 (hinj pl hl (by rw [el, e]))
        have x2 : x ≠ u.2 + 1 := fun e => hp1 (hinj ph hh (by rw [eh, e]))
        have hsw : Tog t x ↔ Tog (t ++ [u]) x := by
          rw [tog_append]
          refine ⟨.inl, fun h => h.elim id (fun ⟨v, hv, h⟩ => ?_)⟩
          rw [List.mem_singleton.1 hv] at h
          exact absurd h (by simp [x1, x2])
        rw [← hx]
        have e1 : Tog (a ++ [t]).flatten x ↔ Tog (a ++ [t ++ [u]]).flatten x := by
          simp only [List.flatten_append, tog_append, List.flatten_cons, List.flatten_nil, List.append_nil]
          rw [tog_append] at hsw
          rw [← hsw]
        have e2 : tgl (a ++ [t]) x = tgl (a ++ [t ++ [u]]) x := bitsOf_swap hsw
        rw [e2]
        by_cases h9 : Tog (a ++ [t]).flatten x
        · rw [if_pos ⟨hr.1, hr.2, h9⟩, if_pos ⟨hr.1, hr.2, e1.1 h9⟩]
        · rw [if_neg (fun k => h9 k.2.2), if_neg (fun k => h9 (e1.2 k.2.2))]
      · rw [if_neg (fun k => hr ⟨k.1, k.2.1⟩), if_neg (fun k => hr ⟨k.1, k.2.1⟩)]
theorem apt_take {s : List Sp} (h : Apt s) (k : Nat) : Apt (s.take k) := ⟨fun u hu => h.1 u (List.mem_of_mem_take hu), h.2.sublist (List.take_sublist _ _)⟩
end TermsM
namespace Go.Proofs.YtkphbjppmiefkaaDoor
open Go.RowKit Go.Shelf Go.Maps SetM TermsM
/-- What turnsOf hands back. -/
def TurnsPost (E : List Int) (c : List (List Sp)) (W : World) (e : Ending) (W' : World) : Prop :=
  ∃ M n, e = .returned (.map (some M)) ∧ W.heap.size ≤ M ∧ n ≤ 2 * c.flatten.length ∧ MapF W' 3 95 .u64 M n (onI (tF E c)) ∧ Below W.heap.size W W'
theorem wfS {v : Nat} (h : v < 18446744073709551616) : (Lit.int .u64 (v : Int)).wf = true := by
  simp only [Lit.wf, Bool.and_eq_true, decide_eq_true_eq, show IntKind.min .u64 = 0 by decide, show IntKind.max .u64 = 18446744073709551615 by decide]; omega
theorem grown_drew {V W : World} {row : Option Nat} (h : V.drew.grownBy W row) : V.grownBy W row := ⟨h.os, h.tape, h.output, h.size, h.block⟩
theorem shl_lt {k : Nat} (hk : k < 64) : 1 <<< k < 18446744073709551616 := by
  rw [Nat.one_shiftLeft]; exact Nat.lt_of_lt_of_le (Nat.pow_lt_pow_right (by decide) hk) (by decide : 2 ^ 64 ≤ 18446744073709551616)
theorem turn_xor {t k : Nat} (ht : t < 18446744073709551616) (hk : k < 64) : bits .xor .u64 (t : Int) (IntKind.u64.wrap (2 ^ k)) = ((t ^^^ (1 <<< k) : Nat) : Int) ∧ t ^^^ (1 <<< k) < 18446744073709551616 := by
  have h1 := shl_lt hk
  have e : IntKind.u64.wrap ((2 : Int) ^ k) = ((1 <<< k : Nat) : Int) := by
    rw [IntKind.wrap_u64, show ((2 : Int) ^ k) = ((1 <<< k : Nat) : Int) by rw [Nat.one_shiftLeft]; push_cast; rfl]
    generalize 1 <<< k = z at h1
    omega
  rw [e, bits_xor_u64_nat _ _ ht h1]
  exact ⟨rfl, Nat.xor_lt_two_pow (n := 64) ht h1⟩
set_option maxRecDepth 100000 in
set_option maxHeartbeats 8000000 in
theorem turns_c {W : World} {b off ca n M0 n0 : Nat} {c : List (List Sp)} {E : List Int} (hn : n = c.length) (hn6 : n ≤ 64) (hR : Rs W (some ⟨b, off, none⟩) c) (hs : Small c) (ha : ∀ s ∈ c, Apt s) (ht : c.flatten.length ≤ 20000) (hM : MapF W 3 3 .i64 M0 n0 (onI (place E))) (hE : E.Pairwise (· < ·)) (hEl : E.length ≤ 40000) (hin : ∀ s ∈ c, ∀ x, Tog s x → x ∈ E) :
    Calls Tryd.prog 48 #[.slice (some ⟨b, off, none⟩) n ca, .map (some M0)] W (TurnsPost E c W) := by
  have hmm := @run_makeMap Tryd.prog
  have HN := Lib.hid hn
  have HR := Lib.hid hR
  have HS := Lib.hid hs
  have HA := Lib.hid ha
  have HT := Lib.hid ht
  have HM0 := Lib.hid hM
  have HE := Lib.hid hE
  have HIN := Lib.hid hin
  have hM0 := hM.lt
  obtain ⟨M, hM⟩ : ∃ M, M = W.heap.size := ⟨_, rfl⟩
  have HM := Lib.hid hM
  have HF0 : Hid (MapF (W.alloc (.map #[] 0)) 3 95 .u64 M 0 (onI (tF E []))) := Lib.hid (by
    rw [hM, tF_nil]
    exact (MapF.made W _ _ _).congr (fun x _ => by cases x with
      | int q y => cases q <;> rfl
      | _ => rfl))
  have HB0 : Hid (Below W.heap.size W (W.alloc (.map #[] 0))) := Lib.hid ((Below.refl _ _).alloc (Nat.le_refl _) _)
  clear hn hR hs ha ht hE hin
  go_enter Tryd.func48, Tryd.ntmps48
  go_upto_region 2 with fail
  rw [← hM]
  clear hmm hM
  go_wp2_with fail
  go_loopg [13] n (fun g s13 wx => ∃ k : Nat, k + g = n ∧ s13 = .int .i64 k ∧ Hid (∃ m, m ≤ 2 * (c.take k).flatten.length ∧ MapF wx 3 95 .u64 M m (onI (tF E (c.take k)))) ∧ Hid (Below W.heap.size W wx))
  case atStart => exact ⟨0, by omega, rfl, Lib.hid ⟨0, by simp, HF0.out⟩, HB0⟩
  case round =>
    obtain ⟨k, hkg, rfl, HF, HB⟩ := hrel
    cases gk with
    | zero =>
      obtain rfl : k = n := by omega
      have hlt : ¬ (k : Int) < (k : Int) := by omega
      have HX : Hid (TurnsPost E c W (.returned (.map (some M))) wr) := Lib.hid (by
        obtain ⟨m, hm, hf⟩ := HF.out
        rw [List.take_of_length_le (by have := HN.out; omega)] at hm hf
        exact ⟨M, m, rfl, by rw [HM.out]; exact Nat.le_refl _, hm, hf, HB.out⟩)
      clear HF
      go_wp2_with fail
      go_ret
      exact HX.out
    | succ g =>
      have hlt : (k : Int) < (n : Int) := by omega
      have hkl : k < c.length := by have := HN.out; omega
      obtain ⟨b', off', e0, hbb, hrow⟩ := HR.out (by intro h; rw [h] at hkl; simp at hkl)
      cases e0
      obtain ⟨Q, d, h1, h2, h3⟩ := hrow k hkl
      have c0 := (HB.out.cell (p := ⟨b, off + k, none⟩) hbb).trans h1
      obtain ⟨s, hs⟩ : ∃ s, s = c[k] := ⟨_, rfl⟩
      rw [← hs] at c0 h2
      have HQ : Hid (Sl0 W Q s) := Lib.hid h2
      obtain ⟨ns, hns⟩ : ∃ ns, ns = s.length := ⟨_, rfl⟩
      rw [← hns] at c0
      have HNS := Lib.hid hns
      have hsm : s ∈ c := by rw [hs]; exact List.getElem_mem hkl
      have HSM : Hid (∀ u ∈ s, 0 ≤ u.1 ∧ u.1 ≤ 1114111 ∧ 0 ≤ u.2 ∧ u.2 ≤ 1114111) := Lib.hid (fun u hu => HS.out s hsm u hu)
      have HAS : Hid (Apt s) := Lib.hid (HA.out s hsm)
      have HIS : Hid (∀ x, Tog s x → x ∈ E) := Lib.hid (HIN.out s hsm)
      obtain ⟨p0, hp0⟩ : ∃ p0, p0 = c.take k := ⟨_, rfl⟩
      have HPL : Hid (p0.length = k) := Lib.hid (by rw [hp0, List.length_take]; omega)
      rw [← hp0] at HF
      have HFL : Hid (c.take (k + 1) = p0 ++ [s]) := Lib.hid (by rw [List.take_succ_eq_append_getElem hkl, hp0, hs])
      have hlen : p0.flatten.length + ns ≤ 20000 := by
        have h4 := flat_le c (k + 1)
        rw [HFL.out, List.flatten_append, List.length_append] at h4
        have := HT.out
        simp only [List.flatten_cons, List.flatten_nil, List.append_nil] at h4
        omega
      clear hrow h1 h2 h3 hs hp0 hns hsm
      go_wp2_with fail
      go_loopg [20] ns (fun gq s20 wx => ∃ q : Nat, q + gq = ns ∧ s20 = .int .i64 q ∧ Hid (∃ m, m ≤ 2 * (p0.flatten.length + q) ∧ MapF wx 3 95 .u64 M m (onI (tF E (p0 ++ [s.take q])))) ∧ Hid (Below W.heap.size W wx))
      case atStart => exact ⟨0, by omega, rfl, Lib.hid (by obtain ⟨m, h1, h2⟩ := HF.out; exact ⟨m, by omega, by rw [List.take_zero, tF_nils]; exact h2⟩), HB⟩
      case round =>
        clear c0
        obtain ⟨q, hqg, rfl, HFq, HBq⟩ := hrel
        cases gk with
        | zero =>
          obtain rfl : q = ns := by omega
          have hlt2 : ¬ (q : Int) < (q : Int) := by omega
          have HX : Hid (∃ m, m ≤ 2 * (c.take (k + 1)).flatten.length ∧ MapF wr 3 95 .u64 M m (onI (tF E (c.take (k + 1))))) := Lib.hid (by
            obtain ⟨m, h1, h2⟩ := HFq.out
            rw [List.take_of_length_le (by have := HNS.out; omega)] at h2
            rw [HFL.out]
            exact ⟨m, by rw [List.flatten_append, List.length_append]; simp only [List.flatten_cons, List.flatten_nil, List.append_nil]; have := HNS.out; omega, h2⟩)
          clear HFq
          go_wp2_with fail
          go_roundg g
          case measure => omega
          case rel => exact ⟨k + 1, by omega, by go_num, HX, HBq⟩
        | succ gi =>
          have hlt2 : (q : Int) < (ns : Int) := by omega
          have hql : q < s.length := by have := HNS.out; omega
          obtain ⟨b2, off2, rfl, hb2, hc2⟩ := HQ.out (by intro h; rw [h] at hql; simp at hql)
          obtain ⟨u, hu⟩ : ∃ u, u = s[q] := ⟨_, rfl⟩
          have hmu : u ∈ s := by rw [hu]; exact List.getElem_mem hql
          have hsm := HSM.out u hmu
          have e1 := (HBq.out.cell (p := ⟨b2, off2 + q * 2, none⟩) hb2).trans (hc2 q hql).1
          have e2 := (HBq.out.cell (p := ⟨b2, off2 + q * 2 + 1, none⟩) hb2).trans (hc2 q hql).2
          rw [← hu] at e1 e2
          have HTK : Hid (s.take (q + 1) = s.take q ++ [u]) := Lib.hid (by rw [List.take_succ_eq_append_getElem hql, hu])
          have mlo : u.1 ∈ E := HIS.out _ ⟨u, hmu, .inl rfl⟩
          have mhi : u.2 + 1 ∈ E := HIS.out _ ⟨u, hmu, .inr rfl⟩
          obtain ⟨pl, hpl⟩ : ∃ pl, pl = E.idxOf u.1 := ⟨_, rfl⟩
          obtain ⟨ph, hph⟩ : ∃ ph, ph = E.idxOf (u.2 + 1) := ⟨_, rfl⟩
          have lpl : pl < E.length := by rw [hpl]; exact List.idxOf_lt_length_iff.2 mlo
          have lph : ph < E.length := by rw [hph]; exact List.idxOf_lt_length_iff.2 mhi
          have epl : E[pl] = u.1 := by simp only [hpl]; exact List.getElem_idxOf _
          have eph : E[ph] = u.2 + 1 := by simp only [hph]; exact List.getElem_idxOf _
          have hst := tF_step HE.out (a := p0) (by rw [← HTK.out]; exact apt_take HAS.out (q + 1)) lpl lph epl eph
          rw [HPL.out, ← HTK.out] at hst
          have HST := Lib.hid hst
          have plo : (onI (place E) (.int .i64 u.1)).getD 0 = (pl : Int) := by show (place E u.1).getD 0 = _; unfold place; rw [if_pos mlo, hpl]; rfl
          have phi : (onI (place E) (.int .i64 (u.2 + 1))).getD 0 = (ph : Int) := by show (place E (u.2 + 1)).getD 0 = _; unfold place; rw [if_pos mhi, hph]; rfl
          have glo : (onI (tF E (p0 ++ [s.take q])) (.int .i64 (pl : Int))).getD 0 = (tgl (p0 ++ [s.take q]) u.1 : Int) := by show (tF E _ _).getD 0 = _; rw [tF_get E _ lpl, epl]
          have ghi : (onI (tF E (p0 ++ [s.take q])) (.int .i64 (ph : Int))).getD 0 = (tgl (p0 ++ [s.take q]) (u.2 + 1) : Int) := by show (tF E _ _).getD 0 = _; rw [tF_get E _ lph, eph]
          have hbit : ∀ x, tgl (p0 ++ [s.take q]) x < 18446744073709551616 := fun x => by
            have h1 := bitsOf_lt (fun s => Tog s x) (p0 ++ [s.take q])
            rw [List.length_append, HPL.out] at h1
            exact Nat.lt_of_lt_of_le h1 (Nat.pow_le_pow_right (by decide) (by simp; omega) : 2 ^ (k + [s.take q].length) ≤ 2 ^ 64)
          obtain ⟨tl, htl⟩ : ∃ tl, tl = tgl (p0 ++ [s.take q]) u.1 := ⟨_, rfl⟩
          obtain ⟨th, hth⟩ : ∃ th, th = tgl (p0 ++ [s.take q]) (u.2 + 1) := ⟨_, rfl⟩
          have btl : tl < 18446744073709551616 := by rw [htl]; exact hbit _
          have bth : th < 18446744073709551616 := by rw [hth]; exact hbit _
          rw [← htl] at glo
          rw [← hth] at ghi
          rw [← htl, ← hth] at HST
          obtain ⟨lo, hlo⟩ : ∃ lo, lo = u.1 := ⟨_, rfl⟩
          obtain ⟨hi, hhi⟩ : ∃ hi, hi = u.2 := ⟨_, rfl⟩
          rw [← hlo] at e1 hsm plo
          rw [← hhi] at e2 hsm phi
          obtain ⟨m, hm, hf⟩ := HFq.out
          have hmM := hf.lt
          obtain ⟨V, hV⟩ : ∃ V, V = wr.alloc (.cells #[.int .i64 lo, .int .i64 hi] 42) := ⟨_, rfl⟩
          have hx0 : V.heap[wr.heap.size]? = some (.cells #[.int .i64 lo, .int .i64 hi] 42 (0, 0)) := by rw [hV]; exact heap_alloc_new wr _
          have HX0 := Lib.hid hx0
          have HVB : Hid (Below wr.heap.size wr V) := Lib.hid (by rw [hV]; exact (Below.refl _ _).alloc (Nat.le_refl _) _)
          have hBV := HBq.out.trans (HVB.out.mono HBq.out.size)
          have HBV := Lib.hid hBV
          have HFV : Hid (MapF V 3 95 .u64 M m (onI (tF E (p0 ++ [s.take q])))) := Lib.hid (hf.of_block (HVB.out.block M hmM))
          have HPV : Hid (MapF V 3 3 .i64 M0 n0 (onI (place E))) := Lib.hid (HM0.out.of_block (hBV.block M0 hM0))
          obtain ⟨⟨d0, d1⟩, _⟩ := cells2 hx0
          have hwq : wrap64 (hi + 1) = hi + 1 := IntWalk.wrap64_in _ (by omega)
          clear hu hlo hhi hc2 hf hx0 HFq epl eph mlo mhi hpl hph hst hbit htl hth hBV
          go_upto_region 8 with fail
          rw [← hV]
          clear hV e1 e2
          -- the first end
          have l1 := HPV.out.drew.look keyedI mapI_t Tryd.underlying3 zeroI8 (keyI (wf64 (x := lo) (by omega) (by omega)))
          rw [plo] at l1
          have l2 := HFV.out.drew.look keyedI mapS_t signU zeroS8 (keyI (wf64 (x := (pl : Int)) (by omega) (by omega)))
          rw [glo] at l2
          obtain ⟨x1, y1⟩ := turn_xor btl (show k < 64 by omega)
          obtain ⟨tl1, htl1⟩ : ∃ tl1, tl1 = tl ^^^ (1 <<< k) := ⟨_, rfl⟩
          rw [← htl1] at x1 y1 HST
          clear htl1
          obtain ⟨w1, r1, hf1, hg1⟩ := HFV.out.drew.store keyedI mapS_t signU (by unfold maxLen; omega) (keyI (wf64 (x := (pl : Int)) (by omega) (by omega))) (wfS y1)
          have hne : pl ≠ ph := HST.out.1
          have hg1 := grown_drew hg1
          have HF1 := Lib.hid hf1
          have HG1 := Lib.hid hg1
          have HB1 : Hid (Below W.heap.size W w1) := Lib.hid (HBV.out.grown hg1 HBV.out.size (fun k e => by cases e; have := HM.out; omega))
          clear hf1 hg1
          go_region
          clear l1 l2 r1 x1 d0 d1
          obtain ⟨⟨d0, d1⟩, _⟩ := cells2 ((HG1.out.block _ (Array.getElem?_eq_some_iff.1 HX0.out).1 (fun e => by have := Option.some.inj e; omega)).trans HX0.out)
          have l3 := (HPV.out.kept HG1.out (fun e => by have := Option.some.inj e; have := HM.out; omega)).drew.look keyedI mapI_t Tryd.underlying3 zeroI8 (keyI (wf64 (x := hi + 1) (by omega) (by omega)))
          rw [phi] at l3
          have l4 := HF1.out.drew.look keyedI mapS_t signU zeroS8 (keyI (wf64 (x := (ph : Int)) (by omega) (by omega)))
          rw [show (putF (onI (tF E (p0 ++ [s.take q]))) (.int .i64 (pl : Int)) (tl1 : Int) (.int .i64 (ph : Int))).getD 0 = (th : Int) by unfold putF; rw [if_neg (by simp [Lit.sameKey]; omega), ghi]] at l4
          obtain ⟨x2, y2⟩ := turn_xor bth (show k < 64 by omega)
          obtain ⟨th1, hth1⟩ : ∃ th1, th1 = th ^^^ (1 <<< k) := ⟨_, rfl⟩
          rw [← hth1] at x2 y2 HST
          clear hth1
          obtain ⟨w2, r2, hf2, hg2⟩ := HF1.out.drew.store keyedI mapS_t signU (by unfold maxLen; omega) (keyI (wf64 (x := (ph : Int)) (by omega) (by omega))) (wfS y2)
          have hg2 := grown_drew hg2
          have HX : Hid (∃ m, m ≤ 2 * (p0.flatten.length + (q + 1)) ∧ MapF w2 3 95 .u64 M m (onI (tF E (p0 ++ [s.take (q + 1)])))) := Lib.hid (by
            refine ⟨m + 1 + 1, by omega, ?_⟩
            rw [← HST.out.2]
            rw [onI_put, onI_put] at hf2
            exact hf2)
          have HBE : Hid (Below W.heap.size W w2) := Lib.hid (HB1.out.grown hg2 HB1.out.size (fun k e => by cases e; have := HM.out; omega))
          clear hf2 hg2 HST HF1 HG1 HB1
          go_wp2_with fail
          go_region
          clear l3 l4 r2 x2 d0 d1
          go_wp2_with fail
          go_roundg gi
          case measure => omega
          case rel => exact ⟨q + 1, by omega, by go_num, HX, HBE⟩
end Go.Proofs.YtkphbjppmiefkaaDoor
