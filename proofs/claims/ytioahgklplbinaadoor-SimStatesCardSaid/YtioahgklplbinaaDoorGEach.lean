/- The law's each; an append of numbers that may be none. -/
import Derived.Test.YtioahgklplbinaaDoorGLaw
namespace Go.Proofs.YtioahgklplbinaaDoor
open Go.RowKit Go.Shelf SetM NfaM SimM
theorem inr_news {W : World} {a : Addr} {l : List Int} (hs : InR W (some a) l) : ∀ j u, (l.map (Value.int .i64))[j]? = some u → W.cell? (a.add j) = some u := fun j u hj => by
  have hlt : j < l.length := by
    rcases Nat.lt_or_ge j l.length with h | h
    · exact h
    · rw [List.getElem?_eq_none (by simpa using h)] at hj; cases hj
  obtain ⟨g, o, e, _, hc⟩ := hs j hlt
  cases e
  have e1 : (⟨g, o, none⟩ : Addr).add j = ⟨g, o + j, none⟩ := by unfold Addr.add; split <;> simp_all
  rw [e1, hc]
  rw [List.getElem?_map, List.getElem?_eq_getElem hlt] at hj
  exact hj
/-- Numbers appended to a slice of the call's own. -/
theorem wpList_append_inr {w : World} {ops : Array Oper} {rest : List Oper} {o : Oper} {a : Act} {Q : Exit → Act → World → Prop} (hgd : o.guard = none) (s x : Operand)
    (ho : o.op = .call { callee := .builtin .append, args := #[s, x], argTypes := #[24, 24] }) (base : Nat)
    (v : Value) (k : List Int) (hs : a.eval s = v) (hown : OwI w base v k)
    (P : Option Addr) (n c : Nat) (l : List Int) (hn : n = l.length) (hx : a.eval x = .slice P n c) (hb : InR w P l) (hP : P = none → c = 0)
    (h63 : k.length + l.length ≤ 1000000) (hbase : base ≤ w.heap.size)
    (h : ∀ v' w', OwI w' base v' (k ++ l) → w.grownBy w' v.ownBlock → wpList Tryd.prog ops Q rest (a.put o.dst v') w') : wpList Tryd.prog ops Q (o :: rest) a w := by
  subst hn
  obtain ⟨iB, hiB, hzB0, hzB1, hzB2⟩ := info_parts infoIn
  cases P with
  | none =>
    have hl : l = [] := by
      cases l with
      | nil => rfl
      | cons y l => obtain ⟨_, _, e, _⟩ := hb 0 (by simp); cases e
    subst hl
    rw [hP rfl] at hx
    refine wpList_append_own_none hgd s x 24 ho base 3 iB 1 Tryd.underlying24 hiB v k.length (k.map (Value.int .i64)) hs hown hx ?_
    exact h v w (by rw [List.append_nil]; exact hown) (grown_refl' _ _)
  | some ad =>
    refine wpList_append_own _ hgd s x 24 ho base 3 iB (.int .i64 0) 1 8 Tryd.underlying24 hiB hzB0 hzB1 hzB2 rfl (by decide) v k.length (k.map (Value.int .i64)) hs hown ad l.length c (l.map (Value.int .i64)) hx (by simp) (inr_news hb) (fun u hu => by obtain ⟨x, _, rfl⟩ := List.mem_map.1 hu; rfl) (by unfold maxLen; omega) (by omega) hbase ?_
    intro v' w' h1 h2 _
    refine h v' w' ?_ h2
    unfold OwI
    rw [List.length_append, List.map_append]
    exact h1
theorem OwI.nilcap {W : World} {base : Nat} {P : Option Addr} {n c : Nat} {l : List Int} (h : OwI W base (.slice P n c) l) : P = none → c = 0 := fun e => by
  rcases h.2 with ⟨e1, _⟩ | ⟨g, cap, cur, e1, _⟩
  · injection e1
  · subst e; injection e1 with e1; cases e1
set_option maxRecDepth 100000 in
set_option maxHeartbeats 8000000 in
theorem each_c {W : World} {P Q R : Option Addr} {n k j c d e : Nat} {z x y : List Int} (hn : n = z.length) (hk : k = x.length) (hj : j = y.length) (h8 : n ≤ 100000 ∧ k ≤ 100000 ∧ j ≤ 100000) (hz : InR W P z) (hx : InR W Q x) (hy : InR W R y) (hQ : Q = none → d = 0) (hR : R = none → e = 0) (hup : z.Pairwise (· < ·)) (hin : ∀ t ∈ z, t ∈ x ++ y) :
    Calls Tryd.prog 12 #[.slice P n c, .slice Q k d, .slice R j e] W fun e W' => e = .returned (.bool true) ∧ Below W.heap.size W W' := by
  have HZ := Lib.hid hz
  have HX := Lib.hid hx
  have HY := Lib.hid hy
  have HN := Lib.hid (And.intro hn (And.intro hk hj))
  have HQ := Lib.hid hQ
  have HR := Lib.hid hR
  have HUP := Lib.hid hup
  have HIN := Lib.hid hin
  obtain ⟨hn8, hk8, hj8⟩ := h8
  have HK8 := Lib.hid (And.intro hk8 hj8)
  clear hz hx hy hn hk hj hQ hR hup hin hk8 hj8
  have hnil := OwI.nil W W.heap.size
  go_enter Tryd.func12, Tryd.ntmps12
  go_wp2_with (first
    | (at_builtin; refine wpList_append_inr rfl (.tmp 9) (.tmp 10) rfl W.heap.size (.slice none 0 0) [] rfl hnil Q k d x HN.out.2.1 rfl HX.out HQ.out (by have := HN.out; have := HK8.out; simp; omega) (Nat.le_refl _) ?_; intro v1 w1 hO1 hg1; rw [List.nil_append] at hO1; have hb1 : Below W.heap.size W w1 := (Below.refl _ _).grown hg1 (Nat.le_refl _) (fun j hj => by cases hj); have HY1 := Lib.hid (InR.step HY.out hb1); have HB1 := Lib.hid hb1; have HO1 := Lib.hid hO1; have HV1 := Lib.hid (fun j (hj : v1.ownBlock = some j) => (World.ownsRow.lt hO1 j hj).1); clear hO1 hb1 hg1)
    | (at_builtin; refine wpList_append_inr rfl (.tmp 12) (.tmp 13) rfl W.heap.size _ x rfl HO1.out R j e y HN.out.2.2 rfl HY1.out HR.out (by have := HN.out; have := HK8.out; omega) HB1.out.size ?_; intro v2 w2 hO2 hg2; have HB2 := Lib.hid (HB1.out.grown hg2 HB1.out.size HV1.out); have HO2 := Lib.hid hO2; clear hO2 hg2)
    | fail)
  have hO2 := HO2.out
  obtain ⟨Q2, c2, rfl, hIn2, _, _, _⟩ := hO2.form
  obtain ⟨l2, hl2⟩ : ∃ l2, l2 = (x ++ y).length := ⟨_, rfl⟩
  rw [← hl2]
  have HW2 := Lib.hid (fun (U : World) (hU : Below w2.heap.size w2 U) => within_c (W := U) (c := c) (d := c2) HN.out.1 hl2 ⟨Nat.le_trans hn8 (by decide), by have := HN.out; have := HK8.out; rw [hl2, List.length_append]; omega⟩ (InR.step (InR.step HZ.out HB2.out) hU) (InR.step hIn2 hU) HIN.out)
  clear hO2 hIn2 hl2
  go_wp2_with fail
  go_loopg [8] n (fun gk s8 wx => ∃ r : Nat, r + gk = n + 1 ∧ 1 ≤ r ∧ s8 = .int .i64 r ∧ Hid (Below w2.heap.size w2 wx))
  case atStart => exact ⟨1, by omega, by omega, rfl, Lib.hid (Below.refl _ _)⟩
  case round =>
    obtain ⟨r, hrg, hr1, rfl, HB⟩ := hrel
    by_cases hlt' : r < n
    · have hlt : (r : Int) < (n : Int) := by omega
      obtain ⟨gk', rfl⟩ : ∃ x, gk = x + 1 := ⟨gk - 1, by omega⟩
      have hrl : r < z.length := by have := HN.out; omega
      have h0 : (0 : Int) ≤ (r : Int) := by omega
      have hwr : wrap64 ((r : Int) + 1) = ((r + 1 : Nat) : Int) := by rw [IntWalk.wrap64_in _ (by omega)]; omega
      have hb := HB.out.drew
      have HBD := Lib.hid hb
      have hbz := HB2.out.trans (hb.mono HB2.out.size)
      obtain ⟨q, rfl⟩ : ∃ q, r = q + 1 := ⟨r - 1, by omega⟩
      obtain ⟨g, o, rfl, hg, c1⟩ := (InR.step HZ.out hbz) (q + 1) hrl
      obtain ⟨g', o', e', hg', c2'⟩ := (InR.step HZ.out hbz) q (by omega)
      cases e'
      have hle := List.pairwise_iff_getElem.1 HUP.out q (q + 1) (by omega) hrl (by omega)
      have hq0 : (0 : Int) ≤ (q : Int) := by omega
      have hq1 : (q : Int) < (n : Int) := by omega
      have hqq : (((q + 1 : Nat) : Int) - 1) = (q : Int) := by omega
      generalize z[q + 1] = t1 at c1 hle
      generalize z[q]'(by omega) = t0 at c2' hle
      have hd : decide (t1 ≤ t0) = false := decide_eq_false (by omega)
      have hqw : IntKind.i64.wrap (q : Int) = (q : Int) := IntWalk.i64_in _ (by omega)
      clear hb hbz hg hg' hrl hle hqq
      go_wp2_with fail
      go_region
      all_goals
        clear c1 c2' hd hqw
        go_wp2_with fail
        go_roundg gk'
        case measure => omega
        case rel => exact ⟨q + 1 + 1, by omega, by omega, by first | rw [hwr] | rfl | simp, HBD⟩
    · have hlt : ¬ (r : Int) < (n : Int) := by omega
      clear hlt'
      go_wp2_with fail
      refine (HW2.out wr HB.out).mono ?_
      rintro e w3 ⟨rfl, b3⟩
      have HE := Lib.hid (HB2.out.trans ((HB.out.trans (b3.mono HB.out.size)).mono HB2.out.size))
      clear b3
      go_wp2_with fail
      go_ret
      exact ⟨rfl, HE.out⟩
end Go.Proofs.YtioahgklplbinaaDoor
