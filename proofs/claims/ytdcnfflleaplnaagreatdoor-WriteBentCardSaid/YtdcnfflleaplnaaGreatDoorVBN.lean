/- VBentP, VBent, in one text. -/
import Derived.Test.YtdcnfflleaplnaaGreatDoorVRead
import Derived.Test.YtdcnfflleaplnaaGreatDoorVREF
import Derived.Test.YtdcnfflleaplnaaGreatDoorVND
/- Nodes that are bent in one place: how they read in memory, how long their texts are. -/
namespace Go.Proofs.YtdcnfflleaplnaaGreatDoor
open Go.RowKit Go.Shelf Go.Maps SetM PropsM RxM WrM
def bentK (k' : Nat) : Ns → Ns
  | .mk _ sl kids mn mx => .mk k' sl kids mn mx
def bentS (sl' : List Sp) : Ns → Ns
  | .mk k _ kids mn mx => .mk k sl' kids mn mx
def bentL (mn' : Int) : Ns → Ns
  | .mk k sl kids _ mx => .mk k sl kids mn' mx
def bentM (mx' : Int) : Ns → Ns
  | .mk k sl kids mn _ => .mk k sl kids mn mx'
/-- What Write needs of a tree. -/
structure BentU (u : Ns) : Prop where
  wd : WdT u
  lim : Lim 100000 u
  cnt : cntN (nd u) ≤ 3000
theorem BentU.len {u : Ns} (h : BentU u) (hs : SndAt u 0) : (txt u).length ≤ 140737488355328 := by
  have h1 := txt_len 100000 u hs.1 h.lim
  have h2 : cntN (nd u) * wid 100000 ≤ 3000 * wid 100000 := Nat.mul_le_mul_right _ h.cnt
  have h3 : (3000 : Nat) * wid 100000 ≤ 140737488355328 := by decide
  omega
theorem BentU.kind {u : Ns} (h : BentU u) (k' : Nat) : BentU (bentK k' u) := by
  obtain ⟨k, sl, kids, mn, mx⟩ := u
  obtain ⟨h1, h2, h3⟩ := h
  rw [wd_mk] at h1
  rw [lim_mk] at h2
  rw [nd_mk, cntN_mk] at h3
  exact ⟨by rw [bentK, wd_mk]; exact h1, by rw [bentK, lim_mk]; exact h2, by rw [bentK, nd_mk, cntN_mk]; exact h3⟩
theorem BentU.low {u : Ns} (h : BentU u) (x : Int) : BentU (bentL x u) := by
  obtain ⟨k, sl, kids, mn, mx⟩ := u
  obtain ⟨h1, h2, h3⟩ := h
  rw [wd_mk] at h1
  rw [lim_mk] at h2
  rw [nd_mk, cntN_mk] at h3
  exact ⟨by rw [bentL, wd_mk]; exact h1, by rw [bentL, lim_mk]; exact h2, by rw [bentL, nd_mk, cntN_mk]; exact h3⟩
theorem BentU.high {u : Ns} (h : BentU u) (x : Int) : BentU (bentM x u) := by
  obtain ⟨k, sl, kids, mn, mx⟩ := u
  obtain ⟨h1, h2, h3⟩ := h
  rw [wd_mk] at h1
  rw [lim_mk] at h2
  rw [nd_mk, cntN_mk] at h3
  exact ⟨by rw [bentM, wd_mk]; exact h1, by rw [bentM, lim_mk]; exact h2, by rw [bentM, nd_mk, cntN_mk]; exact h3⟩
theorem BentU.set {u : Ns} (h : BentU u) {l : List Sp} (hw : Wide l) (hl : l.length ≤ 100000) : BentU (bentS l u) := by
  obtain ⟨k, sl, kids, mn, mx⟩ := u
  obtain ⟨h1, h2, h3⟩ := h
  rw [wd_mk] at h1
  rw [lim_mk] at h2
  rw [nd_mk, cntN_mk] at h3
  exact ⟨by rw [bentS, wd_mk]; exact ⟨hw, h1.2⟩, by rw [bentS, lim_mk]; exact ⟨hl, h2.2⟩, by rw [bentS, nd_mk, cntN_mk]; exact h3⟩
theorem wide_nil : Wide [] := fun s hs => by cases hs
theorem bent_one {u : Ns} (hw : WdT u) (hl : Lim 100000 u) (hc : cntN (nd u) ≤ 1401) (k : Nat) (mn mx : Int) : BentU (.mk k [] [u] mn mx) :=
  ⟨by rw [wd_mk, wdL_iff]; exact ⟨wide_nil, fun x hx => by simp at hx; subst hx; exact hw⟩, by rw [lim_mk, limL_iff]; exact ⟨by simp, fun x hx => by simp at hx; subst hx; exact hl⟩, by rw [nd_mk, cntN_mk, ndL, ndL, cntL_cons, cntL_nil]; omega⟩
theorem bent_two {u : Ns} (hw : WdT u) (hl : Lim 100000 u) (hc : cntN (nd u) ≤ 1401) (k : Nat) (mn mx : Int) : BentU (.mk k [] [u, u] mn mx) :=
  ⟨by rw [wd_mk, wdL_iff]; exact ⟨wide_nil, fun x hx => by simp at hx; subst hx; exact hw⟩, by rw [lim_mk, limL_iff]; exact ⟨by simp, fun x hx => by simp at hx; subst hx; exact hl⟩, by rw [nd_mk, cntN_mk, ndL, ndL, ndL, cntL_cons, cntL_cons, cntL_nil]; omega⟩
/-! In memory. -/
theorem agg5 {a b c d e a' b' c' d' e' : Value} (h : Value.agg #[a, b, c, d, e] = .agg #[a', b', c', d', e']) : a = a' ∧ b = b' ∧ c = c' ∧ d = d' ∧ e = e' := by
  injection h with h
  injection h with h
  simpa using h
theorem RV.kind {W : World} {a b c d e : Value} {u : Ns} (h : RV W (.agg #[a, b, c, d, e]) u) (k' : Nat) : RV W (.agg #[.int .u8 k', b, c, d, e]) (bentK k' u) := by
  obtain ⟨k, sl, kids, mn, mx⟩ := u
  obtain ⟨n, hn⟩ := h
  cases n with
  | zero => exact hn.elim
  | succ n =>
    obtain ⟨sp, sc, kp, kc, e1, h1⟩ := hn
    obtain ⟨rfl, rfl, rfl, rfl, rfl⟩ := agg5 e1
    exact ⟨n + 1, sp, sc, kp, kc, rfl, h1⟩
theorem RV.low {W : World} {a b c d e : Value} {u : Ns} (h : RV W (.agg #[a, b, c, d, e]) u) (x : Int) : RV W (.agg #[a, b, c, .int .i64 x, e]) (bentL x u) := by
  obtain ⟨k, sl, kids, mn, mx⟩ := u
  obtain ⟨n, hn⟩ := h
  cases n with
  | zero => exact hn.elim
  | succ n =>
    obtain ⟨sp, sc, kp, kc, e1, h1⟩ := hn
    obtain ⟨rfl, rfl, rfl, rfl, rfl⟩ := agg5 e1
    exact ⟨n + 1, sp, sc, kp, kc, rfl, h1⟩
theorem RV.high {W : World} {a b c d e : Value} {u : Ns} (h : RV W (.agg #[a, b, c, d, e]) u) (x : Int) : RV W (.agg #[a, b, c, d, .int .i64 x]) (bentM x u) := by
  obtain ⟨k, sl, kids, mn, mx⟩ := u
  obtain ⟨n, hn⟩ := h
  cases n with
  | zero => exact hn.elim
  | succ n =>
    obtain ⟨sp, sc, kp, kc, e1, h1⟩ := hn
    obtain ⟨rfl, rfl, rfl, rfl, rfl⟩ := agg5 e1
    exact ⟨n + 1, sp, sc, kp, kc, rfl, h1⟩
theorem RV.set {W : World} {a b c d e : Value} {u : Ns} (h : RV W (.agg #[a, b, c, d, e]) u) {l : List Sp} {P : Option Addr} {pc : Nat} (hl : l.length ≤ 100000) (hs : Sl W P l) (hz : P = none → pc = 0) : RV W (.agg #[a, .slice P l.length pc, c, d, e]) (bentS l u) := by
  obtain ⟨k, sl, kids, mn, mx⟩ := u
  obtain ⟨n, hn⟩ := h
  cases n with
  | zero => exact hn.elim
  | succ n =>
    obtain ⟨sp, sc, kp, kc, e1, hl1, hs1, hz1, h1⟩ := hn
    obtain ⟨rfl, rfl, rfl, rfl, rfl⟩ := agg5 e1
    exact ⟨n + 1, P, pc, kp, kc, rfl, ⟨hl, hl1.2⟩, hs, hz, h1⟩
/-- A node over a row of one, or two, of one node. -/
theorem RV.one {W : World} {a b c d e : Value} {u : Ns} (h : RV W (.agg #[a, b, c, d, e]) u) {g : Nat} (hg : W.heap[g]? = some (.cells #[a, b, c, d, e] 26 (0, 0))) (k : Nat) (mn mx : Int) :
    RV W (.agg #[.int .u8 k, .slice none 0 0, .slice (some ⟨g, 0, none⟩) 1 1, .int .i64 mn, .int .i64 mx]) (.mk k [] [u] mn mx) := by
  obtain ⟨n, hn⟩ := h
  refine ⟨n + 1, none, 0, some ⟨g, 0, none⟩, 1, rfl, by simp, fun h => absurd rfl h, fun _ => rfl, fun _ => ⟨g, rfl, ⟨_, hg⟩, fun i hi => ?_⟩⟩
  obtain rfl : i = 0 := by simp at hi; exact hi
  refine ⟨_, hn, fun j hj => ?_⟩
  rw [cell_of_row W g (0 * 5 + j) _ _ _ hg]
  match j, hj with
  | 0, _ => rfl
  | 1, _ => rfl
  | 2, _ => rfl
  | 3, _ => rfl
  | 4, _ => rfl
theorem RV.two {W : World} {a b c d e : Value} {u : Ns} (h : RV W (.agg #[a, b, c, d, e]) u) {g : Nat} (hg : W.heap[g]? = some (.cells #[a, b, c, d, e, a, b, c, d, e] 26 (0, 0))) (k : Nat) (mn mx : Int) :
    RV W (.agg #[.int .u8 k, .slice none 0 0, .slice (some ⟨g, 0, none⟩) 2 2, .int .i64 mn, .int .i64 mx]) (.mk k [] [u, u] mn mx) := by
  obtain ⟨n, hn⟩ := h
  refine ⟨n + 1, none, 0, some ⟨g, 0, none⟩, 2, rfl, by simp, fun h => absurd rfl h, fun _ => rfl, fun _ => ⟨g, rfl, ⟨_, hg⟩, fun i hi => ?_⟩⟩
  have hi2 : i = 0 ∨ i = 1 := by simp at hi; omega
  rcases hi2 with rfl | rfl
  · refine ⟨_, hn, fun j hj => ?_⟩
    rw [cell_of_row W g (0 * 5 + j) _ _ _ hg]
    match j, hj with
    | 0, _ => rfl
    | 1, _ => rfl
    | 2, _ => rfl
    | 3, _ => rfl
    | 4, _ => rfl
  · refine ⟨_, hn, fun j hj => ?_⟩
    rw [cell_of_row W g (1 * 5 + j) _ _ _ hg]
    match j, hj with
    | 0, _ => rfl
    | 1, _ => rfl
    | 2, _ => rfl
    | 3, _ => rfl
    | 4, _ => rfl
end Go.Proofs.YtdcnfflleaplnaaGreatDoor

/- The walk of WriteBent. -/
namespace Go.Proofs.YtdcnfflleaplnaaGreatDoor
open Go.RowKit Go.Shelf Go.Maps SetM PropsM RxM WrM
/-- The variable's block, as it was laid. -/
structure VarB (w1 V : World) (a b c d e : Value) : Prop where
  blk : V.heap[w1.heap.size]? = some (.cells #[a, b, c, d, e] 26 (0, 0))
  bel : Below w1.heap.size w1 V
theorem VarB.lt {w1 V : World} {a b c d e : Value} (h : VarB w1 V a b c d e) : w1.heap.size < V.heap.size := (Array.getElem?_eq_some_iff.1 h.blk).1
set_option maxRecDepth 100000 in
set_option maxHeartbeats 16000000 in
theorem writeBent_any (A : Option Addr) (cs : List Int) (ca : Nat) (kd : Int) (hkd : 0 ≤ kd ∧ kd ≤ 255) (lo hi : Int) (P : Option Addr) (l : List Sp) (pc : Nat) (how : Int) (hho : 0 ≤ how ∧ how ≤ 255) (w : World) (hU : U8s w.heap.size w A cs) (hS : Sl w P l) (hZ : P = none → pc = 0) (hl63 : l.length ≤ 9223372036854775807) (hW : Wide l) (hT : Tb w) :
    Calls Tryz.prog 5 #[.slice A cs.length ca, .int .u8 kd, .int .i64 lo, .int .i64 hi, .slice P l.length pc, .int .u8 how] w fun e w' => e = .returned (.bool true) ∧ Below w.heap.size w w' := by
  have HN := Lib.hid (fun U (hb : Below w.heap.size w U) => node_u A ca cs U ((hU.below hb).up hb.size))
  have HT := Lib.hid hT
  have HK := Lib.hid (known7 hT)
  have HLL : Hid (l.length ≤ 20 → l.length ≤ 100000) := Lib.hid (by omega)
  have HSL0 : Hid (l.length ≤ 100000 → ∀ U, Below w.heap.size w U → ∀ a b c d e u, RV U (.agg #[a, b, c, d, e]) u → RV U (.agg #[a, .slice P l.length pc, c, d, e]) (bentS l u)) := Lib.hid (fun h U hU a b c d e u hr => hr.set h (hS.step hU) hZ)
  have HWD := Lib.hid hW
  obtain ⟨n, hn⟩ : ∃ n, n = cs.length := ⟨_, rfl⟩
  obtain ⟨m, hm⟩ : ∃ m, m = l.length := ⟨_, rfl⟩
  rw [← hn] at HN ⊢
  rw [← hm] at HSL0 ⊢
  have HM := Lib.hid hm
  obtain ⟨k7, h7, hk7⟩ : ∃ k7 : Nat, kd.tmod 7 = (k7 : Int) ∧ k7 < 7 := ⟨(kd.tmod 7).toNat, by rw [Int.tmod_eq_emod_of_nonneg hkd.1]; omega, by rw [Int.tmod_eq_emod_of_nonneg hkd.1]; omega⟩
  have hw7 : IntKind.u8.wrap (k7 : Int) = (k7 : Int) := IntWalk.u8_in _ (by omega)
  have hsix : how.tmod 6 = 0 ∨ how.tmod 6 = 1 ∨ how.tmod 6 = 2 ∨ how.tmod 6 = 3 ∨ how.tmod 6 = 4 ∨ how.tmod 6 = 5 := by rw [Int.tmod_eq_emod_of_nonneg hho.1]; omega
  have HSIX := Lib.hid hsix
  clear hU hT hS hZ hW hn hkd hho hsix
  go_enter Tryz.func5, Tryz.ntmps5
  by_cases hgt : 20 < m
  · have h1 : (20 : Int) < (m : Int) := by omega
    have h2 : (m : Int) > 20 := h1
    clear hm hgt
    go_wp2_with fail
    refine HK.out.mono ?_
    rintro e w1 ⟨rfl, b1⟩
    have HE := Lib.hid b1
    clear b1
    go_wp2
    go_ret
    exact ⟨rfl, HE.out⟩
  have h1 : ¬ (20 : Int) < (m : Int) := by omega
  have h2 : ¬ (m : Int) > 20 := h1
  have HLL : Hid (l.length ≤ 100000) := Lib.hid (by omega)
  have HSL : Hid (∀ U, Below w.heap.size w U → ∀ a b c d e u, RV U (.agg #[a, b, c, d, e]) u → RV U (.agg #[a, .slice P m pc, c, d, e]) (bentS l u)) := Lib.hid (HSL0.out (by omega))
  clear hm hgt HSL0
  go_wp2_with fail
  refine HK.out.mono ?_
  rintro e w0 ⟨rfl, b0⟩
  have HB0 := Lib.hid b0
  clear b0
  go_wp2_with fail
  refine (HN.out w0 HB0.out).mono ?_
  rintro e w1 ⟨v, u, rfl, hv, hu, _, b1⟩
  obtain ⟨kk, sp, sn, sc, kp, kn, kc, mn, mx, rfl⟩ := hv.form5
  have hal := (Below.refl w1.heap.size w1).alloc (Nat.le_refl _) (.cells #[.int .u8 kk, .slice sp sn sc, .slice kp kn kc, .int .i64 mn, .int .i64 mx] 26)
  have hx1 := heap_alloc_new w1 (.cells #[.int .u8 kk, .slice sp sn sc, .slice kp kn kc, .int .i64 mn, .int .i64 mx] 26)
  obtain ⟨V, hV⟩ : ∃ V, V = w1.alloc (.cells #[.int .u8 kk, .slice sp sn sc, .slice kp kn kc, .int .i64 mn, .int .i64 mx] 26) := ⟨_, rfl⟩
  rw [← hV] at hal hx1
  obtain ⟨k0, k1, k2, k3, k4⟩ := Nd5.of hx1 (Below.refl _ _)
  have h5 : B5 V w1.heap.size := ⟨_, _, _, _, _, hx1⟩
  obtain ⟨_, f0, f1, f2, f3, f4⟩ := h5.cells
  have H5 := Lib.hid h5
  have HRV := Lib.hid hv
  have HX1 : Hid (VarB w1 V _ _ _ _ _) := Lib.hid ⟨hx1, hal⟩
  have HBT : Hid (Below w.heap.size w w1 ∧ Tb w1) := Lib.hid (by
    have hb := HB0.out.trans (b1.mono HB0.out.size)
    exact ⟨hb, HT.out.step hb⟩)
  have hbt : BentU u := ⟨hu.wd, hu.lim, Nat.le_trans hu.cnt (by decide)⟩
  have hbt1 := hu.cnt
  clear hv b1 hal hx1 HN HT HK HB0 h5
  go_upto_region 4 with fail
  rw [← hV]
  clear hV
  rcases HSIX.out with h6 | h6 | h6 | h6 | h6 | h6
  · obtain ⟨Y, hY⟩ : ∃ Y, Y = V.setCell ⟨w1.heap.size, 0, none⟩ (.int .u8 k7) := ⟨_, rfl⟩
    have hx : Y.heap[w1.heap.size]? = some (.cells #[.int .u8 k7, .slice sp sn sc, .slice kp kn kc, .int .i64 mn, .int .i64 mx] 26 (0, 0)) := by
      rw [hY]
      exact heap_setC V w1.heap.size _ _ HX1.out.blk 0 _
    have hb : Below w1.heap.size w1 Y := by
      rw [hY]
      exact HX1.out.bel.setCell (Nat.le_refl _) _
    have hrv : RV Y (.agg #[.int .u8 k7, .slice sp sn sc, .slice kp kn kc, .int .i64 mn, .int .i64 mx]) (bentK k7 u) := (HRV.out.step hb).kind k7
    have HC := Lib.hid (fun U (hU : Below Y.heap.size Y U) => Nd5.of hx hU)
    have HBO := Lib.hid (Both.of (HBT.out.2.step hb) hrv (hbt.kind k7).wd (hbt.kind k7).len)
    have HB := Lib.hid (HBT.out.1.trans (hb.mono HBT.out.1.size))
    clear hx hb hrv hbt
    go_upto_region 16 with fail
    try unfold put5 at hY
    rw [← hY]
    clear hY k0 k1 k2 k3 k4 f0 f1 f2 f3 f4 HRV HBT HX1
    generalize strOf (wrT _) = S at HBO
    generalize sndB _ 0 = q at HBO
    have hr : Below Y.heap.size Y Y.drew := (Below.refl _ _).drew
    go_region_held3 (fun U => U.cell? ⟨w1.heap.size, 0, none⟩ = some (.int .u8 k7) ∧ U.cell? ⟨w1.heap.size, 1, none⟩ = some (.slice sp sn sc) ∧ U.cell? ⟨w1.heap.size, 2, none⟩ = some (.slice kp kn kc) ∧ U.cell? ⟨w1.heap.size, 3, none⟩ = some (.int .i64 mn) ∧ U.cell? ⟨w1.heap.size, 4, none⟩ = some (.int .i64 mx))
      (exact HC.out _ hr)
      (first
        | (go_at_call 10; (refine (HBO.out.w _ hr).mono ?_); rintro e w3 ⟨rfl, b3⟩; have hr := hr.trans (b3.mono hr.size))
        | (go_at_call 11; (refine (HBO.out.rw' _ hr).mono ?_); rintro e w3 ⟨rfl, b3⟩; have hr := hr.trans (b3.mono hr.size))
        | (go_at_call 12; (refine (HBO.out.s _ hr).mono ?_); rintro e w3 ⟨rfl, b3⟩; have hr := hr.trans (b3.mono hr.size))
        | (go_at_call 13; (refine (HBO.out.rs _ hr).mono ?_); rintro e w3 ⟨rfl, b3⟩; have hr := hr.trans (b3.mono hr.size)))
    all_goals
      have HE := Lib.hid (HB.out.trans (hr.mono HB.out.size))
      clear hr
      go_wp2
      go_ret
      exact ⟨rfl, HE.out⟩
  · obtain ⟨Y, hY⟩ : ∃ Y, Y = V.setCell ⟨w1.heap.size, 3, none⟩ (.int .i64 lo) := ⟨_, rfl⟩
    have hx : Y.heap[w1.heap.size]? = some (.cells #[.int .u8 kk, .slice sp sn sc, .slice kp kn kc, .int .i64 lo, .int .i64 mx] 26 (0, 0)) := by
      rw [hY]
      exact heap_setC V w1.heap.size _ _ HX1.out.blk 3 _
    have hb : Below w1.heap.size w1 Y := by
      rw [hY]
      exact HX1.out.bel.setCell (Nat.le_refl _) _
    have hrv : RV Y (.agg #[.int .u8 kk, .slice sp sn sc, .slice kp kn kc, .int .i64 lo, .int .i64 mx]) (bentL lo u) := (HRV.out.step hb).low lo
    have HC := Lib.hid (fun U (hU : Below Y.heap.size Y U) => Nd5.of hx hU)
    have HBO := Lib.hid (Both.of (HBT.out.2.step hb) hrv (hbt.low lo).wd (hbt.low lo).len)
    have HB := Lib.hid (HBT.out.1.trans (hb.mono HBT.out.1.size))
    clear hx hb hrv hbt
    go_upto_region 16 with fail
    try unfold put5 at hY
    rw [← hY]
    clear hY k0 k1 k2 k3 k4 f0 f1 f2 f3 f4 HRV HBT HX1
    generalize strOf (wrT _) = S at HBO
    generalize sndB _ 0 = q at HBO
    have hr : Below Y.heap.size Y Y.drew := (Below.refl _ _).drew
    go_region_held3 (fun U => U.cell? ⟨w1.heap.size, 0, none⟩ = some (.int .u8 kk) ∧ U.cell? ⟨w1.heap.size, 1, none⟩ = some (.slice sp sn sc) ∧ U.cell? ⟨w1.heap.size, 2, none⟩ = some (.slice kp kn kc) ∧ U.cell? ⟨w1.heap.size, 3, none⟩ = some (.int .i64 lo) ∧ U.cell? ⟨w1.heap.size, 4, none⟩ = some (.int .i64 mx))
      (exact HC.out _ hr)
      (first
        | (go_at_call 10; (refine (HBO.out.w _ hr).mono ?_); rintro e w3 ⟨rfl, b3⟩; have hr := hr.trans (b3.mono hr.size))
        | (go_at_call 11; (refine (HBO.out.rw' _ hr).mono ?_); rintro e w3 ⟨rfl, b3⟩; have hr := hr.trans (b3.mono hr.size))
        | (go_at_call 12; (refine (HBO.out.s _ hr).mono ?_); rintro e w3 ⟨rfl, b3⟩; have hr := hr.trans (b3.mono hr.size))
        | (go_at_call 13; (refine (HBO.out.rs _ hr).mono ?_); rintro e w3 ⟨rfl, b3⟩; have hr := hr.trans (b3.mono hr.size)))
    all_goals
      have HE := Lib.hid (HB.out.trans (hr.mono HB.out.size))
      clear hr
      go_wp2
      go_ret
      exact ⟨rfl, HE.out⟩
  · obtain ⟨Y, hY⟩ : ∃ Y, Y = V.setCell ⟨w1.heap.size, 4, none⟩ (.int .i64 hi) := ⟨_, rfl⟩
    have hx : Y.heap[w1.heap.size]? = some (.cells #[.int .u8 kk, .slice sp sn sc, .slice kp kn kc, .int .i64 mn, .int .i64 hi] 26 (0, 0)) := by
      rw [hY]
      exact heap_setC V w1.heap.size _ _ HX1.out.blk 4 _
    have hb : Below w1.heap.size w1 Y := by
      rw [hY]
      exact HX1.out.bel.setCell (Nat.le_refl _) _
    have hrv : RV Y (.agg #[.int .u8 kk, .slice sp sn sc, .slice kp kn kc, .int .i64 mn, .int .i64 hi]) (bentM hi u) := (HRV.out.step hb).high hi
    have HC := Lib.hid (fun U (hU : Below Y.heap.size Y U) => Nd5.of hx hU)
    have HBO := Lib.hid (Both.of (HBT.out.2.step hb) hrv (hbt.high hi).wd (hbt.high hi).len)
    have HB := Lib.hid (HBT.out.1.trans (hb.mono HBT.out.1.size))
    clear hx hb hrv hbt
    go_upto_region 16 with fail
    try unfold put5 at hY
    rw [← hY]
    clear hY k0 k1 k2 k3 k4 f0 f1 f2 f3 f4 HRV HBT HX1
    generalize strOf (wrT _) = S at HBO
    generalize sndB _ 0 = q at HBO
    have hr : Below Y.heap.size Y Y.drew := (Below.refl _ _).drew
    go_region_held3 (fun U => U.cell? ⟨w1.heap.size, 0, none⟩ = some (.int .u8 kk) ∧ U.cell? ⟨w1.heap.size, 1, none⟩ = some (.slice sp sn sc) ∧ U.cell? ⟨w1.heap.size, 2, none⟩ = some (.slice kp kn kc) ∧ U.cell? ⟨w1.heap.size, 3, none⟩ = some (.int .i64 mn) ∧ U.cell? ⟨w1.heap.size, 4, none⟩ = some (.int .i64 hi))
      (exact HC.out _ hr)
      (first
        | (go_at_call 10; (refine (HBO.out.w _ hr).mono ?_); rintro e w3 ⟨rfl, b3⟩; have hr := hr.trans (b3.mono hr.size))
        | (go_at_call 11; (refine (HBO.out.rw' _ hr).mono ?_); rintro e w3 ⟨rfl, b3⟩; have hr := hr.trans (b3.mono hr.size))
        | (go_at_call 12; (refine (HBO.out.s _ hr).mono ?_); rintro e w3 ⟨rfl, b3⟩; have hr := hr.trans (b3.mono hr.size))
        | (go_at_call 13; (refine (HBO.out.rs _ hr).mono ?_); rintro e w3 ⟨rfl, b3⟩; have hr := hr.trans (b3.mono hr.size)))
    all_goals
      have HE := Lib.hid (HB.out.trans (hr.mono HB.out.size))
      clear hr
      go_wp2
      go_ret
      exact ⟨rfl, HE.out⟩
  · obtain ⟨Y, hY⟩ : ∃ Y, Y = V.setCell ⟨w1.heap.size, 1, none⟩ (.slice P m pc) := ⟨_, rfl⟩
    have hx : Y.heap[w1.heap.size]? = some (.cells #[.int .u8 kk, .slice P m pc, .slice kp kn kc, .int .i64 mn, .int .i64 mx] 26 (0, 0)) := by
      rw [hY]
      exact heap_setC V w1.heap.size _ _ HX1.out.blk 1 _
    have hb : Below w1.heap.size w1 Y := by
      rw [hY]
      exact HX1.out.bel.setCell (Nat.le_refl _) _
    have hrv : RV Y (.agg #[.int .u8 kk, .slice P m pc, .slice kp kn kc, .int .i64 mn, .int .i64 mx]) (bentS l u) := HSL.out Y (HBT.out.1.trans (hb.mono HBT.out.1.size)) _ _ _ _ _ u (HRV.out.step hb)
    have HC := Lib.hid (fun U (hU : Below Y.heap.size Y U) => Nd5.of hx hU)
    have HBO := Lib.hid (Both.of (HBT.out.2.step hb) hrv (hbt.set HWD.out HLL.out).wd (hbt.set HWD.out HLL.out).len)
    have HB := Lib.hid (HBT.out.1.trans (hb.mono HBT.out.1.size))
    clear hx hb hrv hbt
    go_upto_region 16 with fail
    try unfold put5 at hY
    rw [← hY]
    clear hY k0 k1 k2 k3 k4 f0 f1 f2 f3 f4 HRV HBT HX1
    generalize strOf (wrT _) = S at HBO
    generalize sndB _ 0 = q at HBO
    have hr : Below Y.heap.size Y Y.drew := (Below.refl _ _).drew
    go_region_held3 (fun U => U.cell? ⟨w1.heap.size, 0, none⟩ = some (.int .u8 kk) ∧ U.cell? ⟨w1.heap.size, 1, none⟩ = some (.slice P m pc) ∧ U.cell? ⟨w1.heap.size, 2, none⟩ = some (.slice kp kn kc) ∧ U.cell? ⟨w1.heap.size, 3, none⟩ = some (.int .i64 mn) ∧ U.cell? ⟨w1.heap.size, 4, none⟩ = some (.int .i64 mx))
      (exact HC.out _ hr)
      (first
        | (go_at_call 10; (refine (HBO.out.w _ hr).mono ?_); rintro e w3 ⟨rfl, b3⟩; have hr := hr.trans (b3.mono hr.size))
        | (go_at_call 11; (refine (HBO.out.rw' _ hr).mono ?_); rintro e w3 ⟨rfl, b3⟩; have hr := hr.trans (b3.mono hr.size))
        | (go_at_call 12; (refine (HBO.out.s _ hr).mono ?_); rintro e w3 ⟨rfl, b3⟩; have hr := hr.trans (b3.mono hr.size))
        | (go_at_call 13; (refine (HBO.out.rs _ hr).mono ?_); rintro e w3 ⟨rfl, b3⟩; have hr := hr.trans (b3.mono hr.size)))
    all_goals
      have HE := Lib.hid (HB.out.trans (hr.mono HB.out.size))
      clear hr
      go_wp2
      go_ret
      exact ⟨rfl, HE.out⟩
  · have hB5 : B5 (V.alloc (.cells #[.int .u8 kk, .slice sp sn sc, .slice kp kn kc, .int .i64 mn, .int .i64 mx] 26)) w1.heap.size := H5.out.gr (R := V.heap.size) (Gr.of ((Below.refl V.heap.size V).alloc (Nat.le_refl _) _)) (Nat.ne_of_lt HX1.out.lt)
    obtain ⟨⟨y0, y1, y2, y3, y4, q0, q1, q2, q3, q4⟩, g0, g1, g2, g3, g4⟩ := hB5.cells
    clear hB5
    obtain ⟨Y, hY⟩ : ∃ Y, Y = put5 (V.alloc (.cells #[.int .u8 kk, .slice sp sn sc, .slice kp kn kc, .int .i64 mn, .int .i64 mx] 26)) w1.heap.size (.int .u8 k7) (.slice none 0 0) (.slice (some ⟨V.heap.size, 0, none⟩) 1 1) (.int .i64 lo) (.int .i64 hi) := ⟨_, rfl⟩
    have hx : Y.heap[w1.heap.size]? = some (.cells #[.int .u8 k7, .slice none 0 0, .slice (some ⟨V.heap.size, 0, none⟩) 1 1, .int .i64 lo, .int .i64 hi] 26 (0, 0)) := by
      rw [hY]
      exact put5_b5 _ _ _ _ _ ⟨_, _, _, _, _, (((Below.refl V.heap.size V).alloc (Nat.le_refl _) _).block w1.heap.size HX1.out.lt).trans HX1.out.blk⟩
    have hb : Below w1.heap.size w1 Y := by
      rw [hY]
      exact (put5_below _ _ _ _ _ (HX1.out.bel.alloc (Nat.le_trans HX1.out.bel.size (Nat.le_refl _)) _) (Nat.le_refl _))
    have hrv : RV Y (.agg #[.int .u8 k7, .slice none 0 0, .slice (some ⟨V.heap.size, 0, none⟩) 1 1, .int .i64 lo, .int .i64 hi]) (.mk k7 [] [u] lo hi) := (HRV.out.step hb).one (by rw [hY]; exact (put5_block _ _ _ _ _ _ _ V.heap.size (Nat.ne_of_gt HX1.out.lt)).trans (heap_alloc_new V _)) k7 lo hi
    have HC := Lib.hid (fun U (hU : Below Y.heap.size Y U) => Nd5.of hx hU)
    have HBO := Lib.hid (Both.of (HBT.out.2.step hb) hrv (bent_one hbt.wd hbt.lim hbt1 k7 lo hi).wd (bent_one hbt.wd hbt.lim hbt1 k7 lo hi).len)
    have HB := Lib.hid (HBT.out.1.trans (hb.mono HBT.out.1.size))
    clear hx hb hrv hbt
    go_upto_region 16 with fail
    try unfold put5 at hY
    rw [← hY]
    clear hY k0 k1 k2 k3 k4 f0 f1 f2 f3 f4 HRV HBT HX1
    generalize strOf (wrT _) = S at HBO
    generalize sndB _ 0 = q at HBO
    have hr : Below Y.heap.size Y Y.drew := (Below.refl _ _).drew
    go_region_held3 (fun U => U.cell? ⟨w1.heap.size, 0, none⟩ = some (.int .u8 k7) ∧ U.cell? ⟨w1.heap.size, 1, none⟩ = some (.slice none 0 0) ∧ U.cell? ⟨w1.heap.size, 2, none⟩ = some (.slice (some ⟨V.heap.size, 0, none⟩) 1 1) ∧ U.cell? ⟨w1.heap.size, 3, none⟩ = some (.int .i64 lo) ∧ U.cell? ⟨w1.heap.size, 4, none⟩ = some (.int .i64 hi))
      (exact HC.out _ hr)
      (first
        | (go_at_call 10; (refine (HBO.out.w _ hr).mono ?_); rintro e w3 ⟨rfl, b3⟩; have hr := hr.trans (b3.mono hr.size))
        | (go_at_call 11; (refine (HBO.out.rw' _ hr).mono ?_); rintro e w3 ⟨rfl, b3⟩; have hr := hr.trans (b3.mono hr.size))
        | (go_at_call 12; (refine (HBO.out.s _ hr).mono ?_); rintro e w3 ⟨rfl, b3⟩; have hr := hr.trans (b3.mono hr.size))
        | (go_at_call 13; (refine (HBO.out.rs _ hr).mono ?_); rintro e w3 ⟨rfl, b3⟩; have hr := hr.trans (b3.mono hr.size)))
    all_goals
      have HE := Lib.hid (HB.out.trans (hr.mono HB.out.size))
      clear hr
      go_wp2
      go_ret
      exact ⟨rfl, HE.out⟩
  · have hB5 : B5 (V.alloc (.cells #[.int .u8 kk, .slice sp sn sc, .slice kp kn kc, .int .i64 mn, .int .i64 mx, .int .u8 kk, .slice sp sn sc, .slice kp kn kc, .int .i64 mn, .int .i64 mx] 26)) w1.heap.size := H5.out.gr (R := V.heap.size) (Gr.of ((Below.refl V.heap.size V).alloc (Nat.le_refl _) _)) (Nat.ne_of_lt HX1.out.lt)
    obtain ⟨⟨y0, y1, y2, y3, y4, q0, q1, q2, q3, q4⟩, g0, g1, g2, g3, g4⟩ := hB5.cells
    clear hB5
    obtain ⟨Y, hY⟩ : ∃ Y, Y = put5 (V.alloc (.cells #[.int .u8 kk, .slice sp sn sc, .slice kp kn kc, .int .i64 mn, .int .i64 mx, .int .u8 kk, .slice sp sn sc, .slice kp kn kc, .int .i64 mn, .int .i64 mx] 26)) w1.heap.size (.int .u8 k7) (.slice none 0 0) (.slice (some ⟨V.heap.size, 0, none⟩) 2 2) (.int .i64 0) (.int .i64 0) := ⟨_, rfl⟩
    have hx : Y.heap[w1.heap.size]? = some (.cells #[.int .u8 k7, .slice none 0 0, .slice (some ⟨V.heap.size, 0, none⟩) 2 2, .int .i64 0, .int .i64 0] 26 (0, 0)) := by
      rw [hY]
      exact put5_b5 _ _ _ _ _ ⟨_, _, _, _, _, (((Below.refl V.heap.size V).alloc (Nat.le_refl _) _).block w1.heap.size HX1.out.lt).trans HX1.out.blk⟩
    have hb : Below w1.heap.size w1 Y := by
      rw [hY]
      exact (put5_below _ _ _ _ _ (HX1.out.bel.alloc (Nat.le_trans HX1.out.bel.size (Nat.le_refl _)) _) (Nat.le_refl _))
    have hrv : RV Y (.agg #[.int .u8 k7, .slice none 0 0, .slice (some ⟨V.heap.size, 0, none⟩) 2 2, .int .i64 0, .int .i64 0]) (.mk k7 [] [u, u] 0 0) := (HRV.out.step hb).two (by rw [hY]; exact (put5_block _ _ _ _ _ _ _ V.heap.size (Nat.ne_of_gt HX1.out.lt)).trans (heap_alloc_new V _)) k7 0 0
    have HC := Lib.hid (fun U (hU : Below Y.heap.size Y U) => Nd5.of hx hU)
    have HBO := Lib.hid (Both.of (HBT.out.2.step hb) hrv (bent_two hbt.wd hbt.lim hbt1 k7 0 0).wd (bent_two hbt.wd hbt.lim hbt1 k7 0 0).len)
    have HB := Lib.hid (HBT.out.1.trans (hb.mono HBT.out.1.size))
    clear hx hb hrv hbt
    go_upto_region 16 with fail
    try unfold put5 at hY
    rw [← hY]
    clear hY k0 k1 k2 k3 k4 f0 f1 f2 f3 f4 HRV HBT HX1
    generalize strOf (wrT _) = S at HBO
    generalize sndB _ 0 = q at HBO
    have hr : Below Y.heap.size Y Y.drew := (Below.refl _ _).drew
    go_region_held3 (fun U => U.cell? ⟨w1.heap.size, 0, none⟩ = some (.int .u8 k7) ∧ U.cell? ⟨w1.heap.size, 1, none⟩ = some (.slice none 0 0) ∧ U.cell? ⟨w1.heap.size, 2, none⟩ = some (.slice (some ⟨V.heap.size, 0, none⟩) 2 2) ∧ U.cell? ⟨w1.heap.size, 3, none⟩ = some (.int .i64 0) ∧ U.cell? ⟨w1.heap.size, 4, none⟩ = some (.int .i64 0))
      (exact HC.out _ hr)
      (first
        | (go_at_call 10; (refine (HBO.out.w _ hr).mono ?_); rintro e w3 ⟨rfl, b3⟩; have hr := hr.trans (b3.mono hr.size))
        | (go_at_call 11; (refine (HBO.out.rw' _ hr).mono ?_); rintro e w3 ⟨rfl, b3⟩; have hr := hr.trans (b3.mono hr.size))
        | (go_at_call 12; (refine (HBO.out.s _ hr).mono ?_); rintro e w3 ⟨rfl, b3⟩; have hr := hr.trans (b3.mono hr.size))
        | (go_at_call 13; (refine (HBO.out.rs _ hr).mono ?_); rintro e w3 ⟨rfl, b3⟩; have hr := hr.trans (b3.mono hr.size)))
    all_goals
      have HE := Lib.hid (HB.out.trans (hr.mono HB.out.size))
      clear hr
      go_wp2
      go_ret
      exact ⟨rfl, HE.out⟩
end Go.Proofs.YtdcnfflleaplnaaGreatDoor
