/- VBare, VRSnd, VRDig, VRIn, VRTxt, VRef, in one text. -/
import Derived.Test.YtdcnfflleaplnaaGreatDoorVSH
import Derived.Test.YtdcnfflleaplnaaGreatDoorRR
import Derived.Deep.RegionWith
import Derived.BigQuiet
import Derived.IntWalk
import Derived.Deep.RegionHeld3
/- May a node be: the document's look at it. -/
namespace Go.Proofs.YtdcnfflleaplnaaGreatDoor
open Go.RowKit Go.Shelf Go.Maps SetM PropsM RxM WrM

def BareP (a b c : Bool) (sl : List Sp) (kn : Nat) (mn mx : Int) : Prop := (a = true ∨ sl = []) ∧ (b = true ∨ kn = 0) ∧ (c = true ∨ (mn = 0 ∧ mx = 0))
theorem bare_iff {a b c p1 p2 p3 p4 : Bool} {sl : List Sp} {kn : Nat} {mn mx : Int} (h1 : p1 = true ↔ sl = []) (h2 : p2 = true ↔ kn = 0) (h3 : p3 = true ↔ mn = 0) (h4 : p4 = true ↔ mx = 0) : ((a || p1) && ((b || p2) && (c || (p3 && p4)))) = true ↔ BareP a b c sl kn mn mx := by
  unfold BareP
  rw [← h1, ← h2, ← h3, ← h4]
  cases a <;> cases b <;> cases c <;> cases p1 <;> cases p2 <;> cases p3 <;> cases p4 <;> decide
set_option maxHeartbeats 4000000 in
set_option maxRecDepth 100000 in
theorem bare_fff {w : World} {sp kp : Option Addr} {sc kc n kn kd : Nat} {sl : List Sp} {mn mx : Int} (hn : n = sl.length) :
    Calls Tryz.prog 35 #[.agg #[.int .u8 kd, .slice sp n sc, .slice kp kn kc, .int .i64 mn, .int .i64 mx], .bool false, .bool false, .bool false] w fun e w' => BP (BareP false false false sl kn mn mx) e ∧ Below w.heap.size w w' := by
  obtain ⟨p1, hp1⟩ : ∃ p, ((n : Int) == 0) = p := ⟨_, rfl⟩
  obtain ⟨p2, hp2⟩ : ∃ p, ((kn : Int) == 0) = p := ⟨_, rfl⟩
  obtain ⟨p3, hp3⟩ : ∃ p, (mn == 0) = p := ⟨_, rfl⟩
  obtain ⟨p4, hp4⟩ : ∃ p, (mx == 0) = p := ⟨_, rfl⟩
  have HE1 : Hid (p1 = true ↔ sl = []) := Lib.hid (by rw [← hp1, beq_iff_eq]; exact ⟨fun h => List.length_eq_zero_iff.1 (by omega), fun h => by subst h; simp at hn; omega⟩)
  have HE2 : Hid (p2 = true ↔ kn = 0) := Lib.hid (by rw [← hp2, beq_iff_eq]; omega)
  have HE3 : Hid (p3 = true ↔ mn = 0) := Lib.hid (by rw [← hp3, beq_iff_eq])
  have HE4 : Hid (p4 = true ↔ mx = 0) := Lib.hid (by rw [← hp4, beq_iff_eq])
  have HQ := Lib.hid (bare_iff (a := false) (b := false) (c := false) HE1.out HE2.out HE3.out HE4.out)
  clear hn HE1 HE2 HE3 HE4
  cases p1 <;> cases p2 <;> cases p3
  all_goals
    go_enter Tryz.func35, Tryz.ntmps35
    go_wp2
    go_ret
    exact ⟨bp_var HQ.out, (Below.refl _ _).alloc (Nat.le_refl _) _⟩
set_option maxHeartbeats 4000000 in
set_option maxRecDepth 100000 in
theorem bare_tff {w : World} {sp kp : Option Addr} {sc kc n kn kd : Nat} {sl : List Sp} {mn mx : Int} (hn : n = sl.length) :
    Calls Tryz.prog 35 #[.agg #[.int .u8 kd, .slice sp n sc, .slice kp kn kc, .int .i64 mn, .int .i64 mx], .bool true, .bool false, .bool false] w fun e w' => BP (BareP true false false sl kn mn mx) e ∧ Below w.heap.size w w' := by
  obtain ⟨p1, hp1⟩ : ∃ p, ((n : Int) == 0) = p := ⟨_, rfl⟩
  obtain ⟨p2, hp2⟩ : ∃ p, ((kn : Int) == 0) = p := ⟨_, rfl⟩
  obtain ⟨p3, hp3⟩ : ∃ p, (mn == 0) = p := ⟨_, rfl⟩
  obtain ⟨p4, hp4⟩ : ∃ p, (mx == 0) = p := ⟨_, rfl⟩
  have HE1 : Hid (p1 = true ↔ sl = []) := Lib.hid (by rw [← hp1, beq_iff_eq]; exact ⟨fun h => List.length_eq_zero_iff.1 (by omega), fun h => by subst h; simp at hn; omega⟩)
  have HE2 : Hid (p2 = true ↔ kn = 0) := Lib.hid (by rw [← hp2, beq_iff_eq]; omega)
  have HE3 : Hid (p3 = true ↔ mn = 0) := Lib.hid (by rw [← hp3, beq_iff_eq])
  have HE4 : Hid (p4 = true ↔ mx = 0) := Lib.hid (by rw [← hp4, beq_iff_eq])
  have HQ := Lib.hid (bare_iff (a := true) (b := false) (c := false) HE1.out HE2.out HE3.out HE4.out)
  clear hn HE1 HE2 HE3 HE4
  cases p2 <;> cases p3
  all_goals
    go_enter Tryz.func35, Tryz.ntmps35
    go_wp2
    go_ret
    exact ⟨bp_var HQ.out, (Below.refl _ _).alloc (Nat.le_refl _) _⟩
set_option maxHeartbeats 4000000 in
set_option maxRecDepth 100000 in
theorem bare_ftf {w : World} {sp kp : Option Addr} {sc kc n kn kd : Nat} {sl : List Sp} {mn mx : Int} (hn : n = sl.length) :
    Calls Tryz.prog 35 #[.agg #[.int .u8 kd, .slice sp n sc, .slice kp kn kc, .int .i64 mn, .int .i64 mx], .bool false, .bool true, .bool false] w fun e w' => BP (BareP false true false sl kn mn mx) e ∧ Below w.heap.size w w' := by
  obtain ⟨p1, hp1⟩ : ∃ p, ((n : Int) == 0) = p := ⟨_, rfl⟩
  obtain ⟨p2, hp2⟩ : ∃ p, ((kn : Int) == 0) = p := ⟨_, rfl⟩
  obtain ⟨p3, hp3⟩ : ∃ p, (mn == 0) = p := ⟨_, rfl⟩
  obtain ⟨p4, hp4⟩ : ∃ p, (mx == 0) = p := ⟨_, rfl⟩
  have HE1 : Hid (p1 = true ↔ sl = []) := Lib.hid (by rw [← hp1, beq_iff_eq]; exact ⟨fun h => List.length_eq_zero_iff.1 (by omega), fun h => by subst h; simp at hn; omega⟩)
  have HE2 : Hid (p2 = true ↔ kn = 0) := Lib.hid (by rw [← hp2, beq_iff_eq]; omega)
  have HE3 : Hid (p3 = true ↔ mn = 0) := Lib.hid (by rw [← hp3, beq_iff_eq])
  have HE4 : Hid (p4 = true ↔ mx = 0) := Lib.hid (by rw [← hp4, beq_iff_eq])
  have HQ := Lib.hid (bare_iff (a := false) (b := true) (c := false) HE1.out HE2.out HE3.out HE4.out)
  clear hn HE1 HE2 HE3 HE4
  cases p1 <;> cases p3
  all_goals
    go_enter Tryz.func35, Tryz.ntmps35
    go_wp2
    go_ret
    exact ⟨bp_var HQ.out, (Below.refl _ _).alloc (Nat.le_refl _) _⟩
set_option maxHeartbeats 4000000 in
set_option maxRecDepth 100000 in
theorem bare_ftt {w : World} {sp kp : Option Addr} {sc kc n kn kd : Nat} {sl : List Sp} {mn mx : Int} (hn : n = sl.length) :
    Calls Tryz.prog 35 #[.agg #[.int .u8 kd, .slice sp n sc, .slice kp kn kc, .int .i64 mn, .int .i64 mx], .bool false, .bool true, .bool true] w fun e w' => BP (BareP false true true sl kn mn mx) e ∧ Below w.heap.size w w' := by
  obtain ⟨p1, hp1⟩ : ∃ p, ((n : Int) == 0) = p := ⟨_, rfl⟩
  obtain ⟨p2, hp2⟩ : ∃ p, ((kn : Int) == 0) = p := ⟨_, rfl⟩
  obtain ⟨p3, hp3⟩ : ∃ p, (mn == 0) = p := ⟨_, rfl⟩
  obtain ⟨p4, hp4⟩ : ∃ p, (mx == 0) = p := ⟨_, rfl⟩
  have HE1 : Hid (p1 = true ↔ sl = []) := Lib.hid (by rw [← hp1, beq_iff_eq]; exact ⟨fun h => List.length_eq_zero_iff.1 (by omega), fun h => by subst h; simp at hn; omega⟩)
  have HE2 : Hid (p2 = true ↔ kn = 0) := Lib.hid (by rw [← hp2, beq_iff_eq]; omega)
  have HE3 : Hid (p3 = true ↔ mn = 0) := Lib.hid (by rw [← hp3, beq_iff_eq])
  have HE4 : Hid (p4 = true ↔ mx = 0) := Lib.hid (by rw [← hp4, beq_iff_eq])
  have HQ := Lib.hid (bare_iff (a := false) (b := true) (c := true) HE1.out HE2.out HE3.out HE4.out)
  clear hn HE1 HE2 HE3 HE4
  cases p1
  all_goals
    go_enter Tryz.func35, Tryz.ntmps35
    go_wp2
    go_ret
    exact ⟨bp_var HQ.out, (Below.refl _ _).alloc (Nat.le_refl _) _⟩
end Go.Proofs.YtdcnfflleaplnaaGreatDoor

/- May a node be, so many below others: the document's look at it. -/
namespace Go.Proofs.YtdcnfflleaplnaaGreatDoor
open Go.RowKit Go.Shelf Go.Maps SetM PropsM RxM WrM

mutual
/-- All upper ends are ints. -/
def WdT : Ns → Prop
  | .mk _ sl kids _ _ => Wide sl ∧ WdL kids
def WdL : List Ns → Prop
  | [] => True
  | x :: l => WdT x ∧ WdL l
end
theorem wd_mk (k : Nat) (sl : List Sp) (kids : List Ns) (mn mx : Int) : WdT (.mk k sl kids mn mx) ↔ Wide sl ∧ WdL kids := by rw [WdT]
theorem wdL_iff : ∀ (l : List Ns), WdL l ↔ ∀ x ∈ l, WdT x
  | [] => by rw [WdL]; simp
  | x :: l => by rw [WdL, wdL_iff l]; simp
theorem BP.yes {P : Prop} {e : Ending} (h : BP P e) (hP : P) : e = .returned (.bool true) := by
  obtain ⟨q, rfl, hq⟩ := h
  rw [hq.2 hP]
theorem BP.no {P : Prop} {e : Ending} (h : BP P e) (hP : ¬ P) : e = .returned (.bool false) := by
  obtain ⟨q, rfl, hq⟩ := h
  cases q with
  | true => exact absurd (hq.1 rfl) hP
  | false => rfl
theorem rnormal_c {W : World} {P : Option Addr} {sc n : Nat} {sl : List Sp} (hn : n = sl.length) (h8 : n ≤ 100000) (hw : Wide sl) (hs : Sl W P sl) : Calls Tryz.prog 36 #[.slice P n sc] W fun e W' => ∃ Q m c out, e = .returned (.slice Q m c) ∧ m = out.length ∧ m ≤ 400000 ∧ (out = sl ↔ Norml sl) ∧ Sl W' Q out ∧ Below W.heap.size W W' := by
  subst hn
  refine (rnorm_n (c := sc) hs h8 hw).mono ?_
  rintro e W' ⟨Q, c, out, rfl, h2, h3, h4, h5, h6, h7⟩
  refine ⟨Q, out.length, c, out, rfl, rfl, by omega, ⟨fun e => ?_, fun hN => ?_⟩, h4, h7⟩
  · subst e
    exact ⟨h2.1, fun r hr => ((h2.2 r).1 hr).1⟩
  · exact nf_unique _ _ h2.1 hN.1 (fun r => (h2.2 r).trans ⟨fun h => h.2, fun h => ⟨hN.2 r h, h⟩⟩)
def RSndC (t : Ns) : Prop := ∀ (W : World) (v : Value) (deep : Int), 0 ≤ deep → deep ≤ 21 → RV W v t → WdT t →
  Calls Tryz.prog 22 #[v, .int .i64 deep] W fun e W' => BP (Shp t ∧ deep + dep t ≤ 20) e ∧ Below W.heap.size W W'
set_option maxHeartbeats 8000000 in
set_option maxRecDepth 100000 in
theorem rsnd_k (t : Ns) (ih : ∀ u ∈ t.kids, RSndC u) : RSndC t := by
  intro W v deep ha0 ha21 hv hwd
  obtain ⟨kd, sl, kids, mn, mx⟩ := t
  have hv0 := hv
  obtain ⟨sp, sc, kp, kc, rfl, ⟨hsl, hkl⟩, hsp, _, hk⟩ := hv.read
  rw [wd_mk, wdL_iff] at hwd
  obtain ⟨n, hn⟩ : ∃ n, n = sl.length := ⟨_, rfl⟩
  obtain ⟨kn, hkn⟩ : ∃ kn, kn = kids.length := ⟨_, rfl⟩
  obtain ⟨z, hz⟩ : ∃ z : Int, z = (kd : Int) := ⟨_, rfl⟩
  rw [← hn, ← hkn, ← hz]
  rw [← hn] at hsl
  rw [← hkn] at hkl
  obtain ⟨V, hV⟩ : ∃ V, V = W.alloc (.cells #[.int .u8 z, .slice sp n sc, .slice kp kn kc, .int .i64 mn, .int .i64 mx] 26) := ⟨_, rfl⟩
  have n1 : V.heap[W.heap.size]? = some (.cells #[.int .u8 z, .slice sp n sc, .slice kp kn kc, .int .i64 mn, .int .i64 mx] 26 (0, 0)) := by rw [hV]; exact heap_alloc_new W _
  have hb : Below W.heap.size W V := by rw [hV]; exact (Below.refl _ _).alloc (Nat.le_refl _) _
  have hlt := (Array.getElem?_eq_some_iff.1 n1).1
  have HX := Lib.hid (fun (U : World) (hU : Below V.heap.size V U) => (⟨(hU.cell (p := ⟨W.heap.size, 0, none⟩) hlt).trans (by rw [cell_of_row V _ 0 _ _ _ n1]; rfl), (hU.cell (p := ⟨W.heap.size, 1, none⟩) hlt).trans (by rw [cell_of_row V _ 1 _ _ _ n1]; rfl), (hU.cell (p := ⟨W.heap.size, 2, none⟩) hlt).trans (by rw [cell_of_row V _ 2 _ _ _ n1]; rfl), (hU.cell (p := ⟨W.heap.size, 3, none⟩) hlt).trans (by rw [cell_of_row V _ 3 _ _ _ n1]; rfl), (hU.cell (p := ⟨W.heap.size, 4, none⟩) hlt).trans (by rw [cell_of_row V _ 4 _ _ _ n1]; rfl)⟩ : U.cell? ⟨W.heap.size, 0, none⟩ = some (.int .u8 z) ∧ U.cell? ⟨W.heap.size, 1, none⟩ = some (.slice sp n sc) ∧ U.cell? ⟨W.heap.size, 2, none⟩ = some (.slice kp kn kc) ∧ U.cell? ⟨W.heap.size, 3, none⟩ = some (.int .i64 mn) ∧ U.cell? ⟨W.heap.size, 4, none⟩ = some (.int .i64 mx)))
  have HB := Lib.hid hb
  have HN := Lib.hid hn
  have HKN := Lib.hid hkn
  have HKZ := Lib.hid hz
  have HI : Hid (∀ u ∈ kids, RSndC u) := Lib.hid ih
  have HWD := Lib.hid hwd.2
  have HK := Lib.hid hk
  have HNO := Lib.hid (fun (U : World) (hU : Below V.heap.size V U) => rnormal_c (sc := sc) hn hsl hwd.1 ((hsp.step hb).step hU))
  have HAK := Lib.hid (fun (U : World) (hU : Below V.heap.size V U) (Q : Option Addr) (m c : Nat) (out : List Sp) (hm : m = out.length) (hml : m ≤ 400000) (hQ : Sl U Q out) => (by subst hn hm; exact alike_any Q sp c sc out sl (by omega) (by omega) U hQ ((hsp.step hb).step hU) : Calls Tryz.prog 26 #[.slice Q m c, .slice sp n sc] U fun e U' => e = .returned (.bool (decide (out = sl))) ∧ Below U.heap.size U U'))
  have HXV := Lib.hid (HX.out V (Below.refl _ _))
  clear hv hv0 hwd hk hn hkn hz ih hsp n1 hb hlt
  by_cases h20 : deep > 20
  · have HQ : Hid (BP (Shp (.mk kd sl kids mn mx) ∧ deep + dep (.mk kd sl kids mn mx) ≤ 20) (.returned (.bool false))) := Lib.hid (bp_false (fun h => by omega))
    go_enter Tryz.func22, Tryz.ntmps22
    go_wp2
    rw [← hV]
    go_ret
    exact ⟨HQ.out, HB.out⟩
  have h20' : ¬ 20 < deep := h20
  go_enter Tryz.func22, Tryz.ntmps22
  go_wp2_with fail
  rw [← hV]
  clear hV
  go_loopg [5, 6] kn (fun r s5 s6 wx => ∃ (k : Nat), k + r = kn ∧ s5 = .int .i64 k ∧ Hid (∀ x ∈ kids.take k, Shp x ∧ deep + 1 + dep x ≤ 20) ∧ Hid (Below V.heap.size V wx))
  case atStart => exact ⟨0, by omega, rfl, Lib.hid (fun x hx => by simp at hx), Lib.hid (Below.refl _ _)⟩
  case round =>
    obtain ⟨k, hkr, rfl, HS, HBr⟩ := hrel
    obtain ⟨c0, c1, c2, c3, c4⟩ := HX.out wr HBr.out
    cases gk with
    | succ gk =>
      have hl : (k : Int) < (kn : Int) := by omega
      have h0 : (0 : Int) ≤ (k : Int) := by omega
      have hkl : k < kids.length := by have := HKN.out; omega
      obtain ⟨g, rfl, ⟨cs, hcs⟩, hrow⟩ := HK.out (fun e => by rw [e] at hkl; cases hkl)
      have hgl := (Array.getElem?_eq_some_iff.1 hcs).1
      obtain ⟨u, hu, hc⟩ := hrow k hkl
      have hBw : Below W.heap.size W wr := HB.out.trans (HBr.out.mono HB.out.size)
      obtain ⟨t, ht⟩ : ∃ t, t = kids[k] := ⟨_, rfl⟩
      rw [← ht] at hu
      obtain ⟨tkd, tsl, tk, tmn, tmx⟩ := t
      obtain ⟨tsp, tsc, tkp, tkc, rfl, hu8, _⟩ := hu.read
      have d0 := (hBw.cell (p := ⟨g, k * 5 + 0, none⟩) hgl).trans (hc 0 (by omega))
      have d1 := (hBw.cell (p := ⟨g, k * 5 + 1, none⟩) hgl).trans (hc 1 (by omega))
      have d2 := (hBw.cell (p := ⟨g, k * 5 + 2, none⟩) hgl).trans (hc 2 (by omega))
      have d3 := (hBw.cell (p := ⟨g, k * 5 + 3, none⟩) hgl).trans (hc 3 (by omega))
      have d4 := (hBw.cell (p := ⟨g, k * 5 + 4, none⟩) hgl).trans (hc 4 (by omega))
      simp only [kidParts, Nat.add_zero] at d0 d1 d2 d3 d4
      simp at d0 d1 d2 d3 d4
      obtain ⟨tn, htn⟩ : ∃ tn, tn = tsl.length := ⟨_, rfl⟩
      obtain ⟨tkn, htkn⟩ : ∃ tkn, tkn = tk.length := ⟨_, rfl⟩
      rw [← htn] at d1 hu
      rw [← htkn] at d2 hu
      have hm : Ns.mk tkd tsl tk tmn tmx ∈ kids := by rw [ht]; exact List.getElem_mem hkl
      have HC := Lib.hid (HI.out _ hm wr _ (deep + 1) (by omega) (by omega) (hu.step hBw) (HWD.out _ hm))
      have HTK : Hid (kids.take (k + 1) = kids.take k ++ [Ns.mk tkd tsl tk tmn tmx]) := Lib.hid (by rw [ht]; exact List.take_succ_eq_append_getElem hkl)
      have HMEM := Lib.hid hm
      clear hu hc hBw ht hm htn htkn hu8 hcs hrow
      go_wp2_with fail
      refine HC.out.mono ?_
      rintro e w5 ⟨⟨q5, rfl, hq5⟩, b5⟩
      have HB5 := Lib.hid (HBr.out.trans (b5.mono HBr.out.size))
      cases q5 with
      | false =>
        have HQ : Hid (BP (Shp (.mk kd sl kids mn mx) ∧ deep + dep (.mk kd sl kids mn mx) ≤ 20) (.returned (.bool false))) := Lib.hid (bp_false (fun h => by
          rw [shp_mk, dep_mk] at h
          have h1 := (shpL_iff _).1 h.1.2 _ HMEM.out
          have h2 := depL_mem _ _ HMEM.out
          have := hq5.2 ⟨h1, by omega⟩
          cases this))
        clear hq5 b5
        go_wp2
        go_ret
        exact ⟨HQ.out, HB.out.trans (HB5.out.mono HB.out.size)⟩
      | true =>
        have hs5 := hq5.1 rfl
        have HS2 : Hid (∀ x ∈ kids.take (k + 1), Shp x ∧ deep + 1 + dep x ≤ 20) := Lib.hid (fun x hx => by
          rw [HTK.out] at hx
          rcases List.mem_append.1 hx with h | h
          · exact HS.out x h
          · simp at h; subst h; exact hs5)
        clear hq5 b5 hs5
        go_wp2
        go_roundg gk
        case measure => omega
        case rel => exact ⟨k + 1, by omega, rfl, HS2, HB5⟩
    | zero =>
      have hl : ¬ ((k : Int) < (kn : Int)) := by omega
      have HFIN : Hid (∀ q : Bool, (q = true ↔ Shape kd sl kn mn mx) → BP (Shp (.mk kd sl kids mn mx) ∧ deep + dep (.mk kd sl kids mn mx) ≤ 20) (.returned (.bool q))) := Lib.hid (fun q hq => bp_var (by
        have e : kids.take k = kids := List.take_of_length_le (by have := HKN.out; omega)
        have h3 := HS.out
        rw [e] at h3
        rw [hq, shp_mk, dep_mk, ← HKN.out, shpL_iff]
        refine ⟨fun h => ⟨⟨h, fun x hx => (h3 x hx).1⟩, ?_⟩, fun h => h.1.1⟩
        have := depL_le kids (20 - deep).toNat (fun x hx => by have := (h3 x hx).2; omega)
        omega))
      have HBW : Hid (Below W.heap.size W wr) := Lib.hid (HB.out.trans (HBr.out.mono HB.out.size))
      clear HS hkr
      by_cases h0 : kd = 0
      · obtain rfl := h0
        obtain rfl : z = 0 := HKZ.out
        go_wp2_with fail
        refine (bare_fff HN.out).mono ?_
        rintro e w2 ⟨⟨q, rfl, hq⟩, b2⟩
        have HQ := Lib.hid (HFIN.out q (by rw [hq]; unfold BareP Shape; constructor <;> (intro h; simp at h ⊢; omega)))
        have HB2 := Lib.hid (HBW.out.trans (b2.mono HBW.out.size))
        clear hq b2
        go_wp2
        go_ret
        exact ⟨HQ.out, HB2.out⟩
      by_cases h1 : kd = 1
      · obtain rfl := h1
        obtain rfl : z = 1 := HKZ.out
        clear h0
        by_cases hP : BareP true false false sl kn mn mx
        · have HP := Lib.hid hP
          have HXL : Hid (∀ U, Below wr.heap.size wr U → U.cell? ⟨W.heap.size, 0, none⟩ = some (.int .u8 1) ∧ U.cell? ⟨W.heap.size, 1, none⟩ = some (.slice sp n sc) ∧ U.cell? ⟨W.heap.size, 2, none⟩ = some (.slice kp kn kc) ∧ U.cell? ⟨W.heap.size, 3, none⟩ = some (.int .i64 mn) ∧ U.cell? ⟨W.heap.size, 4, none⟩ = some (.int .i64 mx)) := Lib.hid (fun U hU => HX.out U (HBr.out.trans (hU.mono HBr.out.size)))
          clear hP
          go_wp2_with fail
          have hr : Below wr.heap.size wr wr.drew := (Below.refl _ _).drew
          go_region_held3 (fun U => U.cell? ⟨W.heap.size, 0, none⟩ = some (.int .u8 1) ∧ U.cell? ⟨W.heap.size, 1, none⟩ = some (.slice sp n sc) ∧ U.cell? ⟨W.heap.size, 2, none⟩ = some (.slice kp kn kc) ∧ U.cell? ⟨W.heap.size, 3, none⟩ = some (.int .i64 mn) ∧ U.cell? ⟨W.heap.size, 4, none⟩ = some (.int .i64 mx))
            (exact HXL.out _ hr)
            (first
              | (go_at_call 35; (refine (bare_tff HN.out).mono ?_); rintro e w2 ⟨hq2, b2⟩; obtain rfl := hq2.yes HP.out; have hr := hr.trans (b2.mono hr.size); clear hq2 b2)
              | (go_at_call 36; (refine (HNO.out _ (HBr.out.trans (hr.mono HBr.out.size))).mono ?_); rintro e w3 ⟨Q, m, c, out, rfl, hm, hml, ho, hQ, b3⟩; have HM := Lib.hid hm; have HML := Lib.hid hml; have HO := Lib.hid ho; have HQS := Lib.hid hQ; have hr := hr.trans (b3.mono hr.size); clear hm hml ho hQ b3)
              | (go_at_call 26; (refine (HAK.out _ (HBr.out.trans (hr.mono HBr.out.size)) Q m c out HM.out HML.out HQS.out).mono ?_); rintro e w4 ⟨rfl, b4⟩; have hr := hr.trans (b4.mono hr.size); clear b4))
          have HQ := Lib.hid (HFIN.out (decide (out = sl)) (by
            have hp := HP.out
            unfold BareP at hp
            simp at hp
            rw [decide_eq_true_iff, HO.out]
            unfold Shape
            constructor
            · intro h; exact .inr (.inl ⟨rfl, hp.1, hp.2.1, hp.2.2, h⟩)
            · intro h
              rcases h with h | h | h | h
              · omega
              · exact h.2.2.2.2
              · omega
              · omega))
          have HB2 := Lib.hid (HBW.out.trans (hr.mono HBW.out.size))
          clear hr
          go_wp2
          go_ret
          exact ⟨HQ.out, HB2.out⟩
        · have HP := Lib.hid hP
          clear hP
          have HXL : Hid (∀ U, Below wr.heap.size wr U → U.cell? ⟨W.heap.size, 0, none⟩ = some (.int .u8 1) ∧ U.cell? ⟨W.heap.size, 1, none⟩ = some (.slice sp n sc) ∧ U.cell? ⟨W.heap.size, 2, none⟩ = some (.slice kp kn kc) ∧ U.cell? ⟨W.heap.size, 3, none⟩ = some (.int .i64 mn) ∧ U.cell? ⟨W.heap.size, 4, none⟩ = some (.int .i64 mx)) := Lib.hid (fun U hU => HX.out U (HBr.out.trans (hU.mono HBr.out.size)))
          go_wp2_with fail
          have hr : Below wr.heap.size wr wr.drew := (Below.refl _ _).drew
          obtain ⟨x0, x1, x2, x3, x4⟩ := HXL.out _ hr
          first | (go_region_with ((go_at_call 35; (refine (bare_tff HN.out).mono ?_); rintro e w2 ⟨hq2, b2⟩; obtain rfl := hq2.no HP.out; have hr := hr.trans (b2.mono hr.size); obtain ⟨x0, x1, x2, x3, x4⟩ := HXL.out _ hr; clear hq2 b2))) | fail
          all_goals
            have HQ := Lib.hid (HFIN.out false (by
              have hp := HP.out
              unfold BareP at hp
              unfold Shape
              constructor
              · intro h; cases h
              · intro h
                refine absurd ?_ hp
                rcases h with h | h | h | h
                · omega
                · exact ⟨.inl rfl, .inr h.2.1, .inr ⟨h.2.2.1, h.2.2.2.1⟩⟩
                · omega
                · omega))
            have HB2 := Lib.hid (HBW.out.trans (hr.mono HBW.out.size))
            clear hr
            go_wp2
            go_ret
            exact ⟨HQ.out, HB2.out⟩
      by_cases h2 : kd = 2
      · obtain rfl := h2
        obtain rfl : z = 2 := HKZ.out
        clear h0 h1
        go_wp2_with fail
        refine (bare_ftf HN.out).mono ?_
        rintro e w2 ⟨⟨q, rfl, hq⟩, b2⟩
        obtain ⟨c0, c1, c2, c3, c4⟩ := HX.out w2 (HBr.out.trans (b2.mono HBr.out.size))
        have HB2 := Lib.hid (HBW.out.trans (b2.mono HBW.out.size))
        have HQ1 := Lib.hid hq
        clear hq b2
        cases q with
        | false =>
          have HQ := Lib.hid (HFIN.out false (by have h := HQ1.out; unfold BareP at h; unfold Shape; simp at h ⊢; intro h1 h2 h3 h4; exact h h2 h3 h4))
          go_wp2
          go_ret
          exact ⟨HQ.out, HB2.out⟩
        | true =>
          have HQ := Lib.hid (HFIN.out (decide ((kn : Int) ≥ 2)) (by have h := HQ1.out; unfold BareP at h; unfold Shape; simp at h ⊢; exact ⟨fun h2 => ⟨by omega, h.1, h.2.1, h.2.2⟩, fun h2 => by omega⟩))
          go_wp2
          go_ret
          exact ⟨HQ.out, HB2.out⟩
      by_cases h3 : kd = 3
      · obtain rfl := h3
        obtain rfl : z = 3 := HKZ.out
        clear h0 h1 h2
        go_wp2_with fail
        refine (bare_ftf HN.out).mono ?_
        rintro e w2 ⟨⟨q, rfl, hq⟩, b2⟩
        obtain ⟨c0, c1, c2, c3, c4⟩ := HX.out w2 (HBr.out.trans (b2.mono HBr.out.size))
        have HB2 := Lib.hid (HBW.out.trans (b2.mono HBW.out.size))
        have HQ1 := Lib.hid hq
        clear hq b2
        cases q with
        | false =>
          have HQ := Lib.hid (HFIN.out false (by have h := HQ1.out; unfold BareP at h; unfold Shape; simp at h ⊢; intro h1 h2 h3 h4; exact h h2 h3 h4))
          go_wp2
          go_ret
          exact ⟨HQ.out, HB2.out⟩
        | true =>
          have HQ := Lib.hid (HFIN.out (decide ((kn : Int) ≥ 2)) (by have h := HQ1.out; unfold BareP at h; unfold Shape; simp at h ⊢; exact ⟨fun h2 => ⟨by omega, h.1, h.2.1, h.2.2⟩, fun h2 => by omega⟩))
          go_wp2
          go_ret
          exact ⟨HQ.out, HB2.out⟩
      by_cases h4 : kd = 4
      · obtain rfl := h4
        obtain rfl : z = 4 := HKZ.out
        clear h0 h1 h2 h3
        go_wp2_with fail
        refine (bare_ftt HN.out).mono ?_
        rintro e w2 ⟨⟨q, rfl, hq⟩, b2⟩
        obtain ⟨c0, c1, c2, c3, c4⟩ := HX.out w2 (HBr.out.trans (b2.mono HBr.out.size))
        have HB2 := Lib.hid (HBW.out.trans (b2.mono HBW.out.size))
        have HQ1 := Lib.hid hq
        clear hq b2
        cases q with
        | false =>
          have HQ := Lib.hid (HFIN.out false (by
            have h := HQ1.out
            unfold BareP at h
            unfold Shape
            simp at h ⊢
            intro h1 h2; exact absurd h2 h
            ))
          go_wp2
          go_ret
          exact ⟨HQ.out, HB2.out⟩
        | true =>
          by_cases g1 : kn = 1
          · have g1' : ((kn : Int) == 1) = true := by rw [beq_iff_eq]; omega
            have G1 := Lib.hid g1
            clear g1
            by_cases g2 : mn ≥ 0
            · by_cases g3 : mn ≤ 20
              · by_cases g4 : mx = -1
                · subst g4
                  have HQ := Lib.hid (HFIN.out true (by
                    have h := HQ1.out
                    unfold BareP at h
                    unfold Shape
                    simp at h ⊢
                    exact ⟨G1.out, h, by omega⟩
                    ))
                  go_wp2
                  go_ret
                  exact ⟨HQ.out, HB2.out⟩
                · have g4' : (mx == -1) = false := by rw [beq_eq_false_iff_ne]; exact g4
                  have G4 := Lib.hid g4
                  clear g4
                  by_cases g5 : mx ≥ mn
                  · by_cases g6 : mx ≤ 20
                    · have HQ := Lib.hid (HFIN.out true (by
                        have h := HQ1.out
                        unfold BareP at h
                        unfold Shape
                        simp at h ⊢
                        exact ⟨G1.out, h, by omega⟩
                        ))
                      go_wp2
                      go_ret
                      exact ⟨HQ.out, HB2.out⟩
                    · have g6' : decide (mx ≤ 20) = false := decide_eq_false g6
                      have HQ := Lib.hid (HFIN.out false (by
                        have h := HQ1.out
                        unfold BareP at h
                        unfold Shape
                        simp at h ⊢
                        intro _ _ _ _; have := G4.out; omega
                        ))
                      go_wp2
                      go_ret
                      exact ⟨HQ.out, HB2.out⟩
                  · have HQ := Lib.hid (HFIN.out false (by
                      have h := HQ1.out
                      unfold BareP at h
                      unfold Shape
                      simp at h ⊢
                      intro _ _ _ _; have := G4.out; omega
                      ))
                    go_wp2
                    go_ret
                    exact ⟨HQ.out, HB2.out⟩
              · have HQ := Lib.hid (HFIN.out false (by
                  have h := HQ1.out
                  unfold BareP at h
                  unfold Shape
                  simp at h ⊢
                  omega
                  ))
                go_wp2
                go_ret
                exact ⟨HQ.out, HB2.out⟩
            · have HQ := Lib.hid (HFIN.out false (by
                have h := HQ1.out
                unfold BareP at h
                unfold Shape
                simp at h ⊢
                omega
                ))
              go_wp2
              go_ret
              exact ⟨HQ.out, HB2.out⟩
          · have g1' : ((kn : Int) == 1) = false := by rw [beq_eq_false_iff_ne]; omega
            have G1 := Lib.hid g1
            clear g1
            have HQ := Lib.hid (HFIN.out false (by
              have h := HQ1.out
              unfold BareP at h
              unfold Shape
              simp at h ⊢
              intro h1; exact absurd h1 G1.out
              ))
            go_wp2
            go_ret
            exact ⟨HQ.out, HB2.out⟩
      have hz := HKZ.out
      have z0 : (z == 0) = false := by rw [beq_eq_false_iff_ne]; omega
      have z1 : (z == 1) = false := by rw [beq_eq_false_iff_ne]; omega
      have z2 : (z == 2) = false := by rw [beq_eq_false_iff_ne]; omega
      have z3 : (z == 3) = false := by rw [beq_eq_false_iff_ne]; omega
      have z4 : (z == 4) = false := by rw [beq_eq_false_iff_ne]; omega
      have HQ := Lib.hid (HFIN.out false (by unfold Shape; simp; omega))
      clear h0 h1 h2 h3 h4 hz
      go_wp2
      go_ret
      exact ⟨HQ.out, HBW.out⟩
theorem rsnd_all : ∀ (t : Ns), RSndC t
  | .mk k sl kids mn mx => rsnd_k _ (fun u _hu => rsnd_all u)
termination_by t => SizeOf.sizeOf t
decreasing_by
  have := List.sizeOf_lt_of_mem (show u ∈ kids from _hu)
  simp only [Ns.mk.sizeOf_spec]
  omega
end Go.Proofs.YtdcnfflleaplnaaGreatDoor

/- The document's digits; its 'in'. -/
namespace Go.Proofs.YtdcnfflleaplnaaGreatDoor
open Go.RowKit Go.Shelf Go.Maps SetM PropsM RxM WrM

abbrev DIGS : ByteArray := ⟨#[48, 49, 50, 51, 52, 53, 54, 55, 56, 57, 97, 98, 99, 100, 101, 102]⟩
theorem digs_at : ∀ k : Fin 16, bs (DIGS.extract (k : Nat) ((k : Nat) + 1)) = [hexd k] ∧ (DIGS.extract (k : Nat) ((k : Nat) + 1)).size = 1 := by decide
theorem digs_sl (d : Int) (h0 : 0 ≤ d) (h1 : d < 16) : ∃ u : ByteArray, bs u = [hexd d.toNat] ∧ u.size = 1 ∧ ∀ w, (Instr.slice 9 (.string DIGS) (some (.int .i64 d)) (some (.int .i64 (d + 1))) none).run Tryz.prog w = .ok (.string u) w := by
  have h := digs_at ⟨d.toNat, by omega⟩
  dsimp only at h
  refine ⟨_, h.1, h.2, fun w => ?_⟩
  have hz : DIGS.size = 16 := rfl
  rw [run_slice_string w 9 DIGS .i64 .i64 d (d + 1) Tryz.underlying9 h0 (by omega) (by omega)]
  rw [show (d + 1).toNat = d.toNat + 1 by omega]
theorem bs_inj {a b : ByteArray} (h : bs a = bs b) : a = b := by
  have h2 : a.data.toList = b.data.toList := by
    refine List.ext_getElem (by have := congrArg List.length h; simpa [bs] using this) (fun i hi hi' => ?_)
    have := congrArg (fun l => l[i]?) h
    simp only [bs, List.getElem?_map, List.getElem?_eq_getElem hi, List.getElem?_eq_getElem hi', Option.map_some, Option.some.injEq] at this
    exact UInt8.toNat_inj.1 (by omega)
  cases a; cases b
  simp only [ByteArray.mk.injEq]
  exact Array.toList_inj.1 h2
/-- Digits as a text. -/
def digB (b n : Nat) : ByteArray := strOfNums (digF b n)
theorem hexd_rng (d : Nat) (h : d < 16) : 0 ≤ hexd d ∧ hexd d ≤ 255 := by unfold hexd; split <;> omega
theorem digB_bs {b n : Nat} (hb : 2 ≤ b) (h16 : b ≤ 16) : bs (digB b n) = digF b n :=
  nums_bs _ (dig_all hb (P := fun c => 0 ≤ c ∧ c ≤ 255) (fun d hd => hexd_rng d (by omega)) _ n (Nat.le_refl _))
theorem digB_size {b n : Nat} (hb : 2 ≤ b) (h16 : b ≤ 16) (hn : n < b ^ 7) : (digB b n).size ≤ 7 := by
  have h := digB_bs (n := n) hb h16
  have h2 := dig_len hb 6 n hn
  rw [← h, bs_len] at h2
  exact h2
set_option maxHeartbeats 4000000 in
set_option maxRecDepth 100000 in
theorem digits_c (b : Int) (hb : b = 10 ∨ b = 16) : ∀ (m : Nat) (n : Int) (W : World), 0 ≤ n → n ≤ 2000000 → n.toNat < m → Calls Tryz.prog 32 #[.int .i64 n, .int .i64 b] W fun e W' => e = .returned (.string (digB b.toNat n.toNat)) ∧ ∃ k, W' = W.drewN k
  | 0, n, W, _, _, h => by omega
  | m + 1, n, W, h0, h1, hm => by
    by_cases hlt : n < b
    · obtain ⟨u, hu, hu1, hsl⟩ := digs_sl n h0 (by omega)
      dsimp only [DIGS] at hsl
      have HU : Hid (u = digB b.toNat n.toNat) := Lib.hid (bs_inj (by rw [digB_bs (by omega) (by omega), dig_low (by omega)]; exact hu))
      have hwr : wrap64 (n + 1) = n + 1 := IntWalk.wrap64_in _ (by omega)
      clear hu hu1
      go_enter Tryz.func32, Tryz.ntmps32
      go_wp2
      go_ret
      exact ⟨by rw [HU.out]; rfl, 0, rfl⟩
    · have hb2 : 2 ≤ b := by omega
      obtain ⟨q, hq⟩ : ∃ q, q = n / b := ⟨_, rfl⟩
      obtain ⟨r, hr⟩ : ∃ r, r = n % b := ⟨_, rfl⟩
      have hqn : 0 ≤ q ∧ q < n := by
        rcases hb with rfl | rfl <;> omega
      have hrn : 0 ≤ r ∧ r < 16 := by
        rcases hb with rfl | rfl <;> omega
      have HC := Lib.hid (fun W => digits_c b hb m q W hqn.1 (by omega) (by omega))
      obtain ⟨u, hu, hu1, hsl⟩ := digs_sl r hrn.1 hrn.2
      dsimp only [DIGS] at hsl
      have HZ : Hid ((digB b.toNat q.toNat).size ≤ 7) := Lib.hid (digB_size (by omega) (by omega) (by rcases hb with rfl | rfl <;> (simp; omega)))
      have HD : Hid (digB b.toNat q.toNat ++ u = digB b.toNat n.toNat) := Lib.hid (bs_inj (by
        rw [bs_append, hu, digB_bs (by omega) (by omega), digB_bs (by omega) (by omega)]
        symm
        rw [dig_step (b := b.toNat) (n := n.toNat) (by omega) (by omega)]
        have e1 : n.toNat / b.toNat = q.toNat := by
          rcases hb with rfl | rfl
          · show n.toNat / 10 = q.toNat; omega
          · show n.toNat / 16 = q.toNat; omega
        have e2 : n.toNat % b.toNat = r.toNat := by
          rcases hb with rfl | rfl
          · show n.toNat % 10 = r.toNat; omega
          · show n.toNat % 16 = r.toNat; omega
        rw [e1, e2]))
      have hw1 : IntKind.i64.wrap (r + 1) = r + 1 := IntWalk.i64_in _ (by omega)
      have hw2 : wrap64 (r + 1) = r + 1 := IntWalk.wrap64_in _ (by omega)
      have hdv : n.tdiv b = q := by rw [hq, Int.tdiv_eq_ediv_of_nonneg h0]
      have hmd : n.tmod b = r := by rw [hr, Int.tmod_eq_emod_of_nonneg h0]
      have hbz : ¬ b = 0 := by omega
      have HU1 := Lib.hid hu1
      obtain ⟨x, hx⟩ : ∃ x, x = digB b.toNat q.toNat := ⟨_, rfl⟩
      rw [← hx] at HZ HD HC
      have hsz : ¬ 9223372036854775807 < x.size + u.size := by have := HZ.out; omega
      have hqw : IntKind.i64.wrap q = q := IntWalk.i64_in _ (by omega)
      have hrw : IntKind.i64.wrap r = r := IntWalk.i64_in _ (by omega)
      clear hq hr hu hu1 hb hx
      go_enter Tryz.func32, Tryz.ntmps32
      go_wp2_with fail
      go_quiet ((go_at_call 32; exact Calls.quiet_of (HC.out _)))
      go_wp2
      go_ret
      exact ⟨by rw [← HD.out]; rfl, _, rfl⟩
end Go.Proofs.YtdcnfflleaplnaaGreatDoor

/- The document's text of a node in brackets, if it is of one of some kinds. -/
namespace Go.Proofs.YtdcnfflleaplnaaGreatDoor
open Go.RowKit Go.Shelf Go.Maps SetM PropsM RxM WrM

def RTxtC (t : Ns) : Prop := ∀ (W : World) (v : Value), RV W v t → Shp t → (txt t).length ≤ 140737488355328 →
  Calls Tryz.prog 20 #[v] W fun e W' => ∃ s, e = .returned (.string s) ∧ bs s = txt t ∧ Below W.heap.size W W'
set_option maxHeartbeats 4000000 in
set_option maxRecDepth 100000 in
theorem rin_c {W : World} {v : Value} {t : Ns} {y c m : Nat} (ks : List Nat) (hm : m = ks.length) (h8 : m ≤ 100) (hv : RV W v t) (hS : Shp t) (hl : (inT ks t).length ≤ 140737488355328) (ih : RTxtC t) (hyl : y < W.heap.size) (hy : ∀ i (_ : i < ks.length), W.cell? ⟨y, i, none⟩ = some (.int .u8 (ks[i] : Nat))) :
    Calls Tryz.prog 33 #[v, .slice (some ⟨y, 0, none⟩) m c] W fun e W' => ∃ s, e = .returned (.string s) ∧ bs s = inT ks t ∧ Below W.heap.size W W' := by
  obtain ⟨kd, sl, kids, mn, mx⟩ := t
  have hv0 := hv
  obtain ⟨sp, sc, kp, kc, rfl, ⟨hsl, hkl⟩, hsp, _, hk⟩ := hv.read
  obtain ⟨n, hn⟩ : ∃ n, n = sl.length := ⟨_, rfl⟩
  obtain ⟨kn, hkn⟩ : ∃ kn, kn = kids.length := ⟨_, rfl⟩
  rw [← hn, ← hkn] at hv0 ⊢
  obtain ⟨V, hV⟩ : ∃ V, V = W.alloc (.cells #[.int .u8 kd, .slice sp n sc, .slice kp kn kc, .int .i64 mn, .int .i64 mx] 26) := ⟨_, rfl⟩
  have n1 : V.heap[W.heap.size]? = some (.cells #[.int .u8 kd, .slice sp n sc, .slice kp kn kc, .int .i64 mn, .int .i64 mx] 26 (0, 0)) := by rw [hV]; exact heap_alloc_new W _
  have hb : Below W.heap.size W V := by rw [hV]; exact (Below.refl _ _).alloc (Nat.le_refl _) _
  have hlt := (Array.getElem?_eq_some_iff.1 n1).1
  have HX := Lib.hid (fun (U : World) (hU : Below V.heap.size V U) => (⟨(hU.cell (p := ⟨W.heap.size, 0, none⟩) hlt).trans (by rw [cell_of_row V _ 0 _ _ _ n1]; rfl), (hU.cell (p := ⟨W.heap.size, 1, none⟩) hlt).trans (by rw [cell_of_row V _ 1 _ _ _ n1]; rfl), (hU.cell (p := ⟨W.heap.size, 2, none⟩) hlt).trans (by rw [cell_of_row V _ 2 _ _ _ n1]; rfl), (hU.cell (p := ⟨W.heap.size, 3, none⟩) hlt).trans (by rw [cell_of_row V _ 3 _ _ _ n1]; rfl), (hU.cell (p := ⟨W.heap.size, 4, none⟩) hlt).trans (by rw [cell_of_row V _ 4 _ _ _ n1]; rfl)⟩ : U.cell? ⟨W.heap.size, 0, none⟩ = some (.int .u8 kd) ∧ U.cell? ⟨W.heap.size, 1, none⟩ = some (.slice sp n sc) ∧ U.cell? ⟨W.heap.size, 2, none⟩ = some (.slice kp kn kc) ∧ U.cell? ⟨W.heap.size, 3, none⟩ = some (.int .i64 mn) ∧ U.cell? ⟨W.heap.size, 4, none⟩ = some (.int .i64 mx)))
  have HY := Lib.hid (fun (U : World) (hU : Below V.heap.size V U) i (hi : i < ks.length) => ((hU.cell (p := ⟨y, i, none⟩) (by show y < _; have := hb.size; omega)).trans ((hb.cell (p := ⟨y, i, none⟩) hyl).trans (hy i hi)) : U.cell? ⟨y, i, none⟩ = some (.int .u8 (ks[i] : Nat))))
  have HB := Lib.hid hb
  have HIN : Hid (amB ks kd = true → inT ks (.mk kd sl kids mn mx) = 40 :: (txt (.mk kd sl kids mn mx) ++ [41])) := Lib.hid (fun h => in_yes h)
  have HIN2 : Hid (amB ks kd = false → inT ks (.mk kd sl kids mn mx) = txt (.mk kd sl kids mn mx)) := Lib.hid (fun h => in_no h)
  have HT := Lib.hid (fun (U : World) (hU : Below V.heap.size V U) => ih U _ (hv0.step (hb.trans (hU.mono hb.size))) hS (by
    cases hq : amB ks kd with
    | true => rw [HIN.out hq] at hl; simp at hl; omega
    | false => rw [HIN2.out hq] at hl; exact hl))
  have HM := Lib.hid hm
  have HL := Lib.hid hl
  have HXV := Lib.hid (HX.out V (Below.refl _ _))
  clear hv hv0 hS hl ih hyl hy n1 hb hlt hm hn hkn hk hsp hsl hkl
  go_enter Tryz.func33, Tryz.ntmps33
  go_wp2_with fail
  rw [← hV]
  clear hV
  go_loopg [5] m (fun r s5 wx => ∃ (i : Nat), i + r = m ∧ s5 = .int .i64 i ∧ Hid (∀ j (_ : j < ks.length), j < i → ks[j] ≠ kd) ∧ Hid (Below V.heap.size V wx))
  case atStart => exact ⟨0, by omega, rfl, Lib.hid (fun j _ h => by omega), Lib.hid (Below.refl _ _)⟩
  case round =>
    obtain ⟨i, hi, rfl, HN, HBr⟩ := hrel
    obtain ⟨c0, c1, c2, c3, c4⟩ := HX.out wr HBr.out
    cases gk with
    | zero =>
      have hl : ¬ ((i : Int) < (m : Int)) := by omega
      have hq : amB ks kd = false := by
        cases hq : amB ks kd with
        | false => rfl
        | true =>
          obtain ⟨j, hj, e⟩ := List.mem_iff_getElem.1 (List.contains_iff_mem.1 hq)
          exact absurd e (HN.out j hj (by have := HM.out; omega))
      have HTX := Lib.hid (HT.out wr HBr.out)
      rw [← HIN2.out hq] at HTX
      clear hq
      go_wp2_with fail
      refine HTX.out.mono ?_
      rintro e w3 ⟨s, rfl, hs, b3⟩
      have HE : Hid (bs s = inT ks (.mk kd sl kids mn mx) ∧ Below W.heap.size W w3) := Lib.hid ⟨hs, HB.out.trans ((HBr.out.trans (b3.mono HBr.out.size)).mono HB.out.size)⟩
      clear hs b3 HTX
      go_wp2
      go_ret
      exact ⟨s, rfl, HE.out⟩
    | succ gk =>
      have hl : (i : Int) < (m : Int) := by omega
      have h0 : (0 : Int) ≤ (i : Int) := by omega
      have hil : i < ks.length := by have := HM.out; omega
      have hc := HY.out wr HBr.out i hil
      by_cases he : kd = ks[i]
      · have hq : amB ks kd = true := List.contains_iff_mem.2 (he ▸ List.getElem_mem hil)
        have hd : ((kd : Int) == (ks[i] : Nat)) = true := by rw [← he]; simp
        have hE := HIN.out hq
        have HE1 := Lib.hid hE
        have hL := HL.out
        rw [hE] at hL
        have HTL : Hid ((txt (.mk kd sl kids mn mx)).length + 2 ≤ 140737488355328) := Lib.hid (by simp at hL; omega)
        clear he hq hE hL
        go_wp2_with fail
        go_quiet (fail)
        generalize hX : wr.drewN _ = X
        have HXX : Hid (Below V.heap.size V X) := Lib.hid (by rw [← hX]; exact HBr.out.trans ((drewN_below _).mono HBr.out.size))
        obtain ⟨c0, c1, c2, c3, c4⟩ := HX.out X HXX.out
        have HTX := Lib.hid (HT.out X HXX.out)
        clear hX hc
        go_wp2_with fail
        refine HTX.out.mono ?_
        rintro e w3 ⟨s, rfl, hs, b3⟩
        have hsz : s.size + 2 ≤ 140737488355328 := by have := HTL.out; rw [← hs, bs_len] at this; exact this
        have HE : Hid (bs (⟨#[40]⟩ ++ s ++ ⟨#[41]⟩) = inT ks (.mk kd sl kids mn mx) ∧ Below W.heap.size W w3) := Lib.hid ⟨by rw [HE1.out, bs_append, bs_append, hs]; rfl, HB.out.trans ((HXX.out.trans (b3.mono HXX.out.size)).mono HB.out.size)⟩
        clear hs b3 HTX
        go_wp2
        go_ret
        exact ⟨_, rfl, HE.out⟩
      · have hd : ((kd : Int) == (ks[i] : Nat)) = false := by rw [beq_eq_false_iff_ne]; omega
        have HN2 : Hid (∀ j (_ : j < ks.length), j < i + 1 → ks[j] ≠ kd) := Lib.hid (fun j hj hji => by
          rcases (by omega : j < i ∨ j = i) with h | rfl
          · exact HN.out j hj h
          · exact fun e => he e.symm)
        clear he
        go_wp2_with fail
        go_quiet (fail)
        generalize hX : wr.drewN _ = X
        have HXX : Hid (Below V.heap.size V X) := Lib.hid (by rw [← hX]; exact HBr.out.trans ((drewN_below _).mono HBr.out.size))
        clear hX hc
        go_wp2
        go_roundg gk
        case measure => omega
        case rel => exact ⟨i + 1, by omega, rfl, HN2, HXX⟩
end Go.Proofs.YtdcnfflleaplnaaGreatDoor

/- The document's text of a node. -/
namespace Go.Proofs.YtdcnfflleaplnaaGreatDoor
open Go.RowKit Go.Shelf Go.Maps SetM PropsM RxM WrM

theorem rin_new {W V : World} {v : Value} {t : Ns} {m : Nat} (ks : List Nat) (hm : m = ks.length) (h8 : m ≤ 100) (hW : Below W.heap.size W V) (hv : RV W v t) (hS : Shp t) (hl : (inT ks t).length ≤ 140737488355328) (ih : RTxtC t) :
    Calls Tryz.prog 33 #[v, .slice (some ⟨V.heap.size, 0, none⟩) m m] (V.alloc (.cells (kindsV ks) 5)) fun e W' => ∃ s, e = .returned (.string s) ∧ bs s = inT ks t ∧ Below V.heap.size V W' := by
  have hb : Below V.heap.size V (V.alloc (.cells (kindsV ks) 5)) := (Below.refl _ _).alloc (Nat.le_refl _) _
  refine (rin_c (W := V.alloc (.cells (kindsV ks) 5)) (y := V.heap.size) (c := m) ks hm h8 ((hv.step hW).step hb) hS hl ih (by rw [World.size_alloc]; omega) (fun i hi => by
    rw [cell_of_row _ V.heap.size i _ _ _ (heap_alloc_new V _)]; simp [kindsV, hi])).mono fun e w' ⟨s, h1, h2, h3⟩ => ⟨s, h1, h2, hb.trans (h3.mono hb.size)⟩
set_option maxHeartbeats 8000000 in
set_option maxRecDepth 100000 in
theorem rtxt_k (t : Ns) (ih : ∀ u ∈ t.kids, RTxtC u) : RTxtC t := by
  intro W v hv hS hlen
  obtain ⟨kd, sl, kids, mn, mx⟩ := t
  obtain ⟨sp, sc, kp, kc, rfl, ⟨hsl, hkl⟩, hsp, _, hk⟩ := hv.read
  rw [shp_mk, shpL_iff] at hS
  obtain ⟨hsh, hks⟩ := hS
  obtain ⟨n, hn⟩ : ∃ n, n = sl.length := ⟨_, rfl⟩
  obtain ⟨kn, hkn⟩ : ∃ kn, kn = kids.length := ⟨_, rfl⟩
  obtain ⟨z, hz⟩ : ∃ z : Int, z = (kd : Int) := ⟨_, rfl⟩
  rw [← hn, ← hkn, ← hz]
  rw [← hn] at hsl
  rw [← hkn] at hkl hsh
  obtain ⟨V, hV⟩ : ∃ V, V = W.alloc (.cells #[.int .u8 z, .slice sp n sc, .slice kp kn kc, .int .i64 mn, .int .i64 mx] 26) := ⟨_, rfl⟩
  have n1 : V.heap[W.heap.size]? = some (.cells #[.int .u8 z, .slice sp n sc, .slice kp kn kc, .int .i64 mn, .int .i64 mx] 26 (0, 0)) := by rw [hV]; exact heap_alloc_new W _
  have hb : Below W.heap.size W V := by rw [hV]; exact (Below.refl _ _).alloc (Nat.le_refl _) _
  have hlt := (Array.getElem?_eq_some_iff.1 n1).1
  have HX := Lib.hid (fun (U : World) (hU : Below V.heap.size V U) => (⟨(hU.cell (p := ⟨W.heap.size, 0, none⟩) hlt).trans (by rw [cell_of_row V _ 0 _ _ _ n1]; rfl), (hU.cell (p := ⟨W.heap.size, 1, none⟩) hlt).trans (by rw [cell_of_row V _ 1 _ _ _ n1]; rfl), (hU.cell (p := ⟨W.heap.size, 2, none⟩) hlt).trans (by rw [cell_of_row V _ 2 _ _ _ n1]; rfl), (hU.cell (p := ⟨W.heap.size, 3, none⟩) hlt).trans (by rw [cell_of_row V _ 3 _ _ _ n1]; rfl), (hU.cell (p := ⟨W.heap.size, 4, none⟩) hlt).trans (by rw [cell_of_row V _ 4 _ _ _ n1]; rfl)⟩ : U.cell? ⟨W.heap.size, 0, none⟩ = some (.int .u8 z) ∧ U.cell? ⟨W.heap.size, 1, none⟩ = some (.slice sp n sc) ∧ U.cell? ⟨W.heap.size, 2, none⟩ = some (.slice kp kn kc) ∧ U.cell? ⟨W.heap.size, 3, none⟩ = some (.int .i64 mn) ∧ U.cell? ⟨W.heap.size, 4, none⟩ = some (.int .i64 mx)))
  have HB := Lib.hid hb
  have HN := Lib.hid hn
  have HKN := Lib.hid hkn
  have HKZ := Lib.hid hz
  have HK := Lib.hid hk
  have HKS := Lib.hid hks
  have HI : Hid (∀ u ∈ kids, RTxtC u) := Lib.hid ih
  have HSP := Lib.hid (hsp.step hb)
  have HL := Lib.hid hlen
  have HLT := Lib.hid hlt
  obtain ⟨k0, k1, k2, k3, k4⟩ := HX.out V (Below.refl _ _)
  clear hv hk hks ih hsp hlen n1 hb hlt hn hkn hz
  rcases hsh with ⟨rfl, q1⟩ | ⟨rfl, q1, q2, q3, hnl⟩ | ⟨rfl | rfl, q1⟩ | ⟨rfl, q1, q2, hmn, hmx⟩
  · clear q1
    obtain rfl : z = 0 := HKZ.out
    have HE : Hid (bs ⟨#[40, 41]⟩ = txt (.mk 0 sl kids mn mx)) := Lib.hid (by rw [txt_mk, if_pos rfl]; decide)
    go_enter Tryz.func20, Tryz.ntmps20
    go_wp2
    rw [← hV]
    go_ret
    exact ⟨_, rfl, HE.out, HB.out⟩
  · clear q1 q2 q3
    obtain rfl : z = 1 := HKZ.out
    have e0 : txt (.mk 1 sl kids mn mx) = clsT sl := by rw [txt_mk]; rfl
    rw [e0] at HL ⊢
    by_cases h0 : sl = []
    · subst h0
      obtain rfl : n = 0 := HN.out
      have HE : Hid (bs noneB = clsT []) := Lib.hid (by decide)
      dsimp only [noneB] at HE
      clear hnl
      go_enter Tryz.func20, Tryz.ntmps20
      go_wp2
      rw [← hV]
      go_ret
      exact ⟨_, rfl, HE.out, HB.out⟩
    · have hcls : clsT sl = 91 :: (sl.flatMap spT ++ [93]) := if_neg h0
      rw [hcls] at HL ⊢
      have hpos : 0 < n := by have := List.length_pos_iff.2 h0; have := HN.out; omega
      have hne : ((n : Int) == 0) = false := by rw [beq_eq_false_iff_ne]; omega
      have HEN := Lib.hid (norml_ends hnl)
      obtain ⟨gs, off, rfl, hgs, hcell⟩ := HSP.out h0
      have HC := Lib.hid hcell
      have HGS := Lib.hid hgs
      clear hnl hcell hgs hcls h0 hpos
      go_enter Tryz.func20, Tryz.ntmps20
      go_wp2_with fail
      rw [← hV]
      clear hV
      go_loopg [3, 4] n (fun r s3 s4 wx => ∃ (k : Nat) (s : ByteArray), k + r = n ∧ s4 = .int .i64 k ∧ s3 = .string s ∧ Hid (bs s = (sl.take k).flatMap spT) ∧ Hid (Below V.heap.size V wx))
      case atStart => exact ⟨0, ⟨#[]⟩, by omega, rfl, rfl, Lib.hid (by simp [bs]), Lib.hid (Below.refl _ _)⟩
      case round =>
        obtain ⟨k, s, hkr, rfl, rfl, HS, HBr⟩ := hrel
        obtain ⟨c0, c1, c2, c3, c4⟩ := HX.out wr HBr.out
        cases gk with
        | zero =>
          have hl : ¬ ((k : Int) < (n : Int)) := by omega
          have hk : sl.take k = sl := List.take_of_length_le (by have := HN.out; omega)
          have hs2 := HS.out
          rw [hk] at hs2
          have hsz : s.size + 2 ≤ 140737488355328 := by
            have h := HL.out
            rw [← hs2] at h
            simp only [List.length_cons, List.length_append, bs_len, List.length_nil] at h
            omega
          have HE : Hid (bs (⟨#[91]⟩ ++ s ++ ⟨#[93]⟩) = 91 :: (sl.flatMap spT ++ [93])) := Lib.hid (by rw [bs_append, bs_append, hs2]; rfl)
          have HBW : Hid (Below W.heap.size W wr) := Lib.hid (HB.out.trans (HBr.out.mono HB.out.size))
          clear hk hs2
          go_wp2
          go_ret
          exact ⟨_, rfl, HE.out, HBW.out⟩
        | succ gk =>
          have hl : (k : Int) < (n : Int) := by omega
          have h0 : (0 : Int) ≤ (k : Int) := by omega
          have hkl : k < sl.length := by have := HN.out; omega
          obtain ⟨d0, d1⟩ := HC.out k hkl
          have d0 := (HBr.out.cell (p := ⟨gs, off + k * 2, none⟩) HGS.out).trans d0
          have d1 := (HBr.out.cell (p := ⟨gs, off + k * 2 + 1, none⟩) HGS.out).trans d1
          obtain ⟨x, hx⟩ : ∃ x, x = sl[k].1 := ⟨_, rfl⟩
          obtain ⟨y, hy⟩ : ∃ y, y = sl[k].2 := ⟨_, rfl⟩
          rw [← hx] at d0
          rw [← hy] at d1
          have hx0 : 0 ≤ x ∧ x ≤ 1114111 := by
            have h := (HEN.out sl[k] (List.getElem_mem hkl)).1
            rw [← hx] at h
            unfold Sc at h; omega
          have hy0 : 0 ≤ y ∧ y ≤ 1114111 := by
            have h := (HEN.out sl[k] (List.getElem_mem hkl)).2.1
            rw [← hy] at h
            unfold Sc at h; omega
          have HGX := Lib.hid (fun U => digits_c 16 (.inr rfl) (x.toNat + 1) x U hx0.1 (by omega) (by omega))
          have HGY := Lib.hid (fun U => digits_c 16 (.inr rfl) (y.toNat + 1) y U hy0.1 (by omega) (by omega))
          have hxs : (digB (Int.toNat 16) x.toNat).size ≤ 7 := digB_size (by decide) (by decide) (by show x.toNat < 16 ^ 7; simp; omega)
          have hys : (digB (Int.toNat 16) y.toNat).size ≤ 7 := digB_size (by decide) (by decide) (by show y.toNat < 16 ^ 7; simp; omega)
          have hbx : bs (digB (Int.toNat 16) x.toNat) = digF 16 x.toNat := digB_bs (by decide) (by decide)
          have hby : bs (digB (Int.toNat 16) y.toNat) = digF 16 y.toNat := digB_bs (by decide) (by decide)
          generalize digB (Int.toNat 16) x.toNat = bx at *
          generalize digB (Int.toNat 16) y.toNat = by' at *
          have hsz : s.size ≤ 140737488355328 := by
            have h := HL.out
            have hs2 := congrArg List.length HS.out
            rw [bs_len] at hs2
            have e : sl = sl.take k ++ (sl[k] :: sl.drop (k + 1)) := by rw [← List.drop_eq_getElem_cons hkl, List.take_append_drop]
            rw [e] at h
            simp only [List.flatMap_append, List.flatMap_cons, List.length_append, List.length_cons] at h
            omega
          have HS2 : Hid (bs (s ++ ⟨#[92, 120, 123]⟩ ++ bx ++ ⟨#[125, 45, 92, 120, 123]⟩ ++ by' ++ ⟨#[125]⟩) = (sl.take (k + 1)).flatMap spT) := Lib.hid (by
            rw [List.take_succ_eq_append_getElem hkl, List.flatMap_append, ← HS.out, bs_append, bs_append, bs_append, bs_append, bs_append, hbx, hby, hx, hy]
            simp [spT, scT, bs])
          clear hx hy hbx hby
          go_wp2_with fail
          go_quiet ((first | (go_at_call 32; with_reducible exact Calls.quiet_of (HGX.out _)) | (go_at_call 32; with_reducible exact Calls.quiet_of (HGY.out _))))
          generalize hX : wr.drewN _ = X
          have HXX : Hid (Below V.heap.size V X) := Lib.hid (by rw [← hX]; exact HBr.out.trans ((drewN_below _).mono HBr.out.size))
          clear hX c0 c1 c2 c3 c4 d0 d1
          go_wp2
          go_roundg gk
          case measure => omega
          case rel => exact ⟨k + 1, _, by omega, rfl, rfl, HS2, HXX⟩
  · clear q1
    obtain rfl : z = 2 := HKZ.out
    have e0 : txt (.mk 2 sl kids mn mx) = joinK [2, 3] (bs ⟨#[]⟩) kids := by rw [txt_mk]; rfl
    rw [e0] at HL ⊢
    go_enter Tryz.func20, Tryz.ntmps20
    go_wp2_with fail
    rw [← hV]
    clear hV
    go_loopg [3, 5] kn (fun r s3 s5 wx => ∃ (k : Nat) (s : ByteArray), k + r = kn ∧ s5 = .int .i64 k ∧ s3 = .string s ∧ Hid (bs s = joinK [2, 3] (bs ⟨#[]⟩) (kids.take k)) ∧ Hid (Below V.heap.size V wx))
    case atStart => exact ⟨0, ⟨#[]⟩, by omega, rfl, rfl, Lib.hid (by rw [List.take_zero, joinK_nil]; rfl), Lib.hid (Below.refl _ _)⟩
    case round =>
      obtain ⟨k, s, hkr, rfl, rfl, HS, HBr⟩ := hrel
      obtain ⟨c0, c1, c2, c3, c4⟩ := HX.out wr HBr.out
      cases gk with
      | zero =>
        have hl : ¬ ((k : Int) < (kn : Int)) := by omega
        have HE : Hid (bs s = joinK [2, 3] (bs ⟨#[]⟩) kids) := Lib.hid (by
          have hk : kids.take k = kids := List.take_of_length_le (by have := HKN.out; omega)
          have h := HS.out
          rw [hk] at h
          exact h)
        have HBW : Hid (Below W.heap.size W wr) := Lib.hid (HB.out.trans (HBr.out.mono HB.out.size))
        go_wp2
        go_ret
        exact ⟨_, rfl, HE.out, HBW.out⟩
      | succ gk =>
        have hl : (k : Int) < (kn : Int) := by omega
        have h0 : (0 : Int) ≤ (k : Int) := by omega
        have hkl : k < kids.length := by have := HKN.out; omega
        obtain ⟨g, rfl, ⟨cs, hcs⟩, hrow⟩ := HK.out (fun e => by rw [e] at hkl; cases hkl)
        have hgl := (Array.getElem?_eq_some_iff.1 hcs).1
        obtain ⟨u, hu, hc⟩ := hrow k hkl
        have hBw : Below W.heap.size W wr := HB.out.trans (HBr.out.mono HB.out.size)
        obtain ⟨t, ht⟩ : ∃ t, t = kids[k] := ⟨_, rfl⟩
        rw [← ht] at hu
        obtain ⟨tkd, tsl, tk, tmn, tmx⟩ := t
        obtain ⟨tsp, tsc, tkp, tkc, rfl, hu8, _⟩ := hu.read
        have d0 := (hBw.cell (p := ⟨g, k * 5 + 0, none⟩) hgl).trans (hc 0 (by omega))
        have d1 := (hBw.cell (p := ⟨g, k * 5 + 1, none⟩) hgl).trans (hc 1 (by omega))
        have d2 := (hBw.cell (p := ⟨g, k * 5 + 2, none⟩) hgl).trans (hc 2 (by omega))
        have d3 := (hBw.cell (p := ⟨g, k * 5 + 3, none⟩) hgl).trans (hc 3 (by omega))
        have d4 := (hBw.cell (p := ⟨g, k * 5 + 4, none⟩) hgl).trans (hc 4 (by omega))
        simp only [kidParts, Nat.add_zero] at d0 d1 d2 d3 d4
        simp at d0 d1 d2 d3 d4
        obtain ⟨tn, htn⟩ : ∃ tn, tn = tsl.length := ⟨_, rfl⟩
        obtain ⟨tkn, htkn⟩ : ∃ tkn, tkn = tk.length := ⟨_, rfl⟩
        rw [← htn] at d1 hu
        rw [← htkn] at d2 hu
        have hm : Ns.mk tkd tsl tk tmn tmx ∈ kids := by rw [ht]; exact List.getElem_mem hkl
        have HJ : Hid (joinK [2, 3] (bs ⟨#[]⟩) (kids.take (k + 1)) = joinK [2, 3] (bs ⟨#[]⟩) (kids.take k) ++ ((if k = 0 then [] else (bs ⟨#[]⟩)) ++ inT [2, 3] (Ns.mk tkd tsl tk tmn tmx))) := Lib.hid (by rw [ht]; exact joinK_take [2, 3] (bs ⟨#[]⟩) kids k hkl)
        have HJL : Hid ((joinK [2, 3] (bs ⟨#[]⟩) (kids.take (k + 1))).length ≤ 140737488355328) := Lib.hid (by have := joinK_le [2, 3] (bs ⟨#[]⟩) kids (k + 1); have := HL.out; omega)
        have HU := Lib.hid hu
        have HMEM := Lib.hid hm
        have hsz : s.size ≤ 140737488355328 := by
          have h := HJL.out
          rw [HJ.out, ← HS.out, List.length_append, bs_len] at h
          omega
        have HR := Lib.hid (fun (U : World) (hU : Below W.heap.size W U) => rin_new (m := 2) [2, 3] rfl (by decide) hU HU.out (HKS.out _ HMEM.out) (by have h := HJL.out; rw [HJ.out] at h; simp only [List.length_append] at h; omega) (HI.out _ HMEM.out))
        have HBw := Lib.hid hBw
        clear hu hc hBw ht hm htn htkn hu8 hcs hrow
        go_wp2_with fail
        refine (HR.out wr HBw.out).mono ?_
        rintro e w5 ⟨s5, rfl, hs5, b5⟩
        have hz5 : s5.size ≤ 140737488355328 := by
          have h := HJL.out
          rw [HJ.out, ← hs5] at h
          simp only [List.length_append, bs_len] at h
          omega
        have HS2 : Hid (bs (s ++ s5) = joinK [2, 3] (bs ⟨#[]⟩) (kids.take (k + 1))) := Lib.hid (by
          rw [HJ.out, ← HS.out, bs_append, hs5]
          congr 1
          by_cases hk0 : k = 0
          · rw [if_pos hk0]; rfl
          · rw [if_neg hk0]; rfl)
        have HB5 := Lib.hid (HBr.out.trans (b5.mono HBr.out.size))
        clear hs5 b5 c0 c1 c2 c3 c4 d0 d1 d2 d3 d4
        go_wp2
        go_roundg gk
        case measure => omega
        case rel => exact ⟨k + 1, _, by omega, rfl, rfl, HS2, HB5⟩
  · clear q1
    obtain rfl : z = 3 := HKZ.out
    have e0 : txt (.mk 3 sl kids mn mx) = joinK [3] (bs ⟨#[124]⟩) kids := by rw [txt_mk]; exact (List.drop_one).symm
    rw [e0] at HL ⊢
    go_enter Tryz.func20, Tryz.ntmps20
    go_wp2_with fail
    rw [← hV]
    clear hV
    go_loopg [3, 6] kn (fun r s3 s6 wx => ∃ (k : Nat) (s : ByteArray), k + r = kn ∧ s6 = .int .i64 k ∧ s3 = .string s ∧ Hid (bs s = joinK [3] (bs ⟨#[124]⟩) (kids.take k)) ∧ Hid (Below V.heap.size V wx))
    case atStart => exact ⟨0, ⟨#[]⟩, by omega, rfl, rfl, Lib.hid (by rw [List.take_zero, joinK_nil]; rfl), Lib.hid (Below.refl _ _)⟩
    case round =>
      obtain ⟨k, s, hkr, rfl, rfl, HS, HBr⟩ := hrel
      obtain ⟨c0, c1, c2, c3, c4⟩ := HX.out wr HBr.out
      cases gk with
      | zero =>
        have hl : ¬ ((k : Int) < (kn : Int)) := by omega
        have HE : Hid (bs s = joinK [3] (bs ⟨#[124]⟩) kids) := Lib.hid (by
          have hk : kids.take k = kids := List.take_of_length_le (by have := HKN.out; omega)
          have h := HS.out
          rw [hk] at h
          exact h)
        have HBW : Hid (Below W.heap.size W wr) := Lib.hid (HB.out.trans (HBr.out.mono HB.out.size))
        go_wp2
        go_ret
        exact ⟨_, rfl, HE.out, HBW.out⟩
      | succ gk =>
        have hl : (k : Int) < (kn : Int) := by omega
        have h0 : (0 : Int) ≤ (k : Int) := by omega
        have hkl : k < kids.length := by have := HKN.out; omega
        obtain ⟨g, rfl, ⟨cs, hcs⟩, hrow⟩ := HK.out (fun e => by rw [e] at hkl; cases hkl)
        have hgl := (Array.getElem?_eq_some_iff.1 hcs).1
        obtain ⟨u, hu, hc⟩ := hrow k hkl
        have hBw : Below W.heap.size W wr := HB.out.trans (HBr.out.mono HB.out.size)
        obtain ⟨t, ht⟩ : ∃ t, t = kids[k] := ⟨_, rfl⟩
        rw [← ht] at hu
        obtain ⟨tkd, tsl, tk, tmn, tmx⟩ := t
        obtain ⟨tsp, tsc, tkp, tkc, rfl, hu8, _⟩ := hu.read
        have d0 := (hBw.cell (p := ⟨g, k * 5 + 0, none⟩) hgl).trans (hc 0 (by omega))
        have d1 := (hBw.cell (p := ⟨g, k * 5 + 1, none⟩) hgl).trans (hc 1 (by omega))
        have d2 := (hBw.cell (p := ⟨g, k * 5 + 2, none⟩) hgl).trans (hc 2 (by omega))
        have d3 := (hBw.cell (p := ⟨g, k * 5 + 3, none⟩) hgl).trans (hc 3 (by omega))
        have d4 := (hBw.cell (p := ⟨g, k * 5 + 4, none⟩) hgl).trans (hc 4 (by omega))
        simp only [kidParts, Nat.add_zero] at d0 d1 d2 d3 d4
        simp at d0 d1 d2 d3 d4
        obtain ⟨tn, htn⟩ : ∃ tn, tn = tsl.length := ⟨_, rfl⟩
        obtain ⟨tkn, htkn⟩ : ∃ tkn, tkn = tk.length := ⟨_, rfl⟩
        rw [← htn] at d1 hu
        rw [← htkn] at d2 hu
        have hm : Ns.mk tkd tsl tk tmn tmx ∈ kids := by rw [ht]; exact List.getElem_mem hkl
        have HJ : Hid (joinK [3] (bs ⟨#[124]⟩) (kids.take (k + 1)) = joinK [3] (bs ⟨#[124]⟩) (kids.take k) ++ ((if k = 0 then [] else (bs ⟨#[124]⟩)) ++ inT [3] (Ns.mk tkd tsl tk tmn tmx))) := Lib.hid (by rw [ht]; exact joinK_take [3] (bs ⟨#[124]⟩) kids k hkl)
        have HJL : Hid ((joinK [3] (bs ⟨#[124]⟩) (kids.take (k + 1))).length ≤ 140737488355328) := Lib.hid (by have := joinK_le [3] (bs ⟨#[124]⟩) kids (k + 1); have := HL.out; omega)
        have HU := Lib.hid hu
        have HMEM := Lib.hid hm
        have hsz : s.size ≤ 140737488355328 := by
          have h := HJL.out
          rw [HJ.out, ← HS.out, List.length_append, bs_len] at h
          omega
        have HR := Lib.hid (fun (U : World) (hU : Below W.heap.size W U) => rin_new (m := 1) [3] rfl (by decide) hU HU.out (HKS.out _ HMEM.out) (by have h := HJL.out; rw [HJ.out] at h; simp only [List.length_append] at h; omega) (HI.out _ HMEM.out))
        have HBw := Lib.hid hBw
        clear hu hc hBw ht hm htn htkn hu8 hcs hrow
        rcases (by omega : k = 0 ∨ 0 < k) with hk0 | hk0
        · have HK0 := Lib.hid hk0
          have hz : ¬ 0 < k := by omega
          clear hk0
          go_wp2_with fail
          refine (HR.out wr HBw.out).mono ?_
          rintro e w5 ⟨s5, rfl, hs5, b5⟩
          have hz5 : s5.size ≤ 140737488355328 := by
            have h := HJL.out
            rw [HJ.out, ← hs5] at h
            simp only [List.length_append, bs_len] at h
            omega
          have HS2 : Hid (bs (s ++ s5) = joinK [3] (bs ⟨#[124]⟩) (kids.take (k + 1))) := Lib.hid (by
            rw [HJ.out, if_pos HK0.out, ← HS.out]
            rw [bs_append, hs5]; rfl)
          have HB5 := Lib.hid (HBr.out.trans (b5.mono HBr.out.size))
          clear hs5 b5 c0 c1 c2 c3 c4 d0 d1 d2 d3 d4
          go_wp2
          go_roundg gk
          case measure => omega
          case rel => exact ⟨k + 1, _, by omega, rfl, rfl, HS2, HB5⟩
        · have HK0 : Hid (¬ k = 0) := Lib.hid (by omega)
          go_wp2_with fail
          refine (HR.out wr HBw.out).mono ?_
          rintro e w5 ⟨s5, rfl, hs5, b5⟩
          have hz5 : s5.size ≤ 140737488355328 := by
            have h := HJL.out
            rw [HJ.out, ← hs5] at h
            simp only [List.length_append, bs_len] at h
            omega
          have HS2 : Hid (bs (s ++ ⟨#[124]⟩ ++ s5) = joinK [3] (bs ⟨#[124]⟩) (kids.take (k + 1))) := Lib.hid (by
            rw [HJ.out, if_neg HK0.out, ← HS.out]
            rw [bs_append, bs_append, hs5]; simp)
          have HB5 := Lib.hid (HBr.out.trans (b5.mono HBr.out.size))
          clear hs5 b5 c0 c1 c2 c3 c4 d0 d1 d2 d3 d4
          go_wp2
          go_roundg gk
          case measure => omega
          case rel => exact ⟨k + 1, _, by omega, rfl, rfl, HS2, HB5⟩
  · clear q2
    obtain rfl : z = 4 := HKZ.out
    have hk1 : kids.length = 1 := by have := HKN.out; omega
    obtain ⟨t0, rfl⟩ := List.length_eq_one_iff.1 hk1
    have e0 : txt (.mk 4 sl [t0] mn mx) = inT [2, 3, 4] t0 ++ timesT mn mx := by
      rw [txt_mk]
      show kidsT [2, 3, 4] [] [t0] ++ timesT mn mx = _
      rw [kidsT_cons, kidsT_nil]; simp
    rw [e0] at HL ⊢
    subst q1
    obtain ⟨g, rfl, ⟨cs, hcs⟩, hrow⟩ := HK.out (by simp)
    have hgl := (Array.getElem?_eq_some_iff.1 hcs).1
    obtain ⟨u, hu, hc⟩ := hrow 0 (by simp)
    have hu : RV W u t0 := hu
    have HMEM : Hid (t0 ∈ [t0]) := Lib.hid (by simp)
    have HI0 := Lib.hid (HI.out t0 HMEM.out)
    have HS0 := Lib.hid (HKS.out t0 HMEM.out)
    obtain ⟨tkd, tsl, tk, tmn, tmx⟩ := t0
    obtain ⟨tsp, tsc, tkp, tkc, rfl, hu8, _⟩ := hu.read
    have d0 := (HB.out.cell (p := ⟨g, 0 * 5 + 0, none⟩) hgl).trans (hc 0 (by omega))
    have d1 := (HB.out.cell (p := ⟨g, 0 * 5 + 1, none⟩) hgl).trans (hc 1 (by omega))
    have d2 := (HB.out.cell (p := ⟨g, 0 * 5 + 2, none⟩) hgl).trans (hc 2 (by omega))
    have d3 := (HB.out.cell (p := ⟨g, 0 * 5 + 3, none⟩) hgl).trans (hc 3 (by omega))
    have d4 := (HB.out.cell (p := ⟨g, 0 * 5 + 4, none⟩) hgl).trans (hc 4 (by omega))
    simp only [kidParts, Nat.add_zero, Nat.zero_mul, Nat.zero_add] at d0 d1 d2 d3 d4
    simp at d0 d1 d2 d3 d4
    obtain ⟨tn, htn⟩ : ∃ tn, tn = tsl.length := ⟨_, rfl⟩
    obtain ⟨tkn, htkn⟩ : ∃ tkn, tkn = tk.length := ⟨_, rfl⟩
    rw [← htn] at d1 hu
    rw [← htkn] at d2 hu
    have HU := Lib.hid hu
    have HGL : Hid (g < V.heap.size) := Lib.hid (Nat.lt_of_lt_of_le hgl HB.out.size)
    have HLI : Hid ((inT [2, 3, 4] (Ns.mk tkd tsl tk tmn tmx)).length + (timesT mn mx).length ≤ 140737488355328) := Lib.hid (by have h := HL.out; rw [List.length_append] at h; exact h)
    have hdr : Below V.heap.size V V.drew := (Below.refl _ _).drew
    have HR := Lib.hid (rin_new (V := V.drew) (m := 3) [2, 3, 4] rfl (by decide) (HB.out.trans (hdr.mono HB.out.size)) HU.out HS0.out (by have := HLI.out; omega) HI0.out)
    have HDM := Lib.hid (fun U => digits_c 10 (.inl rfl) (mn.toNat + 1) mn U hmn.1 (by omega) (by omega))
    have hms : (digB (Int.toNat 10) mn.toNat).size ≤ 7 := digB_size (by decide) (by decide) (by show mn.toNat < 10 ^ 7; simp; omega)
    have hmb : bs (digB (Int.toNat 10) mn.toNat) = digF 10 mn.toNat := digB_bs (by decide) (by decide)
    generalize digB (Int.toNat 10) mn.toNat = bm at *
    have HMB := Lib.hid hmb
    have HCL := Lib.hid (fun (U : World) (hU : Below V.heap.size V U) => (⟨(HX.out U hU).2.2.1, (HX.out U hU).2.2.2.1, (hU.cell (p := ⟨g, 0, none⟩) HGL.out).trans d0, (hU.cell (p := ⟨g, 1, none⟩) HGL.out).trans d1, (hU.cell (p := ⟨g, 2, none⟩) HGL.out).trans d2, (hU.cell (p := ⟨g, 3, none⟩) HGL.out).trans d3, (hU.cell (p := ⟨g, 4, none⟩) HGL.out).trans d4⟩ : U.cell? ⟨W.heap.size, 2, none⟩ = some (.slice (some ⟨g, 0, none⟩) 1 kc) ∧ U.cell? ⟨W.heap.size, 3, none⟩ = some (.int .i64 mn) ∧ U.cell? ⟨g, 0, none⟩ = some (.int .u8 tkd) ∧ U.cell? ⟨g, 1, none⟩ = some (.slice tsp tn tsc) ∧ U.cell? ⟨g, 2, none⟩ = some (.slice tkp tkn tkc) ∧ U.cell? ⟨g, 3, none⟩ = some (.int .i64 tmn) ∧ U.cell? ⟨g, 4, none⟩ = some (.int .i64 tmx)))
    have HSZ5 : ∀ s5, bs s5 = inT [2, 3, 4] (Ns.mk tkd tsl tk tmn tmx) → s5.size + 100 ≤ 9223372036854775807 := fun s5 h => by
      have h2 := congrArg List.length h
      rw [bs_len] at h2
      have := HLI.out
      omega
    have HMX : Hid (mx = -1 ∨ (0 ≤ mx ∧ mx ≤ 20)) := Lib.hid (by omega)
    have HMN := Lib.hid hmn
    clear hu hc htn htkn hu8 hcs hrow hgl hmb e0 hk1 hmx hmn d0 d1 d2 d3 d4
    go_enter Tryz.func20, Tryz.ntmps20
    go_wp2_with fail
    rw [← hV]
    clear hV
    have hr : Below V.heap.size V V.drew := hdr
    clear hdr
    have HCA : Hid (∀ o, Below V.heap.size V (V.alloc o).drew) := Lib.hid (fun o => ((Below.refl _ _).alloc (Nat.le_refl _) o).drew)
    go_region_held3 (fun U => U.cell? ⟨W.heap.size, 2, none⟩ = some (.slice (some ⟨g, 0, none⟩) 1 kc) ∧ U.cell? ⟨W.heap.size, 3, none⟩ = some (.int .i64 mn) ∧ U.cell? ⟨g, 0, none⟩ = some (.int .u8 tkd) ∧ U.cell? ⟨g, 1, none⟩ = some (.slice tsp tn tsc) ∧ U.cell? ⟨g, 2, none⟩ = some (.slice tkp tkn tkc) ∧ U.cell? ⟨g, 3, none⟩ = some (.int .i64 tmn) ∧ U.cell? ⟨g, 4, none⟩ = some (.int .i64 tmx))
      (first | exact HCL.out _ hr | exact HCL.out _ (HCA.out _))
      (first
        | (go_at_call 33; (refine HR.out.mono ?_); rintro e w5 ⟨s5, rfl, hs5, b5⟩; have HS5 := Lib.hid hs5; have hr := hr.trans (b5.mono hr.size); have hz5 : s5.size + 100 ≤ 9223372036854775807 := HSZ5 s5 hs5; have g1 : ¬ 9223372036854775807 < s5.size + 1 := (by omega); have g2 : ¬ 9223372036854775807 < s5.size + 1 + bm.size := (by omega); have g3 : ¬ 9223372036854775807 < s5.size + 1 + bm.size + 1 := (by omega); clear hs5 b5)
        | (go_at_call 32; (with_reducible refine (HDM.out _).mono ?_); rintro e w6 ⟨rfl, kk, rfl⟩; have hr := hr.trans ((drewN_below kk).mono hr.size)))
    obtain ⟨c0, c1, c2, c3, c4⟩ := HX.out _ hr
    have HRR := Lib.hid hr
    have hz5 : s5.size + 100 ≤ 9223372036854775807 := HSZ5 s5 HS5.out
    obtain ⟨U6, hU6⟩ : ∃ U, U = w5.drewN kk := ⟨_, rfl⟩
    rw [← hU6] at c0 c1 c2 c3 c4 HRR ⊢
    clear hr hU6 g1 g2 g3 k0 k1 k2 k3 k4 HSZ5
    have hz6 : (s5 ++ (⟨#[123]⟩ : ByteArray) ++ bm ++ (⟨#[44]⟩ : ByteArray)).size = s5.size + 1 + bm.size + 1 := by rw [ByteArray.size_append, ByteArray.size_append, ByteArray.size_append]; rfl
    rcases HMX.out with hx | ⟨hx0, hx1⟩
    · subst hx
      have hng : ¬ (-1 : Int) ≥ 0 := by omega
      have HE : Hid (bs (s5 ++ ⟨#[123]⟩ ++ bm ++ ⟨#[44]⟩ ++ ⟨#[125]⟩) = inT [2, 3, 4] (Ns.mk tkd tsl tk tmn tmx) ++ timesT mn (-1)) := Lib.hid (by
        rw [bs_append, bs_append, bs_append, bs_append, HS5.out, HMB.out]
        simp [timesT, bs])
      have HBW := Lib.hid (HB.out.trans (HRR.out.mono HB.out.size))
      have g4 : ¬ 9223372036854775807 < s5.size + 1 + bm.size + 1 + 1 := by omega
      clear hz6
      go_wp2
      go_ret
      exact ⟨_, rfl, HE.out, HBW.out⟩
    · have hxm : mx ≠ -1 := by omega
      have HDX := Lib.hid (fun U => digits_c 10 (.inl rfl) (mx.toNat + 1) mx U hx0 (by omega) (by omega))
      have hxs : (digB (Int.toNat 10) mx.toNat).size ≤ 7 := digB_size (by decide) (by decide) (by show mx.toNat < 10 ^ 7; simp; omega)
      have hxb : bs (digB (Int.toNat 10) mx.toNat) = digF 10 mx.toNat := digB_bs (by decide) (by decide)
      generalize digB (Int.toNat 10) mx.toNat = bx at *
      have HE : Hid (bs (s5 ++ ⟨#[123]⟩ ++ bm ++ ⟨#[44]⟩ ++ bx ++ ⟨#[125]⟩) = inT [2, 3, 4] (Ns.mk tkd tsl tk tmn tmx) ++ timesT mn mx) := Lib.hid (by
        rw [bs_append, bs_append, bs_append, bs_append, bs_append, HS5.out, HMB.out, hxb]
        simp [timesT, bs, hxm])
      have HBW := Lib.hid (HB.out.trans (HRR.out.mono HB.out.size))
      have g4 : ¬ 9223372036854775807 < s5.size + 1 + bm.size + 1 + bx.size := by omega
      have g5 : ¬ 9223372036854775807 < s5.size + 1 + bm.size + 1 + bx.size + 1 := by omega
      have hge : mx ≥ 0 := hx0
      clear hz6 hxb hxm
      go_wp2_with fail
      refine (HDX.out _).mono ?_
      rintro e w7 ⟨rfl, k7, rfl⟩
      have HB7 := Lib.hid (HBW.out.trans ((drewN_below k7).mono HBW.out.size))
      go_wp2
      go_ret
      exact ⟨_, rfl, HE.out, HB7.out⟩
theorem rtxt_all : ∀ (t : Ns), RTxtC t
  | .mk k sl kids mn mx => rtxt_k _ (fun u _hu => rtxt_all u)
termination_by t => SizeOf.sizeOf t
decreasing_by
  have := List.sizeOf_lt_of_mem (show u ∈ kids from _hu)
  simp only [Ns.mk.sizeOf_spec]
  omega
end Go.Proofs.YtdcnfflleaplnaaGreatDoor

/- The document's Sound and Write, at any node. -/
namespace Go.Proofs.YtdcnfflleaplnaaGreatDoor
open Go.RowKit Go.Shelf Go.Maps SetM PropsM RxM WrM

set_option maxHeartbeats 2000000 in
set_option maxRecDepth 100000 in
theorem rsound_c {W : World} {v : Value} {t : Ns} (hv : RV W v t) (hw : WdT t) : Calls Tryz.prog 13 #[v] W fun e W' => e = .returned (.bool (sndB t 0)) ∧ Below W.heap.size W W' := by
  obtain ⟨k, sp, sn, sc, kp, kn, kc, mn, mx, rfl⟩ := hv.form5
  obtain ⟨V, hV⟩ : ∃ V, V = W.alloc (.cells #[.int .u8 k, .slice sp sn sc, .slice kp kn kc, .int .i64 mn, .int .i64 mx] 26) := ⟨_, rfl⟩
  have n1 : V.heap[W.heap.size]? = some (.cells #[.int .u8 k, .slice sp sn sc, .slice kp kn kc, .int .i64 mn, .int .i64 mx] 26 (0, 0)) := by rw [hV]; exact heap_alloc_new W _
  have hb : Below W.heap.size W V := by rw [hV]; exact (Below.refl _ _).alloc (Nat.le_refl _) _
  have hlt := (Array.getElem?_eq_some_iff.1 n1).1
  have HC := Lib.hid (rsnd_all t V _ 0 (by omega) (by omega) (hv.step hb) hw)
  have k0 : V.cell? ⟨W.heap.size, 0, none⟩ = some (.int .u8 k) := by rw [cell_of_row V _ 0 _ _ _ n1]; rfl
  have k1 : V.cell? ⟨W.heap.size, 1, none⟩ = some (.slice sp sn sc) := by rw [cell_of_row V _ 1 _ _ _ n1]; rfl
  have k2 : V.cell? ⟨W.heap.size, 2, none⟩ = some (.slice kp kn kc) := by rw [cell_of_row V _ 2 _ _ _ n1]; rfl
  have k3 : V.cell? ⟨W.heap.size, 3, none⟩ = some (.int .i64 mn) := by rw [cell_of_row V _ 3 _ _ _ n1]; rfl
  have k4 : V.cell? ⟨W.heap.size, 4, none⟩ = some (.int .i64 mx) := by rw [cell_of_row V _ 4 _ _ _ n1]; rfl
  have HB := Lib.hid hb
  clear hv hw hb hlt n1
  rw [hV] at k0 k1 k2 k3 k4
  go_enter Tryz.func13, Tryz.ntmps13
  go_wp2_with fail
  rw [← hV]
  clear k0 k1 k2 k3 k4 hV
  refine HC.out.mono ?_
  rintro e w1 ⟨⟨q, rfl, hq⟩, b1⟩
  have HQ : Hid (q = sndB t 0) := Lib.hid (by
    rw [Bool.eq_iff_iff, hq, sndB_true]
    unfold SndAt
    constructor
    · rintro ⟨h1, h2⟩; exact ⟨h1, by omega⟩
    · rintro ⟨h1, h2⟩; exact ⟨h1, by omega⟩)
  have HB1 := Lib.hid (HB.out.trans (b1.mono HB.out.size))
  clear hq b1
  go_wp2
  go_ret
  exact ⟨by rw [← HQ.out]; rfl, HB1.out⟩
set_option maxHeartbeats 2000000 in
set_option maxRecDepth 100000 in
theorem rwrite_c {W : World} {v : Value} {t : Ns} (hv : RV W v t) (hw : WdT t) (hl : SndAt t 0 → (txt t).length ≤ 140737488355328) : Calls Tryz.prog 11 #[v] W fun e W' => ∃ s, e = .returned (.string s) ∧ bs s = wrT t ∧ Below W.heap.size W W' := by
  obtain ⟨k, sp, sn, sc, kp, kn, kc, mn, mx, rfl⟩ := hv.form5
  obtain ⟨V, hV⟩ : ∃ V, V = W.alloc (.cells #[.int .u8 k, .slice sp sn sc, .slice kp kn kc, .int .i64 mn, .int .i64 mx] 26) := ⟨_, rfl⟩
  have n1 : V.heap[W.heap.size]? = some (.cells #[.int .u8 k, .slice sp sn sc, .slice kp kn kc, .int .i64 mn, .int .i64 mx] 26 (0, 0)) := by rw [hV]; exact heap_alloc_new W _
  have hb : Below W.heap.size W V := by rw [hV]; exact (Below.refl _ _).alloc (Nat.le_refl _) _
  have hlt := (Array.getElem?_eq_some_iff.1 n1).1
  have HS := Lib.hid (rsound_c (hv.step hb) hw)
  have HX := Lib.hid (fun (U : World) (hU : Below V.heap.size V U) => (⟨(hU.cell (p := ⟨W.heap.size, 0, none⟩) hlt).trans (by rw [cell_of_row V _ 0 _ _ _ n1]; rfl), (hU.cell (p := ⟨W.heap.size, 1, none⟩) hlt).trans (by rw [cell_of_row V _ 1 _ _ _ n1]; rfl), (hU.cell (p := ⟨W.heap.size, 2, none⟩) hlt).trans (by rw [cell_of_row V _ 2 _ _ _ n1]; rfl), (hU.cell (p := ⟨W.heap.size, 3, none⟩) hlt).trans (by rw [cell_of_row V _ 3 _ _ _ n1]; rfl), (hU.cell (p := ⟨W.heap.size, 4, none⟩) hlt).trans (by rw [cell_of_row V _ 4 _ _ _ n1]; rfl)⟩ : U.cell? ⟨W.heap.size, 0, none⟩ = some (.int .u8 k) ∧ U.cell? ⟨W.heap.size, 1, none⟩ = some (.slice sp sn sc) ∧ U.cell? ⟨W.heap.size, 2, none⟩ = some (.slice kp kn kc) ∧ U.cell? ⟨W.heap.size, 3, none⟩ = some (.int .i64 mn) ∧ U.cell? ⟨W.heap.size, 4, none⟩ = some (.int .i64 mx)))
  obtain ⟨k0, k1, k2, k3, k4⟩ := HX.out V (Below.refl _ _)
  have HB := Lib.hid hb
  have HT := Lib.hid (fun (U : World) (hU : Below V.heap.size V U) (hs : SndAt t 0) => rtxt_all t U _ (hv.step (hb.trans (hU.mono hb.size))) hs.1 (hl hs))
  clear hv hl hb hlt n1 hw
  go_enter Tryz.func11, Tryz.ntmps11
  go_wp2_with fail
  rw [← hV]
  clear hV
  refine HS.out.mono ?_
  rintro e w1 ⟨rfl, b1⟩
  have HB1 := Lib.hid (HB.out.trans (b1.mono HB.out.size))
  have HB1V := Lib.hid b1
  obtain ⟨k0, k1, k2, k3, k4⟩ := HX.out w1 b1
  clear b1 HS
  cases hq : sndB t 0 with
  | false =>
    have HQ : Hid (wrT t = []) := Lib.hid (by unfold wrT; rw [hq]; rfl)
    clear hq
    go_wp2
    go_ret
    exact ⟨_, rfl, HQ.out.symm, HB1.out⟩
  | true =>
    have HTX := Lib.hid (HT.out w1 HB1V.out (sndB_true.1 hq))
    have HQ : Hid (wrT t = txt t) := Lib.hid (by unfold wrT; rw [hq]; rfl)
    clear hq
    go_wp2_with fail
    refine HTX.out.mono ?_
    rintro e w2 ⟨s, rfl, hs, b2⟩
    have HE : Hid (bs s = wrT t ∧ Below W.heap.size W w2) := Lib.hid ⟨by rw [HQ.out]; exact hs, HB1.out.trans (b2.mono HB1.out.size)⟩
    clear hs b2 HTX
    go_wp2
    go_ret
    exact ⟨s, rfl, HE.out⟩
end Go.Proofs.YtdcnfflleaplnaaGreatDoor
