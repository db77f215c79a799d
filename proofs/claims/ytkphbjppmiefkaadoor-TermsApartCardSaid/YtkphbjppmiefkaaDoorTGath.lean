/- The program's gather: runs that have one word are one part. -/
import Derived.Test.YtkphbjppmiefkaaDoorTMap
import Derived.Test.YtkphbjppmiefkaaDoorTG
import Derived.Test.YtkphbjppmiefkaaDoorTFb
namespace Go.Proofs.YtkphbjppmiefkaaDoor
open Go.RowKit Go.Shelf Go.Maps SetM TermsM
theorem infoSp : (Tryd.prog.info? 42).map (fun i => (i.zero, i.size, i.bytes)) = some (some (.agg #[.int .i64 0, .int .i64 0]), 2, 16) := by kernel_rfl
theorem infoSl : (Tryd.prog.info? 28).map (fun i => (i.zero, i.size, i.bytes)) = some (some (.slice none 0 0), 1, 24) := by kernel_rfl
/-- The cell of a part in the row of all. -/
theorem PF.cell {base : Nat} {W : World} {R : Nat → Rw} {p : List (List Sp)} (h : PF base W R p) {g0 c0 : Nat} (h0 : (R 0).v = .slice (some ⟨g0, 0, none⟩) p.length c0) {i : Nat} (hi : i < p.length) : W.cell? ⟨g0, i, none⟩ = some (R (1 + i)).v ∧ W.frozen? ⟨g0, i, none⟩ = false := by
  have h1 := h.fam.own 0 (by omega)
  obtain ⟨e1, e2, e3, e4⟩ := h.r0
  unfold Rw.ok at h1
  rw [e1, e2, e3, e4, h0] at h1
  have := Rw.ok.at (W := W) (e := 28) (n := p.length) (g := g0) (cap := c0) (xs := (List.range p.length).map (fun i => (R (1 + i)).v)) h1 hi
  refine ⟨?_, this.2⟩
  rw [this.1]
  simp [hi]
theorem PF.mid {base : Nat} {W W1 : World} {R : Nat → Rw} {p : List (List Sp)} (h : PF base W R p) {g0 c0 : Nat} (h0 : (R 0).v = .slice (some ⟨g0, 0, none⟩) p.length c0) {i : Nat} (hi : i < p.length) (hg : W.grownBy W1 (R (1 + i)).v.ownBlock) : W1.cell? ⟨g0, i, none⟩ = some (R (1 + i)).v ∧ W1.frozen? ⟨g0, i, none⟩ = false := by
  have hlt : g0 < W.heap.size := h.fam.lt ⟨0, by omega, by rw [h0]; rfl⟩
  have hne : some g0 ≠ (R (1 + i)).v.ownBlock := fun e => h.fam.apart 0 (1 + i) (by omega) (by omega) (by omega) g0 (by rw [h0]; rfl) e.symm
  have hb := hg.block g0 hlt hne
  obtain ⟨c1, c2⟩ := h.cell h0 hi
  refine ⟨(World.cell?_of_block hb).trans c1, ?_⟩
  unfold World.frozen? at c2 ⊢
  rw [show W1.heap[(⟨g0, i, none⟩ : Addr).block]? = W.heap[(⟨g0, i, none⟩ : Addr).block]? from hb]
  exact c2
theorem PF.drew {base : Nat} {W : World} {R : Nat → Rw} {p : List (List Sp)} (h : PF base W R p) : PF base W.drew R p := ⟨⟨fun i hi => h.fam.own i hi, h.fam.apart⟩, h.own, h.r0, h.ri⟩
theorem PF.outer {base : Nat} {W : World} {R : Nat → Rw} {p : List (List Sp)} (h : PF base W R p) (hne : 0 < p.length) : ∃ g0 c0, (R 0).v = .slice (some ⟨g0, 0, none⟩) p.length c0 := by
  obtain ⟨e1, e2, e3, e4⟩ := h.r0
  rcases (h.fam.own 0 (by omega)).2 with ⟨_, k2⟩ | ⟨g, cap, cur, k1, _⟩
  · have : p.length = 0 := by rw [← e3]; exact k2
    omega
  · exact ⟨g, cap, by rw [k1, e3]⟩
theorem rw_eta {r : Rw} {e : TypeId} {s n : Nat} {xs : List Value} (h : r.e = e ∧ r.s = s ∧ r.n = n ∧ r.xs = xs) : r = ⟨e, s, r.v, n, xs⟩ := by
  obtain ⟨rfl, rfl, rfl, rfl⟩ := h; rfl
/-- The places of parts as numbers. -/
def knI (kn : Int → Option Nat) (w : Int) : Option Int := (kn w).map Int.ofNat
theorem rOf_len (e ws : List Int) (i : Nat) (w : Int) : (rOf e ws i w).length ≤ i := by
  unfold rOf
  rw [List.length_map]
  exact Nat.le_trans (List.length_filter_le _ _) (by rw [List.length_range]; exact Nat.le_refl _)
/-- What holds between two rounds. -/
structure GI (E ws : List Int) (M : Nat) (W X : World) (i : Nat) (R : Nat → Rw) (p : List (List Sp)) (kn : Int → Option Nat) (n : Nat) : Prop where
  pf : PF (M + 1) X R p
  gt : Gt E ws i p kn
  map : MapF X 3 3 .i64 M n (onI (knI kn))
  n : n ≤ i
  pl : p.length ≤ i
  below : Below M W X
/-- What gather hands back. -/
def GathPost (E ws : List Int) (W : World) (e : Ending) (W' : World) : Prop :=
  ∃ P c p kn, e = .returned (.slice P (List.length p) c) ∧ Rs W' P p ∧ Gt E ws E.length p kn ∧ (P = none → c = 0) ∧ p.length ≤ c ∧ Below W.heap.size W W'
set_option maxRecDepth 100000 in
set_option maxHeartbeats 8000000 in
theorem gath_c {W : World} {P Pw : Option Addr} {n c m cw : Nat} {E ws : List Int} (hZ : Zs W P E) (hn : n = E.length) (hY : Zs W Pw ws) (hm : m = ws.length) (hl : m = n) (h8 : n ≤ 40000) (hup : E.Pairwise (· < ·)) (hsm : ∀ x ∈ E, 0 ≤ x ∧ x ≤ 1114112) (hws : ∀ x ∈ ws, 0 ≤ x ∧ x ≤ 1000000000000000) (hla : ∀ i, i < n → ws.getD i 0 ≠ 0 → i + 1 < n) :
    Calls Tryd.prog 28 #[.slice P n c, .slice Pw m cw] W (GathPost E ws W) := by
  have hmm := @run_makeMap Tryd.prog
  have HZ := Lib.hid hZ
  have HY := Lib.hid hY
  have HN := Lib.hid hn
  have HM := Lib.hid hm
  have HUP := Lib.hid hup
  have HSM := Lib.hid hsm
  have HWS := Lib.hid hws
  have HLA := Lib.hid hla
  have HLL := Lib.hid hl
  have hm8 : m ≤ 40000 := by omega
  obtain ⟨M, hMd⟩ : ∃ M, M = W.heap.size := ⟨_, rfl⟩
  have HMD := Lib.hid hMd
  have HG0 : Hid (GI E ws M W (W.alloc (.map #[] 0)) 0 (fun _ => ⟨28, 1, .slice none 0 0, 0, []⟩) [] (fun _ => none) 0) := Lib.hid ⟨PF.start _ _, Gt.start, by
    rw [hMd]
    exact (MapF.made W _ _ _).congr (fun x _ => by cases x with
      | int q y => cases q <;> rfl
      | _ => rfl), Nat.le_refl _, Nat.le_refl _, by rw [hMd]; exact (Below.refl _ _).alloc (Nat.le_refl _) _⟩
  clear hZ hY hn hm hup hsm hws hla hl
  go_enter Tryd.func28, Tryd.ntmps28
  go_upto_region 3 with fail
  rw [← hMd]
  clear hmm hMd
  go_wp2_with fail
  go_loopg [5, 14] m (fun g s5 s14 wx => ∃ (i : Nat) (R : Nat → Rw) (p : List (List Sp)) (kn : Int → Option Nat) (nk : Nat), i + g = m ∧ s14 = .int .i64 i ∧ s5 = (R 0).v ∧ Hid (GI E ws M W wx i R p kn nk))
  case atStart => exact ⟨0, _, _, _, _, by omega, rfl, rfl, HG0⟩
  case round =>
    obtain ⟨i, R, p, kn, nk, hig, rfl, hs5, HG⟩ := hrel
    obtain ⟨Pp, cp, hp1, hp2, hp3, hp4⟩ := HG.out.pf.rows
    rw [hp1] at hs5
    obtain ⟨pl, hpl⟩ : ∃ pl, pl = p.length := ⟨_, rfl⟩
    rw [← hpl] at hs5 hp1
    have HPL := Lib.hid hpl
    subst hs5
    cases gk with
    | zero =>
      obtain rfl : i = m := by omega
      have hlt : ¬ (i : Int) < (i : Int) := by omega
      have HX : Hid (GathPost E ws W (.returned (.slice Pp pl cp)) wr) := Lib.hid (by
        have h := HG.out.gt
        rw [show i = E.length by have := HN.out; have := HLL.out; omega] at h
        exact ⟨Pp, cp, p, kn, by rw [hpl], hp2, h, hp3, hp4, by rw [← HMD.out]; exact HG.out.below⟩)
      clear hp1 hp2 hp3 hp4 hpl HG
      go_wp2_with fail
      go_ret
      exact HX.out
    | succ g =>
      have HIG := Lib.hid hig
      have hlt : (i : Int) < (m : Int) := by omega
      have hiw : i < ws.length := by have := HM.out; omega
      have hiE : i < E.length := by have := HN.out; have := HLL.out; omega
      obtain ⟨bw, ow, rfl, hbw, hcw⟩ := HY.out (by intro h; rw [h] at hiw; simp at hiw)
      obtain ⟨x, hx⟩ : ∃ x, x = ws[i] := ⟨_, rfl⟩
      have hxd : ws.getD i 0 = x := by rw [List.getD_eq_getElem?_getD, List.getElem?_eq_getElem hiw, hx]; rfl
      have HXD := Lib.hid hxd
      have cw := (HG.out.below.cell (p := ⟨bw, ow + i, none⟩) (by rw [HMD.out]; exact hbw)).trans (hcw i hiw)
      rw [← hx] at cw
      have hxr := HWS.out x (by rw [hx]; exact List.getElem_mem hiw)
      clear hcw hx hxd
      by_cases hx0 : x = 0
      · have HX : Hid (GI E ws M W wr (i + 1) R p kn nk) := Lib.hid ⟨HG.out.pf, HG.out.gt.skip (by rw [HXD.out]; exact hx0), HG.out.map, by have := HG.out.n; omega, by have := HG.out.pl; omega, HG.out.below⟩
        have HP1 := Lib.hid hp1
        clear hp1 hp2 hp3 hp4 hpl HG
        go_wp2_with fail
        go_roundg g
        case measure => omega
        case rel => exact ⟨i + 1, R, p, kn, nk, by have := HIG.out; omega, by go_num, HP1.out.symm, HX⟩
      · have hi1 : i + 1 < n := HLA.out i (by have := HLL.out; omega) (by rw [HXD.out]; exact hx0)
        obtain ⟨bE, oE, rfl, hbE, hcE⟩ := HZ.out (by intro h; rw [h] at hiE; simp at hiE)
        have ce0 := (HG.out.below.cell (p := ⟨bE, oE + i, none⟩) (by rw [HMD.out]; exact hbE)).trans (hcE i hiE)
        have ce1 := (HG.out.below.cell (p := ⟨bE, oE + (i + 1), none⟩) (by rw [HMD.out]; exact hbE)).trans (hcE (i + 1) (by have := HN.out; omega))
        obtain ⟨lo, hlo⟩ : ∃ lo, lo = E[i] := ⟨_, rfl⟩
        obtain ⟨hi, hhi⟩ : ∃ hi, hi = E[i + 1]'(by have := HN.out; omega) := ⟨_, rfl⟩
        have hE1 : E.getD i 0 = lo := by rw [List.getD_eq_getElem?_getD, List.getElem?_eq_getElem hiE, hlo]; rfl
        have hE2 : E.getD (i + 1) 0 = hi := by rw [List.getD_eq_getElem?_getD, List.getElem?_eq_getElem (show i + 1 < E.length by have := HN.out; omega), hhi]; rfl
        have hsm1 := HSM.out lo (by rw [hlo]; exact List.getElem_mem _)
        have hsm2 := HSM.out hi (by rw [hhi]; exact List.getElem_mem _)
        have HCE : Hid (W.cell? ⟨bE, oE + i, none⟩ = some (.int .i64 lo) ∧ W.cell? ⟨bE, oE + (i + 1), none⟩ = some (.int .i64 hi)) := Lib.hid ⟨by rw [hlo]; exact hcE i hiE, by rw [hhi]; exact hcE (i + 1) _⟩
        have HBE := Lib.hid hbE
        have HE12 := Lib.hid (And.intro hE1 hE2)
        have hwq : wrap64 (hi - 1) = hi - 1 := IntWalk.wrap64_in _ (by omega)
        clear hcE ce0 ce1 hlo hhi hE1 hE2 hp2 hp3 hp4
        have hgn := HG.out.n
        have hgp := HG.out.pl
        cases hkn : kn x with
        | some k =>
          have hlk0 := HG.out.map.look_ok keyedI mapI_t Tryd.underlying3 zeroI8 (keyI (wf64 (x := x) (by omega) (by omega)))
          have hsk : onI (knI kn) (.int .i64 x) = some (k : Int) := by show (kn x).map Int.ofNat = _; rw [hkn]; rfl
          rw [hsk] at hlk0
          have hkl := (HG.out.gt.lt x k hkn).1
          have HPF : Hid (PF (M + 1) wr R p) := Lib.hid HG.out.pf
          have HBX : Hid (Below M W wr) := Lib.hid HG.out.below
          have HMX : Hid (MapF wr 3 3 .i64 M (nk + 1) (onI (knI kn))) := Lib.hid (HG.out.map.mono (by omega))
          have HGT : Hid (Gt E ws (i + 1) (p.set k (p.getD k [] ++ [(lo, hi - 1)])) kn) := Lib.hid (by
            have h := HG.out.gt.old (k := k) (by rw [HXD.out]; exact hkn)
            rw [HE12.out.1, HE12.out.2] at h
            exact h)
          have HK2 : Hid (k < p.length ∧ (p.getD k []).length ≤ 1000000) := Lib.hid ⟨hkl, by
            have h := HG.out.gt.row x k hkn
            rw [List.getD_eq_getElem?_getD, h, Option.getD_some]
            have := rOf_len E ws i x
            omega⟩
          have HNK : Hid (nk + 1 ≤ i + 1) := Lib.hid (by omega)
          have HPL2 : Hid (p.length ≤ i + 1) := Lib.hid (by omega)
          have hs0 := hp1
          clear hp1 hkn hsk HG
          -- a run more, in the k-th part
          have hkp : k < p.length := HK2.out.1
          obtain ⟨g0, c0, hv0⟩ := HPF.out.outer (by omega)
          obtain ⟨f1, f2, f3, f4⟩ := HPF.out.ri k hkp
          obtain ⟨vk, hvk⟩ : ∃ vk, vk = (R (1 + k)).v := ⟨_, rfl⟩
          have hrk : R (1 + k) = ⟨42, 2, vk, p[k].length, cellsS p[k]⟩ := by rw [hvk]; exact rw_eta ⟨f1, f2, f3, f4⟩
          obtain ⟨lk, hlk⟩ : ∃ lk, lk = p[k].length := ⟨_, rfl⟩
          rw [← hlk] at hrk
          obtain ⟨xk, hxk⟩ : ∃ xk, xk = cellsS p[k] := ⟨_, rfl⟩
          rw [← hxk] at hrk
          obtain ⟨Pk, ck, hsl⟩ := (HPF.out.fam.own (1 + k) (by omega)).slice
          rw [← hvk, f3, ← hlk] at hsl
          have hlk8 : lk ≤ 1000000 := by have := HK2.out.2; rw [List.getD_eq_getElem?_getD, List.getElem?_eq_getElem hkp, Option.getD_some] at this; omega
          rw [hsl] at hrk
          obtain ⟨hc0, hf0⟩ := HPF.out.drew.cell hv0 hkp
          rw [hrk] at hc0
          have hXB : Below wr.heap.size wr (wr.alloc (.cells #[.int .i64 lo, .int .i64 (hi - 1)] 42)).drew := ((Below.refl _ _).alloc (Nat.le_refl _) _).drew
          have HPX : Hid (PF (M + 1) (wr.alloc (.cells #[.int .i64 lo, .int .i64 (hi - 1)] 42)).drew R p) := Lib.hid (HPF.out.below hXB)
          obtain ⟨hc1, hf1⟩ := HPX.out.cell hv0 hkp
          rw [hrk] at hc1
          have hokr : (⟨42, 2, .slice Pk lk ck, lk, xk⟩ : Rw).ok (wr.alloc (.cells #[.int .i64 lo, .int .i64 (hi - 1)] 42)).drew := by rw [← hrk]; exact HPX.out.fam.own (1 + k) (by omega)
          have hnew := heap_alloc_new wr (.cells #[.int .i64 lo, .int .i64 (hi - 1)] 42)
          have e0 : wr.drew.cell? ⟨bE, oE + i, none⟩ = some (.int .i64 lo) := (HBX.out.cell (p := ⟨bE, oE + i, none⟩) (by rw [HMD.out]; exact HBE.out)).trans HCE.out.1
          have e1 : wr.drew.cell? ⟨bE, oE + (i + 1), none⟩ = some (.int .i64 hi) := (HBX.out.cell (p := ⟨bE, oE + (i + 1), none⟩) (by rw [HMD.out]; exact HBE.out)).trans HCE.out.2
          have HBX2 : Hid (Below M W (wr.alloc (.cells #[.int .i64 lo, .int .i64 (hi - 1)] 42)).drew) := Lib.hid (HBX.out.trans (hXB.mono (by have := HMD.out; have := HBX.out.size; omega)))
          have e2 : (wr.alloc (.cells #[.int .i64 lo, .int .i64 (hi - 1)] 42)).drew.cell? ⟨bE, oE + i, none⟩ = some (.int .i64 lo) := (HBX2.out.cell (p := ⟨bE, oE + i, none⟩) (by rw [HMD.out]; exact HBE.out)).trans HCE.out.1
          have e3 : (wr.alloc (.cells #[.int .i64 lo, .int .i64 (hi - 1)] 42)).drew.cell? ⟨bE, oE + (i + 1), none⟩ = some (.int .i64 hi) := (HBX2.out.cell (p := ⟨bE, oE + (i + 1), none⟩) (by rw [HMD.out]; exact HBE.out)).trans HCE.out.2
          have HV0 := Lib.hid hv0
          have HRK := Lib.hid hrk
          have HLK := Lib.hid hlk
          have HEA : Hid (∀ (q cp : Nat) (w1 V2 : World), ((⟨42, 2, .slice Pk lk ck, lk, xk⟩ : Rw).more q cp [.int .i64 lo, .int .i64 (hi - 1)]).ok w1 → (wr.alloc (.cells #[.int .i64 lo, .int .i64 (hi - 1)] 42)).drew.grownBy w1 (Value.slice Pk lk ck).ownBlock → ((Value.slice Pk lk ck).ownBlock = some q ∨ q = (wr.alloc (.cells #[.int .i64 lo, .int .i64 (hi - 1)] 42)).drew.heap.size) → V2 = w1.setCell ⟨g0, k, none⟩ (.slice (some ⟨q, 0, none⟩) (lk + 1) cp) →
              ∃ R3, GI E ws M W V2 (i + 1) R3 (p.set k (p.getD k [] ++ [(lo, hi - 1)])) kn (nk + 1) ∧ (R3 0).v = .slice (some ⟨g0, 0, none⟩) p.length c0) := Lib.hid (by
            intro q cp w1 V2 k1 k2 k3 hV2
            have hsz : (M : Nat) + 1 ≤ (wr.alloc (.cells #[.int .i64 lo, .int .i64 (hi - 1)] 42)).drew.heap.size := by have := HMX.out.lt; have : (wr.alloc (.cells #[.int .i64 lo, .int .i64 (hi - 1)] 42)).drew.heap.size = wr.heap.size + 1 := World.size_alloc wr _; omega
            obtain ⟨R3, r1, r2, r3, r4⟩ := HPX.out.app hsz hkp (g := q) (cap := cp) (u := (lo, hi - 1)) (W1 := w1) (by rw [HRK.out]; exact k1) (by rw [HRK.out]; exact k2) (by rw [HRK.out]; exact k3) HV0.out
            rw [← HLK.out, ← hV2] at r1 r4
            have hgd : p.getD k [] = p[k] := by rw [List.getD_eq_getElem?_getD, List.getElem?_eq_getElem hkp]; rfl
            rw [hgd]
            have hMs : M < wr.heap.size := HMX.out.lt
            have hnM : ¬ Has (1 + p.length) R M := fun h => by have := HPX.out.own M h; omega
            have hblk : ∀ j, j ≤ M → V2.heap[j]? = wr.heap[j]? := fun j hj => by
              rw [r4 j (by omega) (fun h => by have := HPX.out.own j h; omega)]
              exact hXB.block j (by omega)
            refine ⟨R3, ⟨r1, ?_, HMX.out.of_block (hblk M (Nat.le_refl _)), ?_, ?_, ?_⟩, by rw [r2]; exact HV0.out⟩
            · have := HGT.out
              rw [hgd] at this
              exact this
            · have := HNK.out; omega
            · rw [List.length_set]; exact HPL2.out
            · have hos : V2.os = W.os ∧ V2.tape = W.tape ∧ V2.output = W.output := by
                rw [hV2]
                exact ⟨k2.os.trans HBX2.out.os, k2.tape.trans HBX2.out.tape, k2.output.trans HBX2.out.output⟩
              refine ⟨hos.1, hos.2.1, hos.2.2, ?_, fun j hj => (hblk j (by omega)).trans (HBX.out.block j hj)⟩
              rw [hV2, World.size_setCell]
              have := k2.size
              have := HBX2.out.size
              omega)
          clear f1 f2 f3 f4 hvk hrk hlk hxk hsl hXB hv0
          have hv := HV0.out
          rw [hs0, ← HPL.out] at hv
          simp only [Value.slice.injEq, true_and] at hv
          obtain ⟨rfl, rfl⟩ := hv
          have hpl3 : (k : Int) < (pl : Int) := by have := HPL.out; omega
          have hk0 : (0 : Int) ≤ (k : Int) := by omega
          have hin : (i : Int) < (n : Int) := by have := HLL.out; omega
          have hin1 : ((i : Int) + 1) < (n : Int) := by have := HLL.out; omega
          have hwi2 : IntKind.i64.wrap ((i : Int) + 1) = (i : Int) + 1 := IntWalk.i64_in _ (by omega)
          have hwq2 : IntKind.i64.wrap (hi - 1) = hi - 1 := IntWalk.i64_in _ (by omega)
          have hi0 : (0 : Int) ≤ (i : Int) + 1 := by omega
          have hit : ((i : Int) + 1).toNat = i + 1 := by omega
          clear hpl hs0 hwq
          go_upto_region 12 with fail
          go_region_law (first
            | (refine step_fam (by rfl) _ _ 28 (by rfl) ⟨42, 2, .slice Pk lk ck, lk, xk⟩ Tryd.underlying28 infoSp rfl Nat.zero_lt_two (by decide) hokr (by rfl) wr.heap.size (by rfl) [.int .i64 lo, .int .i64 (hi - 1)] hnew rfl (by simp [Value.oneCell']) hlk8 ?_; intro q cp w1 k1 k2 k3; have hm := HPX.out.mid HV0.out HK2.out.1 (W1 := w1) (by rw [HRK.out]; exact k2); rw [HRK.out] at hm; obtain ⟨hc2, hf2⟩ := hm))
          all_goals
            have he := Lib.hid (HEA.out q cp w1 _ k1 k2 k3 rfl)
            clear k1 k2 k3 hc0 hf0 hc1 hf1 hc2 hf2 e0 e1 e2 e3 hokr hnew HEA HPX
            obtain ⟨R3, hE⟩ := he.out
            have HE := Lib.hid hE
            clear he hE
            go_wp2
            go_roundg g
            case measure => omega
            case rel => exact ⟨i + 1, R3, _, _, _, by have := HIG.out; omega, by go_num, by rw [HPL.out]; exact HE.out.2.symm, Lib.hid HE.out.1⟩
        | none =>
          have hlk0 := HG.out.map.look_ok keyedI mapI_t Tryd.underlying3 zeroI8 (keyI (wf64 (x := x) (by omega) (by omega)))
          have hsk : onI (knI kn) (.int .i64 x) = none := by show (kn x).map Int.ofNat = _; rw [hkn]; rfl
          rw [hsk] at hlk0
          have hplm : pl ≤ 40000 := by omega
          obtain ⟨w4, r4, hf4, hg4⟩ := HG.out.map.store (n := nk) keyedI mapI_t Tryd.underlying3 (by unfold maxLen; omega) (keyI (wf64 (x := x) (by omega) (by omega))) (v := (pl : Int)) (wf64 (by omega) (by omega))
          have hMl := HG.out.map.lt
          have hpf4 : PF (M + 1) w4 R p := HG.out.pf.kept (fun k hk => hg4.block k (HG.out.pf.fam.lt hk) (fun e => by have := HG.out.pf.own k hk; have := Option.some.inj e; omega))
          obtain ⟨V5, hV5⟩ : ∃ V5, V5 = w4.alloc (.cells #[.slice none 0 0] 28) := ⟨_, rfl⟩
          have hb5 : Below w4.heap.size w4 V5 := by rw [hV5]; exact (Below.refl _ _).alloc (Nat.le_refl _) _
          have hpf5 := hpf4.below hb5
          have hnew5 : V5.heap[w4.heap.size]? = some (.cells #[.slice none 0 0] 28 (0, 0)) := by rw [hV5]; exact heap_alloc_new w4 _
          obtain ⟨x0, hx0d⟩ : ∃ x0, x0 = (R 0).xs := ⟨_, rfl⟩
          have hR0 : R 0 = ⟨28, 1, .slice Pp pl cp, pl, x0⟩ := by rw [← hp1, hx0d]; exact rw_eta ⟨hpf5.r0.1, hpf5.r0.2.1, by rw [hpf5.r0.2.2.1, hpl], rfl⟩
          have hok5 : (⟨28, 1, .slice Pp pl cp, pl, x0⟩ : Rw).ok V5 := by rw [← hR0]; exact hpf5.fam.own 0 (by omega)
          have hpl8 : pl ≤ 1000000 := by omega
          have hgs4 := hg4.size
          have HNEW : Hid (∀ (g1 cap1 : Nat) (w5 : World), ((⟨28, 1, .slice Pp pl cp, pl, x0⟩ : Rw).more g1 cap1 [.slice none 0 0]).ok w5 → V5.grownBy w5 (Value.slice Pp pl cp).ownBlock → ((Value.slice Pp pl cp).ownBlock = some g1 ∨ g1 = V5.heap.size) →
              (∃ R2, PF (M + 1) w5 R2 (p ++ [[]]) ∧ (R2 0).v = .slice (some ⟨g1, 0, none⟩) (pl + 1) cap1) ∧ Below M W w5 ∧ MapF w5 3 3 .i64 M (nk + 1) (onI (knI (fun w => if w = x then some p.length else kn w)))) := Lib.hid (by
            intro g1 cap1 w5 k1 k2 k3
            have hbs := hb5.size
            have h1 := hpf5.new (W := V5) (W1 := w5) (g := g1) (cap := cap1) (by omega) (by rw [hR0]; exact k1) (by rw [hR0]; exact k2) (by rw [hR0]; exact k3)
            rw [← hpl] at h1
            have hnM : (Value.slice Pp pl cp).ownBlock ≠ some M := fun e => by
              have := hpf5.own M ⟨0, by omega, by rw [hR0]; exact e⟩
              omega
            have hB4 : Below M W w4 := HG.out.below.grown hg4 (by omega) (fun k e => by have := Option.some.inj e; omega)
            have hB5 : Below M W V5 := hB4.trans (hb5.mono (by omega))
            refine ⟨h1, hB5.grown k2 (by omega) (fun k e => ?_), ?_⟩
            · have := hpf5.own k ⟨0, by omega, by rw [hR0]; exact e⟩
              omega
            · rw [onI_put] at hf4
              have h5 : MapF w5 3 3 .i64 M (nk + 1) _ := (hf4.of_block (hb5.block M (by omega))).kept k2 (fun e => hnM e.symm)
              refine h5.congr (fun y _ => ?_)
              cases y with
              | int q z =>
                cases q <;> try rfl
                simp only [onI, knI]
                by_cases hz : z = x <;> simp [hz, hpl]
              | _ => rfl)
          have HGT0 : Hid (Gt E ws (i + 1) ((p ++ [[]]).set pl ((p ++ [[]]).getD pl [] ++ [(lo, hi - 1)])) (fun w => if w = x then some p.length else kn w)) := Lib.hid (by
            have h := HG.out.gt.new (by rw [HXD.out]; exact hx0) (by rw [HXD.out]; exact hkn) (fun j hj => up_getD HUP.out hj hiE)
            rw [HE12.out.1, HE12.out.2, HXD.out] at h
            have e1 : (p ++ [[]]).getD pl [] = [] := by rw [hpl]; simp
            have e2 : (p ++ [[]]).set pl ([] ++ [(lo, hi - 1)]) = p ++ [[(lo, hi - 1)]] := by rw [hpl]; simp
            rw [e1, e2]
            exact h)
          have HNK : Hid (nk + 1 ≤ i + 1) := Lib.hid (by omega)
          have HPL2 : Hid ((p ++ [[]]).length ≤ i + 1) := Lib.hid (by rw [List.length_append]; simp; omega)
          have HK2 : Hid (pl < (p ++ [[]]).length ∧ ((p ++ [[]]).getD pl []).length ≤ 1000000) := Lib.hid (by rw [hpl]; simp)
          have HPX2 : Hid ((p ++ [[]]).length = pl + 1) := Lib.hid (by rw [hpl]; simp)
          clear hp1 hkn hsk HG hf4 hg4 hpf4 hpf5 hx0d hR0 hb5 hpl
          go_upto_region 11 with fail
          go_upto_region 12 with (at_builtin; refine wpList_fam rfl _ _ 24 rfl ⟨28, 1, .slice Pp pl cp, pl, x0⟩ Tryd.underlying24 infoSl rfl Nat.zero_lt_one (by decide) (by rw [← hV5]; exact hok5) rfl w4.heap.size rfl [.slice none 0 0] (by rw [← hV5]; exact hnew5) rfl (by simp [Value.oneCell']) hpl8 ?_; intro g1 cap1 w5 k1 k2 k3; rw [← hV5] at k2 k3)
          obtain ⟨⟨R2, hpf2, hv2⟩, hbx2, hmx2⟩ := HNEW.out g1 cap1 w5 k1 k2 k3
          have HPF := Lib.hid hpf2
          have HBX := Lib.hid hbx2
          have HMX := Lib.hid hmx2
          clear k1 k2 k3 hpf2 hbx2 hmx2 HNEW hV5 hnew5 hok5 r4 hlk0
          have HGT := HGT0
          have hs0 := hv2
          clear hv2 hxr
          -- a run more, in the pl-th part
          have hkp : pl < (p ++ [[]]).length := HK2.out.1
          obtain ⟨g0, c0, hv0⟩ := HPF.out.outer (by omega)
          obtain ⟨f1, f2, f3, f4⟩ := HPF.out.ri pl hkp
          obtain ⟨vk, hvk⟩ : ∃ vk, vk = (R2 (1 + pl)).v := ⟨_, rfl⟩
          have hrk : R2 (1 + pl) = ⟨42, 2, vk, (p ++ [[]])[pl].length, cellsS (p ++ [[]])[pl]⟩ := by rw [hvk]; exact rw_eta ⟨f1, f2, f3, f4⟩
          obtain ⟨lk, hlk⟩ : ∃ lk, lk = (p ++ [[]])[pl].length := ⟨_, rfl⟩
          rw [← hlk] at hrk
          obtain ⟨xk, hxk⟩ : ∃ xk, xk = cellsS (p ++ [[]])[pl] := ⟨_, rfl⟩
          rw [← hxk] at hrk
          obtain ⟨Pk, ck, hsl⟩ := (HPF.out.fam.own (1 + pl) (by omega)).slice
          rw [← hvk, f3, ← hlk] at hsl
          have hlk8 : lk ≤ 1000000 := by have := HK2.out.2; rw [List.getD_eq_getElem?_getD, List.getElem?_eq_getElem hkp, Option.getD_some] at this; omega
          rw [hsl] at hrk
          obtain ⟨hc0, hf0⟩ := HPF.out.drew.cell hv0 hkp
          rw [hrk] at hc0
          have hXB : Below w5.heap.size w5 (w5.alloc (.cells #[.int .i64 lo, .int .i64 (hi - 1)] 42)).drew := ((Below.refl _ _).alloc (Nat.le_refl _) _).drew
          have HPX : Hid (PF (M + 1) (w5.alloc (.cells #[.int .i64 lo, .int .i64 (hi - 1)] 42)).drew R2 (p ++ [[]])) := Lib.hid (HPF.out.below hXB)
          obtain ⟨hc1, hf1⟩ := HPX.out.cell hv0 hkp
          rw [hrk] at hc1
          have hokr : (⟨42, 2, .slice Pk lk ck, lk, xk⟩ : Rw).ok (w5.alloc (.cells #[.int .i64 lo, .int .i64 (hi - 1)] 42)).drew := by rw [← hrk]; exact HPX.out.fam.own (1 + pl) (by omega)
          have hnew := heap_alloc_new w5 (.cells #[.int .i64 lo, .int .i64 (hi - 1)] 42)
          have e0 : w5.drew.cell? ⟨bE, oE + i, none⟩ = some (.int .i64 lo) := (HBX.out.cell (p := ⟨bE, oE + i, none⟩) (by rw [HMD.out]; exact HBE.out)).trans HCE.out.1
          have e1 : w5.drew.cell? ⟨bE, oE + (i + 1), none⟩ = some (.int .i64 hi) := (HBX.out.cell (p := ⟨bE, oE + (i + 1), none⟩) (by rw [HMD.out]; exact HBE.out)).trans HCE.out.2
          have HBX2 : Hid (Below M W (w5.alloc (.cells #[.int .i64 lo, .int .i64 (hi - 1)] 42)).drew) := Lib.hid (HBX.out.trans (hXB.mono (by have := HMD.out; have := HBX.out.size; omega)))
          have e2 : (w5.alloc (.cells #[.int .i64 lo, .int .i64 (hi - 1)] 42)).drew.cell? ⟨bE, oE + i, none⟩ = some (.int .i64 lo) := (HBX2.out.cell (p := ⟨bE, oE + i, none⟩) (by rw [HMD.out]; exact HBE.out)).trans HCE.out.1
          have e3 : (w5.alloc (.cells #[.int .i64 lo, .int .i64 (hi - 1)] 42)).drew.cell? ⟨bE, oE + (i + 1), none⟩ = some (.int .i64 hi) := (HBX2.out.cell (p := ⟨bE, oE + (i + 1), none⟩) (by rw [HMD.out]; exact HBE.out)).trans HCE.out.2
          have HV0 := Lib.hid hv0
          have HRK := Lib.hid hrk
          have HLK := Lib.hid hlk
          have HEA : Hid (∀ (q cp : Nat) (w1 V2 : World), ((⟨42, 2, .slice Pk lk ck, lk, xk⟩ : Rw).more q cp [.int .i64 lo, .int .i64 (hi - 1)]).ok w1 → (w5.alloc (.cells #[.int .i64 lo, .int .i64 (hi - 1)] 42)).drew.grownBy w1 (Value.slice Pk lk ck).ownBlock → ((Value.slice Pk lk ck).ownBlock = some q ∨ q = (w5.alloc (.cells #[.int .i64 lo, .int .i64 (hi - 1)] 42)).drew.heap.size) → V2 = w1.setCell ⟨g0, pl, none⟩ (.slice (some ⟨q, 0, none⟩) (lk + 1) cp) →
              ∃ R3, GI E ws M W V2 (i + 1) R3 ((p ++ [[]]).set pl ((p ++ [[]]).getD pl [] ++ [(lo, hi - 1)])) (fun w => if w = x then some p.length else kn w) (nk + 1) ∧ (R3 0).v = .slice (some ⟨g0, 0, none⟩) (p ++ [[]]).length c0) := Lib.hid (by
            intro q cp w1 V2 k1 k2 k3 hV2
            have hsz : (M : Nat) + 1 ≤ (w5.alloc (.cells #[.int .i64 lo, .int .i64 (hi - 1)] 42)).drew.heap.size := by have := HMX.out.lt; have : (w5.alloc (.cells #[.int .i64 lo, .int .i64 (hi - 1)] 42)).drew.heap.size = w5.heap.size + 1 := World.size_alloc w5 _; omega
            obtain ⟨R3, r1, r2, r3, r4⟩ := HPX.out.app hsz hkp (g := q) (cap := cp) (u := (lo, hi - 1)) (W1 := w1) (by rw [HRK.out]; exact k1) (by rw [HRK.out]; exact k2) (by rw [HRK.out]; exact k3) HV0.out
            rw [← HLK.out, ← hV2] at r1 r4
            have hgd : (p ++ [[]]).getD pl [] = (p ++ [[]])[pl] := by rw [List.getD_eq_getElem?_getD, List.getElem?_eq_getElem hkp]; rfl
            rw [hgd]
            have hMs : M < w5.heap.size := HMX.out.lt
            have hnM : ¬ Has (1 + (p ++ [[]]).length) R2 M := fun h => by have := HPX.out.own M h; omega
            have hblk : ∀ j, j ≤ M → V2.heap[j]? = w5.heap[j]? := fun j hj => by
              rw [r4 j (by omega) (fun h => by have := HPX.out.own j h; omega)]
              exact hXB.block j (by omega)
            refine ⟨R3, ⟨r1, ?_, HMX.out.of_block (hblk M (Nat.le_refl _)), ?_, ?_, ?_⟩, by rw [r2]; exact HV0.out⟩
            · have := HGT.out
              rw [hgd] at this
              exact this
            · have := HNK.out; omega
            · rw [List.length_set]; exact HPL2.out
            · have hos : V2.os = W.os ∧ V2.tape = W.tape ∧ V2.output = W.output := by
                rw [hV2]
                exact ⟨k2.os.trans HBX2.out.os, k2.tape.trans HBX2.out.tape, k2.output.trans HBX2.out.output⟩
              refine ⟨hos.1, hos.2.1, hos.2.2, ?_, fun j hj => (hblk j (by omega)).trans (HBX.out.block j hj)⟩
              rw [hV2, World.size_setCell]
              have := k2.size
              have := HBX2.out.size
              omega)
          clear f1 f2 f3 f4 hvk hrk hlk hxk hsl hXB hv0
          have hv := HV0.out
          rw [hs0, HPX2.out] at hv
          simp only [Value.slice.injEq, Option.some.injEq, Addr.mk.injEq, and_true, true_and] at hv
          obtain ⟨rfl, rfl⟩ := hv
          have hpl3 : (pl : Int) < (pl : Int) + 1 := by omega
          have hk0 : (0 : Int) ≤ (pl : Int) := by omega
          have hin : (i : Int) < (n : Int) := by have := HLL.out; omega
          have hin1 : ((i : Int) + 1) < (n : Int) := by have := HLL.out; omega
          have hwi2 : IntKind.i64.wrap ((i : Int) + 1) = (i : Int) + 1 := IntWalk.i64_in _ (by omega)
          have hwq2 : IntKind.i64.wrap (hi - 1) = hi - 1 := IntWalk.i64_in _ (by omega)
          have hi0 : (0 : Int) ≤ (i : Int) + 1 := by omega
          have hit : ((i : Int) + 1).toNat = i + 1 := by omega
          clear hs0 hwq
          go_region_law (first
            | (refine step_fam (by rfl) _ _ 28 (by rfl) ⟨42, 2, .slice Pk lk ck, lk, xk⟩ Tryd.underlying28 infoSp rfl Nat.zero_lt_two (by decide) hokr (by rfl) w5.heap.size (by rfl) [.int .i64 lo, .int .i64 (hi - 1)] hnew rfl (by simp [Value.oneCell']) hlk8 ?_; intro q cp w1 k1 k2 k3; have hm := HPX.out.mid HV0.out HK2.out.1 (W1 := w1) (by rw [HRK.out]; exact k2); rw [HRK.out] at hm; obtain ⟨hc2, hf2⟩ := hm))
          all_goals
            have he := Lib.hid (HEA.out q cp w1 _ k1 k2 k3 rfl)
            clear k1 k2 k3 hc0 hf0 hc1 hf1 hc2 hf2 e0 e1 e2 e3 hokr hnew HEA HPX
            obtain ⟨R3, hE⟩ := he.out
            have HE := Lib.hid hE
            clear he hE
            go_wp2
            go_roundg g
            case measure => omega
            case rel => exact ⟨i + 1, R3, _, _, _, by have := HIG.out; omega, by go_num, by rw [← HPX2.out]; exact HE.out.2.symm, Lib.hid HE.out.1⟩
end Go.Proofs.YtkphbjppmiefkaaDoor
