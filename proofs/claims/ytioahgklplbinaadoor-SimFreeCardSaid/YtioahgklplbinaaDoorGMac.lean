/- The law's machine. -/
import Derived.Test.YtioahgklplbinaaDoorGMs
import Derived.Test.YtioahgklplbinaaDoorGLaw
import Derived.Test.YtioahgklplbinaaDoorGCf
import Derived.Deep.RegionHeld3
import Derived.RegionTactic
import Derived.BigQuiet
namespace Go.Proofs.YtioahgklplbinaaDoor
open Go.RowKit Go.Shelf SetM NfaM SimM WrM
set_option maxRecDepth 100000 in
set_option maxHeartbeats 16000000 in
theorem machine_c {W : World} {PL PT : Option Addr} {nL nT cL cT : Nat} {k : Int} {tags : List Int} (hk0 : 0 ≤ k) (hk1 : k ≤ 255) {arcs : List (Int × Int × List Int × Bool)} (hT : I8s W PT tags) (hnT : nT = tags.length) (hL : AsR W PL arcs) (hnL : nL = arcs.length) (hA : Aw W) :
    Calls Tryd.prog 9 #[.int .u8 k, .slice PL nL cL, .slice PT nT cT] W fun e W' => ∃ p0 p1 p2 c0 c1 c2 n m, e = .returned (.agg #[.slice p0 n c0, .slice p1 n c1, .slice p2 n c2]) ∧ MachV W' p0 p1 p2 n n n m ∧ sndM m = true ∧ n ≤ 12 ∧ Below W.heap.size W W' := by
  obtain ⟨V, hV⟩ : ∃ V, V = W.alloc (.cells #[.slice none 0 0, .slice none 0 0, .slice none 0 0] 30) := ⟨_, rfl⟩
  have hb : Below W.heap.size W V := by rw [hV]; exact (Below.refl _ _).alloc (Nat.le_refl _) _
  have x0 : V.heap[W.heap.size]? = some (.cells #[.slice none 0 0, .slice none 0 0, .slice none 0 0] 30 (0, 0)) := by rw [hV]; exact heap_alloc_new W _
  obtain ⟨n, hn⟩ : ∃ n : Nat, (n : Int) = 1 + k % 12 := ⟨(1 + k % 12).toNat, by omega⟩
  have hn1 : 1 ≤ n := by omega
  have hn2 : n ≤ 12 := by omega
  obtain ⟨fE, hfE⟩ := make_rows Tryd.underlying27 infoEs n (by omega)
  obtain ⟨fF, hfF⟩ := make_rows Tryd.underlying28 infoIs n (by omega)
  have hmE := fun U => (hfE U).1
  have hmF := fun U => (hfF U).1
  have HE := Lib.hid hfE
  have HF := Lib.hid hfF
  have HB := Lib.hid hb
  have HX := Lib.hid x0
  have hwn : wrap64 (1 + k % 12) = (n : Int) := by rw [IntWalk.wrap64_in _ (by omega)]; exact hn.symm
  have hZ : (V.alloc (.cells #[.slice none 0 0, .slice none 0 0, .slice none 0 0] 30)).drew.heap[V.heap.size]? = some (.cells #[.slice none 0 0, .slice none 0 0, .slice none 0 0] 30 (0, 0)) := heap_alloc_new V _
  have hzl : V.heap.size < (V.alloc (.cells #[.slice none 0 0, .slice none 0 0, .slice none 0 0] 30)).drew.heap.size := by show _ < (V.alloc (.cells #[.slice none 0 0, .slice none 0 0, .slice none 0 0] 30)).heap.size; rw [World.size_alloc]; omega
  have kE : ∀ (U : World) (b : Nat), U.heap[b]? = some (.cells #[.slice none 0 0, .slice none 0 0, .slice none 0 0] 30 (0, 0)) → (fE U).heap[b]? = some (.cells #[.slice none 0 0, .slice none 0 0, .slice none 0 0] 30 (0, 0)) := fun U b h => ((hfE U).2.2.1.block _ (Array.getElem?_eq_some_iff.1 h).1).trans h
  have kF : ∀ (U : World) (b : Nat), U.heap[b]? = some (.cells #[.slice none 0 0, .slice none 0 0, .slice none 0 0] 30 (0, 0)) → (fF U).heap[b]? = some (.cells #[.slice none 0 0, .slice none 0 0, .slice none 0 0] 30 (0, 0)) := fun U b h => ((hfF U).2.2.1.block _ (Array.getElem?_eq_some_iff.1 h).1).trans h
  have h1 := kF _ _ (kE _ _ hZ)
  have h2 := kE _ _ (kF _ _ hZ)
  have h3 := kF _ _ (heap_alloc_new (fE V.drew) (.cells #[.slice none 0 0, .slice none 0 0, .slice none 0 0] 30))
  have h4 := kE _ _ (heap_alloc_new (fF V.drew) (.cells #[.slice none 0 0, .slice none 0 0, .slice none 0 0] 30))
  obtain ⟨⟨a0, a1, a2⟩, a3, a4, a5⟩ := cells3 h1
  obtain ⟨⟨b0, b1, b2⟩, b3, b4, b5⟩ := cells3 h2
  obtain ⟨⟨c0, c1, c2⟩, c3, c4, c5⟩ := cells3 h3
  obtain ⟨⟨d0, d1, d2⟩, d3, d4, d5⟩ := cells3 h4
  have HH := Lib.hid (mb_six (by rw [hV]; exact World.size_alloc _ _) hb x0 (fun U => (hfE U).2.1) (fun U => (hfE U).2.2.1) (fun U => (hfE U).2.2.2) (fun U => (hfF U).2.1) (fun U => (hfF U).2.2.1) (fun U => (hfF U).2.2.2))
  have HT := Lib.hid hT
  have HNT := Lib.hid hnT
  have HL := Lib.hid hL
  have HNL := Lib.hid hnL
  have HA := Lib.hid hA
  clear hL hnL hA hT hnT hfE hfF hb x0 h1 h2 h3 h4 kE kF hZ hzl
  go_enter Tryd.func9, Tryd.ntmps9
  go_upto_region 2 with fail
  rw [← hV]
  clear hV
  rw [← hn]
  clear hwn hn hk0 hk1
  go_cut [8] (fun s8 wc => ∃ gB gE gF, s8 = .pointer (some ⟨gB, 0, none⟩) ∧ Hid (MB W n gB gE gF wc))
  case first =>
    go_region
    all_goals
      clear hmE hmF a0 a1 a2 a3 a4 a5 b0 b1 b2 b3 b4 b5 c0 c1 c2 c3 c4 c5 d0 d1 d2 d3 d4 d5
      go_wp2_with fail
      go_meet
      first | exact ⟨_, _, _, rfl, Lib.hid HH.out.1⟩ | exact ⟨_, _, _, rfl, Lib.hid HH.out.2.1⟩ | exact ⟨_, _, _, rfl, Lib.hid HH.out.2.2.1⟩ | exact ⟨_, _, _, rfl, Lib.hid HH.out.2.2.2.1⟩ | exact ⟨_, _, _, rfl, Lib.hid HH.out.2.2.2.2.1⟩ | exact ⟨_, _, _, rfl, Lib.hid HH.out.2.2.2.2.2⟩
  case rest =>
    clear hmE hmF a0 a1 a2 a3 a4 a5 b0 b1 b2 b3 b4 b5 c0 c1 c2 c3 c4 c5 d0 d1 d2 d3 d4 d5 HH HE HF
    obtain ⟨gB, gE, gF, rfl, HMB⟩ := hcut
    have HML := Lib.hid HMB.out.toML
    go_wp2_with fail
    try go_step3
    go_loopg [9, 10] n (fun gk s9 s10 wx => ∃ (r : Nat) (vT : Value) (tg : List Int), r + gk = n ∧ s9 = .int .i64 r ∧ Hid (tg.length = r ∧ ∀ t ∈ tg, -1 ≤ t) ∧ Hid (ML W n gB gE gF vT tg wx))
    case atStart => exact ⟨0, _, [], by omega, rfl, Lib.hid ⟨rfl, fun t h => by cases h⟩, HML⟩
    case round =>
      obtain ⟨r, vT, tg, hrg, rfl, HTG, HM⟩ := hrel
      cases gk with
      | zero =>
        obtain rfl : r = n := by omega
        have hlt : ¬ (r : Int) < (r : Int) := by omega
        clear HML HMB
        go_wp2_with fail
        have HMS := Lib.hid (HM.out.toMS HTG.out.1 HTG.out.2)
        obtain ⟨pT, cT2, rfl⟩ : ∃ p c, vT = .slice p r c := by
          have := Rw.ok.slice (r := ⟨3, 1, vT, tg.length, tg.map (.int .i64)⟩) HM.out.t
          rw [HTG.out.1] at this
          exact this
        clear HM HTG hlt hrg HX HB
        obtain ⟨cnt, hcnt⟩ : ∃ cnt, cnt = min nL 40 := ⟨_, rfl⟩
        go_loopg [11, 12, 13, 14] cnt (fun gk s11 s12 s13 s14 wx => ∃ (q : Nat), q + gk = cnt ∧ s11 = .int .i64 q ∧ Hid (∃ m B R, MS W r gB gE gF (.slice pT r cT2) q m B R wx))
        case atStart => exact ⟨0, by omega, rfl, Lib.hid ⟨_, _, _, HMS.out⟩⟩
        case round =>
          obtain ⟨q, hqg, rfl, HQ⟩ := hrel
          clear HMS
          cases gk with
          | zero =>
            obtain rfl : q = cnt := by omega
            obtain ⟨m, B, R, hM⟩ := HQ.out
            have HRS := Lib.hid hM.res
            have HE := Lib.hid (hM.done hn1 hn2 (by omega) rfl (.slice (some ⟨gE, 0, none⟩) r r) (.slice (some ⟨gF, 0, none⟩) r r) (.slice pT r cT2))
            obtain ⟨⟨a0, a1, a2⟩, a3, a4, a5⟩ := cells3 hM.box
            obtain ⟨⟨b0, b1, b2⟩, b3, b4, b5⟩ := cells3 hM.res
            clear hM HQ
            by_cases hql : q < nL
            · have g1 : (q : Int) < (nL : Int) := by omega
              have g2 : ¬ (q : Int) < 40 := by omega
              clear hcnt hqg
              go_wp2_with fail
              exact ret_nfa rfl rfl HRS.out ⟨some ⟨gE, 0, none⟩, some ⟨gF, 0, none⟩, pT, r, r, cT2, r, rfl, m, HE.out⟩
            · have g1 : ¬ (q : Int) < (nL : Int) := by omega
              clear hcnt hqg
              go_wp2_with fail
              exact ret_nfa rfl rfl HRS.out ⟨some ⟨gE, 0, none⟩, some ⟨gF, 0, none⟩, pT, r, r, cT2, r, rfl, m, HE.out⟩
          | succ gk =>
            have g1 : (q : Int) < (nL : Int) := by omega
            have g2 : (q : Int) < 40 := by omega
            have h0 : (0 : Int) ≤ (q : Int) := by omega
            have hwq : wrap64 ((q : Int) + 1) = ((q + 1 : Nat) : Int) := by rw [IntWalk.wrap64_in _ (by omega)]; omega
            have hqa : q < arcs.length := by have := HNL.out; omega
            obtain ⟨m, B, R, hM⟩ := HQ.out
            obtain ⟨g5, o5, sp, sc, rfl, hg5, e0, e1, e2, e3, ⟨f0, f1⟩, ⟨t0, t1⟩, hU, h8⟩ := HL.out q hqa
            obtain ⟨⟨x, y, cs, fr⟩, hx⟩ : ∃ x, x = arcs[q] := ⟨_, rfl⟩
            rw [← hx] at e0 e1 e2 e3 f0 f1 t0 t1 hU h8
            dsimp only at e0 e1 e2 e3 f0 f1 t0 t1 hU h8
            have HCL : Hid (∀ U, Below W.heap.size W U → U.cell? ⟨g5, o5 + q * 4, none⟩ = some (.int .u8 x) ∧ U.cell? ⟨g5, o5 + q * 4 + 1, none⟩ = some (.int .u8 y) ∧ U.cell? ⟨g5, o5 + q * 4 + 2, none⟩ = some (.slice sp cs.length sc) ∧ U.cell? ⟨g5, o5 + q * 4 + 3, none⟩ = some (.bool fr)) := Lib.hid (fun U hU => ⟨(hU.cell (p := ⟨g5, o5 + q * 4, none⟩) hg5).trans e0, (hU.cell (p := ⟨g5, o5 + q * 4 + 1, none⟩) hg5).trans e1, (hU.cell (p := ⟨g5, o5 + q * 4 + 2, none⟩) hg5).trans e2, (hU.cell (p := ⟨g5, o5 + q * 4 + 3, none⟩) hg5).trans e3⟩)
            have HU := Lib.hid hU
            have HM := Lib.hid hM
            obtain ⟨e4, e5, e6, e7⟩ := HCL.out _ hM.bel
            have hr0 : ((r : Nat) : Int) ≠ 0 := by omega
            have hr1 : (0 : Int) < (r : Int) := by omega
            clear hx hM hU e0 e1 e2 e3 hg5 hqa hcnt
            go_upto_region 15 with fail
            obtain ⟨i, hi⟩ : ∃ i : Nat, (i : Int) = x % (r : Int) := ⟨(x % (r : Int)).toNat, Int.toNat_of_nonneg (Int.emod_nonneg _ hr0)⟩
            have hir : (i : Int) < (r : Int) := by rw [hi]; exact Int.emod_lt_of_pos _ hr1
            obtain ⟨t, ht⟩ : ∃ t, t = y % (r : Int) := ⟨_, rfl⟩
            have ht0 : 0 ≤ t := by rw [ht]; exact Int.emod_nonneg _ hr0
            have ht1 : t < (r : Int) := by rw [ht]; exact Int.emod_lt_of_pos _ hr1
            rw [← hi, ← ht]
            have hi0 : (0 : Int) ≤ (i : Int) := by omega
            have hin : i < r := by omega
            have HI := Lib.hid (And.intro hin (And.intro ht0 ht1))
            clear hi ht f0 f1 t0 t1 e4 e5 HQ hin
            cases fr with
            | true =>
              obtain ⟨vr, hvr⟩ : ∃ v, v = (R (4 + 2 * i)).v := ⟨_, rfl⟩
              obtain ⟨l, hl⟩ : ∃ l, l = (m.fr.getD i []).length := ⟨_, rfl⟩
              obtain ⟨xr, hxr⟩ : ∃ xr : List Value, xr = (m.fr.getD i []).map (Value.int .i64) := ⟨_, rfl⟩
              have h9 : l ≤ 1000000 := by rw [hl]; have := (HM.out.sd.fs i HI.out.1).1; omega
              have hbx : Below wr.heap.size wr (wr.alloc (.cells #[.int .i64 t] 3)).drew := ((Below.refl _ _).alloc (Nat.le_refl _) _).drew
              have HX2 := Lib.hid (HM.out.step hbx)
              have hokr : (⟨3, 1, vr, l, xr⟩ : Rw).ok (wr.alloc (.cells #[.int .i64 t] 3)).drew := by
                have hf := HX2.out.mv.rf i (by rw [HX2.out.tg]; exact HI.out.1)
                have ho := HX2.out.mv.fam.own (4 + 2 * i) (by rw [HX2.out.tg]; have := HI.out.1; omega)
                rw [row_eta hf, hf.2.2.2] at ho
                rw [hvr, hl, hxr]
                exact ho
              have HEA : Hid (∀ (g p : Nat) (w1 : World), ((⟨3, 1, vr, l, xr⟩ : Rw).more g p [.int .i64 t]).ok w1 → (wr.alloc (.cells #[.int .i64 t] 3)).drew.grownBy w1 vr.ownBlock → (vr.ownBlock = some g ∨ g = (wr.alloc (.cells #[.int .i64 t] 3)).drew.heap.size) →
                  (∃ m B R, MS W r gB gE gF (.slice pT r cT2) (q + 1) m B R (w1.setCell ⟨gF, i, none⟩ (.slice (some ⟨g, 0, none⟩) (l + 1) p))) ∧ w1.heap[gB]? = some (.cells #[.slice (some ⟨gE, 0, none⟩) r r, .slice (some ⟨gF, 0, none⟩) r r, .slice pT r cT2] 30 (0, 0)) ∧ w1.cell? ⟨gF, i, none⟩ = some vr ∧ w1.frozen? ⟨gF, i, none⟩ = false) := Lib.hid (fun g p w1 k1 k2 k3 => by
                rw [hvr] at k1 k2 k3
                rw [hxr] at k1
                obtain ⟨R', hR'⟩ := HX2.out.free HI.out.1 HI.out.2.1 HI.out.2.2 hl k1 k2 k3
                have hmid := HX2.out.mid (j := 4 + 2 * i) (by have := HI.out.1; omega) k2
                have hbf := hmid.2 1 (by omega) (by omega) gF (by rw [HX2.out.v1]; rfl)
                have hat := HX2.out.atF HI.out.1
                exact ⟨⟨_, _, R', hR'⟩, hmid.1.trans HX2.out.box, (World.cell?_of_block (a := ⟨gF, i, none⟩) hbf).trans (by rw [hvr]; exact hat.1), (World.frozen?_of_block (a := ⟨gF, i, none⟩) hbf).trans hat.2⟩)
              obtain ⟨⟨a0, a1, a2⟩, a3, a4, a5⟩ := cells3 HM.out.box
              obtain ⟨⟨b0, b1, b2⟩, b3, b4, b5⟩ := cells3 HX2.out.box
              have hF := (HM.out.atF HI.out.1).1
              have hFX := (HX2.out.atF HI.out.1).1
              have hFf := (HM.out.atF HI.out.1).2
              have hFfX := (HX2.out.atF HI.out.1).2
              rw [← hvr] at hF hFX
              have hnew := heap_alloc_new wr (.cells #[.int .i64 t] 3)
              clear hvr hl hxr hbx HX2 e6 hr0 hr1
              go_upto_region 16 with fail
              clear e7
              go_region_law (first
                | (refine step_fam (by rfl) _ _ 24 (by rfl) ⟨3, 1, vr, l, xr⟩ Tryd.underlying24 infoIn rfl Nat.zero_lt_one (by decide) hokr (by rfl) wr.heap.size (by rfl) [.int .i64 t] hnew rfl (by simp [Value.oneCell']) h9 ?_; intro g p w1 k1 k2 k3; obtain ⟨hq2, hbx2, hF2, hFf2⟩ := HEA.out g p w1 k1 k2 k3; have HQ2 := Lib.hid hq2; obtain ⟨⟨d0, d1, d2⟩, d3, d4, d5⟩ := cells3 hbx2))
              all_goals
                clear k1 k2 k3 hq2 hbx2 a0 a1 a2 a3 a4 a5 b0 b1 b2 b3 b4 b5 d0 d1 d2 d3 d4 d5 hF hFX hFf hFfX hF2 hFf2 hokr hnew HEA
                go_wp2_with fail
                go_roundg gk
                case measure => omega
                case rel => exact ⟨q + 1, by omega, by first | rw [hwq] | rfl | simp, HQ2⟩
            | false =>
              by_cases h9 : cs.length < 9
              · have g3 : ((cs.length : Nat) : Int) < 9 := by omega
                have HMK := Lib.hid (make_c (ca := sc) (W := wr) (w := W) HU.out ⟨HM.out.bel, (HA.out.step HM.out.bel).areas, (HA.out.step HM.out.bel).pos⟩)
                have HWD : Hid (Wide (makeF cs)) := Lib.hid (wide_made (fun c hc => (HU.out.1 c hc).1))
                clear hr0 hr1
                go_wp2_with fail
                refine HMK.out.mono ?_
                rintro e w2 ⟨P, c2, rfl, hS, hc2, b2⟩
                have HS := Lib.hid hS
                have HM2 := Lib.hid (HM.out.step b2)
                have HB2 := Lib.hid (HM.out.bel.trans (b2.mono HM.out.bel.size))
                obtain ⟨lm, hlm⟩ : ∃ lm, lm = (makeF cs).length := ⟨_, rfl⟩
                have hlm8 : lm ≤ 30 := by rw [hlm]; exact made_len cs
                have HNM := Lib.hid (fun (U : World) (hU : Below w2.heap.size w2 U) => lnorm_c (c := c2) hlm (Sl.step HS.out hU) (by omega) HWD.out)
                rw [← hlm]
                clear hS b2 hlm HMK e6 e7
                obtain ⟨vr, hvr⟩ : ∃ v, v = (R (3 + 2 * i)).v := ⟨_, rfl⟩
                obtain ⟨l, hl⟩ : ∃ l, l = (m.ed.getD i []).length := ⟨_, rfl⟩
                obtain ⟨xr, hxr⟩ : ∃ xr : List Value, xr = (R (3 + 2 * i)).xs := ⟨_, rfl⟩
                have h9 : l ≤ 1000000 := by rw [hl]; have := (HM2.out.sd.es i HI.out.1).1; omega
                have hE2 := (HM2.out.atE HI.out.1).1
                have hE2f := (HM2.out.atE HI.out.1).2
                rw [← hvr] at hE2
                have HFN : Hid (∀ (w3 : World) (Q : Option Addr) (lo c3 : Nat) (out : List Sp), lo = out.length → isSetF 0 out = true → out.length ≤ 4 + 2 * lm → Sl w3 Q out → (Q = none → c3 = 0) → (∀ a, Q = some a → w2.heap.size ≤ a.block) → Below w2.heap.size w2 w3 →
                  EdgeAt W r gB gE gF (.slice pT r cT2) q i l vr xr (.int .i64 t) (.slice Q lo c3) w3 (w3.alloc (.cells #[.int .i64 t, .slice Q lo c3] 47))) := Lib.hid (fun w3 Q lo c3 out k1 k2 k3 k4 k5 k6 k7 => HM2.out.edgeAt HI.out.1 HI.out.2.1 HI.out.2.2 hvr hl hxr k1 k2 (by omega) k4 k5 k6 k7)
                obtain ⟨⟨a0, a1, a2⟩, a3, a4, a5⟩ := cells3 HM2.out.box
                have HNX := Lib.hid (HNM.out w2.drew (Below.refl _ _).drew)
                have HN1 : Hid ((Tryd.f24.name == "runtime.NumGoroutine") = false) := Lib.hid (by kernel_rfl)
                have HN2 : Hid (Tryd.f24.body.isSome = true) := Lib.hid (by kernel_rfl)
                clear hvr hl hxr
                go_upto_region 19 with fail
                go_region_law (first
                  | (refine step_callf rfl 24 (.tmp 111) 45 rfl (.slice P lm c2) rfl Tryd.func24 HN1.out HN2.out HNX.out ?_; rintro e w3 ⟨Q, c3, out, rfl, k1, k2, k3, k4, k5, k6⟩; obtain ⟨lo, hlo⟩ : ∃ lo, lo = List.length out := ⟨_, rfl⟩; rw [← hlo]; refine ⟨_, rfl, ?_⟩; have HEA := Lib.hid (HFN.out w3 Q lo c3 out hlo k1 k2 k3 k4 k5 ((Below.refl _ _).drew.trans k6)); clear k1 k2 k3 k4 k5 k6 hlo; obtain ⟨⟨b0, b1, b2⟩, b3, b4, b5⟩ := cells3 HEA.out.box; obtain ⟨⟨d0, d1, d2⟩, d3, d4, d5⟩ := cells3 HEA.out.boxX; obtain ⟨x0, x1⟩ := HEA.out.at3; obtain ⟨x2, x3⟩ := HEA.out.atX; have hokr := HEA.out.ok; have hnew := heap_alloc_new w3 (.cells #[.int .i64 t, .slice Q lo c3] 47))
                  | (refine step_fam (by rfl) _ _ 44 (by rfl) ⟨47, 2, vr, l, xr⟩ Tryd.underlying44 infoEd rfl Nat.zero_lt_two (by decide) hokr (by rfl) w3.heap.size (by rfl) [.int .i64 t, .slice Q lo c3] hnew rfl (by simp [Value.oneCell']) h9 ?_; intro g p w1 k1 k2 k3; obtain ⟨hq2, hbx2, hF2, hFf2⟩ := HEA.out.fin g p w1 k1 k2 k3; have HQ2 := Lib.hid hq2; obtain ⟨⟨y0, y1, y2⟩, y3, y4, y5⟩ := cells3 hbx2))
                all_goals
                  clear k1 k2 k3 hq2 hbx2 a0 a1 a2 a3 a4 a5 b0 b1 b2 b3 b4 b5 d0 d1 d2 d3 d4 d5 x0 x1 x2 x3 y0 y1 y2 y3 y4 y5 hE2 hE2f hF2 hFf2 hokr hnew HEA HFN
                  go_wp2_with fail
                  go_roundg gk
                  case measure => omega
                  case rel => exact ⟨q + 1, by omega, by first | rw [hwq] | rfl | simp, HQ2⟩
              · have g3 : ¬ ((cs.length : Nat) : Int) < 9 := by omega
                have HQ2 : Hid (∃ m B R, MS W r gB gE gF (.slice pT r cT2) (q + 1) m B R wr) := Lib.hid ⟨m, B, R, HM.out.same⟩
                clear hr0 hr1
                go_wp2_with fail
                go_roundg gk
                case measure => omega
                case rel => exact ⟨q + 1, by omega, by first | rw [hwq] | rfl | simp, HQ2⟩
      | succ gk =>
        have hlt : (r : Int) < (n : Int) := by omega
        have h0 : (0 : Int) ≤ (r : Int) := by omega
        have hwr : wrap64 ((r : Int) + 1) = ((r + 1 : Nat) : Int) := by rw [IntWalk.wrap64_in _ (by omega)]; omega
        by_cases hrT : r < nT
        · have g1 : (r : Int) < (nT : Int) := by omega
          obtain ⟨g5, o5, rfl, hg5, hc5⟩ := HT.out.2 r (by have := HNT.out; omega)
          have hxb := HT.out.1 tags[r] (List.getElem_mem (by have := HNT.out; omega))
          obtain ⟨x, hx⟩ : ∃ x, x = tags[r]'(by have := HNT.out; omega) := ⟨_, rfl⟩
          rw [← hx] at hc5 hxb
          obtain ⟨hx0, hx1⟩ := hxb
          have hc6 := (HM.out.bel.cell (p := ⟨g5, o5 + r, none⟩) hg5).trans hc5
          clear hc5 hx hg5
          clear HML HMB
          go_upto_region 9 with fail
          obtain ⟨t, htt⟩ : ∃ t, t = max (x.tmod 6) (-1) := ⟨_, rfl⟩
          have ht : -1 ≤ t := by rw [htt]; exact Int.le_max_right _ _
          rw [← htt]
          clear htt hc6 hx0 hx1
          obtain ⟨⟨a0, a1, a2⟩, a3, a4, a5⟩ := cells3 HM.out.box
          have hba : Below wr.heap.size wr (wr.alloc (.cells #[.int .i64 t] 3)) := (Below.refl _ _).alloc (Nat.le_refl _) _
          have hok : (⟨3, 1, vT, tg.length, tg.map (.int .i64)⟩ : Rw).ok (wr.alloc (.cells #[.int .i64 t] 3)) := own_step HM.out.t hba
          have hnew := heap_alloc_new wr (.cells #[.int .i64 t] 3)
          have hl8 : tg.length ≤ 1000000 := by have := HTG.out.1; omega
          obtain ⟨pT, cT2, rfl⟩ : ∃ p c, vT = .slice p tg.length c := Rw.ok.slice (r := ⟨3, 1, vT, tg.length, tg.map (.int .i64)⟩) hok
          have hlb := Lib.hid (Array.getElem?_eq_some_iff.1 HM.out.box).1
          clear hba
          go_wp2_with (at_builtin; refine wpList_fam rfl _ _ 24 rfl ⟨3, 1, .slice pT tg.length cT2, tg.length, tg.map (.int .i64)⟩ Tryd.underlying24 infoIn rfl Nat.zero_lt_one (by decide) hok rfl wr.heap.size rfl [.int .i64 t] hnew rfl (by simp [Value.oneCell']) hl8 ?_; intro g p w1 k1 k2 k3; have HMA := Lib.hid (HM.out.app k1 k2 k3); obtain ⟨⟨d0, d1, d2⟩, d3, d4, d5⟩ := cells3 ((HM.out.keep k2 gB hlb.out (.inr (.inl rfl))).trans HM.out.box); clear k1 k2 k3)
          go_roundg gk
          case measure => omega
          case rel => exact ⟨r + 1, _, tg ++ [t], by omega, by first | rw [hwr] | rfl | simp, Lib.hid ⟨by rw [List.length_append, HTG.out.1]; rfl, fun u hu => (List.mem_append.1 hu).elim (HTG.out.2 u) (fun h => by rw [List.mem_singleton.1 h]; exact ht)⟩, HMA⟩
        · have g1 : ¬ (r : Int) < (nT : Int) := by omega
          clear HML HMB
          go_upto_region 9 with fail
          obtain ⟨t, htt⟩ : ∃ t : Int, t = -1 := ⟨_, rfl⟩
          have ht : -1 ≤ t := by omega
          rw [← htt]
          clear htt
          obtain ⟨⟨a0, a1, a2⟩, a3, a4, a5⟩ := cells3 HM.out.box
          have hba : Below wr.heap.size wr (wr.alloc (.cells #[.int .i64 t] 3)) := (Below.refl _ _).alloc (Nat.le_refl _) _
          have hok : (⟨3, 1, vT, tg.length, tg.map (.int .i64)⟩ : Rw).ok (wr.alloc (.cells #[.int .i64 t] 3)) := own_step HM.out.t hba
          have hnew := heap_alloc_new wr (.cells #[.int .i64 t] 3)
          have hl8 : tg.length ≤ 1000000 := by have := HTG.out.1; omega
          obtain ⟨pT, cT2, rfl⟩ : ∃ p c, vT = .slice p tg.length c := Rw.ok.slice (r := ⟨3, 1, vT, tg.length, tg.map (.int .i64)⟩) hok
          have hlb := Lib.hid (Array.getElem?_eq_some_iff.1 HM.out.box).1
          clear hba
          go_wp2_with (at_builtin; refine wpList_fam rfl _ _ 24 rfl ⟨3, 1, .slice pT tg.length cT2, tg.length, tg.map (.int .i64)⟩ Tryd.underlying24 infoIn rfl Nat.zero_lt_one (by decide) hok rfl wr.heap.size rfl [.int .i64 t] hnew rfl (by simp [Value.oneCell']) hl8 ?_; intro g p w1 k1 k2 k3; have HMA := Lib.hid (HM.out.app k1 k2 k3); obtain ⟨⟨d0, d1, d2⟩, d3, d4, d5⟩ := cells3 ((HM.out.keep k2 gB hlb.out (.inr (.inl rfl))).trans HM.out.box); clear k1 k2 k3)
          go_roundg gk
          case measure => omega
          case rel => exact ⟨r + 1, _, tg ++ [t], by omega, by first | rw [hwr] | rfl | simp, Lib.hid ⟨by rw [List.length_append, HTG.out.1]; rfl, fun u hu => (List.mem_append.1 hu).elim (HTG.out.2 u) (fun h => by rw [List.mem_singleton.1 h]; exact ht)⟩, HMA⟩
end Go.Proofs.YtioahgklplbinaaDoor
