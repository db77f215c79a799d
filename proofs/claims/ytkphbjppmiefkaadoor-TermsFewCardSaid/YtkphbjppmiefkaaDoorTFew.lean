/- TermsFew: the walk. -/
import Derived.BigQuiet
import Derived.Test.YtkphbjppmiefkaaDoorTPU
namespace Go.Proofs.YtkphbjppmiefkaaDoor
open Go.RowKit Go.Shelf Go.Maps SetM TermsM
/-- Has one of the first sets one of two numbers alone? -/
def UnQ (x : List (List Sp)) (k : Nat) (u v : Int) (val : Value) : Prop := ∃ q : Bool, val = .bool q ∧ (q = true ↔ ∃ s ∈ x.take k, ¬ (Tells s u ↔ Tells s v))
theorem UnQ.start (x : List (List Sp)) (u v : Int) : UnQ x 0 u v (.bool false) := ⟨false, rfl, by simp⟩
theorem UnQ.keep {x : List (List Sp)} {k : Nat} {u v : Int} (hk : k < x.length) (h : UnQ x k u v (.bool true)) : UnQ x (k + 1) u v (.bool true) := by
  obtain ⟨q, e, h⟩ := h
  cases e
  refine ⟨true, rfl, ⟨fun _ => ?_, fun _ => rfl⟩⟩
  obtain ⟨s, hs, hn⟩ := h.1 rfl
  exact ⟨s, by rw [List.take_succ_eq_append_getElem hk]; exact List.mem_append_left _ hs, hn⟩
theorem UnQ.next {x : List (List Sp)} {k : Nat} {u v : Int} (hk : k < x.length) (h : UnQ x k u v (.bool false)) {a b : Bool} (ha : a = decide (Tells x[k] u)) (hb : b = decide (Tells x[k] v)) : UnQ x (k + 1) u v (.bool (a != b)) := by
  obtain ⟨q, e, h⟩ := h
  cases e
  refine ⟨_, rfl, ?_⟩
  have hno : ∀ s ∈ x.take k, ¬ ¬ (Tells s u ↔ Tells s v) := fun s hs hn => by
    have := h.2 ⟨s, hs, hn⟩
    cases this
  rw [List.take_succ_eq_append_getElem hk, ha, hb]
  constructor
  · intro hne
    refine ⟨_, List.mem_append_right _ (List.mem_singleton.2 rfl), fun hi => ?_⟩
    have e : decide (Tells x[k] u) = decide (Tells x[k] v) := decide_eq_decide.2 hi
    rw [e] at hne
    simp at hne
  · rintro ⟨s, hs, hn⟩
    rcases List.mem_append.1 hs with hs | hs
    · exact absurd hn (hno s hs)
    · rw [List.mem_singleton.1 hs] at hn
      rw [bne_iff_ne]
      exact fun e => hn (decide_eq_decide.1 e)
set_option maxRecDepth 100000 in
set_option maxHeartbeats 8000000 in
theorem termsFew_any {W : World} {A : Option Addr} {n ca : Nat} {cs : List (List Int)} (h0 : 0 < W.heap.size) (hA : Areas W) (hn : n = cs.length) (hn8 : n ≤ 9223372036854775807) (hC : Css W A cs) :
    Calls Tryd.prog 8 #[.slice A n ca] W fun e W' => e = .returned (.bool true) ∧ Below W.heap.size W W' := by
  have HK : Hid (∀ V, Below W.heap.size W V → Calls Tryd.prog 9 #[] V fun e W' => e = .returned (.bool true) ∧ Below V.heap.size V W') := Lib.hid (fun V hV => known10 (by have := hV.size; omega) (hA.below hV h0))
  have HLI := Lib.hid (list_c (W := W) (A := A) (n := n) (ca := ca) (cs := cs) hn hn8 hC)
  have HA := Lib.hid (And.intro h0 hA)
  clear h0 hA hn hn8 hC
  go_enter Tryd.func8, Tryd.ntmps8
  go_wp2_with fail
  refine HLI.out.mono ?_
  rintro e w2 ⟨P2, c2, rfl, hR2, hP2, hc2, b2⟩
  have HX : Hid ((listF cs 8).length ≤ 8 ∧ (∀ y ∈ listF cs 8, y.length ≤ 30) ∧ (listF cs 8).flatten.length ≤ 240) := Lib.hid (listF_le cs)
  obtain ⟨x, hx⟩ : ∃ x, x = listF cs 8 := ⟨_, rfl⟩
  rw [← hx] at hR2 hc2 HX ⊢
  obtain ⟨nx, hnx⟩ : ∃ nx, nx = x.length := ⟨_, rfl⟩
  rw [← hnx]
  have HNX := Lib.hid hnx
  have HB2 := Lib.hid b2
  have HR2 := Lib.hid hR2
  have HOF := Lib.hid (of_c (W := w2) (ca := c2) (by have := b2.size; have := HA.out.1; omega) (HA.out.2.below b2 HA.out.1) hnx hR2 (by have := HX.out.1; omega) (by have := HX.out.2.2; omega))
  clear hx hnx hP2 hc2 b2 hR2 HLI
  go_wp2_with fail
  refine HOF.out.mono ?_
  rintro e w3 ⟨P3, c3, p, rfl, hR3, hpp, hf3, hn3, hP3, hc3, b3⟩
  obtain ⟨np, hnp⟩ : ∃ np, np = p.length := ⟨_, rfl⟩
  rw [← hnp]
  have hnp8 : np ≤ 2000 := by have := HX.out.2.2; omega
  have HNP := Lib.hid (And.intro hnp hpp)
  have HR3 := Lib.hid hR3
  have HL3 : Hid (∀ y ∈ p, y.length ≤ 2000) := Lib.hid (fun y hy => by have := flat_memm hy; have := HX.out.2.2; omega)
  have HB3 := Lib.hid (HB2.out.trans (b3.mono HB2.out.size))
  have HRX := Lib.hid (HR2.out.step b3)
  clear hnp hpp hf3 hn3 hP3 hc3 b3 hR3 HOF HR2 HB2
  go_wp2_with fail
  go_loopg [5] np (fun g s5 wx => ∃ i : Nat, i + g = np ∧ s5 = .int .i64 i ∧ Hid (Below w3.heap.size w3 wx))
  case atStart => exact ⟨0, by omega, rfl, Lib.hid (Below.refl _ _)⟩
  case round =>
    obtain ⟨i, hig, rfl, HB⟩ := hrel
    have HIG := Lib.hid hig
    cases gk with
    | zero =>
      obtain rfl : i = np := by omega
      have hlt : ¬ (i : Int) < (i : Int) := by omega
      go_wp2_with fail
      have HBW := Lib.hid (HB3.out.trans (HB.out.mono HB3.out.size))
      refine (HK.out _ HBW.out).mono ?_
      rintro e w9 ⟨rfl, b9⟩
      have HB9 := Lib.hid (HBW.out.trans (b9.mono HBW.out.size))
      clear b9
      go_wp2_with fail
      go_ret
      exact ⟨rfl, HB9.out⟩
    | succ g =>
      have hlt : (i : Int) < (np : Int) := by omega
      have hip : i < p.length := by have := HNP.out.1; omega
      obtain ⟨bp, op, rfl⟩ := HR3.out.form (by omega)
      have hnep : ∀ x ∈ p, x ≠ [] := fun x hx => (HNP.out.2.bun.nf x hx).2
      have HNE := Lib.hid hnep
      obtain ⟨bi, oi, ni, ci, hni, _, _, hci⟩ := HR3.out.lo_at hnep hip
      have hniz : (0 : Int) < (ni : Int) := by omega
      obtain ⟨li, hli⟩ : ∃ li, li = lo p[i] := ⟨_, rfl⟩
      rw [← hli] at hci
      have HCI := Lib.hid hci
      have HLI := Lib.hid (And.intro hip hli)
      clear hci hli hnep hni hig
      go_wp2_with fail
      go_loopg [6] i (fun gq s6 wy => ∃ j : Nat, j + gq = i ∧ s6 = .int .i64 j ∧ Hid (Below w3.heap.size w3 wy))
      case atStart => exact ⟨0, by omega, rfl, HB⟩
      case round =>
        obtain ⟨j, hjg, rfl, HBy⟩ := hrel
        cases gk with
        | zero =>
          obtain rfl : j = i := by omega
          have hltj : ¬ (j : Int) < (j : Int) := by omega
          go_wp2_with fail
          go_roundg g
          case measure => omega
          case rel => exact ⟨j + 1, by have := HIG.out; omega, by go_num, HBy⟩
        | succ gj =>
          have hltj : (j : Int) < (i : Int) := by omega
          have hjp : j < p.length := by omega
          obtain ⟨bj, oj, nj, cj, hnj, _, _, hcj⟩ := HR3.out.lo_at HNE.out hjp
          have hnjz : (0 : Int) < (nj : Int) := by omega
          obtain ⟨lj, hlj⟩ : ∃ lj, lj = lo p[j] := ⟨_, rfl⟩
          rw [← hlj] at hcj
          have HCJ := Lib.hid hcj
          have HUN : Hid (∃ s ∈ x, ¬ (Tells s li ↔ Tells s lj)) := Lib.hid (by rw [HLI.out.2, hlj]; exact HNP.out.2.unlike hip hjp (by omega))
          have HJG := Lib.hid hjg
          clear hcj hlj hnj hjg
          go_wp2_with fail
          go_loopg [7, 8] nx (fun gr s7 s8 wz => ∃ k : Nat, k + gr = nx ∧ s8 = .int .i64 k ∧ Hid (UnQ x k li lj s7) ∧ Hid (Below w3.heap.size w3 wz))
          case atStart => exact ⟨0, by omega, rfl, Lib.hid (UnQ.start _ _ _), HBy⟩
          case round =>
            obtain ⟨k, hkg, rfl, HU, HBz⟩ := hrel
            cases gk with
            | zero =>
              obtain rfl : k = nx := by omega
              have hltk : ¬ (k : Int) < (k : Int) := by omega
              obtain ⟨q, rfl, hq⟩ := HU.out
              have hqt : q = true := hq.2 (by rw [HNX.out, List.take_length]; exact HUN.out)
              subst hqt
              clear hq HU
              go_wp2_with fail
              go_roundg gj
              case measure => omega
              case rel => exact ⟨j + 1, by have := HJG.out; omega, by go_num, HBz⟩
            | succ gr =>
              have hltk : (k : Int) < (nx : Int) := by omega
              have hkx : k < x.length := by have := HNX.out; omega
              have HKG := Lib.hid hkg
              have HWK : Hid (wrap64 ((k : Int) + 1) = ((k + 1 : Nat) : Int)) := Lib.hid (by have := HX.out.1; have := HNX.out; rw [IntWalk.wrap64_in _ (by omega)]; omega)
              have hk0 : (0 : Int) ≤ (k : Int) := by omega
              have hi0 : (0 : Int) ≤ (i : Int) := by omega
              have hj0 : (0 : Int) ≤ (j : Int) := by omega
              have hltjp : (j : Int) < (np : Int) := by omega
              obtain ⟨bx, ox, rfl⟩ := HRX.out.form (by omega)
              obtain ⟨Qx, cx, _, hsx, hcx⟩ := HRX.out.row hkx
              have c0 := hcx _ HBz.out
              obtain ⟨c1, c2'⟩ := HCI.out _ HBz.out
              obtain ⟨c3', c4⟩ := HCJ.out _ HBz.out
              have hlx : x[k].length ≤ 30 := HX.out.2.1 _ (List.getElem_mem hkx)
              have HSX := Lib.hid hsx
              obtain ⟨a, ha⟩ : ∃ a, a = decide (Tells x[k] li) := ⟨_, rfl⟩
              obtain ⟨b, hb⟩ : ∃ b, b = decide (Tells x[k] lj) := ⟨_, rfl⟩
              have HH1 : Hid (∀ m, Calls Tryd.prog 25 #[.slice Qx x[k].length cx, .int .i64 li] (wr.drewN m) fun e W' => e = .returned (.bool a) ∧ W' = wr.drewN m) := Lib.hid (fun m => by
                have hb9 := drewN_lo HBz.out m
                rw [ha]
                exact (rhas_any Qx cx x[k] li _ ((hsx.below hb9).mono hb9.size) (by omega)).mono (fun e W' h => ⟨h.1, h.2.symm⟩))
              have HH2 : Hid (∀ m, Calls Tryd.prog 25 #[.slice Qx x[k].length cx, .int .i64 lj] (wr.drewN m) fun e W' => e = .returned (.bool b) ∧ W' = wr.drewN m) := Lib.hid (fun m => by
                have hb9 := drewN_lo HBz.out m
                rw [hb]
                exact (rhas_any Qx cx x[k] lj _ ((hsx.below hb9).mono hb9.size) (by omega)).mono (fun e W' h => ⟨h.1, h.2.symm⟩))
              have HAB := Lib.hid (And.intro ha hb)
              obtain ⟨lx, hlx'⟩ : ∃ lx, lx = x[k].length := ⟨_, rfl⟩
              rw [← hlx'] at c0 HH1 HH2
              have HKX := Lib.hid hkx
              clear hcx hlx ha hb hlx' hsx
              have HBk : Hid (∀ m, Hid (Below w3.heap.size w3 (wr.drewN m))) := Lib.hid (fun m => Lib.hid (drewN_lo HBz.out m))
              obtain ⟨q, rfl, -⟩ := id HU.out
              go_upto_region 13 with fail
              cases q with
              | true =>
                go_quiet (fail)
                go_wp2
                go_roundg gr
                case measure => omega
                case rel => exact ⟨k + 1, by have := HKG.out; omega, by rw [HWK.out], Lib.hid (HU.out.keep HKX.out), HBk.out _⟩
              | false =>
                go_quiet (first | (go_at_call 25; with_reducible exact Calls.quiet_of_same (HH1.out _)) | (go_at_call 25; with_reducible exact Calls.quiet_of_same (HH2.out _)))
                go_wp2
                go_roundg gr
                case measure => omega
                case rel => exact ⟨k + 1, by have := HKG.out; omega, by rw [HWK.out], Lib.hid (HU.out.next HKX.out HAB.out.1 HAB.out.2), HBk.out _⟩
end Go.Proofs.YtkphbjppmiefkaaDoor
