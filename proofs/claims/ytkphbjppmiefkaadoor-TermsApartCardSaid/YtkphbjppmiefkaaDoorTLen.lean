/- The program's lengthen: words grow by some more sets. -/
import Derived.Test.YtkphbjppmiefkaaDoorTTurns
import Derived.Test.YtkphbjppmiefkaaDoorTMore
namespace TermsM
open SetM
/-- The places at which some sets turn, rising. -/
structure Rise (E : List Int) (c : List (List Sp)) (R : List Int) : Prop where
  eup : E.Pairwise (· < ·)
  up : R.Pairwise (· < ·)
  mem : ∀ x, x ∈ R ↔ 0 ≤ x ∧ x < (E.length : Int) ∧ Tog c.flatten (E.getD x.toNat 0)
  inn : ∀ s ∈ c, ∀ x, Tog s x → x ∈ E
  apt : ∀ s ∈ c, Apt s
/-- The i-th of them. -/
def rn (R : List Int) (i : Nat) : Nat := (R.getD i 0).toNat
section
variable {E : List Int} {c : List (List Sp)} {R : List Int}
theorem Rise.at (h : Rise E c R) {i : Nat} (hi : i < R.length) : R[i] = (rn R i : Int) ∧ rn R i < E.length ∧ Tog c.flatten (E.getD (rn R i) 0) := by
  have e : R.getD i 0 = R[i] := by rw [List.getD_eq_getElem?_getD, List.getElem?_eq_getElem hi]; rfl
  have h1 := (h.mem R[i]).1 (List.getElem_mem hi)
  have e2 : R[i] = (rn R i : Int) := by unfold rn; rw [e]; omega
  refine ⟨e2, by omega, ?_⟩
  have := h1.2.2
  rw [e2, Int.toNat_natCast] at this
  exact this
theorem Rise.lt (h : Rise E c R) {i j : Nat} (hij : i < j) (hj : j < R.length) : rn R i < rn R j := by
  have h1 := List.pairwise_iff_getElem.1 h.up i j (by omega) hj hij
  rw [(h.at (show i < R.length by omega)).1, (h.at hj).1] at h1
  omega
theorem Rise.le (h : Rise E c R) {i j : Nat} (hij : i ≤ j) (hj : j < R.length) : rn R i ≤ rn R j := by
  rcases Nat.lt_or_ge i j with h1 | h1
  · exact Nat.le_of_lt (h.lt h1 hj)
  · obtain rfl : i = j := by omega
    exact Nat.le_refl _
/-- Where a set turns is one of them. -/
theorem Rise.find (h : Rise E c R) {s : List Sp} (hs : s ∈ c) {x : Int} (ht : Tog s x) : ∃ i, i < R.length ∧ E.getD (rn R i) 0 = x := by
  obtain ⟨j, hj, e⟩ := of_mem (h.inn s hs x ht)
  have hm : (j : Int) ∈ R := (h.mem _).2 ⟨by omega, by omega, by rw [Int.toNat_natCast, e]; exact tog_flat.2 ⟨s, hs, ht⟩⟩
  obtain ⟨i, hi, e2⟩ := List.mem_iff_getElem.1 hm
  refine ⟨i, hi, ?_⟩
  have := (h.at hi).1
  rw [e2] at this
  rw [show rn R i = j by omega]
  exact e
theorem Rise.mono (h : Rise E c R) {a b : Nat} (hb : b < E.length) (ha : a < E.length) (hlt : E.getD a 0 < E.getD b 0) : a < b := by
  rcases Nat.lt_or_ge a b with h1 | h1
  · exact h1
  · have := up_le h.eup h1 ha; omega
/-- Between two that follow one another nothing turns. -/
theorem Rise.seg (h : Rise E c R) {i r : Nat} (hi : i < R.length) (h1 : rn R i ≤ r) (hr : r < E.length) (h2 : i + 1 < R.length → r < rn R (i + 1)) : sgn c (E.getD r 0) = sgn c (E.getD (rn R i) 0) := by
  refine (sgn_same (up_le h.eup h1 hr) (fun s hs x h3 h4 ht => ?_)).symm
  obtain ⟨k, hk, e⟩ := h.find hs ht
  have hk2 := (h.at hk).2.1
  have h5 : rn R i < rn R k := h.mono hk2 (h.at hi).2.1 (by rw [e]; exact h3)
  have h6 : i < k := by
    rcases Nat.lt_or_ge i k with h7 | h7
    · exact h7
    · have := h.le h7 hi; omega
  have h8 := h2 (by omega)
  have h9 := h.le (show i + 1 ≤ k by omega) hk
  have := up_getD h.eup (show r < rn R k by omega) hk2
  omega
theorem Rise.before (h : Rise E c R) {r : Nat} (hr : r < E.length) (h2 : 0 < R.length → r < rn R 0) : sgn c (E.getD r 0) = 0 := by
  refine sgn_before (fun s hs x h3 ht => ?_)
  obtain ⟨k, hk, e⟩ := h.find hs ht
  have := h2 (by omega)
  have h9 := h.le (Nat.zero_le k) hk
  have := up_getD h.eup (show r < rn R k by omega) (h.at hk).2.1
  omega
theorem Rise.first (h : Rise E c R) (hi : 0 < R.length) : tgl c (E.getD (rn R 0) 0) = sgn c (E.getD (rn R 0) 0) := by
  refine sgn_first h.apt (fun s hs x h3 ht => ?_)
  obtain ⟨k, hk, e⟩ := h.find hs ht
  have h9 := h.le (Nat.zero_le k) hk
  have := up_le h.eup h9 (h.at hk).2.1
  omega
theorem Rise.step (h : Rise E c R) {i : Nat} (hi : i + 1 < R.length) : sgn c (E.getD (rn R i) 0) ^^^ tgl c (E.getD (rn R (i + 1)) 0) = sgn c (E.getD (rn R (i + 1)) 0) := by
  refine sgn_step h.apt (up_getD h.eup (h.lt (Nat.lt_succ_self i) hi) (h.at hi).2.1) (fun s hs x h3 h4 ht => ?_)
  obtain ⟨k, hk, e⟩ := h.find hs ht
  have h5 := h.mono (h.at hk).2.1 (h.at (show i < R.length by omega)).2.1 (by rw [e]; exact h3)
  have h6 := h.mono (h.at hi).2.1 (h.at hk).2.1 (by rw [e]; exact h4)
  rcases Nat.lt_or_ge i k with h7 | h7
  · have := h.le (show i + 1 ≤ k by omega) hk; omega
  · have := h.le h7 (show i < R.length by omega); omega
theorem Rise.last (h : Rise E c R) {i : Nat} (hi : i < R.length) (hl : R.length ≤ i + 1) : sgn c (E.getD (rn R i) 0) = 0 := by
  refine sgn_behind (fun s hs x h3 ht => ?_)
  obtain ⟨k, hk, e⟩ := h.find hs ht
  have := up_le h.eup (h.le (show k ≤ i by omega) hi) (h.at hi).2.1
  omega
theorem Rise.ge (h : Rise E c R) : ∀ i, i < R.length → i ≤ rn R i
  | 0, _ => Nat.zero_le _
  | i + 1, hi => by
    have := h.ge i (by omega)
    have : rn R i < rn R (i + 1) := h.lt (Nat.lt_succ_self i) hi
    omega
theorem Rise.len (h : Rise E c R) : R.length ≤ E.length := by
  rcases Nat.eq_zero_or_pos R.length with h0 | h0
  · omega
  · have h1 := h.ge (R.length - 1) (by omega)
    have h2 := (h.at (show R.length - 1 < R.length by omega)).2.1
    omega
/-- Which sets, ahead of the i-th. -/
def inF (E : List Int) (c : List (List Sp)) (R : List Int) : Nat → Nat
  | 0 => 0
  | i + 1 => sgn c (E.getD (rn R i) 0)
theorem Rise.turn (h : Rise E c R) {i : Nat} (hi : i < R.length) : inF E c R i ^^^ tgl c (E.getD (rn R i) 0) = inF E c R (i + 1) := by
  cases i with
  | zero => show 0 ^^^ _ = _; rw [Nat.zero_xor]; exact h.first hi
  | succ i => exact h.step hi
/-- How far words are grown, ahead of the i-th. -/
def cuF (E R : List Int) (i : Nat) : Nat := if i < R.length then rn R i else E.length
theorem Rise.cu_le (h : Rise E c R) {i : Nat} (hi : i < R.length) : rn R i ≤ cuF E R (i + 1) ∧ cuF E R (i + 1) ≤ E.length ∧ cuF E R i = rn R i := by
  unfold cuF
  rw [if_pos hi]
  split
  · rename_i h1; exact ⟨Nat.le_of_lt (h.lt (Nat.lt_succ_self i) h1), Nat.le_of_lt (h.at h1).2.1, rfl⟩
  · exact ⟨Nat.le_of_lt (h.at hi).2.1, Nat.le_refl _, rfl⟩
theorem Rise.seg2 (h : Rise E c R) {i r : Nat} (hi : i < R.length) (h1 : rn R i ≤ r) (hr : r < cuF E R (i + 1)) : sgn c (E.getD r 0) = inF E c R (i + 1) := by
  refine h.seg hi h1 (Nat.lt_of_lt_of_le hr (h.cu_le hi).2.1) (fun h2 => ?_)
  unfold cuF at hr
  rw [if_pos h2] at hr
  exact hr
end
end TermsM
namespace Go.Proofs.YtkphbjppmiefkaaDoor
open Go.RowKit Go.Shelf Go.Maps SetM TermsM
theorem rise_of {E R : List Int} {c : List (List Sp)} (hE : E.Pairwise (· < ·)) (hR : R.Pairwise (· < ·)) (hm : ∀ x, x ∈ R ↔ (tF E c x).isSome = true) (hin : ∀ s ∈ c, ∀ x, Tog s x → x ∈ E) (ha : ∀ s ∈ c, Apt s) : Rise E c R := by
  refine ⟨hE, hR, fun x => ?_, hin, ha⟩
  rw [hm]
  unfold tF
  by_cases h : 0 ≤ x ∧ x < (E.length : Int) ∧ Tog c.flatten (E.getD x.toNat 0)
  · rw [if_pos h]; simpa using h
  · rw [if_neg h]; simpa using h
/-- What lengthen hands back. -/
def LenPost (S c : List (List Sp)) (E : List Int) (last0 : Int) (g : Nat) (W : World) (e : Ending) (W' : World) : Prop :=
  ∃ ws last, e = .returned (.int .i64 last) ∧ WsO W' g ws ∧ Wd (S ++ c) E ws last ∧ last ≤ last0 + E.length ∧ W.grownBy W' (some g)
set_option maxRecDepth 100000 in
set_option maxHeartbeats 2000000 in
theorem len_c {W : World} {g n m M2 n2 : Nat} {S c : List (List Sp)} {E ws0 : List Int} {last0 : Int} (hO : WsO W g ws0) (hm : m = ws0.length) (hW : Wd S E ws0 last0) (hT : MapF W 3 95 .u64 M2 n (onI (tF E c))) (hn : n ≤ 1000000) (h6 : c.length ≤ 64) (hE : E.Pairwise (· < ·)) (hEl : E.length ≤ 40000) (hin : ∀ s ∈ c, ∀ x, Tog s x → x ∈ E) (ha : ∀ s ∈ c, Apt s) (hl : last0 ≤ 1000000000000) (hgM : M2 ≠ g) :
    Calls Tryd.prog 47 #[.slice (some ⟨g, 0, none⟩) m m, .int .i64 last0, .map (some M2)] W (LenPost S c E last0 g W) := by
  have hmm := @run_makeMap Tryd.prog
  have HMM := Lib.hid hm
  have HW := Lib.hid hW
  have HE := Lib.hid hE
  have HIN := Lib.hid hin
  have HA := Lib.hid ha
  have hgl := hO.lt
  have hM2 := hT.lt
  obtain ⟨Mk, hMk⟩ : ∃ Mk, Mk = W.heap.size := ⟨_, rfl⟩
  have HMK := Lib.hid hMk
  obtain ⟨V, hV⟩ : ∃ V, V = W.alloc (.map #[] 0) := ⟨_, rfl⟩
  have hVb : Below W.heap.size W V := by rw [hV]; exact (Below.refl _ _).alloc (Nat.le_refl _) _
  have HVB := Lib.hid hVb
  have HVZ : Hid (V.heap.size = W.heap.size + 1) := Lib.hid (by rw [hV]; exact World.size_alloc _ _)
  have HTV : Hid (MapF V 3 95 .u64 M2 n (onI (tF E c))) := Lib.hid (hT.of_block (hVb.block M2 hM2))
  have HKV : Hid (MapK V Mk 0 (fun _ _ => 0)) := Lib.hid (by rw [hMk, hV]; exact MapK.made W)
  have HOV : Hid (WsO V g ws0) := Lib.hid (hO.below hVb)
  clear hO hm hW hT hE hin ha hVb
  go_enter Tryd.func47, Tryd.ntmps47
  go_upto_region 2 with fail
  rw [← hV, ← hMk]
  clear hmm hV hMk
  go_wp2_with fail
  refine (keysS_c _ _).mono ?_
  rintro e w2 ⟨rfl, rfl⟩
  go_wp2_with fail
  refine (sortedS_c M2 n _ V HTV.out hn).mono ?_
  rintro e w3 ⟨P, cR, R, rfl, hz, hup, hmem, hPn, hb3⟩
  have hb4 : Below V.heap.size V w3 := ((Below.refl _ _).alloc (Nat.le_refl _) _).trans (hb3.mono (by rw [World.size_alloc]; omega))
  have HRI := Lib.hid (rise_of HE.out hup hmem HIN.out HA.out)
  obtain ⟨nR, hnR⟩ : ∃ nR, nR = R.length := ⟨_, rfl⟩
  rw [← hnR]
  have HNR := Lib.hid hnR
  have HZ := Lib.hid hz
  have HVW := Lib.hid (HVB.out.trans (hb4.mono HVB.out.size))
  have HT3 : Hid (MapF w3 3 95 .u64 M2 n (onI (tF E c))) := Lib.hid (HTV.out.of_block (hb4.block M2 (by have := HVZ.out; omega)))
  have HK3 : Hid (MapK w3 Mk 0 (fun _ _ => 0)) := Lib.hid (HKV.out.kept (row := none) ⟨hb4.os, hb4.tape, hb4.output, hb4.size, fun k hk _ => hb4.block k hk⟩ (by simp))
  have HO3 : Hid (WsO w3 g ws0) := Lib.hid (HOV.out.below hb4)
  have HZ3 : Hid (W.heap.size < w3.heap.size) := Lib.hid (by have := HVZ.out; have := hb4.size; omega)
  have hnR8 : nR ≤ 40000 := by have := HRI.out.len; omega
  have HPN : Hid (∀ a, P = some a → W.heap.size < a.block) := Lib.hid (fun a h => by have := hPn a h; rw [World.size_alloc] at this; have := HVZ.out; omega)
  clear hPn hz hup hmem hb3 hb4 HTV HKV HOV HVB hnR
  go_wp2_with fail
  go_loopg [1, 9, 20] nR (fun gg s1 s9 s20 wx => ∃ (i : Nat) (ws : List Int) (last : Int) (K : Int → Nat → Int) (nk z : Nat), i + gg = nR ∧ s20 = .int .i64 i ∧ s9 = .int .u64 (z : Int) ∧ s1 = .int .i64 last ∧ Hid (z = inF E c R i) ∧ Hid (Ln c E ws0 last0 K ws last (cuF E R i)) ∧ Hid (last ≤ last0 + cuF E R i ∧ nk ≤ cuF E R i) ∧ Hid (WsO wx g ws) ∧ Hid (MapK wx Mk nk K) ∧ Hid (Kpt (fun k => k = g ∨ k = Mk) w3 wx))
  case atStart =>
    refine ⟨0, ws0, last0, _, 0, 0, by omega, rfl, rfl, rfl, Lib.hid rfl, Lib.hid (Ln.start.skip (Nat.zero_le _) (fun i h2 _ h3 => ?_)), Lib.hid ⟨by omega, Nat.zero_le _⟩, HO3, HK3, Lib.hid (Kpt.refl _ _)⟩
    have := HRI.out.before (r := i) h2 (fun h => by unfold cuF at h3; rw [if_pos h] at h3; exact h3)
    rw [List.getD_eq_getElem?_getD, List.getElem?_eq_getElem h2] at this
    exact this
  case round =>
    obtain ⟨i, ws, last, K, nk, z, hig, rfl, rfl, rfl, HZI, HLN, HBD, HOW, HMP, HKP⟩ := hrel
    cases gk with
    | zero =>
      obtain rfl : i = nR := by omega
      have hlt : ¬ (i : Int) < (i : Int) := by omega
      have HX : Hid (LenPost S c E last0 g W (.returned (.int .i64 last)) wr) := Lib.hid (by
        have e : cuF E R i = E.length := by unfold cuF; rw [if_neg (by have := HNR.out; omega)]
        have h1 := HLN.out
        have h2 := HBD.out.1
        rw [e] at h1 h2
        exact ⟨ws, last, rfl, HOW.out, h1.fin HW.out, h2, ((Kpt.of_below HVW.out).trans (HKP.out.mono (T := fun k => k = g ∨ k = Mk) (fun _ _ h => h)) |>.toGrown (fun k hk h => h.elim id (fun h => by have := HMK.out; omega)))⟩)
      clear HLN HOW HMP HKP
      go_wp2_with fail
      go_ret
      exact HX.out
    | succ gg =>
      have hlt : (i : Int) < (nR : Int) := by omega
      have hil : i < R.length := by have := HNR.out; omega
      obtain ⟨bR, oR, hPe, hbR, hcR⟩ := HZ.out (by intro h; rw [h] at hil; simp at hil)
      have hbn : W.heap.size < bR := HPN.out _ hPe
      subst hPe
      have hat := HRI.out.at hil
      obtain ⟨p, hp⟩ : ∃ p, p = rn R i := ⟨_, rfl⟩
      rw [← hp] at hat
      have HCR : Hid (∀ (Y : World) (j : Nat), Kpt (fun k => k = g ∨ k = Mk) w3 Y → (h : j < R.length) → Y.cell? ⟨bR, oR + j, none⟩ = some (.int .i64 (rn R j : Int))) := Lib.hid (fun Y j hY h => by
        rw [← (HRI.out.at h).1]
        exact hY.cell (hcR j h) (fun h => by rcases h with h | h <;> (have := HMK.out; omega)) hbR)
      have c0 := HCR.out wr i HKP.out hil
      rw [← hp] at c0
      have hpE : p < E.length := hat.2.1
      have hlk := (HT3.out.of_block (HKP.out.block M2 (by have := HZ3.out; omega) (fun h => by have := HMK.out; omega))).look (t := 74) keyedI mapS_t signU zeroS8 (keyI (wf64 (x := (p : Int)) (by omega) (by omega)))
      have htg : (onI (tF E c) (.int .i64 (p : Int))).getD 0 = (tgl c (E.getD p 0) : Int) := by
        show (tF E c _).getD 0 = _
        rw [tF_get E c hpE, List.getD_eq_getElem?_getD, List.getElem?_eq_getElem hpE]; rfl
      rw [htg] at hlk
      have hsl : ∀ x, sgn c x < 18446744073709551616 := fun x => Nat.lt_of_lt_of_le (bitsOf_lt _ c) (Nat.pow_le_pow_right (by decide) h6 : 2 ^ c.length ≤ 2 ^ 64)
      have htl : ∀ x, tgl c x < 18446744073709551616 := fun x => Nat.lt_of_lt_of_le (bitsOf_lt _ c) (Nat.pow_le_pow_right (by decide) h6 : 2 ^ c.length ≤ 2 ^ 64)
      have hzl : z < 18446744073709551616 := by
        rw [HZI.out]
        cases i with
        | zero => exact Nat.zero_lt_succ _
        | succ i => exact hsl _
      have hxr := bits_xor_u64_nat z (tgl c (E.getD p 0)) hzl (htl _)
      have htn := HRI.out.turn hil
      rw [← hp, ← HZI.out] at htn
      rw [htn] at hxr
      obtain ⟨y, hy⟩ : ∃ y, y = inF E c R (i + 1) := ⟨_, rfl⟩
      have HY := Lib.hid hy
      rw [← hy] at hxr
      have hyl : y < 18446744073709551616 := by rw [hy]; exact hsl _
      obtain ⟨tg, htg2⟩ : ∃ tg, tg = tgl c (E.getD p 0) := ⟨_, rfl⟩
      rw [← htg2] at hlk hxr
      have HP := Lib.hid hp
      have hcu := HRI.out.cu_le hil
      rw [← hp] at hcu
      have HCU := Lib.hid hcu
      obtain ⟨q, hq⟩ : ∃ q, q = cuF E R (i + 1) := ⟨_, rfl⟩
      have HQ := Lib.hid hq
      have hqb : p ≤ q ∧ q ≤ E.length := by rw [hq]; exact ⟨hcu.1, hcu.2.1⟩
      have hLN := HLN.out
      have hBD := HBD.out
      rw [hcu.2.2] at hLN hBD
      have HLN2 := Lib.hid hLN
      have HSG : Hid (∀ r, p ≤ r → r < q → sgn c (E.getD r 0) = y) := Lib.hid (fun r h1 h2 => by rw [hy]; exact HRI.out.seg2 hil (by rw [← hp]; exact h1) (by rw [← hq]; exact h2))
      have HLAST : Hid (y ≠ 0 → i + 1 < R.length ∧ q = rn R (i + 1)) := Lib.hid (fun h => by
        rcases Nat.lt_or_ge (i + 1) R.length with h1 | h1
        · refine ⟨h1, ?_⟩
          rw [hq]; unfold cuF; rw [if_pos h1]
        · exact absurd (hy.trans (HRI.out.last hil h1)) h)
      clear hat htg hsl htl htn htg2 hp hcu hq hy hLN HLN hcR HZI
      go_wp2_with fail
      go_loopg [1, 12] (q - p) (fun gq s1 s12 wx => ∃ (r : Nat) (ws : List Int) (last : Int) (K : Int → Nat → Int) (nk : Nat), r + gq = q ∧ p ≤ r ∧ s12 = .int .i64 r ∧ s1 = .int .i64 last ∧ Hid (Ln c E ws0 last0 K ws last r) ∧ (last ≤ last0 + r ∧ nk ≤ r) ∧ Hid (WsO wx g ws) ∧ Hid (MapK wx Mk nk K) ∧ Hid (Kpt (fun k => k = g ∨ k = Mk) w3 wx))
      case atStart => exact ⟨p, ws, last, K, nk, by omega, Nat.le_refl _, rfl, rfl, HLN2, hBD, HOW, HMP, HKP⟩
      case round =>
        clear c0 hlk hxr HLN2 hBD HBD HOW HMP HKP
        obtain ⟨r, ws, last, K, nk, hrg, hpr, rfl, rfl, HLN, hBD, HOW, HMP, HKP⟩ := hrel
        by_cases hy0 : y = 0
        · -- nothing is in them
          have hyz : (y : Int) = 0 := by omega
          have HX : Hid (Ln c E ws0 last0 K ws last (cuF E R (i + 1)) ∧ last ≤ last0 + cuF E R (i + 1) ∧ nk ≤ cuF E R (i + 1)) := Lib.hid (by
            rw [← HQ.out]
            refine ⟨HLN.out.skip (by omega) (fun j h1 h2 h3 => ?_), by omega, by omega⟩
            have := HSG.out j (by omega) h3
            rw [List.getD_eq_getElem?_getD, List.getElem?_eq_getElem h1, hy0] at this
            exact this)
          clear HLN
          go_wp2_with fail
          go_roundg gg
          case measure => omega
          case rel => exact ⟨i + 1, ws, last, K, nk, y, by omega, by go_num, by rw [hyz], rfl, HY, Lib.hid HX.out.1, Lib.hid HX.out.2, HOW, HMP, HKP⟩
        · obtain ⟨hi2, hqn⟩ := HLAST.out hy0
          have hyz : ¬ (y : Int) = 0 := by omega
          have c1 := HCR.out wr (i + 1) HKP.out hi2
          rw [← hqn] at c1
          have HQN := Lib.hid hqn
          clear hqn
          have hyb : ((y : Int) != 0) = true := by simpa using hyz
          have hin : (i + 1 : Int) < (nR : Int) := by have := HNR.out; omega
          cases gk with
          | zero =>
            obtain rfl : r = q := by omega
            have hlt2 : ¬ (r : Int) < (r : Int) := by omega
            have HX : Hid (Ln c E ws0 last0 K ws last (cuF E R (i + 1)) ∧ last ≤ last0 + cuF E R (i + 1) ∧ nk ≤ cuF E R (i + 1)) := Lib.hid (by
              rw [← HQ.out]
              exact ⟨HLN.out, by omega, by omega⟩)
            clear HLN
            go_wp2_with fail
            go_roundg gg
            case measure => omega
            case rel => exact ⟨i + 1, ws, last, K, nk, y, by omega, by go_num, rfl, rfl, HY, Lib.hid HX.out.1, Lib.hid HX.out.2, HOW, HMP, HKP⟩
          | succ gq =>
            have hlt2 : (r : Int) < (q : Int) := by omega
            have hrl : r < ws.length := by have := HLN.out.len; have := HMM.out; have := HW.out.len; omega
            have hr0 : r < ws0.length := by have := HLN.out.len; omega
            have hrE : r < E.length := by omega
            have hrm : (r : Int) < (m : Int) := by have := HLN.out.len; have := HMM.out; omega
            have hwr : ws[r] = ws0[r] := HLN.out.old r hrl hr0 hrE (.inl (Nat.le_refl _))
            have hsg : sgn c E[r] = y := by
              have := HSG.out r hpr (by omega)
              rw [List.getD_eq_getElem?_getD, List.getElem?_eq_getElem hrE] at this
              exact this
            have hrange := HW.out.rng r hr0
            have c2 := HOW.out.cell hrl
            rw [hwr] at c2
            obtain ⟨x, hx⟩ : ∃ x, x = ws0[r] := ⟨_, rfl⟩
            rw [← hx] at c2 hrange
            have h0n := HW.out.nn
            have hle := HLN.out.le
            have wx : (Lit.int .i64 x).wf = true := wf64 (by omega) (by omega)
            have wy := wfS hyl
            obtain ⟨V1, hV1⟩ : ∃ V1, V1 = wr.alloc (.cells #[.int .i64 x, .int .u64 (y : Int)] 97) := ⟨_, rfl⟩
            have hx0 : V1.heap[wr.heap.size]? = some (.cells #[.int .i64 x, .int .u64 (y : Int)] 97 (0, 0)) := by rw [hV1]; exact heap_alloc_new wr _
            have HX0 := Lib.hid hx0
            have hvb : Below wr.heap.size wr V1 := by rw [hV1]; exact (Below.refl _ _).alloc (Nat.le_refl _) _
            have hgB : wr.grownBy V1 none := ⟨hvb.os, hvb.tape, hvb.output, hvb.size, fun k hk _ => hvb.block k hk⟩
            have HO1 : Hid (WsO V1 g ws) := Lib.hid (HOW.out.below hvb)
            have HK1 : Hid (MapK V1 Mk nk K) := Lib.hid (HMP.out.kept hgB (by simp))
            have HP1 : Hid (Kpt (fun k => k = g ∨ k = Mk) w3 V1) := Lib.hid (HKP.out.below hvb)
            have hMkl := HMP.out.lt
            have hgl2 := HOW.out.lt
            obtain ⟨⟨d0, d1⟩, _⟩ := cells2 hx0
            have l1 : (Instr.lookup 92 (.map (some Mk)) (.agg #[.int .i64 x, .int .u64 (y : Int)]) false).run Tryd.prog V1 = .ok (.int .i64 (K x y)) V1 := HK1.out.look wx wy
            obtain ⟨u, hu⟩ : ∃ u, u = K x y := ⟨_, rfl⟩
            rw [← hu] at l1
            have HU := Lib.hid hu
            have HXE := Lib.hid hx
            have HSE := Lib.hid hsg
            by_cases hu0 : u = 0
            · -- a new word
              have ul : wrap64 (last + 1) = last + 1 := IntWalk.wrap64_in _ (by omega)
              obtain ⟨w4, r1, hk4, hg4⟩ := HK1.out.store (n := nk) (by unfold maxLen; omega) wx wy (v := last + 1) (wf64 (by omega) (by omega))
              have HK4 := Lib.hid hk4
              have HG4 := Lib.hid hg4
              have r1 : (Instr.mapUpdate 92 (.map (some Mk)) (.agg #[.int .i64 x, .int .u64 (y : Int)]) (.int .i64 (last + 1))).run Tryd.prog V1 = .ok () w4 := r1
              obtain ⟨⟨a0, a1⟩, _⟩ := cells2 ((hg4.block _ (Array.getElem?_eq_some_iff.1 hx0).1 (fun e => by have := Option.some.inj e; omega)).trans hx0)
              have l2 : (Instr.lookup 92 (.map (some Mk)) (.agg #[.int .i64 x, .int .u64 (y : Int)]) false).run Tryd.prog w4 = .ok (.int .i64 (last + 1)) w4 := by
                have h := hk4.look wx wy
                rw [if_pos ⟨rfl, rfl⟩] at h
                exact h
              have HO4 : Hid (WsO w4 g ws) := Lib.hid (HO1.out.kept hg4 (fun e => by have := Option.some.inj e; have := HMK.out; omega))
              have c4 := HO4.out.cell hrl
              have f4 := HO4.out.frz r
              have HOE := Lib.hid (HO4.out.set r (last + 1))
              have HLE : Hid (Ln c E ws0 last0 (fun a b => if a = x ∧ b = y then last + 1 else K a b) (ws.set r (last + 1)) (last + 1) (r + 1)) := Lib.hid (by
                have := HLN.out.more HW.out.nn hr0 hrE (by rw [HSE.out]; exact hy0) (by rw [HSE.out, ← HXE.out, ← HU.out]; exact hu0)
                rw [HSE.out, ← HXE.out] at this
                exact this)
              have HP4 : Hid (Kpt (fun k => k = g ∨ k = Mk) w3 w4) := Lib.hid (HP1.out.grown hg4 (fun k e => .inl (.inr (Option.some.inj e).symm)))
              clear hx hu hsg hwr hx0 hvb hgB hg4 hk4
              go_upto_region 12 with fail
              rw [← hV1]
              clear hV1 c2 c1
              go_wp2_with fail
              have HPE : Hid (Kpt (fun k => k = g ∨ k = Mk) w3 (w4.setCell ⟨g, r, none⟩ (.int .i64 (last + 1)))) := Lib.hid (HP4.out.grown HOE.out.2 (fun k e => .inl (.inl (Option.some.inj e).symm)))
              have HKE : Hid (MapK (w4.setCell ⟨g, r, none⟩ (.int .i64 (last + 1))) Mk (nk + 1) (fun a b => if a = x ∧ b = y then last + 1 else K a b)) := Lib.hid (HK4.out.kept HOE.out.2 (fun e => by have := Option.some.inj e; have := HMK.out; omega))
              clear c4 f4 a0 a1 l2 r1
              go_roundg gq
              case measure => omega
              case rel => exact ⟨r + 1, _, last + 1, _, nk + 1, by omega, by omega, by go_num, rfl, HLE, ⟨by omega, by omega⟩, Lib.hid HOE.out.1, HKE, HPE⟩
            · have hub : ((u : Int) = 0) = False := eq_false hu0
              have c4 := HO1.out.cell hrl
              have f4 := HO1.out.frz r
              have HOE := Lib.hid (HO1.out.set r u)
              have HLE : Hid (Ln c E ws0 last0 K (ws.set r u) last (r + 1)) := Lib.hid (by
                have := HLN.out.known hr0 hrE (by rw [HSE.out]; exact hy0) (by rw [HSE.out, ← HXE.out, ← HU.out]; exact hu0)
                rw [HSE.out, ← HXE.out, ← HU.out] at this
                exact this)
              have HPE : Hid (Kpt (fun k => k = g ∨ k = Mk) w3 (V1.setCell ⟨g, r, none⟩ (.int .i64 u))) := Lib.hid (HP1.out.grown HOE.out.2 (fun k e => .inl (.inl (Option.some.inj e).symm)))
              have HKE : Hid (MapK (V1.setCell ⟨g, r, none⟩ (.int .i64 u)) Mk nk K) := Lib.hid (HK1.out.kept HOE.out.2 (fun e => by have := Option.some.inj e; have := HMK.out; omega))
              clear hx hu hsg hwr hx0 hvb hgB
              go_upto_region 12 with fail
              rw [← hV1]
              clear hV1 c2 c1
              go_wp2_with fail
              go_roundg gq
              case measure => omega
              case rel => exact ⟨r + 1, _, last, K, nk, by omega, by omega, by go_num, rfl, HLE, ⟨by omega, by omega⟩, Lib.hid HOE.out.1, HKE, HPE⟩
end Go.Proofs.YtkphbjppmiefkaaDoor
