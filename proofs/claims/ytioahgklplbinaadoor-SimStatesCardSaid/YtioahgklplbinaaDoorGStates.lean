/- The walk of SimStates. -/
import Derived.Test.YtioahgklplbinaaDoorGKnown
import Derived.Test.YtioahgklplbinaaDoorGMac
import Derived.Test.YtioahgklplbinaaDoorGStp
import Derived.Test.YtioahgklplbinaaDoorGEach
namespace SimM
open SetM NfaM
theorem step_within (m : Mc) (a b : List Int) (r : Int) : (∀ x ∈ stepF m a r, x ∈ stepF m (a ++ b) r) ∧ (∀ x ∈ stepF m b r, x ∈ stepF m (a ++ b) r) ∧ (∀ x ∈ stepF m (a ++ b) r, x ∈ stepF m a r ++ stepF m b r) :=
  ⟨fun x h => (step_app m a b r x).2 (.inl h), fun x h => (step_app m a b r x).2 (.inr h), fun x h => List.mem_append.2 ((step_app m a b r x).1 h)⟩
theorem step_len (m : Mc) (a : List Int) (r : Int) : (stepF m a r).length ≤ m.tg.length := stL_len _ _
theorem step_up (m : Mc) (a : List Int) (r : Int) : (stepF m a r).Pairwise (· < ·) := stL_rise _ _
end SimM
namespace Go.Proofs.YtioahgklplbinaaDoor
open Go.RowKit Go.Shelf SetM NfaM SimM
set_option maxRecDepth 100000 in
set_option maxHeartbeats 16000000 in
theorem simStates_any {W : World} {PL PT P3 P4 : Option Addr} {nL nT cL cT n3 n4 q3 q4 : Nat} {k : Int} {tags : List Int} (hk0 : 0 ≤ k) (hk1 : k ≤ 255) {arcs : List (Int × Int × List Int × Bool)} (hT : I8s W PT tags) (hnT : nT = tags.length) (hL : AsR W PL arcs) (hnL : nL = arcs.length)
    {a b : List Int} (hI3 : InR W P3 a) (hn3 : n3 = a.length) (h83 : n3 ≤ 9223372036854775807) (hP3 : P3 = none → q3 = 0) (hI4 : InR W P4 b) (hn4 : n4 = b.length) (h84 : n4 ≤ 9223372036854775807) (hP4 : P4 = none → q4 = 0) {x : Int} (hx : 0 ≤ x ∧ x ≤ 65535) (hA : Aw W) :
    Calls Tryd.prog 3 #[.int .u8 k, .slice PL nL cL, .slice PT nT cT, .slice P3 n3 q3, .slice P4 n4 q4, .int .u16 x] W fun e W' => e = .returned (.bool true) ∧ Below W.heap.size W W' := by
  have HMC := Lib.hid (fun (U : World) (hU : Below W.heap.size W U) => machine_c (cL := cL) (cT := cT) hk0 hk1 (hT.step hU) hnT (hL.step hU) hnL (hA.step hU))
  have HKN := Lib.hid (known9 hA)
  have HA := Lib.hid hA
  have HI3 := Lib.hid (And.intro hI3 (And.intro hn3 hP3))
  have HI4 := Lib.hid (And.intro hI4 (And.intro hn4 hP4))
  obtain ⟨hx0, hx1⟩ := hx
  clear hk0 hk1 hT hnT hL hnL hA hI3 hn3 hI4 hn4 hP3 hP4
  go_enter Tryd.func3, Tryd.ntmps3
  go_upto_region 1 with fail
  by_cases hbig : 20 < n3 ∨ 20 < n4
  · rcases (show 20 < n3 ∨ (¬ 20 < n3 ∧ 20 < n4) by omega) with q | ⟨q1, q⟩
    · have g2 : (20 : Int) < (n3 : Int) := by omega
      clear hbig q
      go_wp2_with fail
      refine HKN.out.mono ?_
      rintro e w1 ⟨rfl, b1⟩
      have HE1 := Lib.hid b1
      clear b1
      go_wp2_with fail
      go_ret
      exact ⟨rfl, HE1.out⟩
    · have g1 : ¬ (20 : Int) < (n3 : Int) := by omega
      have g2 : (20 : Int) < (n4 : Int) := by omega
      clear hbig q q1
      go_wp2_with fail
      refine HKN.out.mono ?_
      rintro e w1 ⟨rfl, b1⟩
      have HE1 := Lib.hid b1
      clear b1
      go_wp2_with fail
      go_ret
      exact ⟨rfl, HE1.out⟩
  have g1 : ¬ (20 : Int) < (n3 : Int) := by omega
  have g2 : ¬ (20 : Int) < (n4 : Int) := by omega
  have HN8 : Hid (n3 ≤ 20 ∧ n4 ≤ 20) := Lib.hid (by omega)
  clear hbig
  go_wp2_with fail
  refine HKN.out.mono ?_
  rintro e w1 ⟨rfl, b1⟩
  have HB1 := Lib.hid b1
  clear b1 HKN g1 g2
  go_wp2_with fail
  refine (HMC.out w1 HB1.out).mono ?_
  rintro e w2 ⟨p0, p1, p2, c0, c1, c2, n, m, rfl, hM, hs, h12, b2⟩
  obtain ⟨V, hV⟩ : ∃ V, V = w2.alloc (.cells #[.slice p0 n c0, .slice p1 n c1, .slice p2 n c2] 30) := ⟨_, rfl⟩
  have HX : Hid (Boxed w2 V p0 p1 p2 n c0 c1 c2 m) := Lib.hid (by rw [hV]; exact boxed_of hM)
  have HS := Lib.hid hs
  have HML := Lib.hid (show m.tg.length ≤ 12 by rw [← hM.e2]; exact h12)
  have hbV : Below W.heap.size W V := (HB1.out.trans (b2.mono HB1.out.size)).trans (HX.out.bel.mono (Nat.le_trans HB1.out.size b2.size))
  have HBV := Lib.hid hbV
  have HST := Lib.hid (fun (U : World) (hU : Below V.heap.size V U) (P : Option Addr) (nl c : Nat) (l : List Int) (hI : InR U P l) (hn : nl = l.length) (h8 : nl ≤ 100) => pstep_c (c0 := c0) (c1 := c1) (c2 := c2) (c := c) (r := x % 230) (HA.out.step (HBV.out.trans (hU.mono HBV.out.size))) (HX.out.mv U hU) hI hn (by omega))
  clear hM hs h12 b2 hbV HMC
  go_upto_region 4 with fail
  rw [← hV]
  clear hV
  obtain ⟨a0, a1, a2⟩ := HX.out.at_ V (Below.refl _ _)
  go_wp2_with fail
  refine (HST.out V (Below.refl _ _) P3 n3 q3 a (InR.step HI3.out.1 HBV.out) HI3.out.2.1 (by have := HN8.out; omega)).mono ?_
  rintro e w3 ⟨v3, o3, rfl, hO3, h3, _, b3⟩
  obtain rfl := h3 HS.out
  obtain ⟨Q3, k3, rfl, hJ3, _, _, _⟩ := hO3.form
  have HC3 := Lib.hid (OwI.nilcap hO3)
  have HJ3 := Lib.hid hJ3
  have HB3 := Lib.hid b3
  obtain ⟨l3, hl3⟩ : ∃ l3, l3 = (stepF m a (x % 230)).length := ⟨_, rfl⟩
  rw [← hl3]
  have HL3 : Hid (l3 = (stepF m a (x % 230)).length ∧ l3 ≤ 12) := Lib.hid ⟨hl3, by rw [hl3]; exact Nat.le_trans (step_len m _ _) HML.out⟩
  clear hO3 h3 hJ3 b3 hl3 a0 a1 a2
  obtain ⟨a0, a1, a2⟩ := HX.out.at_ _ HB3.out
  go_wp2_with fail
  refine (HST.out w3 HB3.out P4 n4 q4 b (InR.step (InR.step HI4.out.1 HBV.out) HB3.out) HI4.out.2.1 (by have := HN8.out; omega)).mono ?_
  rintro e w4 ⟨v4, o4, rfl, hO4, h4, _, b4⟩
  obtain rfl := h4 HS.out
  obtain ⟨Q4, k4, rfl, hJ4, _, _, _⟩ := hO4.form
  have HC4 := Lib.hid (OwI.nilcap hO4)
  have HJ4 := Lib.hid hJ4
  have HB4 := Lib.hid (HB3.out.trans (b4.mono HB3.out.size))
  have HJ3b := Lib.hid (InR.step HJ3.out b4)
  obtain ⟨l4, hl4⟩ : ∃ l4, l4 = (stepF m b (x % 230)).length := ⟨_, rfl⟩
  rw [← hl4]
  have HL4 : Hid (l4 = (stepF m b (x % 230)).length ∧ l4 ≤ 12) := Lib.hid ⟨hl4, by rw [hl4]; exact Nat.le_trans (step_len m _ _) HML.out⟩
  clear hO4 h4 hJ4 b4 hl4 a0 a1 a2 HJ3
  have hnil := OwI.nil w4 w4.heap.size
  go_upto_region 9 with (first
    | (at_builtin; refine wpList_append_inr rfl (.tmp 47) (.tmp 48) rfl w4.heap.size (.slice none 0 0) [] rfl hnil P3 n3 q3 a HI3.out.2.1 rfl (InR.step (InR.step HI3.out.1 HBV.out) HB4.out) HI3.out.2.2 (by have := HN8.out; have := HI3.out.2.1; simp; omega) (Nat.le_refl _) ?_; intro v5 w5 hO5 hg5; rw [List.nil_append] at hO5; have hb5 : Below w4.heap.size w4 w5 := (Below.refl _ _).grown hg5 (Nat.le_refl _) (fun j hj => by cases hj); have HB5 := Lib.hid hb5; have HO5 := Lib.hid hO5; have HV5 := Lib.hid (fun j (hj : v5.ownBlock = some j) => (World.ownsRow.lt hO5 j hj).1); clear hO5 hb5 hg5)
    | (at_builtin; refine wpList_append_inr rfl (.tmp 50) (.tmp 51) rfl w4.heap.size _ a rfl HO5.out P4 n4 q4 b HI4.out.2.1 rfl (InR.step (InR.step (InR.step HI4.out.1 HBV.out) HB4.out) HB5.out) HI4.out.2.2 (by have := HN8.out; have := HI3.out.2.1; have := HI4.out.2.1; omega) HB5.out.size ?_; intro v6 w6 hO6 hg6; have HB6 := Lib.hid (HB5.out.grown hg6 HB5.out.size HV5.out); have HO6 := Lib.hid hO6; clear hO6 hg6)
    | fail)
  have hO6 := HO6.out
  obtain ⟨Q6, k6, rfl, hI6, _, _, _⟩ := hO6.form
  have HI6 := Lib.hid hI6
  obtain ⟨l6, hl6⟩ : ∃ l6, l6 = (a ++ b).length := ⟨_, rfl⟩
  rw [← hl6]
  have HL6 : Hid (l6 = (a ++ b).length ∧ l6 ≤ 40) := Lib.hid ⟨hl6, by rw [hl6, List.length_append, ← HI3.out.2.1, ← HI4.out.2.1]; have := HN8.out; omega⟩
  have hV6 := HB4.out.trans (HB6.out.mono HB4.out.size)
  have HV6 := Lib.hid hV6
  obtain ⟨a0, a1, a2⟩ := HX.out.at_ _ hV6
  clear hO6 hI6 hl6 HO5 HO6 hnil hV6
  go_wp2_with fail
  refine (HST.out _ HV6.out Q6 l6 k6 (a ++ b) HI6.out HL6.out.1 (by have := HL6.out; omega)).mono ?_
  rintro e w7 ⟨v7, o7, rfl, hO7, h7, _, b7⟩
  obtain rfl := h7 HS.out
  obtain ⟨Q7, k7, rfl, hJ7, _, _, _⟩ := hO7.form
  have HJ7 := Lib.hid hJ7
  have HV7 := Lib.hid (HV6.out.trans (b7.mono HV6.out.size))
  have HJ3 := Lib.hid (InR.step (InR.step HJ3b.out HB6.out) b7)
  have HJ4b := Lib.hid (InR.step (InR.step HJ4.out HB6.out) b7)
  obtain ⟨l7, hl7⟩ : ∃ l7, l7 = (stepF m (a ++ b) (x % 230)).length := ⟨_, rfl⟩
  rw [← hl7]
  have HL7 : Hid (l7 = (stepF m (a ++ b) (x % 230)).length ∧ l7 ≤ 12) := Lib.hid ⟨hl7, by rw [hl7]; exact Nat.le_trans (step_len m _ _) HML.out⟩
  have HSW := Lib.hid (step_within m a b (x % 230))
  clear hO7 h7 hJ7 b7 hl7 a0 a1 a2 HJ3b HJ4
  have HW1 := Lib.hid (within_c (W := w7) (c := k3) (d := k7) HL3.out.1 HL7.out.1 ⟨by have := HL3.out; omega, by have := HL7.out; omega⟩ HJ3.out HJ7.out HSW.out.1)
  go_wp2_with fail
  refine HW1.out.mono ?_
  rintro e w8 ⟨rfl, b8⟩
  have HB8 := Lib.hid b8
  have HW2 := Lib.hid (within_c (W := w8) (c := k4) (d := k7) HL4.out.1 HL7.out.1 ⟨by have := HL4.out; omega, by have := HL7.out; omega⟩ (InR.step HJ4b.out b8) (InR.step HJ7.out b8) HSW.out.2.1)
  clear b8 HW1
  go_wp2_with fail
  refine HW2.out.mono ?_
  rintro e w9 ⟨rfl, b9⟩
  have HB9 := Lib.hid (HB8.out.trans (b9.mono HB8.out.size))
  have HW3 := Lib.hid (each_c (W := w9) (c := k7) (d := k3) (e := k4) HL7.out.1 HL3.out.1 HL4.out.1 ⟨by have := HL7.out; omega, by have := HL3.out; omega, by have := HL4.out; omega⟩ (InR.step HJ7.out HB9.out) (InR.step HJ3.out HB9.out) (InR.step HJ4b.out HB9.out) HC3.out HC4.out (step_up m _ _) HSW.out.2.2)
  clear b9 HW2
  go_wp2_with fail
  refine HW3.out.mono ?_
  rintro e w10 ⟨rfl, b10⟩
  have HV10 := Lib.hid (HV7.out.trans ((HB9.out.trans (b10.mono HB9.out.size)).mono HV7.out.size))
  obtain ⟨a0, a1, a2⟩ := HX.out.at_ _ HV10.out
  clear b10 HW3
  go_wp2_with fail
  refine (HST.out _ HV10.out none 0 0 [] (fun k hk => absurd hk (Nat.not_lt_zero k)) rfl (by omega)).mono ?_
  rintro e w11 ⟨v11, o11, rfl, hO11, h11, _, b11⟩
  obtain rfl := h11 HS.out
  rw [step_nil] at hO11
  obtain ⟨Q11, k11, rfl, _, _, _, _⟩ := hO11.form
  have hl0 : List.length ([] : List Int) = 0 := rfl
  rw [hl0]
  have HE := Lib.hid (HBV.out.trans ((HV10.out.trans (b11.mono HV10.out.size)).mono HBV.out.size))
  clear hO11 h11 b11 hl0 a0 a1 a2
  go_wp2_with fail
  go_ret
  exact ⟨rfl, HE.out⟩
end Go.Proofs.YtioahgklplbinaaDoor
