/- PropsAll's walk: all classes are of any; any is all scalars. -/
import Derived.Test.YtjhbjgpkpcfdmaaDoorPKnown
import Derived.Test.YtjhbjgpkpcfdmaaDoorRefOps
import Derived.IntWalk
namespace Go.Proofs.YtjhbjgpkpcfdmaaDoor
open Go.RowKit Go.Shelf SetM PropsM

theorem lalike_c {W : World} {P Q : Option Addr} {c d : Nat} {l m : List Sp} (hs : Sl W P l) (ht : Sl W Q m) (hl : l.length ≤ 1000000) (hm : m.length ≤ 1000000) : Calls Tryd.prog 16 #[.slice P l.length c, .slice Q m.length d] W fun e W' => e = .returned (.bool (decide (l = m))) ∧ Below W.heap.size W W' := by
  have HS := Lib.hid hs
  have HT := Lib.hid ht
  clear hs ht
  go_enter Tryd.func16, Tryd.ntmps16
  go_wp2_with fail
  refine (alike_c HS.out HT.out hl hm).mono ?_
  rintro e w1 ⟨rfl, b1⟩
  go_wp2
  go_ret
  exact ⟨rfl, b1⟩
theorem none_set : IsSet [] (fun _ => False) := ⟨trivial, fun r => ⟨fun h => absurd h (mem_nil r), fun h => h.elim⟩⟩
theorem any_sc (r : Int) : Tells (gathOf 0) r ↔ Sc r ∧ ¬ Tells [] r := by
  rw [show gathOf 0 = [(0, 1114111)] from rfl]
  have h := tells_nil r
  simp only [Tells, mem_cons, mem_nil, or_false]
  unfold Sc
  simp
  omega
/-- The k-th name's number. -/
def pickN (a : Int) : Nat := a.toNat % 13
theorem pickN_lt (a : Int) : pickN a < 13 := Nat.mod_lt _ (by omega)

set_option maxRecDepth 100000 in
set_option maxHeartbeats 2000000 in
theorem propsAll_any (a : Int) (h0 : 0 ≤ a) (h1 : a ≤ 255) (w : World) (hC : Ctx w w) :
    Calls Tryd.prog 4 #[.int .u8 a] w fun e w' => e = .returned (.bool true) ∧ Below w.heap.size w w' := by
  have HC := Lib.hid hC
  clear hC
  have HO1 : Hid (∀ W, Ctx w W → Calls Tryd.prog 12 #[.string ⟨#[97, 110, 121]⟩] W (OfIs W 0)) := Lib.hid (fun W h => of_some ⟨#[97, 110, 121]⟩ (by decide) 0 (by decide) h)
  have hj := pickN_lt a
  have HO2 : Hid (∀ W, Ctx w W → Calls Tryd.prog 12 #[.string ⟨(nameOf (pickN a)).toArray⟩] W (OfIs W (pickN a))) := Lib.hid (fun W h => of_some ⟨(nameOf (pickN a)).toArray⟩ (by show (nameOf (pickN a)).length ≤ _; have := (name_len (pickN a) hj).2; omega) (pickN a) (by show whichF (looseL (nameOf (pickN a))) = _; rw [loose_name _ hj, which_name _ hj]) h)
  have hpa : a % 13 = (pickN a : Int) := by unfold pickN; omega
  have hta : a.tmod 13 = (pickN a : Int) := by rw [Int.tmod_eq_emod_of_nonneg h0]; exact hpa
  have HNM := Lib.hid (names_at (pickN a) hj)
  generalize pickN a = j at *
  have hjz : (j : Int) < 13 := by omega
  go_enter Tryd.func4, Tryd.ntmps4
  go_wp2_with fail
  refine (names_any _).mono ?_
  rintro e w1 ⟨PN, cN, rfl, sN, b1⟩
  have HC1 := Lib.hid (HC.out.step b1)
  have HSN := Lib.hid sN
  clear sN b1 HC
  go_wp2_with fail
  refine (HO1.out _ HC1.out).mono ?_
  rintro e w2 ⟨P0, c0, o0, rfl, is0, l0, s0, _, b2⟩
  have HC2 := Lib.hid (HC1.out.step b2)
  obtain ⟨bN, oN, rfl, hbN, hcN⟩ := (Strs.below b2 HSN.out) (by decide)
  have cN' := hcN j hj
  rw [HNM.out] at cN'
  have HI0 := Lib.hid is0
  have HL0 := Lib.hid l0
  have HS0 := Lib.hid s0
  clear b2 HC1 hcN HSN is0 l0 s0
  go_wp2_with fail
  refine (HO2.out _ HC2.out).mono ?_
  rintro e w3 ⟨P1, c1, o1, rfl, is1, l1, s1, _, b3⟩
  have HC3 := Lib.hid (HC2.out.step b3)
  have HS0 := Lib.hid (HS0.out.step b3)
  have HI1 := Lib.hid is1
  have HL1 := Lib.hid l1
  have HS1 := Lib.hid s1
  clear b3 HC2 is1 l1 s1 cN'
  go_wp2_with fail
  refine (known_c HC3.out).mono ?_
  rintro e w4 ⟨rfl, b4⟩
  have HC4 := Lib.hid (HC3.out.step b4)
  have HS0 := Lib.hid (HS0.out.step b4)
  have HS1 := Lib.hid (HS1.out.step b4)
  clear b4 HC3
  go_wp2_with fail
  refine (rnot_c (P := none) (c := 0) (l := []) Spans.nil (by simp) (by intro s h; simp at h)).mono ?_
  rintro e w5 ⟨P2, c2, o2, rfl, is2, l2, s2, _, b5⟩
  obtain rfl : o0 = o2 := HI0.out.eq is2 any_sc
  have HC5 := Lib.hid (HC4.out.step b5)
  have HS0 := Lib.hid (HS0.out.step b5)
  have HS1 := Lib.hid (HS1.out.step b5)
  have HS2 := Lib.hid s2
  clear b5 HC4 is2 l2 s2
  have hd : decide (o0 = o0) = true := decide_eq_true rfl
  go_wp2_with fail
  refine (alike_c HS0.out HS2.out (by have := HL0.out; omega) (by have := HL0.out; omega)).mono ?_
  rintro e w6 ⟨rfl, b6⟩
  have HC6 := Lib.hid (HC5.out.step b6)
  have HS0 := Lib.hid (HS0.out.step b6)
  have HS1 := Lib.hid (HS1.out.step b6)
  clear b6 HC5 HS2
  have HW0 := Lib.hid (wide_set HI0.out (tells_sc _))
  have HW1 := Lib.hid (wide_set HI1.out (tells_sc _))
  have HT0 := Lib.hid (HI0.out.tells (tells_sc _))
  have HT1 := Lib.hid (HI1.out.tells (tells_sc _))
  have HSUB : Hid (∀ r, Tells o1 r → Tells o0 r) := Lib.hid (fun r h => (HT0.out r).2 ((any_sc r).2 ⟨h.1, tells_nil r⟩))
  go_wp2_with fail
  refine (rminus_c HS1.out HS0.out (by have := HL1.out; omega) (by have := HL0.out; omega) HW1.out HW0.out).mono ?_
  rintro e w7 ⟨P3, c3, o3, rfl, is3, l3, s3, _, b7⟩
  obtain rfl : o3 = [] := is3.eq none_set (fun r => ⟨fun h => h.2 (HSUB.out r h.1), fun h => h.elim⟩)
  have HC7 := Lib.hid (HC6.out.step b7)
  have HS0 := Lib.hid (HS0.out.step b7)
  have HS1 := Lib.hid (HS1.out.step b7)
  clear b7 HC6 is3 l3 s3
  go_wp2_with fail
  refine (rinter_c HS0.out HS1.out (by have := HL0.out; omega) (by have := HL1.out; omega) HW0.out HW1.out).mono ?_
  rintro e w8 ⟨P4, c4, o4, rfl, is4, l4, s4, _, b8⟩
  obtain rfl : o1 = o4 := HI1.out.eq is4 (fun r => by rw [HT1.out r]; exact ⟨fun h => ⟨HSUB.out r ((HT1.out r).2 h), h⟩, fun h => h.2⟩)
  have HC8 := Lib.hid (HC7.out.step b8)
  have HS1 := Lib.hid (HS1.out.step b8)
  have HS4 := Lib.hid s4
  clear b8 HC7 is4 l4 s4
  have hd1 : decide (o1 = o1) = true := decide_eq_true rfl
  go_wp2_with fail
  refine (lalike_c HS1.out HS4.out (by have := HL1.out; omega) (by have := HL1.out; omega)).mono ?_
  rintro e w9 ⟨rfl, b9⟩
  have HC9 := Lib.hid (HC8.out.step b9)
  go_wp2
  go_ret
  exact ⟨rfl, HC9.out.below⟩
end Go.Proofs.YtjhbjgpkpcfdmaaDoor
