/- props.Of: the set of a class by its name. -/
import Derived.Test.YtjhbjgpkpcfdmaaDoorPGath
import Derived.Test.YtjhbjgpkpcfdmaaDoorPLoose
namespace Go.Proofs.YtjhbjgpkpcfdmaaDoor
open Go.RowKit Go.Shelf Go.Maps SetM PropsM

/-- What Of hands back of class i. -/
def OfIs (W : World) (i : Nat) (e : Ending) (W' : World) : Prop :=
  ∃ P c out, e = .returned (.tuple #[.slice P (List.length out) c, .bool true]) ∧ IsSet out (fun r => Tells (gathOf i) r) ∧ out.length ≤ 104 ∧ Sl W' P out ∧ (P = none → c = 0) ∧ Below W.heap.size W W'
variable {w W : World}

set_option maxRecDepth 100000 in
set_option maxHeartbeats 2000000 in
theorem of_some (s : ByteArray) (hs : s.data.toList.length ≤ 1000000) (i : Nat) (hi : whichF (looseL s.data.toList) = some i) (hC : Ctx w W) :
    Calls Tryd.prog 12 #[.string s] W (OfIs W i) := by
  obtain ⟨hi13, hnm⟩ := which_some hi
  have HL := Lib.hid (loose_any s hs)
  rw [← hnm] at HL
  have HW := Lib.hid (which_name i hi13)
  have HC := Lib.hid hC
  clear hnm hi hC
  go_enter Tryd.func12, Tryd.ntmps12
  go_wp2_with fail
  refine (classes_any _).mono ?_
  rintro e w1 ⟨B, rfl, hcls, b1⟩
  have HC1 := Lib.hid (HC.out.step b1)
  have HCL1 := Lib.hid hcls
  clear hcls HC
  go_wp2_with fail
  refine (HL.out _).mono ?_
  rintro e w2 ⟨rfl, b2'⟩
  have HC2 := Lib.hid (HC1.out.step b2')
  have HCL2 := Lib.hid (HCL1.out.below b2')
  have b2 := b1.trans (b2'.mono b1.size)
  clear b2' b1 HC1 HCL1 HL
  obtain ⟨vs, hv, hacc, hown⟩ := HCL2.out
  obtain ⟨P, n, c, Q, m, d, hlk⟩ := look_ok hv hacc hown (nameOf i) (by have := (name_len i hi13).2; omega)
  rw [HW.out] at hlk
  have hlk : (Instr.lookup 45 (.map (some B)) (.string ⟨(nameOf i).toArray⟩) true).run Tryd.prog w2 = .ok (.tuple #[.agg #[.slice P n c, .slice Q m d], .bool true]) w2 := hlk
  clear hv hacc hown
  have HB2 := Lib.hid b2
  have b3 := (Below.refl w2.heap.size w2).alloc (Nat.le_refl _) (.cells #[.slice P n c, .slice Q m d] 48)
  have HC3 := Lib.hid (HC2.out.step b3)
  have HG := Lib.hid (gather_c i hi13 _ B (HCL2.out.below b3))
  have HB3 := Lib.hid b3
  clear b2 b3 HC2 HCL2
  go_wp2_with fail
  refine HG.out.mono ?_
  rintro e w4 ⟨v4, rfl, ho4, b4⟩
  obtain ⟨P4, c4, rfl, s4, p4⟩ := spans_of0 ho4
  have HC4 := Lib.hid (HC3.out.step b4)
  have HS4 := Lib.hid s4
  have HB4 := Lib.hid b4
  clear ho4 p4 s4 b4 HC3 hlk HG
  go_wp2_with fail
  refine (norm_c HC4.out HS4.out (by have := gath_len i hi13; omega)).mono ?_
  rintro e w5 ⟨P5, c5, o5, rfl, is5, l5, s5, p5, b5⟩
  go_wp2
  go_ret2
  have hz2 := HB2.out.size
  have hz3 := HB3.out.size
  have hz4 := HB4.out.size
  exact ⟨P5, c5, o5, rfl, is5, by have := gath_len i hi13; omega, s5, p5, ((HB2.out.trans (HB3.out.mono hz2)).trans (HB4.out.mono (by omega))).trans (b5.mono (by omega))⟩

set_option maxRecDepth 100000 in
set_option maxHeartbeats 2000000 in
theorem of_none (s : ByteArray) (hs : s.data.toList.length ≤ 1000000) (hi : whichF (looseL s.data.toList) = none) (W : World) :
    Calls Tryd.prog 12 #[.string s] W fun e W' => e = .returned (.tuple #[.slice none 0 0, .bool false]) ∧ Below W.heap.size W W' := by
  have HL := Lib.hid (loose_any s hs)
  have HLL : (looseL s.data.toList).length ≤ 1000000 := by
    unfold looseL cutIs
    have := sq_len s.data.toList
    split
    · rw [List.length_drop]; omega
    · omega
  have HW := Lib.hid hi
  clear hi
  generalize looseL s.data.toList = l at *
  go_enter Tryd.func12, Tryd.ntmps12
  go_wp2_with fail
  refine (classes_any _).mono ?_
  rintro e w1 ⟨B, rfl, hcls, b1⟩
  have HCL1 := Lib.hid hcls
  clear hcls
  go_wp2_with fail
  refine (HL.out _).mono ?_
  rintro e w2 ⟨rfl, b2'⟩
  have HCL2 := Lib.hid (HCL1.out.below b2')
  have b2 := b1.trans (b2'.mono b1.size)
  clear b2' b1 HCL1 HL
  obtain ⟨vs, hv, hacc, hown⟩ := HCL2.out
  obtain ⟨P, n, c, Q, m, d, hlk⟩ := look_ok hv hacc hown l HLL
  rw [HW.out] at hlk
  have hlk : (Instr.lookup 45 (.map (some B)) (.string ⟨l.toArray⟩) true).run Tryd.prog w2 = .ok (.tuple #[.agg #[.slice P n c, .slice Q m d], .bool false]) w2 := hlk
  clear hv hacc hown
  have HB2 := Lib.hid b2
  clear b2
  go_wp2
  go_ret2
  exact ⟨rfl, HB2.out.alloc HB2.out.size _⟩
end Go.Proofs.YtjhbjgpkpcfdmaaDoor
