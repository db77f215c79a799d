/- PropsOf's walk: Of and Loose of any name are what the chapter says. -/
import Derived.Test.YtjhbjgpkpcfdmaaDoorPKnown
import Derived.Test.YtjhbjgpkpcfdmaaDoorPROf
namespace Go.Proofs.YtjhbjgpkpcfdmaaDoor
open Go.RowKit Go.Shelf SetM PropsM

/-- The document's Of of class i. -/
theorem rof_some (s : ByteArray) (hs : s.data.toList.length ≤ 1000000) (i : Nat) (hi : whichF (looseL s.data.toList) = some i) (w : World) : Calls Tryd.prog 18 #[.string s] w (ROfIs w i) := by
  by_cases h9 : i = 9
  · subst h9; exact rof_letter s hs hi w
  · by_cases h12 : i = 12
    · subst h12; exact rof_word s hs hi w
    · exact rof_leaf s hs i h9 h12 hi w
theorem of_some_l (l : Bs) (hl : l.length ≤ 1000000) (i : Nat) (h : whichF (looseL l) = some i) {w W : World} (hC : Ctx w W) : Calls Tryd.prog 12 #[.string ⟨l.toArray⟩] W (OfIs W i) := of_some ⟨l.toArray⟩ hl i h hC
theorem rof_some_l (l : Bs) (hl : l.length ≤ 1000000) (i : Nat) (h : whichF (looseL l) = some i) (W : World) : Calls Tryd.prog 18 #[.string ⟨l.toArray⟩] W (ROfIs W i) := rof_some ⟨l.toArray⟩ hl i h W
def pickM (a : Int) : Nat := a.toNat % 13
theorem pickM_lt (a : Int) : pickM a < 13 := Nat.mod_lt _ (by omega)

set_option maxRecDepth 100000 in
set_option maxHeartbeats 2000000 in
theorem propsOf_any (s : ByteArray) (a : Int) (h0 : 0 ≤ a) (h1 : a ≤ 255) (w : World) (hC : Ctx w w) :
    Calls Tryd.prog 5 #[.string s, .int .u8 a] w fun e w' => e = .returned (.bool true) ∧ Below w.heap.size w w' := by
  have HC := Lib.hid hC
  clear hC
  by_cases hlong : 200 < s.size
  · have hz : (200 : Int) < (s.size : Int) := by omega
    go_enter Tryd.func5, Tryd.ntmps5
    go_wp2_with fail
    refine (known_c HC.out).mono ?_
    rintro e w1 ⟨rfl, b1⟩
    go_wp2
    go_ret
    exact ⟨rfl, b1⟩
  · have hz : ¬ (200 : Int) < (s.size : Int) := by omega
    have hsl : s.data.toList.length ≤ 1000000 := by have : s.size = s.data.toList.length := rfl; omega
    have HLP := Lib.hid (loose_any s hsl)
    have HLR := Lib.hid (rloose_any s hsl)
    have hj := pickM_lt a
    have hta : a.tmod 13 = (pickM a : Int) := by rw [Int.tmod_eq_emod_of_nonneg h0]; unfold pickM; omega
    generalize pickM a = j at *
    have hjz : (j : Int) < 13 := by omega
    have HNM := Lib.hid (names_at' j hj)
    have hjl : whichF (looseL (nameOf j)) = some j := by rw [loose_name _ hj, which_name _ hj]
    have hjn : (nameOf j).length ≤ 1000000 := by have := (name_len j hj).2; omega
    have HO2 : Hid (∀ W, Ctx w W → Calls Tryd.prog 12 #[.string ⟨(nameOf j).toArray⟩] W (OfIs W j)) := Lib.hid (fun W h => of_some_l (nameOf j) hjn j hjl h)
    have HR2 : Hid (∀ W, Calls Tryd.prog 18 #[.string ⟨(nameOf j).toArray⟩] W (ROfIs W j)) := Lib.hid (fun W => rof_some_l (nameOf j) hjn j hjl W)
    have heL : (looseL s.data.toList == looseL s.data.toList) = true := beq_self_eq_true _
    -- what both say of the name that came
    have HO1 : Hid (∀ W, Ctx w W → Calls Tryd.prog 12 #[.string s] W fun e W' => ∃ P c o q, e = .returned (.tuple #[.slice P (List.length o) c, .bool q]) ∧ (∃ i, q = true ∧ IsSet o (fun r => Tells (gathOf i) r) ∧ whichF (looseL s.data.toList) = some i ∨ q = false ∧ o = [] ∧ whichF (looseL s.data.toList) = none) ∧ o.length ≤ 104 ∧ Sl W' P o ∧ Below W.heap.size W W') := Lib.hid (fun W h => by
      cases hw : whichF (looseL s.data.toList) with
      | none =>
        refine (of_none s hsl hw W).mono ?_
        rintro e W' ⟨rfl, b⟩
        exact ⟨none, 0, [], false, rfl, ⟨0, .inr ⟨rfl, rfl, rfl⟩⟩, by simp, Spans.nil, b⟩
      | some i =>
        refine (of_some s hsl i hw h).mono ?_
        rintro e W' ⟨P, c, o, rfl, is, l, sl, _, b⟩
        exact ⟨P, c, o, true, rfl, ⟨i, .inl ⟨rfl, is, rfl⟩⟩, l, sl, b⟩)
    have HR1 : Hid (∀ W, Calls Tryd.prog 18 #[.string s] W fun e W' => ∃ P c o q, e = .returned (.tuple #[.slice P (List.length o) c, .bool q]) ∧ (∃ i, q = true ∧ IsSet o (fun r => Tells (gathOf i) r) ∧ whichF (looseL s.data.toList) = some i ∨ q = false ∧ o = [] ∧ whichF (looseL s.data.toList) = none) ∧ Sl W' P o ∧ Below W.heap.size W W') := Lib.hid (fun W => by
      cases hw : whichF (looseL s.data.toList) with
      | none =>
        refine (rof_none s hsl hw W).mono ?_
        rintro e W' ⟨rfl, b⟩
        exact ⟨none, 0, [], false, rfl, ⟨0, .inr ⟨rfl, rfl, rfl⟩⟩, Spans.nil, b⟩
      | some i =>
        refine (rof_some s hsl i hw W).mono ?_
        rintro e W' ⟨P, c, o, rfl, is, sl, _, b⟩
        exact ⟨P, c, o, true, rfl, ⟨i, .inl ⟨rfl, is, rfl⟩⟩, sl, b⟩)
    generalize looseL s.data.toList = L at *
    clear hjl hjn
    go_enter Tryd.func5, Tryd.ntmps5
    go_wp2_with fail
    refine (known_c HC.out).mono ?_
    rintro e w1 ⟨rfl, b1⟩
    have HC1 := Lib.hid (HC.out.step b1)
    clear b1 HC
    go_wp2_with fail
    refine (HO1.out _ HC1.out).mono ?_
    rintro e w2 ⟨P1, c1, o1, q1, rfl, f1, l1, s1, b2⟩
    have HF1 := Lib.hid f1
    have HL1 := Lib.hid l1
    have HS1 := Lib.hid s1
    have HC2 := Lib.hid (HC1.out.step b2)
    clear f1 l1 s1 b2 HC1
    go_wp2_with fail
    refine (HR1.out _).mono ?_
    rintro e w3 ⟨P2, c2, o2, q2, rfl, f2, s2, b3⟩
    obtain ⟨rfl, rfl⟩ : o1 = o2 ∧ q1 = q2 := by
      obtain ⟨i, ⟨e1, e2, e3⟩ | ⟨e1, e2, e3⟩⟩ := HF1.out
      · obtain ⟨i', ⟨g1, g2, g3⟩ | ⟨g1, g2, g3⟩⟩ := f2
        · rw [e3] at g3; injection g3 with g3; subst g3
          exact ⟨e2.eq g2 (fun _ => Iff.rfl), e1.trans g1.symm⟩
        · rw [e3] at g3; cases g3
      · obtain ⟨i', ⟨g1, g2, g3⟩ | ⟨g1, g2, g3⟩⟩ := f2
        · rw [e3] at g3; cases g3
        · exact ⟨e2.trans g2.symm, e1.trans g1.symm⟩
    have HS2 := Lib.hid s2
    have HS1 := Lib.hid (HS1.out.step b3)
    have HC3 := Lib.hid (HC2.out.step b3)
    clear f2 s2 b3 HC2 HF1 HO1 HR1
    go_wp2_with fail
    refine (rnames_any _).mono ?_
    rintro e w4 ⟨PN, cN, rfl, sN, b4⟩
    obtain ⟨bN, oN, rfl, hbN, hcN⟩ := sN (by decide)
    have cN' := hcN j hj
    rw [HNM.out] at cN'
    have HS1 := Lib.hid (HS1.out.step b4)
    have HS2 := Lib.hid (HS2.out.step b4)
    have HC4 := Lib.hid (HC3.out.step b4)
    clear b4 HC3 hcN sN
    go_wp2_with fail
    refine (HO2.out _ HC4.out).mono ?_
    rintro e w5 ⟨P3, c3, o3, rfl, is3, l3, s3, _, b5⟩
    have HS1 := Lib.hid (HS1.out.step b5)
    have HS2 := Lib.hid (HS2.out.step b5)
    have HC5 := Lib.hid (HC4.out.step b5)
    have HS3 := Lib.hid s3
    have HL3 := Lib.hid l3
    have HI3 := Lib.hid is3
    clear b5 HC4 s3 l3 is3 cN'
    go_wp2_with fail
    refine (HR2.out _).mono ?_
    rintro e w6 ⟨P4, c4, o4, rfl, is4, s4, _, b6⟩
    obtain rfl : o3 = o4 := HI3.out.eq is4 (fun _ => Iff.rfl)
    have HS1 := Lib.hid (HS1.out.step b6)
    have HS2 := Lib.hid (HS2.out.step b6)
    have HC6 := Lib.hid (HC5.out.step b6)
    have HS3 := Lib.hid (HS3.out.step b6)
    have HS4 := Lib.hid s4
    clear b6 HC5 s4 is4
    have hd : decide (o1 = o1) = true := decide_eq_true rfl
    have hd3 : decide (o3 = o3) = true := decide_eq_true rfl
    have hq : (q1 == q1) = true := beq_self_eq_true _
    go_wp2_with fail
    refine (alike_c HS1.out HS2.out (by have := HL1.out; omega) (by have := HL1.out; omega)).mono ?_
    rintro e w7 ⟨rfl, b7⟩
    have HC7 := Lib.hid (HC6.out.step b7)
    have HS3 := Lib.hid (HS3.out.step b7)
    have HS4 := Lib.hid (HS4.out.step b7)
    clear b7 HC6 HS1 HS2
    go_wp2_with fail
    refine (alike_c HS3.out HS4.out (by have := HL3.out; omega) (by have := HL3.out; omega)).mono ?_
    rintro e w8 ⟨rfl, b8⟩
    have HC8 := Lib.hid (HC7.out.step b8)
    clear b8 HC7 HS3 HS4
    go_wp2_with fail
    refine (HLP.out _).mono ?_
    rintro e w9 ⟨rfl, b9⟩
    have HC9 := Lib.hid (HC8.out.step b9)
    clear b9 HC8
    go_wp2_with fail
    refine (HLR.out _).mono ?_
    rintro e w10 ⟨rfl, b10⟩
    have HC10 := Lib.hid (HC9.out.step b10)
    go_wp2
    go_ret
    exact ⟨rfl, HC10.out.below⟩
end Go.Proofs.YtjhbjgpkpcfdmaaDoor
