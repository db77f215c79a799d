/- What the laws call first: the chapter's example; is a number in a class? -/
import Derived.Test.YtjhbjgpkpcfdmaaDoorPOf
import Derived.Test.YtjhbjgpkpcfdmaaDoorPIter
import Derived.Test.YtjhbjgpkpcfdmaaDoorRefLay
namespace Go.Proofs.YtjhbjgpkpcfdmaaDoor
open Go.RowKit Go.Shelf SetM PropsM
variable {w W : World}

theorem asciiSet : IsSet [(0, 127)] (fun r => Tells (gathOf 1) r) := by
  refine ⟨by simp [Nf], fun r => ?_⟩
  rw [show gathOf 1 = [(0, 127)] from rfl]
  simp [Tells, Mem, Sc]
  omega

set_option maxRecDepth 100000 in
set_option maxHeartbeats 1000000 in
theorem known_c (hC : Ctx w W) : Calls Tryd.prog 9 #[] W fun e W' => e = .returned (.bool true) ∧ Below W.heap.size W W' := by
  have HC := Lib.hid hC
  have HL1 : Hid (∀ W, Ctx w W → Calls Tryd.prog 12 #[.string ⟨#[73, 115, 95, 65, 83, 67, 73, 73]⟩] W (OfIs W 1)) := Lib.hid (fun W h => of_some ⟨#[73, 115, 95, 65, 83, 67, 73, 73]⟩ (by decide) 1 (by decide) h)
  have HL2 : Hid (∀ W, Calls Tryd.prog 12 #[.string ⟨#[110, 111, 116, 104, 105, 110, 103]⟩] W fun e W' => e = .returned (.tuple #[.slice none 0 0, .bool false]) ∧ Below W.heap.size W W') := Lib.hid (of_none ⟨#[110, 111, 116, 104, 105, 110, 103]⟩ (by decide) (by decide))
  have HL3 : Hid (∀ W, Calls Tryd.prog 20 #[.string ⟨#[73, 115, 45, 72, 97, 110]⟩] W fun e W' => e = .returned (.string ⟨#[104, 97, 110]⟩) ∧ Below W.heap.size W W') := Lib.hid (fun W => by
    have h := loose_any ⟨#[73, 115, 45, 72, 97, 110]⟩ (by decide) W
    rw [show looseL (⟨#[73, 115, 45, 72, 97, 110]⟩ : ByteArray).data.toList = [104, 97, 110] from by decide] at h
    exact h)
  clear hC
  go_enter Tryd.func9, Tryd.ntmps9
  go_wp2_with fail
  refine (HL1.out _ HC.out).mono ?_
  rintro e w1 ⟨P, c, o, rfl, is1, l1, s1, p1, b1⟩
  obtain rfl : o = [(0, 127)] := is1.eq asciiSet (fun _ => Iff.rfl)
  have HS1 := Lib.hid s1
  have HB1 := Lib.hid b1
  clear is1 s1 b1 l1 p1
  go_wp2_with fail
  refine (HL2.out _).mono ?_
  rintro e w2 ⟨rfl, b2⟩
  obtain ⟨bb, off, rfl, hbb, hc⟩ := (HS1.out.step b2) (by simp)
  have c1 : w2.cell? ⟨bb, off + 1, none⟩ = some (.int .i64 127) := (hc 0 (by simp)).2
  have HB2 := Lib.hid (HB1.out.trans (b2.mono HB1.out.size))
  clear hc b2 HB1 HS1
  go_wp2_with fail
  refine (names_any _).mono ?_
  rintro e w3 ⟨PN, cN, rfl, sN, b3⟩
  have HB3 := Lib.hid (HB2.out.trans (b3.mono HB2.out.size))
  clear sN b3 HB2
  go_wp2_with fail
  refine (HL3.out _).mono ?_
  rintro e w4 ⟨rfl, b4⟩
  go_wp2
  go_ret
  exact ⟨rfl, HB3.out.trans (b4.mono HB3.out.size)⟩

theorem tells_sc (l : List Sp) : ∀ r, Tells l r → Sc r := fun _ h => h.1
set_option maxRecDepth 100000 in
set_option maxHeartbeats 1000000 in
theorem inclass_c (s : ByteArray) (hs : s.data.toList.length ≤ 1000000) (i : Nat) (hi : whichF (looseL s.data.toList) = some i) (r : Int) (hC : Ctx w W) :
    Calls Tryd.prog 10 #[.string s, .int .i64 r] W fun e W' => e = .returned (.bool (decide (Tells (gathOf i) r))) ∧ Below W.heap.size W W' := by
  have HL := Lib.hid (of_some s hs i hi hC)
  clear hi hC
  go_enter Tryd.func10, Tryd.ntmps10
  go_wp2_with fail
  refine HL.out.mono ?_
  rintro e w1 ⟨P, c, o, rfl, is1, l1, s1, p1, b1⟩
  have HD : Hid (decide (Tells o r) = decide (Tells (gathOf i) r)) := Lib.hid (decide_eq_decide.2 (is1.tells (tells_sc _) r))
  have HS1 := Lib.hid s1
  have HB1 := Lib.hid b1
  have HL1 := Lib.hid l1
  clear is1 s1 b1 p1 l1
  go_wp2_with fail
  refine (rhas_any P c o r _ HS1.out (by have := HL1.out; omega)).mono ?_
  rintro e w2 ⟨rfl, rfl⟩
  go_wp2
  go_ret
  exact ⟨by rw [← HD.out]; rfl, HB1.out⟩
end Go.Proofs.YtjhbjgpkpcfdmaaDoor
