/- Plain mathematics of classes: names as they are compared, the classes' spans. Nothing of a program stands here. -/
import Derived.Test.YtjhbjgpkpcfdmaaDoorMath
namespace PropsM
open SetM
/-- A string's bytes. -/
abbrev Bs := List UInt8
/-- One byte of a name as it is compared. -/
def sq1 (x : UInt8) : Bs := if x = 45 ∨ x = 95 ∨ x = 32 then [] else if 65 ≤ x.toNat ∧ x.toNat ≤ 90 then [x + 32] else [x]
def sq (l : Bs) : Bs := l.flatMap sq1
/-- Without one 'is' ahead of the rest. -/
def cutIs (l : Bs) : Bs := if 2 < l.length ∧ l.take 2 = [105, 115] then l.drop 2 else l
def looseL (l : Bs) : Bs := cutIs (sq l)
theorem sq_nil : sq [] = [] := rfl
theorem sq_append (a b : Bs) : sq (a ++ b) = sq a ++ sq b := List.flatMap_append
theorem sq_take {l : Bs} {k : Nat} (h : k < l.length) : sq (l.take (k + 1)) = sq (l.take k) ++ sq1 l[k] := by
  rw [List.take_succ_eq_append_getElem h, sq_append]; simp [sq]
theorem sq1_len (x : UInt8) : (sq1 x).length ≤ 1 := by unfold sq1; split; · simp
                                                       · split <;> simp
theorem sq_len (l : Bs) : (sq l).length ≤ l.length := by
  induction l with
  | nil => simp [sq]
  | cons x t ih => have : sq (x :: t) = sq1 x ++ sq t := rfl
                   rw [this, List.length_append, List.length_cons]; have := sq1_len x; omega
theorem sq1_skip {x : UInt8} (h : (x.toNat : Int) = 45 ∨ (x.toNat : Int) = 95 ∨ (x.toNat : Int) = 32) : sq1 x = [] := by
  have : x = 45 ∨ x = 95 ∨ x = 32 := by
    rcases h with h | h | h
    · exact .inl (UInt8.toNat_inj.1 (by simp; omega))
    · exact .inr (.inl (UInt8.toNat_inj.1 (by simp; omega)))
    · exact .inr (.inr (UInt8.toNat_inj.1 (by simp; omega)))
  simp [sq1, this]
theorem sq1_stay {x : UInt8} (h : ¬ (x.toNat : Int) = 45) (h1 : ¬ (x.toNat : Int) = 95) (h2 : ¬ (x.toNat : Int) = 32) (h3 : ¬ (65 ≤ (x.toNat : Int) ∧ (x.toNat : Int) ≤ 90)) : sq1 x = [x] := by
  have a1 : x ≠ 45 := fun e => h (by subst e; rfl)
  have a2 : x ≠ 95 := fun e => h1 (by subst e; rfl)
  have a3 : x ≠ 32 := fun e => h2 (by subst e; rfl)
  have a4 : ¬ (65 ≤ x.toNat ∧ x.toNat ≤ 90) := by omega
  simp [sq1, a1, a2, a3, a4]
theorem sq1_low {x : UInt8} (h : 65 ≤ (x.toNat : Int)) (h1 : (x.toNat : Int) ≤ 90) : sq1 x = [x + 32] ∧ ((x + 32).toNat : Int) = x.toNat + 32 := by
  have a1 : x ≠ 45 := fun e => by subst e; simp at h
  have a2 : x ≠ 95 := fun e => by subst e; simp at h1
  have a3 : x ≠ 32 := fun e => by subst e; simp at h
  have a4 : 65 ≤ x.toNat ∧ x.toNat ≤ 90 := by omega
  refine ⟨by simp [sq1, a1, a2, a3, a4], ?_⟩
  rw [UInt8.toNat_add]
  have : (32 : UInt8).toNat = 32 := rfl
  rw [this]
  omega

/-- The classes: what each is called, its own spans, its parts' numbers. -/
def namesL : List Bs := [[97, 110, 121], [97, 115, 99, 105, 105], [98, 108, 97, 110, 107], [99, 121, 114, 105, 108, 108, 105, 99], [100, 105, 103, 105, 116], [103, 114, 101, 101, 107], [104, 97, 110], [104, 101, 120], [108, 97, 116, 105, 110], [108, 101, 116, 116, 101, 114], [108, 111, 119, 101, 114], [117, 112, 112, 101, 114], [119, 111, 114, 100]]
def runsL : List (List Sp) := [
  [(0, 1114111)], [(0, 127)], [(9, 9), (32, 32), (160, 160), (12288, 12288)], [(1024, 1279)], [(48, 57), (1632, 1641), (2406, 2415), (65296, 65305)],
  [(880, 883), (885, 887), (890, 895), (900, 900), (902, 902), (904, 906), (908, 908), (910, 929), (931, 993), (1008, 1023)],
  [(13312, 19903), (19968, 40959), (131072, 173791)], [(48, 57), (65, 70), (97, 102)], [(65, 90), (97, 122), (170, 170), (186, 186), (192, 214), (216, 246), (248, 591)],
  [], [(97, 122), (223, 246), (248, 255), (945, 969), (1072, 1119)], [(65, 90), (192, 214), (216, 222), (913, 929), (931, 937), (1024, 1071)], [(95, 95)]]
def partsL : List (List Nat) := [[], [], [], [], [], [], [], [], [], [8, 5, 3, 6], [], [], [9, 4]]
def nameOf (i : Nat) : Bs := namesL.getD i []
def runsOf (i : Nat) : List Sp := runsL.getD i []
def partsOf (i : Nat) : List Nat := partsL.getD i []
/-- All spans of a class, its own ahead of its parts'. -/
def gathOf (i : Nat) : List Sp :=
  if i = 9 then runsOf 8 ++ runsOf 5 ++ runsOf 3 ++ runsOf 6
  else if i = 12 then [(95, 95)] ++ (runsOf 8 ++ runsOf 5 ++ runsOf 3 ++ runsOf 6) ++ runsOf 4
  else runsOf i
theorem gath_eq (i : Nat) (hi : i < 13) : gathOf i = runsOf i ++ (partsOf i).flatMap gathOf := by
  rcases (show i = 0 ∨ i = 1 ∨ i = 2 ∨ i = 3 ∨ i = 4 ∨ i = 5 ∨ i = 6 ∨ i = 7 ∨ i = 8 ∨ i = 9 ∨ i = 10 ∨ i = 11 ∨ i = 12 by omega) with rfl | rfl | rfl | rfl | rfl | rfl | rfl | rfl | rfl | rfl | rfl | rfl | rfl <;> rfl
/-- Which class a name is, as it is compared. -/
def whichF (l : Bs) : Option Nat := (List.range 13).find? fun i => nameOf i == l
theorem which_some {l : Bs} {i : Nat} (h : whichF l = some i) : i < 13 ∧ nameOf i = l := by
  have h1 := List.find?_some h
  have h2 := List.mem_of_find?_eq_some h
  exact ⟨List.mem_range.1 h2, by simpa using h1⟩
theorem which_none {l : Bs} (h : whichF l = none) (i : Nat) (hi : i < 13) : nameOf i ≠ l := by
  have := List.find?_eq_none.1 h i (List.mem_range.2 hi)
  simpa using this
theorem which_name (i : Nat) (hi : i < 13) : whichF (nameOf i) = some i := by
  rcases (show i = 0 ∨ i = 1 ∨ i = 2 ∨ i = 3 ∨ i = 4 ∨ i = 5 ∨ i = 6 ∨ i = 7 ∨ i = 8 ∨ i = 9 ∨ i = 10 ∨ i = 11 ∨ i = 12 by omega) with rfl | rfl | rfl | rfl | rfl | rfl | rfl | rfl | rfl | rfl | rfl | rfl | rfl <;> decide
theorem loose_name (i : Nat) (hi : i < 13) : looseL (nameOf i) = nameOf i := by
  rcases (show i = 0 ∨ i = 1 ∨ i = 2 ∨ i = 3 ∨ i = 4 ∨ i = 5 ∨ i = 6 ∨ i = 7 ∨ i = 8 ∨ i = 9 ∨ i = 10 ∨ i = 11 ∨ i = 12 by omega) with rfl | rfl | rfl | rfl | rfl | rfl | rfl | rfl | rfl | rfl | rfl | rfl | rfl <;> decide
theorem name_len (i : Nat) (hi : i < 13) : 3 ≤ (nameOf i).length ∧ (nameOf i).length ≤ 8 := by
  rcases (show i = 0 ∨ i = 1 ∨ i = 2 ∨ i = 3 ∨ i = 4 ∨ i = 5 ∨ i = 6 ∨ i = 7 ∨ i = 8 ∨ i = 9 ∨ i = 10 ∨ i = 11 ∨ i = 12 by omega) with rfl | rfl | rfl | rfl | rfl | rfl | rfl | rfl | rfl | rfl | rfl | rfl | rfl <;> decide
theorem gath_len (i : Nat) (hi : i < 13) : (gathOf i).length ≤ 26 := by
  rcases (show i = 0 ∨ i = 1 ∨ i = 2 ∨ i = 3 ∨ i = 4 ∨ i = 5 ∨ i = 6 ∨ i = 7 ∨ i = 8 ∨ i = 9 ∨ i = 10 ∨ i = 11 ∨ i = 12 by omega) with rfl | rfl | rfl | rfl | rfl | rfl | rfl | rfl | rfl | rfl | rfl | rfl | rfl <;> decide
theorem runs_len (i : Nat) (hi : i < 13) : (runsOf i).length ≤ 10 ∧ (partsOf i).length ≤ 4 := by
  rcases (show i = 0 ∨ i = 1 ∨ i = 2 ∨ i = 3 ∨ i = 4 ∨ i = 5 ∨ i = 6 ∨ i = 7 ∨ i = 8 ∨ i = 9 ∨ i = 10 ∨ i = 11 ∨ i = 12 by omega) with rfl | rfl | rfl | rfl | rfl | rfl | rfl | rfl | rfl | rfl | rfl | rfl | rfl <;> decide
end PropsM
