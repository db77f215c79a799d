/- RxHex's walk: a scalar's number in hexadecimal digits is that scalar; any other number is wrong at its sign. -/
import Derived.Test.YtahgljglleeloaaGreatDoorRHex0
import Derived.Test.YtahgljglleeloaaGreatDoorRHex1
import Derived.Test.YtahgljglleeloaaGreatDoorRHex2
import Derived.Test.YtahgljglleeloaaGreatDoorRHex3
namespace Go.Proofs.YtahgljglleeloaaGreatDoor
open Go.RowKit Go.Shelf Go.Maps SetM PropsM RxM
theorem rxHex_any (a : Int) (g : Bool) (c : Int) (ha : 0 ≤ a) (hc : 0 ≤ c) (w : World) (hC : Cf w w) :
    Calls Tryz.prog 3 #[.int .u32 a, .bool g, .int .u8 c] w fun e w' => e = .returned (.bool true) ∧ Below w.heap.size w w' := by
  rcases (show c.tmod 4 = 0 ∨ c.tmod 4 = 1 ∨ c.tmod 4 = 2 ∨ c.tmod 4 = 3 by rw [Int.tmod_eq_emod_of_nonneg hc]; omega) with h | h | h | h
  · exact rxHex_0 a g c ha h w hC
  · exact rxHex_1 a g c ha h w hC
  · exact rxHex_2 a g c ha h w hC
  · exact rxHex_3 a g c ha h w hC
end Go.Proofs.YtahgljglleeloaaGreatDoor
