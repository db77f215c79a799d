/-
  The library's contracts that this proof uses, laid at this program.
-/
import Derived.Shelf.Lay
import Derived.Shelf.LaySoft
import Derived.Shelf.SlSortCmp.WholeK
import Derived.Shelf.SlicesG.Cmp
import Derived.Shelf.Spec.SlicesGrow
import Derived.Ground.SlsfProg
import Derived.Ground.SlgcProg
import Derived.Test.YtahgljglleeloaaGreatDoorProg
namespace Go.Proofs
open Go.Shelf
shelf_try shelf_lay_g SlLaysF0.n6 Slsf 6 at Tryz 145 as Tryz.sortM
shelf_try shelf_lay_g SlLaysC2.n5 Slgc 5 at Tryz 147 as Tryz.cmpInt
shelf_tried
end Go.Proofs
