/- Arguments opened: slices of spans, with what their ends are. -/
import Derived.Test.YtioahgklplbinaaGreatDoorKIT
import Derived.Test.YtioahgklplbinaaGreatDoorRO
namespace Go.Proofs.YtioahgklplbinaaGreatDoor
open Go.ChangeShapes Go.WideShapes Go.ChangeAt Go.RowKit SetM
set_option maxRecDepth 100000
section
variable {H:Type} {enc:TypeId×Value→H} {W:World} {base:Nat}
theorem span_wide {base:Nat} {spare:Nat→Bool} {held:Bool} {fuel:Nat} {lo hi:Int} {x:DataW H×List MemPlace} (h:DataW.trod enc Tryz.prog W base spare held fuel 45 [.int .i64 lo,.int .i64 hi]=some x):-9223372036854775808≤hi:=by
 obtain ⟨xs,n,_,hx,hl,hn,hf⟩:=DataW.trod_struct Tryz.underlying45 h
 match xs,hn with
 | [y0,y1],_ =>
  have h1:DataW.trod enc Tryz.prog W base spare held n 3 (([.int .i64 lo,.int .i64 hi]:List Value).drop 1 |>.take (Tryz.prog.cellsOf 3))=some y1:=hf 1 _ rfl
  rw [cellsInt] at h1
  obtain ⟨b,hb,hb2,hw⟩:=DataW.trod_int Tryz.underlying3 h1
  simp at hb
  subst hb
  simp [Lit.wf,IntKind.min,IntKind.max,IntKind.bits,IntKind.signed] at hw
  omega
end
end Go.Proofs.YtioahgklplbinaaGreatDoor
