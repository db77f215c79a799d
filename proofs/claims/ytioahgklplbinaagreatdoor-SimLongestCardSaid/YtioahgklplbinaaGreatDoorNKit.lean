/- Arguments opened: slices at any depth, by a word for an element; machines; rows of bytes. What the tie of the table gives. -/
import Derived.Test.YtioahgklplbinaaGreatDoorKIT
import Derived.Test.YtioahgklplbinaaGreatDoorRQ
import Derived.Test.YtioahgklplbinaaGreatDoorNBa
namespace Go.Proofs.YtioahgklplbinaaGreatDoor
open Go.ChangeShapes Go.WideShapes Go.ChangeAt Go.RowKit SetM NfaM
set_option maxRecDepth 100000
section
variable {H:Type} {enc:TypeId×Value→H} {W:World} {base:Nat}
def RowOf {α:Type} (W:World) (s:Nat) (E:List Value→α→Prop) (A:Option Addr) (l:List α):Prop :=
 ∀ j (h:j < l.length),∃ b off vs,A=some ⟨b,off,none⟩∧b < W.heap.size∧vs.length=s∧(∀ k (hk:k < vs.length),W.cell? ⟨b,off+j*s+k,none⟩=some vs[k])∧E vs l[j]
theorem slice_of {α : Type} {t e : TypeId} {s : Nat} {E : List Value → α → Prop} (ht : Tryz.prog.underlying t = some (.slice e)) (hs : Tryz.prog.cellsOf e = s) (h0 : 0 < s) {spare : Nat → Bool} {held : Bool}
  (hE:∀ {fuel:Nat} {cs:List Value} {x:DataW H×List MemPlace},DataW.trod enc Tryz.prog W base spare held fuel e cs=some x→∃ a,E cs a) {fuel:Nat} {cs:List Value} {x:DataW H×List MemPlace} (h:DataW.trod enc Tryz.prog W base spare held fuel t cs=some x) :
  ∃ A l ca,cs=[.slice A (List.length l) ca]∧RowOf W s E A l∧l.length≤9223372036854775807:=by
 rcases Go.Deep.open_slice ht h with ⟨hcs,_⟩ | ⟨a,len,cap,m,n,D,Pl,rfl,_,hl,hm,hmm,hx,hi⟩
 ·exact ⟨none,[],0,hcs,fun j h=>absurd h (Nat.not_lt_zero j),by simp⟩
 ·have hlm : len ≤ m := by rw [hmm]; split <;> omega
  have each:∀ i,i < len→∃ y:α,∃ vs,vs.length=s∧(∀ k (hk:k < vs.length),W.cell? (a.add (i*s+k))=some vs[k])∧E vs y:=fun i hlt=>by
   obtain ⟨cs',hc,ht'⟩:=hi i (by omega)
   rw [hs] at hc
   obtain ⟨y,hy⟩:=hE ht'
   obtain ⟨_,hlen,hat⟩:=World.cells?_some hc
   refine ⟨y,cs',hlen,fun k hk=>?_,hy⟩
   have:=hat k (by omega)
   rw [Go.Deep.add_add] at this
   rw [this]
   simp [List.getElem?_eq_getElem hk]
  refine ⟨some a,(List.range len).attach.map (fun i=>Classical.choose (each i.1 (List.mem_range.1 i.2))),cap,by simp,fun j hj=>?_,by simp;unfold maxLen at hm;omega⟩
  have hil:j < len:=by simpa using hj
  obtain ⟨vs,h1,h2,h3⟩:=Classical.choose_spec (each j hil)
  obtain ⟨_,vs0,g1,g2,_⟩:=each 0 (by omega)
  have hk0:=g2 0 (by omega)
  rw [Nat.zero_mul] at hk0
  obtain ⟨b,off,spot⟩:=a
  have hspot:spot=none:=by simpa [Addr.add] using World.cell?_spot hk0
  subst hspot
  rw [add_plain] at hk0
  refine ⟨b,off,vs,rfl,cell_in hk0,h1,fun k hk=>?_,by simpa using h3⟩
  have:=h2 k hk
  rw [add_plain] at this
  rw [show off+j*s+k=off+(j*s+k) by omega]
  exact this
theorem cellsU8s:Tryz.prog.cellsOf 50 = 1:=by kernel_rfl
theorem u8s_trod {spare : Nat → Bool} {held : Bool} {fuel : Nat} {cs : List Value} {x : DataW H × List MemPlace} (h : DataW.trod enc Tryz.prog W base spare held fuel 50 cs = some x) :
  ∃ a:List Int,∃ A ca,cs=[.slice A a.length ca]∧U8s W.heap.size W A a:=by
 obtain ⟨A,l,ca,e,hr,_⟩:=slice_of (s:=1) (E:=fun vs (a:Int)=>vs=[.int .u8 a]∧0≤a∧a≤255) Tryz.underlying50 cellsU8 (by decide) (fun h=>by
  obtain ⟨a,e1,e2,hw⟩:=DataW.trod_int Tryz.underlying5 h
  exact ⟨a,e1,bounds_u8 hw⟩) h
 refine ⟨l,A,ca,e,fun c hc=>?_,fun hne=>?_⟩
 ·obtain ⟨i, hi, rfl⟩ := List.mem_iff_getElem.1 hc
  obtain ⟨_,_,_,_,_,_,_,_,q⟩:=hr i hi
  exact q
 ·obtain ⟨b, off, _, rfl, hb, _⟩ := hr 0 (List.length_pos_iff.2 hne)
  refine ⟨b,off,rfl,hb,fun j hj=>?_⟩
  obtain ⟨b',off',vs,e1,_,_,hc,rfl,_⟩:=hr j hj
  cases e1
  have:=hc 0 (by simp)
  simpa using this
theorem open_uss {v : Value} {d : DataW H} {p : List MemPlace} (hv : Value.okWide Tryz.prog W .any base 22 v) (h : DataW.Trod enc Tryz.prog W 0 (fun _ => true) true 22 v d p) :
  ∃ A n ca rows,v=.slice A n ca∧n=List.length rows∧n≤9223372036854775807∧UssR W A rows:=by
 obtain ⟨a0,len,cap,rfl⟩:=okWide_slice Tryz.underlying22 hv
 obtain ⟨fuel,hf⟩:=h
 obtain ⟨A,l,ca,e,hr,h8⟩:=slice_of (s:=1) (E:=fun vs (a:List Int)=>∃ A ca,vs=[.slice A a.length ca]∧U8s W.heap.size W A a) Tryz.underlying22 cellsU8s (by decide) u8s_trod hf
 simp [Value.cells] at e
 obtain ⟨rfl,rfl,rfl⟩:=e
 refine ⟨_,_,_,l,rfl,rfl,h8,fun i hi=>?_⟩
 obtain ⟨b,off,vs,e1,hb,_,hc,P,c,rfl,hu⟩:=hr i hi
 refine ⟨b,off,P,c,e1,hb,?_,hu⟩
 have:=hc 0 (by simp)
 simpa using this
end
end Go.Proofs.YtioahgklplbinaaGreatDoor
