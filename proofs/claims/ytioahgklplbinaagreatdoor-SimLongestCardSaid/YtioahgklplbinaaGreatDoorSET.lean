/- Ops, Equal, Size, Union, Known, One, Make, Steps, in one text. -/
import Derived.Test.YtioahgklplbinaaGreatDoorComb
import Derived.Laws.StructEq
import Derived.Laws.AppendOwnNone
import Derived.Test.YtioahgklplbinaaGreatDoorWE
namespace Go.Proofs.YtioahgklplbinaaGreatDoor
open Go.RowKit Go.Shelf SetM
theorem cellsS_get : ∀ (l : List Sp) (j : Nat), j < l.length * 2 → (cellsS l)[j]? = (encS (l[j / 2]?.getD default))[j % 2]?
 | [],j,h=>by simp at h
 | m::t,j,h=>by
  have e:cellsS (m::t)=encS m++cellsS t:=rfl
  rw [e]
  by_cases hj:j < 2
  ·rw [List.getElem?_append_left (by simpa [encS] using hj),Nat.div_eq_of_lt hj,Nat.mod_eq_of_lt hj];simp
  ·rw [List.getElem?_append_right (by simp [encS]; omega)]
   have h3:(encS m).length=2:=rfl
   rw [h3,cellsS_get t (j - 2) (by simp at h;omega),show j / 2=(j - 2) / 2+1 from by omega,show (j - 2) % 2=j % 2 from by omega]
   simp
theorem spans_of {W:World} {base:Nat} {v:Value} {l:List Sp} (h:W.ownsRow base 45 2 v l.length (cellsS l)):∃ P c,v=.slice P l.length c∧Spans W.heap.size W P l:=by
 rcases h.2 with ⟨rfl,h0⟩ | ⟨g,cap,cur,rfl,hb,hg,h1,h2,h3,h4⟩
 ·exact ⟨none,0,by rw [h0],fun hne=>absurd (List.eq_nil_of_length_eq_zero h0) hne⟩
 ·refine ⟨_, cap, rfl, fun _ => ⟨g, 0, rfl, (Array.getElem?_eq_some_iff.1 hg).1, fun j hj => ?_⟩⟩
  have key:∀ i,i < l.length*2→W.cell? ⟨g,i,none⟩=(cellsS l)[i]?:=fun i hi=>by
   rw [cell_of_row W g i cur _ _ hg,← h4,List.getElem?_take_of_lt hi,Array.getElem?_toList]
  have hd:∀ i,i < 2→W.cell? ⟨g,0+j*2+i,none⟩=(encS l[j])[i]?:=fun i hi=>by
   rw [key _ (by omega),cellsS_get l _ (by omega),show (0+j*2+i) / 2=j from by omega,show (0+j*2+i) % 2=i from by omega,List.getElem?_eq_getElem hj];rfl
  exact ⟨hd 0 (by omega),hd 1 (by omega)⟩
theorem normF (x y:Bool) (W:World):Calls Tryz.prog 115 #[.bool x,.bool y] W fun e w'=>e=.returned (.bool x)∧W=w':=by
 go_enter Tryz.func115,Tryz.ntmps115
 go_wp2
 go_ret
 exact ⟨rfl,rfl⟩
theorem norm_any (A : Option Addr) (ca : Nat) (xs : List Sp) (hla : xs.length ≤ 1073741824) (w : World) (h0 : 0 < w.heap.size) (hA : Areas w) (hSa : Spans w.heap.size w A xs) :
  Calls Tryz.prog 94 #[.slice A xs.length ca] w (SetPost w (fun r=>Tells xs r) (4*xs.length)):=by
 have hc:=combine_any A none ca 0 xs [] hla (by simp) 115 (fun x _=>x) normF (enters_of Tryz.func115 (by kernel_rfl) rfl) rfl w h0 hA hSa Spans.nil
 have HC:=Lib.hid hc
 clear hc hA hSa
 go_enter Tryz.func94,Tryz.ntmps94
 go_wp2_with (go_at_call 114;refine HC.out.mono ?_;rintro e w' ⟨v,out,rfl,h2,h3,h4,h5,h6⟩)
 go_ret
 exact ⟨v,out,rfl,h2,fun r=>(h3 r).trans (by simp),by simpa using h4,h5,h6⟩
end Go.Proofs.YtioahgklplbinaaGreatDoor
namespace Go.Proofs.YtioahgklplbinaaGreatDoor
open Go.RowKit Go.Shelf SetM
theorem gdSpan:Tryz.prog.eqGuardType Tryz.prog.depth 45 = false:=by kernel_rfl
theorem eqSpan (a b c d:Int) (w:World):(Op.equalIn 10000 45 (.agg #[.int .i64 a,.int .i64 b]) (.agg #[.int .i64 c,.int .i64 d])).run Tryz.prog w=.ok (decide ((a,b)=(c,d))) w:=by
 have u3:=Tryz.underlying3
 have a3:=Tryz.isAgg3
 have z3:=Tryz.sizeOf3
 have hS:Tryz.prog.underlying 45 = some (.struct (Tryz.prog.fieldsOf 45)):=by kernel_rfl
 have hp:Tryz.prog.stoodInHeld 45 = false:=by kernel_rfl
 rw [show (10000:Nat)=9999+1 from rfl,run_equalIn_agg w 9999 45 _ _ hS hp]
 simp only [Program.fieldsOf,Tryz.underlying45]
 go_simp
 by_cases h1:a=c <;> by_cases h2:b=d <;> simp [h1,h2]
set_option maxRecDepth 100000 in
set_option maxHeartbeats 1000000 in
theorem equal_any (A B : Option Addr) (ca cb : Nat) (xs ys : List Sp) (_hla : xs.length ≤ 1073741824) (hlb : ys.length ≤ 1073741824) (w : World) (hSa : Spans w.heap.size w A xs) (hSb : Spans w.heap.size w B ys) :
  Calls Tryz.prog 93 #[.slice A xs.length ca,.slice B ys.length cb] w fun e w'=>e=.returned (.bool (decide (xs=ys)))∧Below w.heap.size w w':=by
 have HSA:=Lib.hid hSa
 have HSB:=Lib.hid hSb
 clear hSa hSb
 by_cases hl:xs.length=ys.length
 ·have hli : (xs.length != ys.length) = false := by simp [hl]
  have hli2:((xs.length:Int) != (ys.length:Int))=false:=by simp [hl]
  have HL:=Lib.hid hl
  clear hl
  go_enter Tryz.func93,Tryz.ntmps93
  go_wp2
  go_loopg [13] xs.length (fun g s13 wx=>∃ k:Nat,k+g=xs.length∧s13=.int .i64 k∧Hid (xs.take k=ys.take k)∧Below w.heap.size w wx)
  case atStart=>exact ⟨0,by omega,rfl,Lib.hid (by simp),Below.refl _ _⟩
  case round =>
   obtain ⟨k,hkg,rfl,HP,hb⟩:=hrel
   cases gk with
   | zero =>
    have hkz:¬ ((k:Int) < (xs.length:Int)):=by omega
    have he:xs=ys:=by
     have:=HP.out
     rwa [List.take_of_length_le (by omega),List.take_of_length_le (by have:=HL.out;omega)] at this
    have HE:=Lib.hid he
    clear he
    go_wp2
    go_ret
    refine ⟨?_,hb⟩
    rw [decide_eq_true HE.out];rfl
   | succ g =>
    have hk:k < xs.length:=by omega
    have hk2:k < ys.length:=by have:=HL.out;omega
    have hkz:(k:Int) < (xs.length:Int):=by omega
    have hkz2:(k:Int) < (ys.length:Int):=by omega
    obtain ⟨b1,o1,rfl,hb1,hc1⟩:=HSA.out (by intro h;rw [h] at hk;simp at hk)
    obtain ⟨b2,o2,rfl,hb2,hc2⟩:=HSB.out (by intro h;rw [h] at hk2;simp at hk2)
    obtain ⟨c0,c1⟩:=hc1 k hk
    obtain ⟨d0,d1⟩:=hc2 k hk2
    have c0':wr.cell? ⟨b1,o1+k*2,none⟩=some (.int .i64 xs[k].1):=(hb.cell (p:=⟨b1,o1+k*2,none⟩) hb1).trans c0
    have c1':wr.cell? ⟨b1,o1+k*2+1,none⟩=some (.int .i64 xs[k].2):=(hb.cell (p:=⟨b1,o1+k*2+1,none⟩) hb1).trans c1
    have d0':wr.cell? ⟨b2,o2+k*2,none⟩=some (.int .i64 ys[k].1):=(hb.cell (p:=⟨b2,o2+k*2,none⟩) hb2).trans d0
    have d1':wr.cell? ⟨b2,o2+k*2+1,none⟩=some (.int .i64 ys[k].2):=(hb.cell (p:=⟨b2,o2+k*2+1,none⟩) hb2).trans d1
    clear c0 c1 d0 d1 hc1 hc2
    generalize hx:xs[k]=x at c0' c1'
    generalize hy:ys[k]=y at d0' d1'
    have HX:=Lib.hid hx
    have HY:=Lib.hid hy
    clear hx hy
    obtain ⟨x1,x2⟩:=x
    obtain ⟨y1,y2⟩:=y
    dsimp only at c0' c1' d0' d1'
    have g1:=gdSpan
    by_cases hxy:(x1,x2)=(y1,y2)
    ·have g2 : ∀ w, (Op.equalIn 10000 45 (.agg #[.int .i64 x1, .int .i64 x2]) (.agg #[.int .i64 y1, .int .i64 y2])).run Tryz.prog w = .ok true w := fun w => by rw [eqSpan, decide_eq_true hxy]
     have HXY:=Lib.hid hxy
     clear hxy
     go_wp2
     go_quiet (fail)
     go_wp2
     go_roundg g
     case measure=>omega
     case rel=>exact ⟨k+1,by omega,by go_num,Lib.hid (by rw [List.take_succ_eq_append_getElem hk,List.take_succ_eq_append_getElem hk2,HX.out,HY.out,HXY.out,HP.out]),⟨hb.os,hb.tape,hb.output,hb.size,hb.block⟩⟩
    ·have g2 : ∀ w, (Op.equalIn 10000 45 (.agg #[.int .i64 x1, .int .i64 x2]) (.agg #[.int .i64 y1, .int .i64 y2])).run Tryz.prog w = .ok false w := fun w => by rw [eqSpan, decide_eq_false hxy]
     have hne:xs≠ys:=fun h=>hxy (by rw [← HX.out,← HY.out];simp only [h])
     have HNE:=Lib.hid hne
     clear hxy hne
     go_wp2
     go_quiet (fail)
     go_wp2
     go_ret
     refine ⟨?_,⟨hb.os,hb.tape,hb.output,hb.size,hb.block⟩⟩
     rw [decide_eq_false HNE.out];rfl
 ·have hli2 : ((xs.length : Int) != (ys.length : Int)) = true := by rw [bne_iff_ne]; omega
  have hli:(xs.length != ys.length)=true:=by rw [bne_iff_ne];exact hl
  have hne:xs≠ys:=fun h=>hl (by rw [h])
  have HNE:=Lib.hid hne
  clear hl hne
  go_enter Tryz.func93,Tryz.ntmps93
  go_wp2
  go_ret
  exact ⟨by rw [decide_eq_false HNE.out];rfl,Below.refl _ _⟩
end Go.Proofs.YtioahgklplbinaaGreatDoor
namespace Go.Proofs.YtioahgklplbinaaGreatDoor
open Go.RowKit Go.Shelf SetM
attribute [local go_sem] Oper.semAt_some
theorem nf_le {l:List Sp} (h:Nf l):∀ s∈l,s.1≤s.2:=by
 induction l with
 | nil=>simp
 | cons x t ih =>
  intro s hs
  rcases List.mem_cons.1 hs with rfl | hs
  ·exact h.1
  ·exact ih h.2.2 s hs
end Go.Proofs.YtioahgklplbinaaGreatDoor
namespace Go.Proofs.YtioahgklplbinaaGreatDoor
open Go.RowKit Go.Shelf SetM
def RowsAt (n₀:Nat) (W:World) (A:Option Addr) (ls:List (List Sp)):Prop :=
 ls≠[]→∃ b off,A=some ⟨b,off,none⟩∧b < n₀∧∀ j (h:j < ls.length),∃ P c,W.cell? ⟨b,off+j,none⟩=some (.slice P ls[j].length c)∧Spans n₀ W P ls[j]∧(P=none→c=0)
def flat (ls:List (List Sp)):List Sp:=ls.flatten
def total (ls:List (List Sp)):Nat:=(flat ls).length
theorem total_take (ls:List (List Sp)) (k:Nat) (hk:k < ls.length):flat (ls.take (k+1))=flat (ls.take k)++ls[k]:=by
 unfold flat
 rw [List.take_succ_eq_append_getElem hk,List.flatten_append];simp only [List.flatten_cons,List.flatten_nil,List.append_nil]
end Go.Proofs.YtioahgklplbinaaGreatDoor
namespace Go.Proofs.YtioahgklplbinaaGreatDoor
open Go.RowKit Go.Shelf SetM
theorem spans_new (w:World) (l:List Sp):Spans (w.heap.size+1) (w.alloc (.cells (cellsS l).toArray 45)) (some ⟨w.heap.size,0,none⟩) l:=fun _=>⟨_,0,rfl,by omega,fun j hj=>by
 have hd:∀ i,i < 2→(w.alloc (.cells (cellsS l).toArray 45)).cell? ⟨w.heap.size,0+j*2+i,none⟩=(encS l[j])[i]?:=fun i hi=>by
  rw [cell_of_row _ w.heap.size _ _ _ _ (heap_alloc_new w _),List.getElem?_toArray,cellsS_get l _ (by omega),show (0+j*2+i) / 2=j from by omega,show (0+j*2+i) % 2=i from by omega,List.getElem?_eq_getElem hj];rfl
 exact ⟨hd 0 (by omega),hd 1 (by omega)⟩⟩
end Go.Proofs.YtioahgklplbinaaGreatDoor
namespace Go.Proofs.YtioahgklplbinaaGreatDoor
open Go.RowKit Go.Shelf SetM
end Go.Proofs.YtioahgklplbinaaGreatDoor
namespace Go.Proofs.YtioahgklplbinaaGreatDoor
open Go.RowKit Go.Shelf SetM
end Go.Proofs.YtioahgklplbinaaGreatDoor
namespace Go.Proofs.YtioahgklplbinaaGreatDoor
open Go.RowKit Go.Shelf SetM
def Sl (W:World) (P:Option Addr) (l:List Sp):Prop:=Spans W.heap.size W P l
theorem Sl.step {W W':World} {P:Option Addr} {l:List Sp} (h:Sl W P l) (hb:Below W.heap.size W W'):Sl W' P l:=(Spans.below hb h).mono hb.size
def IsSet (l:List Sp) (K:Int→Prop):Prop:=Nf l∧∀ r,Mem l r↔K r
theorem IsSet.eq {a b:List Sp} {K L:Int→Prop} (ha:IsSet a K) (hb:IsSet b L) (h:∀ r,K r↔L r):a=b:=nf_unique a b ha.1 hb.1 (fun r=>by rw [ha.2,hb.2];exact h r)
theorem IsSet.congr {a:List Sp} {K L:Int→Prop} (ha:IsSet a K) (h:∀ r,K r↔L r):IsSet a L:=⟨ha.1,fun r=>(ha.2 r).trans (h r)⟩
theorem IsSet.tells {a:List Sp} {K:Int→Prop} (ha:IsSet a K) (hs:∀ r,K r→Sc r) (r:Int):Tells a r↔K r:=by
 unfold Tells;rw [ha.2];exact ⟨fun h=>h.2,fun h=>⟨hs r h,h⟩⟩
variable {w W:World}
end Go.Proofs.YtioahgklplbinaaGreatDoor
