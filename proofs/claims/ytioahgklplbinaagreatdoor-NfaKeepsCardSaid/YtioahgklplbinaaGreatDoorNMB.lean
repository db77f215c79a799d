/- NMem, NFree, NApp, NState, NFreeC, in one text. -/
import Derived.Test.YtioahgklplbinaaGreatDoorNMA
import Derived.Test.YtioahgklplbinaaGreatDoorVRead
import Derived.Deep.AppendLies
import Derived.Deep.RegionLaw
import Derived.Deep.DeepCutAuto
namespace Go.Proofs.YtioahgklplbinaaGreatDoor
open Go.RowKit Go.Shelf Go.Maps SetM WrM NfaM
def EdC (W : World) (B : Nat → Prop) : List Value → List (Int × List Sp) → Prop
 | [],[]=>True
 | a::b::cs,e::es=>(∃ sp sc,a=.int .i64 e.1∧b=.slice sp (List.length e.2) sc∧e.2.length≤100000∧Sl W sp e.2∧(sp=none→sc=0)∧(e.2≠[]→∀ x,sp=some x→B x.block))∧EdC W B cs es
 | _,_=>False
theorem EdC.kept {W W' : World} {B : Nat → Prop} (hs : W.heap.size ≤ W'.heap.size) (hb : ∀ k, B k → W'.heap[k]? = W.heap[k]?) : ∀ {cs : List Value} {es : List (Int × List Sp)}, EdC W B cs es → EdC W' B cs es
 | [],[],_=>trivial
 | a::b::cs,e::es,h=>by
  obtain ⟨⟨sp,sc,h1,h2,h3,h4,h5,h6⟩,h7⟩:=h
  refine ⟨⟨sp,sc,h1,h2,h3,fun hne=>?_,h5,h6⟩,EdC.kept hs hb h7⟩
  obtain ⟨x,o,e1,e2,e3⟩:=h4 hne
  have hq:=hb x (h6 hne _ e1)
  exact ⟨x,o,e1,Nat.lt_of_lt_of_le e2 hs,fun j hj=>⟨(World.cell?_of_block (a:=⟨x,o+j*2,none⟩) hq).trans (e3 j hj).1,(World.cell?_of_block (a:=⟨x,o+j*2+1,none⟩) hq).trans (e3 j hj).2⟩⟩
 | [],_::_,h=>h.elim
 | [_],[],h=>h.elim
 | [_],_::_,h=>h.elim
 | _::_::_,[],h=>h.elim
theorem EdC.push {W : World} {B : Nat → Prop} {a b : Value} {e : Int × List Sp} (hn : EdC W B [a, b] [e]) : ∀ {cs : List Value} {es : List (Int × List Sp)}, EdC W B cs es → EdC W B (cs ++ [a, b]) (es ++ [e])
 | [],[],_=>hn
 | _::_::_,_::_,h=>⟨h.1,EdC.push hn h.2⟩
 | [],_::_,h=>h.elim
 | [_],[],h=>h.elim
 | [_],_::_,h=>h.elim
 | _::_::_,[],h=>h.elim
structure MVx (W : World) (B : Nat → Prop) (R : Nat → Rw) (m : Mc) : Prop where
 l1:m.ed.length=m.tg.length
 l2:m.fr.length=m.tg.length
 fam:Fam W (3+2*m.tg.length) R
 nb:∀ k,Has (3+2*m.tg.length) R k→¬ B k
 bl:∀ k,B k→k < W.heap.size
 r0:(R 0).e = 40∧(R 0).s=1∧(R 0).n=m.tg.length∧(R 0).xs=(List.range m.tg.length).map (fun i=>(R (3+2*i)).v)
 r1:(R 1).e = 27∧(R 1).s=1∧(R 1).n=m.tg.length∧(R 1).xs=(List.range m.tg.length).map (fun i=>(R (4+2*i)).v)
 r2:(R 2).e = 3∧(R 2).s=1∧(R 2).n=m.tg.length∧(R 2).xs=m.tg.map (.int .i64)
 re:∀ i,i < m.tg.length→(R (3+2*i)).e = 43∧(R (3+2*i)).s=2∧(R (3+2*i)).n=(m.ed.getD i []).length∧EdC W B (R (3+2*i)).xs (m.ed.getD i [])
 rf:∀ i,i < m.tg.length→(R (4+2*i)).e = 3∧(R (4+2*i)).s=1∧(R (4+2*i)).n=(m.fr.getD i []).length∧(R (4+2*i)).xs=(m.fr.getD i []).map (.int .i64)
def MV (W:World) (O B:Nat→Prop) (v:Value) (m:Mc):Prop:=∃ R,MVx W B R m∧v=.agg #[(R 0).v,(R 1).v,(R 2).v]∧∀ k,Has (3+2*m.tg.length) R k→O k
theorem MVx.kept {W W':World} {B:Nat→Prop} {R:Nat→Rw} {m:Mc} (h:MVx W B R m) (hs:W.heap.size≤W'.heap.size) (hb:∀ k,Has (3+2*m.tg.length) R k∨B k→W'.heap[k]? = W.heap[k]?):MVx W' B R m :=
  { h with
    fam:=h.fam.kept (fun k hk=>hb k (.inl hk))
    bl:=fun k hk=>Nat.lt_of_lt_of_le (h.bl k hk) hs
    re:=fun i hi=>⟨(h.re i hi).1,(h.re i hi).2.1,(h.re i hi).2.2.1,(h.re i hi).2.2.2.kept hs (fun k hk=>hb k (.inr hk))⟩ }
theorem MV.kept {W W':World} {O B:Nat→Prop} {v:Value} {m:Mc} (h:MV W O B v m) (hs:W.heap.size≤W'.heap.size) (hb:∀ k,O k∨B k→W'.heap[k]? = W.heap[k]?):MV W' O B v m:=by
 obtain ⟨R,h1,h2,h3⟩:=h
 exact ⟨R,h1.kept hs (fun k hk=>hb k (hk.imp (h3 k) id)),h2,h3⟩
theorem MV.imp {W:World} {O O' B:Nat→Prop} {v:Value} {m:Mc} (h:MV W O B v m) (hO:∀ k,O k→O' k):MV W O' B v m:=by
 obtain ⟨R,h1,h2,h3⟩:=h
 exact ⟨R,h1,h2,fun k hk=>hO k (h3 k hk)⟩
structure Frm (O : Nat → Prop) (W W' : World) : Prop where
 os:W'.os=W.os
 tape:W'.tape=W.tape
 output:W'.output=W.output
 size:W.heap.size≤W'.heap.size
 block:∀ k,k < W.heap.size→¬ O k→W'.heap[k]? = W.heap[k]?
theorem Frm.refl (O:Nat→Prop) (W:World):Frm O W W:=⟨rfl,rfl,rfl,Nat.le_refl _,fun _ _ _=>rfl⟩
def Onew (O:Nat→Prop) (W:World) (k:Nat):Prop:=O k∨W.heap.size≤k
theorem Frm.mono {O O':Nat→Prop} {a b:World} (h:Frm O a b) (hO:∀ k,O k→O' k):Frm O' a b:=⟨h.os,h.tape,h.output,h.size,fun k hk hn=>h.block k hk (fun e=>hn (hO k e))⟩
theorem Frm.below {W W':World} {O:Nat→Prop} {n:Nat} (h:Frm O W W') (hO:∀ k,O k→n≤k) (hn:n≤W.heap.size):Below n W W':=⟨h.os,h.tape,h.output,h.size,fun k hk=>h.block k (by omega) (fun e=>by have:=hO k e;omega)⟩
theorem infoEs:(Tryz.prog.info? 40).map (fun i=>(i.zero,i.size,i.bytes))=some (some (.slice none 0 0),1,24):=by kernel_rfl
theorem infoIs:(Tryz.prog.info? 27).map (fun i=>(i.zero,i.size,i.bytes))=some (some (.slice none 0 0),1,24):=by kernel_rfl
theorem infoI8:(Tryz.prog.info? 3).map (fun i=>(i.zero,i.size,i.bytes))=some (some (.int .i64 0),1,8):=by kernel_rfl
theorem infoE8:(Tryz.prog.info? 43).map (fun i=>(i.zero,i.size,i.bytes))=some (some (.agg #[.int .i64 0,.slice none 0 0]),2,32):=by kernel_rfl
theorem MVx.state {W W' : World} {B : Nat → Prop} {R R' : Nat → Rw} {m : Mc} (h : MVx W B R m) (hs : W.heap.size ≤ W'.heap.size) (hB : ∀ k, B k → W'.heap[k]? = W.heap[k]?) (hf : Fam W' (3 + 2 * m.tg.length) R') (hn : ∀ k, Has (3 + 2 * m.tg.length) R' k → ¬ B k)
  (h0:(R' 0).e=(R 0).e∧(R' 0).s=1∧(R' 0).n=m.tg.length+1∧(R' 0).xs=(R 0).xs++[.slice none 0 0]) (h1:(R' 1).e=(R 1).e∧(R' 1).s=1∧(R' 1).n=m.tg.length+1∧(R' 1).xs=(R 1).xs++[.slice none 0 0])
  (h2:(R' 2).e=(R 2).e∧(R' 2).s=1∧(R' 2).n=m.tg.length+1∧(R' 2).xs=(R 2).xs++[.int .i64 (-1)]) (ho:∀ i,3≤i→i < 3+2*m.tg.length→R' i=R i) :
  ∃ R2,MVx W' B R2 (stF m)∧(∀ i,i < 3+2*m.tg.length→R2 i=R' i)∧∀ k,Has (3+2*(stF m).tg.length) R2 k→Has (3+2*m.tg.length) R' k:=by
 obtain ⟨n,hnl⟩:∃ n,n=m.tg.length:=⟨_,rfl⟩
 have a1:=hf.more (Rw.nil_ok W' 43 2) rfl
 have a2:=a1.1.more (Rw.nil_ok W' 3 1) rfl
 obtain ⟨R2,hR2⟩:∃ R2,R2=upd (upd R' (3+2*m.tg.length) ⟨43,2,.slice none 0 0,0,[]⟩) (3+2*m.tg.length+1) ⟨3,1,.slice none 0 0,0,[]⟩:=⟨_,rfl⟩
 rw [← hR2] at a2
 have old:∀ i,i < 3+2*m.tg.length→R2 i=R' i:=fun i hi=>by rw [hR2,upd_other _ _ (by omega),upd_other _ _ (by omega)]
 have n1:R2 (3+2*m.tg.length)=⟨43,2,.slice none 0 0,0,[]⟩:=by rw [hR2,upd_other _ _ (by omega),upd_same]
 have n2:R2 (4+2*m.tg.length)=⟨3,1,.slice none 0 0,0,[]⟩:=by rw [hR2,show 4+2*m.tg.length=3+2*m.tg.length+1 by omega,upd_same]
 have hl:(stF m).tg.length=m.tg.length+1:=by simp [stF]
 have hh:∀ k,Has (3+2*(stF m).tg.length) R2 k→Has (3+2*m.tg.length) R' k:=fun k hk=>a1.2 k (a2.2 k (by rw [hl] at hk;exact hk))
 have g1:∀ i,i < m.tg.length→R2 (3+2*i)=R (3+2*i):=fun i hi=>by rw [old _ (by omega),ho _ (by omega) (by omega)]
 have g2:∀ i,i < m.tg.length→R2 (4+2*i)=R (4+2*i):=fun i hi=>by rw [old _ (by omega),ho _ (by omega) (by omega)]
 have d1:∀ i,i < m.tg.length→(stF m).ed.getD i []=m.ed.getD i []:=fun i hi=>by
  have:=h.l1
  simp only [stF,List.getD_eq_getElem?_getD]
  rw [List.getElem?_append_left (by omega)]
 have d2:∀ i,i < m.tg.length→(stF m).fr.getD i []=m.fr.getD i []:=fun i hi=>by
  have:=h.l2
  simp only [stF,List.getD_eq_getElem?_getD]
  rw [List.getElem?_append_left (by omega)]
 have d3:(stF m).ed.getD m.tg.length []=[]:=by
  have:=h.l1
  simp only [stF,List.getD_eq_getElem?_getD]
  rw [List.getElem?_append_right (by omega)]
  simp [this]
 have d4:(stF m).fr.getD m.tg.length []=[]:=by
  have:=h.l2
  simp only [stF,List.getD_eq_getElem?_getD]
  rw [List.getElem?_append_right (by omega)]
  simp [this]
 refine ⟨R2,⟨by simp [stF,h.l1],by simp [stF,h.l2],by rw [hl];exact a2.1,fun k hk=>hn k (hh k hk),fun k hk=>Nat.lt_of_lt_of_le (h.bl k hk) hs,?_,?_,?_,fun i hi=>?_,fun i hi=>?_⟩,old,hh⟩
 ·rw [old 0 (by omega)]
  refine ⟨h0.1.trans h.r0.1,h0.2.1,by rw [h0.2.2.1,hl],?_⟩
  rw [h0.2.2.2,h.r0.2.2.2,hl,List.range_succ,List.map_append,List.map_cons,List.map_nil,n1]
  congr 1
  refine List.map_congr_left (fun i hi=>?_)
  rw [g1 i (List.mem_range.1 hi)]
 ·rw [old 1 (by omega)]
  refine ⟨h1.1.trans h.r1.1,h1.2.1,by rw [h1.2.2.1,hl],?_⟩
  rw [h1.2.2.2,h.r1.2.2.2,hl,List.range_succ,List.map_append,List.map_cons,List.map_nil,n2]
  congr 1
  refine List.map_congr_left (fun i hi=>?_)
  rw [g2 i (List.mem_range.1 hi)]
 ·rw [old 2 (by omega)]
  refine ⟨h2.1.trans h.r2.1,h2.2.1,by rw [h2.2.2.1,hl],?_⟩
  rw [h2.2.2.2,h.r2.2.2.2]
  simp [stF]
 ·rw [hl] at hi
  by_cases e:i=m.tg.length
  ·subst e
   rw [n1,d3]
   exact ⟨rfl,rfl,rfl,trivial⟩
  ·have hi' : i < m.tg.length := by omega
   rw [g1 i hi',d1 i hi']
   have:=h.re i hi'
   exact ⟨this.1,this.2.1,this.2.2.1,this.2.2.2.kept hs hB⟩
 ·rw [hl] at hi
  by_cases e:i=m.tg.length
  ·subst e
   rw [n2,d4]
   exact ⟨rfl,rfl,rfl,rfl⟩
  ·have hi' : i < m.tg.length := by omega
   rw [g2 i hi',d2 i hi']
   exact h.rf i hi'
end Go.Proofs.YtioahgklplbinaaGreatDoor
namespace Go.Proofs.YtioahgklplbinaaGreatDoor
open Go.RowKit Go.Shelf Go.Maps SetM WrM NfaM
theorem map_set {f:Nat→Value} (n i:Nat) (v:Value):((List.range n).map f).set i v=(List.range n).map (fun j=>if j=i then v else f j):=by
 refine List.ext_getElem (by simp) (fun j hj hj'=>?_)
 simp at hj'
 rw [List.getElem_set]
 simp only [List.getElem_map,List.getElem_range]
 by_cases e:i=j
 ·subst e;simp
 ·rw [if_neg e,if_neg (fun h=>e h.symm)]
theorem getD_set {α:Type} (l:List (List α)) (i j:Nat) (x:List α) (hi:i < l.length):(l.set i x).getD j []=if j=i then x else l.getD j []:=by
 simp only [List.getD_eq_getElem?_getD,List.getElem?_set]
 by_cases e:i=j
 ·subst e;simp [hi]
 ·rw [if_neg e,if_neg (fun h=>e h.symm)]
theorem MVx.touch {W W1 : World} {B : Nat → Prop} {R : Nat → Rw} {m : Mc} (h : MVx W B R m) {i q : Nat} (hq : q < 2) (hi : i < m.tg.length) {r : Rw} {g : Nat} (hg : W.grownBy W1 (R (3 + q + 2 * i)).v.ownBlock) (hr : r.ok W1) (hv : r.v.ownBlock = some g) (hat : (R (3 + q + 2 * i)).v.ownBlock = some g ∨ g = W.heap.size)
  {g1 len c1:Nat} (h1:(R q).v=.slice (some ⟨g1,0,none⟩) len c1) (hn1:(R q).n=len) :
  Fam (W1.setCell ⟨g1,i,none⟩ r.v) (3+2*m.tg.length) (upd (upd R (3+q+2*i) r) q { R q with xs:=(R q).xs.set i r.v }) ∧
  (∀ k,Has (3+2*m.tg.length) (upd (upd R (3+q+2*i) r) q { R q with xs:=(R q).xs.set i r.v }) k→Has (3+2*m.tg.length) R k∨k=W.heap.size) ∧
  (∀ k,B k→(W1.setCell ⟨g1,i,none⟩ r.v).heap[k]? = W.heap[k]?)∧W.heap.size≤(W1.setCell ⟨g1,i,none⟩ r.v).heap.size∧(∀ k,k < W.heap.size→¬ Has (3+2*m.tg.length) R k→(W1.setCell ⟨g1,i,none⟩ r.v).heap[k]? = W.heap[k]?):=by
 have a1:=h.fam.grow (i:=3+q+2*i) (by omega) hg hr hv hat
 have e1:upd R (3+q+2*i) r q=R q:=upd_other R r (by omega)
 have a2:=a1.1.store (i:=q) (by omega) (g:=g1) (len:=len) (cap:=c1) (by rw [e1];exact h1) (by rw [e1];exact hn1) i r.v
 rw [e1] at a2
 have hown:∀ k,(R (3+q+2*i)).v.ownBlock=some k→Has (3+2*m.tg.length) R k:=fun k hk=>⟨_,by omega,hk⟩
 have hg1:Has (3+2*m.tg.length) R g1:=⟨q,by omega,by rw [h1];rfl⟩
 have hall:∀ k,k < W.heap.size→¬ Has (3+2*m.tg.length) R k→(W1.setCell ⟨g1,i,none⟩ r.v).heap[k]? = W.heap[k]?:=fun k hk hn=>by
  rw [heap_setCell_other W1 ⟨g1,i,none⟩ k r.v (fun e=>hn (e ▸ hg1))]
  exact hg.block k hk (fun e=>hn (hown k e.symm))
 refine ⟨a2.1,fun k hk=>a1.2 k (a2.2 k hk),fun k hk=>hall k (h.bl k hk) (fun hh=>h.nb k hh hk),?_,hall⟩
 rw [World.size_setCell]
 exact hg.size
theorem MVx.free {W W1 : World} {B : Nat → Prop} {R : Nat → Rw} {m : Mc} (h : MVx W B R m) {i : Nat} {t : Int} (hi : i < m.tg.length) {r : Rw} {g : Nat} (hg : W.grownBy W1 (R (4 + 2 * i)).v.ownBlock) (hr : r.ok W1) (hv : r.v.ownBlock = some g) (hat : (R (4 + 2 * i)).v.ownBlock = some g ∨ g = W.heap.size)
  (he:r.e = 3∧r.s=1∧r.n=(m.fr.getD i []).length+1∧r.xs=(m.fr.getD i []++[t]).map (.int .i64)) {g1 c1:Nat} (h1:(R 1).v=.slice (some ⟨g1,0,none⟩) m.tg.length c1) :
  MVx (W1.setCell ⟨g1,i,none⟩ r.v) B (upd (upd R (4+2*i) r) 1 { R 1 with xs:=(R 1).xs.set i r.v }) (frF m i t)∧(∀ k,Has (3+2*m.tg.length) (upd (upd R (4+2*i) r) 1 { R 1 with xs:=(R 1).xs.set i r.v }) k→Has (3+2*m.tg.length) R k∨k=W.heap.size)∧(∀ k,k < W.heap.size→¬ Has (3+2*m.tg.length) R k→(W1.setCell ⟨g1,i,none⟩ r.v).heap[k]? = W.heap[k]?):=by
 have ht:=h.touch (q:=1) (by omega) hi (r:=r) (g:=g) hg hr hv hat h1 h.r1.2.2.1
 obtain ⟨f1,f2,f3,f4,f5⟩:=ht
 obtain ⟨R2,hR2⟩:∃ R2,R2=upd (upd R (4+2*i) r) 1 { R 1 with xs:=(R 1).xs.set i r.v }:=⟨_,rfl⟩
 have f1':Fam (W1.setCell ⟨g1,i,none⟩ r.v) (3+2*m.tg.length) R2:=by rw [hR2];exact f1
 have f2':∀ k,Has (3+2*m.tg.length) R2 k→Has (3+2*m.tg.length) R k∨k=W.heap.size:=by rw [hR2];exact f2
 rw [← hR2]
 have o:∀ j,j≠4+2*i→j≠1→R2 j=R j:=fun j h1 h2=>by rw [hR2,upd_other _ _ h2,upd_other _ _ h1]
 have n1:R2 (4+2*i)=r:=by rw [hR2,upd_other _ _ (by omega),upd_same]
 have n2:R2 1={ R 1 with xs:=(R 1).xs.set i r.v }:=by rw [hR2,upd_same]
 have hl:(frF m i t).tg=m.tg:=rfl
 refine ⟨⟨h.l1,by simp [frF,h.l2],f1',fun k hk hB=>?_,fun k hk=>Nat.lt_of_lt_of_le (h.bl k hk) f4,?_,?_,?_,fun j hj=>?_,fun j hj=>?_⟩,f2',f5⟩
 ·rcases f2' k hk with hk | hk
  ·exact h.nb k hk hB
  ·have:=h.bl k hB;omega
 ·rw [o 0 (by omega) (by omega)]
  refine ⟨h.r0.1,h.r0.2.1,h.r0.2.2.1,?_⟩
  rw [h.r0.2.2.2]
  exact List.map_congr_left (fun j _=>by rw [o _ (by omega) (by omega)])
 ·rw [n2]
  refine ⟨h.r1.1,h.r1.2.1,h.r1.2.2.1,?_⟩
  show (R 1).xs.set i r.v=_
  rw [h.r1.2.2.2,map_set]
  refine List.map_congr_left (fun j _=>?_)
  by_cases e:j=i
  ·subst e;rw [if_pos rfl,n1]
  ·rw [if_neg e,o _ (by omega) (by omega)]
 ·rw [o 2 (by omega) (by omega)]
  exact h.r2
 ·rw [o _ (by omega) (by omega)]
  have:=h.re j hj
  exact ⟨this.1,this.2.1,this.2.2.1,this.2.2.2.kept f4 f3⟩
 ·have hd : (frF m i t).fr.getD j [] = if j = i then m.fr.getD i [] ++ [t] else m.fr.getD j [] := getD_set _ _ _ _ (by rw [h.l2]; exact hi)
  by_cases e:j=i
  ·subst e
   rw [n1,hd,if_pos rfl]
   exact ⟨he.1,he.2.1,by rw [he.2.2.1];simp,he.2.2.2⟩
  ·rw [o _ (by omega) (by omega), hd, if_neg e]
   exact h.rf j hj
theorem MVx.edge {W W1 : World} {B : Nat → Prop} {R : Nat → Rw} {m : Mc} (h : MVx W B R m) {i : Nat} {t : Int} {sl : List Sp} (hi : i < m.tg.length) {r : Rw} {g : Nat} (hg : W.grownBy W1 (R (3 + 2 * i)).v.ownBlock) (hr : r.ok W1) (hv : r.v.ownBlock = some g) (hat : (R (3 + 2 * i)).v.ownBlock = some g ∨ g = W.heap.size)
  {a b:Value} (he:r.e = 43∧r.s=2∧r.n=(m.ed.getD i []).length+1∧r.xs=(R (3+2*i)).xs++[a,b]) (hE:EdC W B [a,b] [(t,sl)]) {g1 c1:Nat} (h1:(R 0).v=.slice (some ⟨g1,0,none⟩) m.tg.length c1) :
  MVx (W1.setCell ⟨g1,i,none⟩ r.v) B (upd (upd R (3+2*i) r) 0 { R 0 with xs:=(R 0).xs.set i r.v }) (edF m i t sl)∧(∀ k,Has (3+2*m.tg.length) (upd (upd R (3+2*i) r) 0 { R 0 with xs:=(R 0).xs.set i r.v }) k→Has (3+2*m.tg.length) R k∨k=W.heap.size)∧(∀ k,k < W.heap.size→¬ Has (3+2*m.tg.length) R k→(W1.setCell ⟨g1,i,none⟩ r.v).heap[k]? = W.heap[k]?):=by
 have ht:=h.touch (q:=0) (by omega) hi (r:=r) (g:=g) hg hr hv hat h1 h.r0.2.2.1
 obtain ⟨f1,f2,f3,f4,f5⟩:=ht
 obtain ⟨R2,hR2⟩:∃ R2,R2=upd (upd R (3+2*i) r) 0 { R 0 with xs:=(R 0).xs.set i r.v }:=⟨_,rfl⟩
 have f1':Fam (W1.setCell ⟨g1,i,none⟩ r.v) (3+2*m.tg.length) R2:=by rw [hR2];exact f1
 have f2':∀ k,Has (3+2*m.tg.length) R2 k→Has (3+2*m.tg.length) R k∨k=W.heap.size:=by rw [hR2];exact f2
 rw [← hR2]
 have o:∀ j,j≠3+2*i→j≠0→R2 j=R j:=fun j h1 h2=>by rw [hR2,upd_other _ _ h2,upd_other _ _ h1]
 have n1:R2 (3+2*i)=r:=by rw [hR2,upd_other _ _ (by omega),upd_same]
 have n2:R2 0={ R 0 with xs:=(R 0).xs.set i r.v }:=by rw [hR2,upd_same]
 refine ⟨⟨by simp [edF,h.l1],h.l2,f1',fun k hk hB=>?_,fun k hk=>Nat.lt_of_lt_of_le (h.bl k hk) f4,?_,?_,?_,fun j hj=>?_,fun j hj=>?_⟩,f2',f5⟩
 ·rcases f2' k hk with hk | hk
  ·exact h.nb k hk hB
  ·have:=h.bl k hB;omega
 ·rw [n2]
  refine ⟨h.r0.1,h.r0.2.1,h.r0.2.2.1,?_⟩
  show (R 0).xs.set i r.v=_
  rw [h.r0.2.2.2,map_set]
  refine List.map_congr_left (fun j _=>?_)
  by_cases e:j=i
  ·subst e;rw [if_pos rfl,n1]
  ·rw [if_neg e,o _ (by omega) (by omega)]
 ·rw [o 1 (by omega) (by omega)]
  refine ⟨h.r1.1,h.r1.2.1,h.r1.2.2.1,?_⟩
  rw [h.r1.2.2.2]
  exact List.map_congr_left (fun j _=>by rw [o _ (by omega) (by omega)])
 ·rw [o 2 (by omega) (by omega)]
  exact h.r2
 ·have hd : (edF m i t sl).ed.getD j [] = if j = i then m.ed.getD i [] ++ [(t, sl)] else m.ed.getD j [] := getD_set _ _ _ _ (by rw [h.l1]; exact hi)
  by_cases e:j=i
  ·subst e
   rw [n1,hd,if_pos rfl]
   refine ⟨he.1,he.2.1,by rw [he.2.2.1];simp,?_⟩
   rw [he.2.2.2]
   exact EdC.push (hE.kept f4 f3) ((h.re j hj).2.2.2.kept f4 f3)
  ·rw [o _ (by omega) (by omega), hd, if_neg e]
   have:=h.re j hj
   exact ⟨this.1,this.2.1,this.2.2.1,this.2.2.2.kept f4 f3⟩
 ·rw [o _ (by omega) (by omega)]
  exact h.rf j hj
end Go.Proofs.YtioahgklplbinaaGreatDoor
namespace Go.Proofs.YtioahgklplbinaaGreatDoor
open Go.RowKit Go.Shelf Go.Maps SetM WrM NfaM
def Rw.more (r:Rw) (g cap:Nat) (cs:List Value):Rw:=⟨r.e,r.s,.slice (some ⟨g,0,none⟩) (r.n+1) cap,r.n+1,r.xs++cs⟩
theorem wpList_fam {w : World} {ops : Array Oper} {rest : List Oper} {o : Oper} {a : Act} {Q : Exit → Act → World → Prop} (hgd : o.guard = none) (s x : Operand) (t : TypeId)
  (ho:o.op=.call { callee:= .builtin .append,args:=#[s,x],argTypes:=#[t,t] }) {z:Value} {bytes:Nat} (r:Rw) (ht:Tryz.prog.underlying t=some (.slice r.e)) (hinfo:(Tryz.prog.info? r.e).map (fun i=>(i.zero,i.size,i.bytes))=some (some z,r.s,bytes)) (hzs:z.cells.size=r.s) (hsz:0 < r.s) (hby:bytes≤64)
  (hr:r.ok w) (hs:a.eval s=r.v) (g0:Nat) (hx:a.eval x=.slice (some ⟨g0,0,none⟩) 1 1) (cs:List Value) (hb:w.heap[g0]? = some (.cells cs.toArray r.e (0,0))) (hcl:cs.length=r.s) (h1:∀ u∈cs,u.oneCell'=true) (h63:r.n≤1000000)
  (h:∀ g cap w',(r.more g cap cs).ok w'→w.grownBy w' r.v.ownBlock→(r.v.ownBlock=some g∨g=w.heap.size)→wpList Tryz.prog ops Q rest (a.put o.dst (.slice (some ⟨g,0,none⟩) (r.n+1) cap)) w'):wpList Tryz.prog ops Q (o::rest) a w:=by
 obtain ⟨i0,hi,hz0,hz1,hz2⟩:=info_parts hinfo
 refine wpList_append_lies _ hgd s x t ho 0 r.e i0 z r.s bytes ht hi hz0 hz1 hz2 hzs hsz r.v r.n r.xs hs hr ⟨g0,0,none⟩ 1 1 cs hx (by omega) (fun j y hy=>World.news_of_block hb j y (by simpa using hy)) h1 (by omega) (by unfold maxLen;omega) ?_ (Nat.zero_le _) _ rfl ?_
 ·exact Nat.le_trans (Nat.mul_le_mul (show r.n+1≤1000001 by omega) hby) (by decide)
 ·intro g cap w' k1 k2 k3 _
  exact h g cap w' k1 k2 k3
theorem step_fam {w : World} {ops : Array Oper} {o : Oper} {a : Act} {K : Act → World → Prop} {Q : Exit → Act → World → Prop} {E : Prop} (hgd : o.guard = none) (s x : Operand) (t : TypeId)
  (ho:o.op=.call { callee:= .builtin .append,args:=#[s,x],argTypes:=#[t,t] }) {z:Value} {bytes:Nat} (r:Rw) (ht:Tryz.prog.underlying t=some (.slice r.e)) (hinfo:(Tryz.prog.info? r.e).map (fun i=>(i.zero,i.size,i.bytes))=some (some z,r.s,bytes)) (hzs:z.cells.size=r.s) (hsz:0 < r.s) (hby:bytes≤64)
  (hr:r.ok w) (hs:a.eval s=r.v) (g0:Nat) (hx:a.eval x=.slice (some ⟨g0,0,none⟩) 1 1) (cs:List Value) (hb:w.heap[g0]? = some (.cells cs.toArray r.e (0,0))) (hcl:cs.length=r.s) (h1:∀ u∈cs,u.oneCell'=true) (h63:r.n≤1000000)
  (h:∀ g cap w',(r.more g cap cs).ok w'→w.grownBy w' r.v.ownBlock→(r.v.ownBlock=some g∨g=w.heap.size)→K (a.put o.dst (.slice (some ⟨g,0,none⟩) (r.n+1) cap)) w') :
  if Region.wanted o (yielded ops a.tmps)=true then Oper.wp Tryz.prog o a w K Q else E:=by
 obtain ⟨i0,hi,hz0,hz1,hz2⟩:=info_parts hinfo
 refine step_append_lies _ hgd s x t ho 0 r.e i0 z r.s bytes ht hi hz0 hz1 hz2 hzs hsz r.v r.n r.xs hs hr ⟨g0,0,none⟩ 1 1 cs hx (by omega) (fun j y hy=>World.news_of_block hb j y (by simpa using hy)) h1 (by omega) (by unfold maxLen;omega) ?_ (Nat.zero_le _) _ rfl ?_
 ·exact Nat.le_trans (Nat.mul_le_mul (show r.n+1≤1000001 by omega) hby) (by decide)
 ·intro g cap w' k1 k2 k3 _
  exact h g cap w' k1 k2 k3
end Go.Proofs.YtioahgklplbinaaGreatDoor
namespace Go.Proofs.YtioahgklplbinaaGreatDoor
open Go.RowKit Go.Shelf Go.Maps SetM WrM NfaM
theorem rw_eta {r:Rw} {e:TypeId} {s n:Nat} {P:Prop} (h:r.e=e∧r.s=s∧r.n=n∧P):r=⟨e,s,r.v,n,r.xs⟩:=by
 obtain ⟨rfl,rfl,rfl,_⟩:=h
 rfl
structure StS (W : World) (n : Nat) (R : Nat → Rw) (V : World) (Rk : Nat → Rw) (cs : Array Value) : Prop where
 fam:Fam V n Rk
 box:V.heap[W.heap.size]? = some (.cells cs 29 (0,0))
 res:V.heap[W.heap.size+1]? = some (.cells #[.slice none 0 0,.slice none 0 0,.slice none 0 0] 29 (0,0))
 os:V.os=W.os
 tape:V.tape=W.tape
 output:V.output=W.output
 size:W.heap.size+2≤V.heap.size
 old:∀ x,x < W.heap.size→¬ Has n R x→V.heap[x]? = W.heap[x]?
 has:∀ x,Has n Rk x→Has n R x∨W.heap.size+2≤x
theorem StS.start {W:World} {n:Nat} {R:Nat→Rw} (h:Fam W n R) (cs:Array Value):StS W n R ((W.alloc (.cells cs 29)).alloc (.cells #[.slice none 0 0,.slice none 0 0,.slice none 0 0] 29)) R cs:=by
 have z1:=World.size_alloc W (.cells cs 29)
 have b1:Below W.heap.size W (W.alloc (.cells cs 29)):=(Below.refl _ _).alloc (Nat.le_refl _) _
 have b2:=b1.alloc (by rw [z1];omega) (.cells #[.slice none 0 0,.slice none 0 0,.slice none 0 0] 29)
 refine ⟨h.kept (fun k hk=>b2.block k (h.lt hk)),?_,?_,b2.os,b2.tape,b2.output,by rw [World.size_alloc,z1];exact Nat.le_refl _,fun x hx _=>b2.block x hx,fun x hx=>.inl hx⟩
 ·rw [Lib.alloc_old _ _ _ (by rw [z1]; omega)]
  exact heap_alloc_new W _
 ·rw [← z1]
  exact heap_alloc_new _ _
theorem StS.far {W V:World} {n:Nat} {R Rk:Nat→Rw} {cs:Array Value} (h:StS W n R V Rk cs) (h0:Fam W n R) {k:Nat} (hk:k=W.heap.size∨k=W.heap.size+1):¬ Has n Rk k:=fun hh=>by
 rcases h.has k hh with hh | hh
 ·have:=h0.lt hh;omega
 ·omega
theorem StS.alloc {W V:World} {n:Nat} {R Rk:Nat→Rw} {cs:Array Value} (h:StS W n R V Rk cs) (o:Obj):StS W n R (V.alloc o) Rk cs:=by
 have hs:=h.size
 refine ⟨h.fam.kept (fun k hk=>Lib.alloc_old _ _ _ (h.fam.lt hk)),?_,?_,h.os,h.tape,h.output,by rw [World.size_alloc];omega,fun x hx hn=>?_,h.has⟩
 ·rw [Lib.alloc_old _ _ _ (by omega)];exact h.box
 ·rw [Lib.alloc_old _ _ _ (by omega)];exact h.res
 ·rw [Lib.alloc_old _ _ _ (by omega)];exact h.old x hx hn
theorem StS.app {W V w1 : World} {n : Nat} {R Rk : Nat → Rw} {cs : Array Value} (h : StS W n R V Rk cs) (h0 : Fam W n R) {i : Nat} (hi : i < n) {r : Rw} {g : Nat} (hg : V.grownBy w1 (Rk i).v.ownBlock) (hr : r.ok w1) (hv : r.v.ownBlock = some g) (hat : (Rk i).v.ownBlock = some g ∨ g = V.heap.size) :
  StS W n R w1 (upd Rk i r) cs:=by
 obtain ⟨f1,f2⟩:=h.fam.grow hi hg hr hv hat
 have hs:=h.size
 have hz:=hg.size
 have hne:∀ k,¬ Has n Rk k→some k≠(Rk i).v.ownBlock:=fun k hk e=>hk ⟨i,hi,e.symm⟩
 refine ⟨f1,?_,?_,hg.os.trans h.os,hg.tape.trans h.tape,hg.output.trans h.output,by omega,fun x hx hn=>?_,fun x hx=>?_⟩
 ·rw [hg.block _ (by omega) (hne _ (h.far h0 (.inl rfl)))];exact h.box
 ·rw [hg.block _ (by omega) (hne _ (h.far h0 (.inr rfl)))];exact h.res
 ·rw [hg.block _ (by omega) (hne _ (fun hh=>by rcases h.has x hh with hh | hh;exact hn hh;omega))];exact h.old x hx hn
 ·rcases f2 x hx with hx | hx
  ·exact h.has x hx
  ·right;omega
theorem StS.store {W V:World} {n:Nat} {R Rk:Nat→Rw} {cs:Array Value} (h:StS W n R V Rk cs) (h0:Fam W n R) (j:Nat) (u:Value):StS W n R (V.setCell ⟨W.heap.size,j,none⟩ u) Rk (cs.set! j u):=by
 have hs:=h.size
 have ho:∀ k,k≠W.heap.size→(V.setCell ⟨W.heap.size,j,none⟩ u).heap[k]? = V.heap[k]?:=fun k hk=>heap_setCell_other V ⟨W.heap.size,j,none⟩ k u hk
 refine ⟨h.fam.kept (fun k hk=>ho k (fun e=>h.far h0 (.inl e) hk)),heap_setC V _ _ _ h.box j u,?_,h.os,h.tape,h.output,by rw [World.size_setCell];exact hs,fun x hx hn=>?_,h.has⟩
 ·rw [ho _ (by omega)];exact h.res
 ·rw [ho _ (by omega)];exact h.old x hx hn
theorem StS.cells {W V:World} {n:Nat} {R Rk:Nat→Rw} {a b c:Value} (h:StS W n R V Rk #[a,b,c]):V.cell? ⟨W.heap.size,0,none⟩=some a∧V.cell? ⟨W.heap.size,1,none⟩=some b∧V.cell? ⟨W.heap.size,2,none⟩=some c∧V.frozen? ⟨W.heap.size,0,none⟩=false∧V.frozen? ⟨W.heap.size,1,none⟩=false∧V.frozen? ⟨W.heap.size,2,none⟩=false :=
 ⟨cell_of_row V _ 0 _ _ _ h.box,cell_of_row V _ 1 _ _ _ h.box,cell_of_row V _ 2 _ _ _ h.box,frozen_of_row V _ 0 _ _ h.box,frozen_of_row V _ 1 _ _ h.box,frozen_of_row V _ 2 _ _ h.box⟩
theorem StS.rescells {W V:World} {n:Nat} {R Rk:Nat→Rw} {cs:Array Value} (h:StS W n R V Rk cs):(∃ x y z,V.cell? ⟨W.heap.size+1,0,none⟩=some x∧V.cell? ⟨W.heap.size+1,1,none⟩=some y∧V.cell? ⟨W.heap.size+1,2,none⟩=some z)∧V.frozen? ⟨W.heap.size+1,0,none⟩=false∧V.frozen? ⟨W.heap.size+1,1,none⟩=false∧V.frozen? ⟨W.heap.size+1,2,none⟩=false :=
 ⟨⟨_,_,_,cell_of_row V _ 0 _ _ _ h.res,cell_of_row V _ 1 _ _ _ h.res,cell_of_row V _ 2 _ _ _ h.res⟩,frozen_of_row V _ 0 _ _ h.res,frozen_of_row V _ 1 _ _ h.res,frozen_of_row V _ 2 _ _ h.res⟩
def put3 (W:World) (B:Nat) (a b c:Value):World:=((W.setCell ⟨B,0,none⟩ a).setCell ⟨B,1,none⟩ b).setCell ⟨B,2,none⟩ c
theorem put3_heap {W:World} {B:Nat} {x y z:Value} {t:TypeId} (a b c:Value) (h:W.heap[B]? = some (.cells #[x,y,z] t (0,0))):(put3 W B a b c).heap[B]? = some (.cells #[a,b,c] t (0,0)) :=
 heap_setC _ B _ _ (heap_setC _ B _ _ (heap_setC W B _ _ h 0 a) 1 b) 2 c
theorem put3_other (W:World) (B:Nat) (a b c:Value) (k:Nat) (hk:k≠B):(put3 W B a b c).heap[k]? = W.heap[k]?:=by
 unfold put3
 rw [heap_setCell_other _ ⟨B,2,none⟩ k c hk,heap_setCell_other _ ⟨B,1,none⟩ k b hk,heap_setCell_other _ ⟨B,0,none⟩ k a hk]
theorem put3_size (W:World) (B:Nat) (a b c:Value):(put3 W B a b c).heap.size=W.heap.size:=by
 unfold put3
 simp only [World.size_setCell]
theorem sizeM:(Tryz.prog.info? 29).map (·.size)=some 3:=by kernel_rfl
theorem ret_nfa {fn : Func} {p : Tmp} {Q : Ending → World → Prop} {tmps : Array Value} {w1 : World} {B : Nat} {x y z a b c : Value} (hf : fn.results = #[.cell p 29]) (hp : tmps.getD p undef = .pointer (some ⟨B, 0, none⟩))
  (h3:w1.heap[B]? = some (.cells #[x,y,z] 29 (0,0))) (hQ:Q (.returned (.agg #[a,b,c])) (put3 w1 B a b c)) :
  bodyPost Tryz.prog fn Q .ret { tmps:=tmps,defers:=[] } (((w1.setCell ⟨B,0,none⟩ a).setCell ⟨B,1,none⟩ b).setCell ⟨B,2,none⟩ c) :=
 bodyPost_ret (results_cell_row hf tmps _ B _ #[a,b,c] (0,0) _ hp (put3_heap a b c h3) Tryz.underlying29 rfl sizeM) rfl hQ
theorem StS.done {W V:World} {R Rk:Nat→Rw} {cs:Array Value} {O:Nat→Prop} {n:Nat} (h:StS W n R V Rk cs) (a b c:Value) (hO:∀ k,Has n R k→O k):Frm O W (put3 V (W.heap.size+1) a b c):=by
 have hs:=h.size
 exact ⟨h.os,h.tape,h.output,by rw [put3_size];omega,fun k hk hn=>by rw [put3_other _ _ _ _ _ _ (by omega)];exact h.old k hk (fun hh=>hn (hO k hh))⟩
set_option maxRecDepth 100000 in
set_option maxHeartbeats 4000000 in
theorem state_c {W : World} {O B : Nat → Prop} {v : Value} {m : Mc} (h : MV W O B v m) (h8 : m.tg.length ≤ 1000000) :
  Calls Tryz.prog 28 #[v] W fun e W'=>∃ v',e=.returned v'∧MV W' (Onew O W) B v' (stF m)∧Frm O W W':=by
 obtain ⟨R,hR,rfl,hO⟩:=h
 obtain ⟨n,hn⟩:∃ n,n=m.tg.length:=⟨_,rfl⟩
 have hfam:=hR.fam
 have q0:=rw_eta hR.r0
 have q1:=rw_eta hR.r1
 have q2:=rw_eta hR.r2
 rw [← hn] at h8 hfam q0 q1 q2
 obtain ⟨v0,hv0⟩:∃ v,v=(R 0).v:=⟨_,rfl⟩
 obtain ⟨v1,hv1⟩:∃ v,v=(R 1).v:=⟨_,rfl⟩
 obtain ⟨v2,hv2⟩:∃ v,v=(R 2).v:=⟨_,rfl⟩
 rw [← hv0] at q0 ⊢
 rw [← hv1] at q1 ⊢
 rw [← hv2] at q2 ⊢
 obtain ⟨x0,hx0⟩:∃ x,x=(R 0).xs:=⟨_,rfl⟩
 obtain ⟨x1,hx1⟩:∃ x,x=(R 1).xs:=⟨_,rfl⟩
 obtain ⟨x2,hx2⟩:∃ x,x=(R 2).xs:=⟨_,rfl⟩
 rw [← hx0] at q0
 rw [← hx1] at q1
 rw [← hx2] at q2
 have HN:=Lib.hid hn
 have HX:=Lib.hid (And.intro hx0 (And.intro hx1 hx2))
 have HR:=Lib.hid hR
 have HO:=Lib.hid hO
 obtain ⟨V,hV⟩:∃ V,V=(W.alloc (.cells #[v0,v1,v2] 29)).alloc (.cells #[.slice none 0 0,.slice none 0 0,.slice none 0 0] 29):=⟨_,rfl⟩
 have HF:=Lib.hid hfam
 have S0:StS W (3+2*n) R V R #[v0,v1,v2]:=by rw [hV];exact StS.start hfam _
 have HS0:=Lib.hid S0
 have HQ0:=Lib.hid q0
 have HQ1:=Lib.hid q1
 have HQ2:=Lib.hid q2
 obtain ⟨c0,c1,c2,f0,f1,f2⟩:=S0.cells
 have hok0:(⟨40,1,v0,n,x0⟩:Rw).ok (V.alloc (.cells #[.slice none 0 0] 40)):=by rw [← q0];exact (S0.alloc _).fam.own 0 (by omega)
 have hnew0:=heap_alloc_new V (.cells #[.slice none 0 0] 40)
 clear hn hx0 hx1 hx2 hR hO hv0 hv1 hv2 hfam S0 q0 q1 q2
 go_enter Tryz.func28,Tryz.ntmps28
 go_upto_region 1 with fail
 rw [← hV]
 clear hV
 go_upto_region 2 with (at_builtin;refine wpList_fam rfl _ _ 25 rfl ⟨40,1,v0,n,x0⟩ Tryz.underlying25 infoEs rfl Nat.zero_lt_one (by decide) hok0 rfl V.heap.size rfl [.slice none 0 0] hnew0 rfl (by simp [Value.oneCell']) h8 ?_;intro g0 p0 w1 k1 k2 k3;have S1:=(HS0.out.alloc (.cells #[.slice none 0 0] 40)).app HF.out (i:=0) (by omega) (g:=g0) (by rw [HQ0.out];exact k2) k1 rfl (by rw [HQ0.out];exact k3);obtain ⟨d0,d1,d2,e0,e1,e2⟩:=S1.cells)
 obtain ⟨R1,hR1⟩:∃ R1,R1=upd R 0 ((⟨40,1,v0,n,x0⟩:Rw).more g0 p0 [.slice none 0 0]):=⟨_,rfl⟩
 rw [← hR1] at S1
 have T1:StS W (3+2*n) R (w1.setCell ⟨W.heap.size,0,none⟩ (.slice (some ⟨g0,0,none⟩) (n+1) p0)) R1 #[.slice (some ⟨g0,0,none⟩) (n+1) p0,v1,v2]:=S1.store HF.out 0 _
 have A0:Hid (R1 0=(⟨40,1,v0,n,x0⟩:Rw).more g0 p0 [.slice none 0 0]):=Lib.hid (by rw [hR1,upd_same])
 have A1:Hid (∀ i,i≠0→R1 i=R i):=Lib.hid (fun i hi=>by rw [hR1,upd_other _ _ hi])
 obtain ⟨V1,hV1⟩:∃ V1,V1=w1.setCell ⟨W.heap.size,0,none⟩ (.slice (some ⟨g0,0,none⟩) (n+1) p0):=⟨_,rfl⟩
 rw [← hV1] at T1 ⊢
 have HT1:=Lib.hid T1
 have hok1:(⟨27,1,v1,n,x1⟩:Rw).ok (V1.alloc (.cells #[.slice none 0 0] 27)):=by rw [← HQ1.out,← A1.out 1 (by omega)];exact (T1.alloc _).fam.own 1 (by omega)
 have hnew1:=heap_alloc_new V1 (.cells #[.slice none 0 0] 27)
 clear hV1 hR1 S1 k1 k2 k3 hok0 hnew0 c0 c1 c2 f0 f1 f2 d0 d1 d2 e0 e1 e2
 obtain ⟨c0,c1,c2,f0,f1,f2⟩:=T1.cells
 clear T1
 go_upto_region 3 with (at_builtin;refine wpList_fam rfl _ _ 26 rfl ⟨27,1,v1,n,x1⟩ Tryz.underlying26 infoIs rfl Nat.zero_lt_one (by decide) hok1 rfl V1.heap.size rfl [.slice none 0 0] hnew1 rfl (by simp [Value.oneCell']) h8 ?_;intro g1 p1 w2 k1 k2 k3;have S1:=(HT1.out.alloc (.cells #[.slice none 0 0] 27)).app HF.out (i:=1) (by omega) (g:=g1) (by rw [A1.out 1 (by omega),HQ1.out];exact k2) k1 rfl (by rw [A1.out 1 (by omega),HQ1.out];exact k3);obtain ⟨d0,d1,d2,e0,e1,e2⟩:=S1.cells)
 obtain ⟨R2,hR2⟩:∃ R2,R2=upd R1 1 ((⟨27,1,v1,n,x1⟩:Rw).more g1 p1 [.slice none 0 0]):=⟨_,rfl⟩
 rw [← hR2] at S1
 have T2:StS W (3+2*n) R (w2.setCell ⟨W.heap.size,1,none⟩ (.slice (some ⟨g1,0,none⟩) (n+1) p1)) R2 #[.slice (some ⟨g0,0,none⟩) (n+1) p0,.slice (some ⟨g1,0,none⟩) (n+1) p1,v2]:=S1.store HF.out 1 _
 have B0:Hid (R2 0=(⟨40,1,v0,n,x0⟩:Rw).more g0 p0 [.slice none 0 0]):=Lib.hid (by rw [hR2,upd_other _ _ (by omega),A0.out])
 have B1:Hid (R2 1=(⟨27,1,v1,n,x1⟩:Rw).more g1 p1 [.slice none 0 0]):=Lib.hid (by rw [hR2,upd_same])
 have B2:Hid (∀ i,i≠0→i≠1→R2 i=R i):=Lib.hid (fun i hi hj=>by rw [hR2,upd_other _ _ hj,A1.out i hi])
 obtain ⟨V2,hV2⟩:∃ V2,V2=w2.setCell ⟨W.heap.size,1,none⟩ (.slice (some ⟨g1,0,none⟩) (n+1) p1):=⟨_,rfl⟩
 rw [← hV2] at T2 ⊢
 have HT2:=Lib.hid T2
 have hok2:(⟨3,1,v2,n,x2⟩:Rw).ok (V2.alloc (.cells #[.int .i64 (-1)] 3)):=by rw [← HQ2.out,← B2.out 2 (by omega) (by omega)];exact (T2.alloc _).fam.own 2 (by omega)
 have hnew2:=heap_alloc_new V2 (.cells #[.int .i64 (-1)] 3)
 clear hV2 hR2 S1 k1 k2 k3 hok1 hnew1 c0 c1 c2 f0 f1 f2 d0 d1 d2 e0 e1 e2 A0 A1
 obtain ⟨c0,c1,c2,f0,f1,f2⟩:=T2.cells
 clear T2
 go_upto_region 4 with (at_builtin;refine wpList_fam rfl _ _ 27 rfl ⟨3,1,v2,n,x2⟩ Tryz.underlying27 infoI8 rfl Nat.zero_lt_one (by decide) hok2 rfl V2.heap.size rfl [.int .i64 (-1)] hnew2 rfl (by simp [Value.oneCell']) h8 ?_;intro g2 p2 w3 k1 k2 k3;have S1:=(HT2.out.alloc (.cells #[.int .i64 (-1)] 3)).app HF.out (i:=2) (by omega) (g:=g2) (by rw [B2.out 2 (by omega) (by omega),HQ2.out];exact k2) k1 rfl (by rw [B2.out 2 (by omega) (by omega),HQ2.out];exact k3);obtain ⟨d0,d1,d2,e0,e1,e2⟩:=S1.cells)
 obtain ⟨R3,hR3⟩:∃ R3,R3=upd R2 2 ((⟨3,1,v2,n,x2⟩:Rw).more g2 p2 [.int .i64 (-1)]):=⟨_,rfl⟩
 rw [← hR3] at S1
 have T3:StS W (3+2*n) R (w3.setCell ⟨W.heap.size,2,none⟩ (.slice (some ⟨g2,0,none⟩) (n+1) p2)) R3 #[.slice (some ⟨g0,0,none⟩) (n+1) p0,.slice (some ⟨g1,0,none⟩) (n+1) p1,.slice (some ⟨g2,0,none⟩) (n+1) p2]:=S1.store HF.out 2 _
 have C0:R3 0=(⟨40,1,v0,n,x0⟩:Rw).more g0 p0 [.slice none 0 0]:=by rw [hR3,upd_other _ _ (by omega),B0.out]
 have C1:R3 1=(⟨27,1,v1,n,x1⟩:Rw).more g1 p1 [.slice none 0 0]:=by rw [hR3,upd_other _ _ (by omega),B1.out]
 have C2:R3 2=(⟨3,1,v2,n,x2⟩:Rw).more g2 p2 [.int .i64 (-1)]:=by rw [hR3,upd_same]
 have C3:∀ i,3≤i→R3 i=R i:=fun i hi=>by rw [hR3,upd_other _ _ (by omega),B2.out i (by omega) (by omega)]
 obtain ⟨V3,hV3⟩:∃ V3,V3=w3.setCell ⟨W.heap.size,2,none⟩ (.slice (some ⟨g2,0,none⟩) (n+1) p2):=⟨_,rfl⟩
 rw [← hV3] at T3 ⊢
 have hsz:=T3.size
 have HE:Hid (MV (put3 V3 (W.heap.size+1) (.slice (some ⟨g0,0,none⟩) (n+1) p0) (.slice (some ⟨g1,0,none⟩) (n+1) p1) (.slice (some ⟨g2,0,none⟩) (n+1) p2)) (Onew O W) B (.agg #[.slice (some ⟨g0,0,none⟩) (n+1) p0,.slice (some ⟨g1,0,none⟩) (n+1) p1,.slice (some ⟨g2,0,none⟩) (n+1) p2]) (stF m)∧Frm O W (put3 V3 (W.heap.size+1) (.slice (some ⟨g0,0,none⟩) (n+1) p0) (.slice (some ⟨g1,0,none⟩) (n+1) p1) (.slice (some ⟨g2,0,none⟩) (n+1) p2))):=Lib.hid (by
  have hN:=HN.out
  have hB:∀ k,B k→(put3 V3 (W.heap.size+1) (.slice (some ⟨g0,0,none⟩) (n+1) p0) (.slice (some ⟨g1,0,none⟩) (n+1) p1) (.slice (some ⟨g2,0,none⟩) (n+1) p2)).heap[k]? = W.heap[k]?:=fun k hk=>by
   have:=HR.out.bl k hk
   rw [put3_other _ _ _ _ _ _ (by omega)]
   exact T3.old k this (fun hh=>HR.out.nb k (by rw [← hN];exact hh) hk)
  have hs := HR.out.state (R' := R3) (W' := put3 V3 (W.heap.size + 1) (.slice (some ⟨g0, 0, none⟩) (n + 1) p0) (.slice (some ⟨g1, 0, none⟩) (n + 1) p1) (.slice (some ⟨g2, 0, none⟩) (n + 1) p2)) (by rw [put3_size]; omega) hB
   (by rw [← hN];exact T3.fam.kept (fun k hk=>put3_other _ _ _ _ _ _ (fun e=>T3.far HF.out (.inr e) hk)))
   (fun k hk hBk=>by
    rw [← hN] at hk
    rcases T3.has k hk with hk | hk
    ·exact HR.out.nb k (by rw [← hN];exact hk) hBk
    ·have:=HR.out.bl k hBk;omega)
   (by rw [C0,HQ0.out,← hN];exact ⟨rfl,rfl,rfl,rfl⟩) (by rw [C1,HQ1.out,← hN];exact ⟨rfl,rfl,rfl,rfl⟩) (by rw [C2,HQ2.out,← hN];exact ⟨rfl,rfl,rfl,rfl⟩) (fun i hi _=>C3 i hi)
  obtain ⟨R4,h1,h2,h3⟩:=hs
  refine ⟨⟨R4,h1,?_,fun k hk=>?_⟩,T3.done _ _ _ (fun k hk=>HO.out k (by rw [← hN];exact hk))⟩
  ·rw [h2 0 (by omega), h2 1 (by omega), h2 2 (by omega), C0, C1, C2]
   rfl
  ·have hk := h3 k hk
   rw [← hN] at hk
   rcases T3.has k hk with hk | hk
   ·exact .inl (HO.out k (by rw [← hN];exact hk))
   ·exact .inr (by omega))
 have HT3:=Lib.hid T3
 clear hV3 hR3 S1 k1 k2 k3 hok2 hnew2 c0 c1 c2 f0 f1 f2 d0 d1 d2 e0 e1 e2 B0 B1 B2 C0 C1 C2 C3
 obtain ⟨c0,c1,c2,_⟩:=T3.cells
 obtain ⟨⟨x,y,z,y0,y1,y2⟩,f0,f1,f2⟩:=T3.rescells
 clear T3 hsz
 go_wp2
 exact ret_nfa rfl rfl HT3.out.res ⟨_,rfl,HE.out⟩
end Go.Proofs.YtioahgklplbinaaGreatDoor
namespace Go.Proofs.YtioahgklplbinaaGreatDoor
open Go.RowKit Go.Shelf Go.Maps SetM WrM NfaM
theorem StS.drew {W V:World} {n:Nat} {R Rk:Nat→Rw} {cs:Array Value} (h:StS W n R V Rk cs):StS W n R V.drew Rk cs :=
 ⟨h.fam.kept (fun _ _=>rfl),h.box,h.res,h.os,h.tape,h.output,h.size,h.old,h.has⟩
theorem Rw.ok.form {W:World} {e:TypeId} {s n:Nat} {v:Value} {xs:List Value} (h:(⟨e,s,v,n,xs⟩:Rw).ok W) (hn:0 < n):∃ g cap,v=.slice (some ⟨g,0,none⟩) n cap∧g < W.heap.size :=
 let ⟨g,cap,h1,_,h2⟩:=World.ownsRow.form h hn
 ⟨g,cap,h1,h2⟩
theorem Rw.ok.at {W:World} {e:TypeId} {n g cap:Nat} {xs:List Value} (h:(⟨e,1,.slice (some ⟨g,0,none⟩) n cap,n,xs⟩:Rw).ok W) {i:Nat} (hi:i < n):W.cell? ⟨g,i,none⟩=xs[i]?∧W.frozen? ⟨g,i,none⟩=false :=
 ⟨World.ownsRow.cellAt h i (by show i < n*1;omega),World.ownsRow.frozenAt h i⟩
theorem end_mv {W X V2 : World} {B O : Nat → Prop} {R R2 : Nat → Rw} {m m2 : Mc} {a b c : Value} (h : MVx V2 B R2 m2) (hl : m2.tg.length = m.tg.length) (hR : MVx W B R m) (hO : ∀ k, Has (3 + 2 * m.tg.length) R k → O k)
  (hh:∀ k,Has (3+2*m.tg.length) R2 k→Has (3+2*m.tg.length) R k∨k=X.heap.size) (ho:∀ k,k < X.heap.size→¬ Has (3+2*m.tg.length) R k→V2.heap[k]? = X.heap[k]?) (hS:StS W (3+2*m.tg.length) R X R #[a,b,c]) (hw:X.heap.size≤V2.heap.size∧V2.os=X.os∧V2.tape=X.tape∧V2.output=X.output)
  (e0:a=(R2 0).v) (e1:b=(R2 1).v) (e2:c=(R2 2).v) :
  StS W (3+2*m.tg.length) R V2 R2 #[a,b,c]∧MV (put3 V2 (W.heap.size+1) a b c) (Onew O W) B (.agg #[a,b,c]) m2∧Frm O W (put3 V2 (W.heap.size+1) a b c):=by
 have hs:=hS.size
 have S2:StS W (3+2*m.tg.length) R V2 R2 #[a,b,c]:=⟨by rw [← hl];exact h.fam,(ho _ (by omega) (hS.far hR.fam (.inl rfl))).trans hS.box,(ho _ (by omega) (hS.far hR.fam (.inr rfl))).trans hS.res,hw.2.1.trans hS.os,hw.2.2.1.trans hS.tape,hw.2.2.2.trans hS.output,by omega,
  fun x hx hn=>(ho x (by omega) hn).trans (hS.old x hx hn),fun x hx=>by
   rcases hh x hx with hx | hx
   ·exact .inl hx
   ·right;omega⟩
 refine ⟨S2,⟨R2,h.kept (by rw [put3_size];exact Nat.le_refl _) (fun k hk=>put3_other _ _ _ _ _ _ (fun e=>?_)),by rw [e0,e1,e2],fun k hk=>?_⟩,S2.done a b c hO⟩
 ·subst e
  rcases hk with hk | hk
  ·rw [hl] at hk
   exact S2.far hR.fam (.inr rfl) hk
  ·have:=hR.bl _ hk;omega
 ·rw [hl] at hk
  rcases hh k hk with hk | hk
  ·exact .inl (hO k hk)
  ·right;omega
set_option maxRecDepth 100000 in
set_option maxHeartbeats 4000000 in
theorem free_c {W : World} {O B : Nat → Prop} {v : Value} {m : Mc} {i : Nat} {t : Int} (h : MV W O B v m) (hi : i < m.tg.length) (h8 : m.tg.length ≤ 1000000) (h9 : (m.fr.getD i []).length ≤ 1000000) :
  Calls Tryz.prog 56 #[v,.int .i64 i,.int .i64 t] W fun e W'=>∃ v',e=.returned v'∧MV W' (Onew O W) B v' (frF m i t)∧Frm O W W':=by
 obtain ⟨R,hR,rfl,hO⟩:=h
 obtain ⟨n,hn⟩:∃ n,n=m.tg.length:=⟨_,rfl⟩
 obtain ⟨l,hl⟩:∃ l,l=(m.fr.getD i []).length:=⟨_,rfl⟩
 have hfam:=hR.fam
 have q1:=rw_eta hR.r1
 have qr:=rw_eta (hR.rf i hi)
 have hx1:=hR.r1.2.2.2
 have hxr:=(hR.rf i hi).2.2.2
 rw [← hl] at h9 qr
 rw [← hn] at hi h8 hfam q1 hx1
 obtain ⟨v0,hv0⟩:∃ v,v=(R 0).v:=⟨_,rfl⟩
 obtain ⟨v1,hv1⟩:∃ v,v=(R 1).v:=⟨_,rfl⟩
 obtain ⟨v2,hv2⟩:∃ v,v=(R 2).v:=⟨_,rfl⟩
 obtain ⟨vr,hvr⟩:∃ v,v=(R (4+2*i)).v:=⟨_,rfl⟩
 obtain ⟨x1,hxx1⟩:∃ x,x=(R 1).xs:=⟨_,rfl⟩
 obtain ⟨xr,hxxr⟩:∃ x,x=(R (4+2*i)).xs:=⟨_,rfl⟩
 rw [← hv1,← hxx1] at q1
 rw [← hvr,← hxxr] at qr
 rw [← hxx1] at hx1
 rw [← hxxr] at hxr
 have hxi:x1[i]? = some vr:=by rw [hx1,hvr];simp [hi]
 have hok1W:(⟨27,1,v1,n,x1⟩:Rw).ok W:=by rw [← q1];exact hfam.own 1 (by omega)
 obtain ⟨gF,cF,hvF,hgF⟩:=hok1W.form (by omega)
 have HVF:Hid ((R 1).v=.slice (some ⟨gF,0,none⟩) n cF):=Lib.hid (by rw [← hv1,hvF])
 obtain ⟨gE,cE,hvE,_⟩:∃ g cap,v0=.slice (some ⟨g,0,none⟩) n cap∧g < W.heap.size:=by
  have q0:=rw_eta hR.r0
  have:=hfam.own 0 (by omega)
  rw [q0,← hn,← hv0] at this
  exact this.form (by omega)
 obtain ⟨gT,cT,hvT,_⟩:∃ g cap,v2=.slice (some ⟨g,0,none⟩) n cap∧g < W.heap.size:=by
  have q2:=rw_eta hR.r2
  have:=hfam.own 2 (by omega)
  rw [q2,← hn,← hv2] at this
  exact this.form (by omega)
 rw [← hv0,← hv1,← hv2]
 subst hvE hvT
 obtain ⟨V,hV⟩:∃ V,V=(W.alloc (.cells #[.slice (some ⟨gE,0,none⟩) n cE,v1,.slice (some ⟨gT,0,none⟩) n cT] 29)).alloc (.cells #[.slice none 0 0,.slice none 0 0,.slice none 0 0] 29):=⟨_,rfl⟩
 have S0:StS W (3+2*n) R V R #[.slice (some ⟨gE,0,none⟩) n cE,v1,.slice (some ⟨gT,0,none⟩) n cT]:=by rw [hV];exact StS.start hfam _
 rw [hvF] at q1 S0 hok1W hV ⊢
 have HS0:=Lib.hid S0
 have HQ1:=Lib.hid q1
 have HQR:=Lib.hid qr
 have HN:=Lib.hid hn
 have HL:=Lib.hid hl
 have HXR:=Lib.hid hxr
 have HR:=Lib.hid hR
 have HO:=Lib.hid hO
 have HF:=Lib.hid hfam
 have HXI:=Lib.hid hxi
 have HV3:=Lib.hid (And.intro hv0 (And.intro (hvF ▸ hv1) hv2))
 have HBX:Hid (Below W.heap.size W (V.alloc (.cells #[.int .i64 t] 3)).drew):=Lib.hid (by rw [hV];exact ((((Below.refl _ _).alloc (Nat.le_refl _) _).alloc (by rw [World.size_alloc];omega) _).alloc (by rw [World.size_alloc,World.size_alloc];omega) _).drew)
 have HVR:=Lib.hid hvr
 have hokV:(⟨27,1,.slice (some ⟨gF,0,none⟩) n cF,n,x1⟩:Rw).ok V:=by rw [← q1];exact S0.fam.own 1 (by omega)
 have hF:=(hokV.at hi).1.trans hxi
 have hFf:=(hokV.at hi).2
 obtain ⟨c0,c1,c2,f0,f1,f2⟩:=S0.cells
 have SX:=(S0.alloc (.cells #[.int .i64 t] 3)).drew
 have HSX:=Lib.hid SX
 have hokr:(⟨3,1,vr,l,xr⟩:Rw).ok (V.alloc (.cells #[.int .i64 t] 3)).drew:=by rw [← qr];exact SX.fam.own (4+2*i) (by omega)
 have hokX:(⟨27,1,.slice (some ⟨gF,0,none⟩) n cF,n,x1⟩:Rw).ok (V.alloc (.cells #[.int .i64 t] 3)).drew:=by rw [← q1];exact SX.fam.own 1 (by omega)
 have hFX:=(hokX.at hi).1.trans hxi
 have hFfX:=(hokX.at hi).2
 obtain ⟨b0,b1,b2,a0,a1,a2⟩:=SX.cells
 clear hokX
 have hnew:=heap_alloc_new V (.cells #[.int .i64 t] 3)
 have h0:(0:Int)≤(i:Int):=by omega
 have hlt:(i:Int) < (n:Int):=by omega
 have HEA:Hid (∀ (g p:Nat) (w1 V2:World),((⟨3,1,vr,l,xr⟩:Rw).more g p [.int .i64 t]).ok w1→(V.alloc (.cells #[.int .i64 t] 3)).drew.grownBy w1 vr.ownBlock→(vr.ownBlock=some g∨g=(V.alloc (.cells #[.int .i64 t] 3)).drew.heap.size)→V2=w1.setCell ⟨gF,i,none⟩ (.slice (some ⟨g,0,none⟩) (l+1) p)→(∃ R2,StS W (3+2*m.tg.length) R V2 R2 #[.slice (some ⟨gE,0,none⟩) n cE,.slice (some ⟨gF,0,none⟩) n cF,.slice (some ⟨gT,0,none⟩) n cT])∧MV (put3 V2 (W.heap.size+1) (.slice (some ⟨gE,0,none⟩) n cE) (.slice (some ⟨gF,0,none⟩) n cF) (.slice (some ⟨gT,0,none⟩) n cT)) (Onew O W) B (.agg #[.slice (some ⟨gE,0,none⟩) n cE,.slice (some ⟨gF,0,none⟩) n cF,.slice (some ⟨gT,0,none⟩) n cT]) (frF m i t)∧Frm O W (put3 V2 (W.heap.size+1) (.slice (some ⟨gE,0,none⟩) n cE) (.slice (some ⟨gF,0,none⟩) n cF) (.slice (some ⟨gT,0,none⟩) n cT))):=Lib.hid (by
   intro g p w1 V2 k1 k2 k3 hV2
   have hN:=HN.out
   have hm := (HR.out.kept (W' := (V.alloc (.cells #[.int .i64 t] 3)).drew) HBX.out.size (fun k hk => HBX.out.block k (hk.elim (fun h => HR.out.fam.lt h) (fun h => HR.out.bl k h)))).free (i := i) (t := t) (by rw [← hN]; exact hi) (r := (⟨3, 1, vr, l, xr⟩ : Rw).more g p [.int .i64 t]) (g := g) (W1 := w1) (by rw [HQR.out]; exact k2) k1 rfl (by rw [HQR.out]; exact k3)
    ⟨rfl,rfl,by rw [← HL.out];rfl,by show xr++_=_;rw [HXR.out,List.map_append];rfl⟩ (by rw [HVF.out,← hN])
   have hz:=k2.size
   have hq:=end_mv (O:=O) (W:=W) (m:=m) (m2:=frF m i t) (a:= .slice (some ⟨gE,0,none⟩) n cE) (b:= .slice (some ⟨gF,0,none⟩) n cF) (c:= .slice (some ⟨gT,0,none⟩) n cT) hm.1 rfl HR.out HO.out hm.2.1 hm.2.2 (by rw [← hN];exact HSX.out) ⟨by rw [World.size_setCell];exact hz,k2.os,k2.tape,k2.output⟩ (by rw [upd_other _ _ (by omega),upd_other _ _ (by omega)];exact HV3.out.1) (by rw [upd_same];exact HV3.out.2.1) (by rw [upd_other _ _ (by omega),upd_other _ _ (by omega)];exact HV3.out.2.2)
   rw [hV2]
   exact ⟨⟨_,hq.1⟩,hq.2⟩)
 clear hn hl hx1 hxr hxx1 hxxr hR hO hv0 hv1 hv2 hvr hfam S0 q1 qr hxi hok1W hvF hokV SX hgF
 go_enter Tryz.func56,Tryz.ntmps56
 go_upto_region 1 with fail
 rw [← hV]
 clear hV
 go_cut [] (fun wc=>Hid ((∃ R2,StS W (3+2*m.tg.length) R wc R2 #[.slice (some ⟨gE,0,none⟩) n cE,.slice (some ⟨gF,0,none⟩) n cF,.slice (some ⟨gT,0,none⟩) n cT])∧MV (put3 wc (W.heap.size+1) (.slice (some ⟨gE,0,none⟩) n cE) (.slice (some ⟨gF,0,none⟩) n cF) (.slice (some ⟨gT,0,none⟩) n cT)) (Onew O W) B (.agg #[.slice (some ⟨gE,0,none⟩) n cE,.slice (some ⟨gF,0,none⟩) n cF,.slice (some ⟨gT,0,none⟩) n cT]) (frF m i t)∧Frm O W (put3 wc (W.heap.size+1) (.slice (some ⟨gE,0,none⟩) n cE) (.slice (some ⟨gF,0,none⟩) n cF) (.slice (some ⟨gT,0,none⟩) n cT))))
 case first =>
  go_region_law (first
   | (refine step_fam (by rfl) _ _ 27 (by rfl) ⟨3,1,vr,l,xr⟩ Tryz.underlying27 infoI8 rfl Nat.zero_lt_one (by decide) hokr (by rfl) V.heap.size (by rfl) [.int .i64 t] hnew rfl (by simp [Value.oneCell']) h9 ?_;intro g p w1 k1 k2 k3;have S1:=HSX.out.app HF.out (i:=4+2*i) (by omega) (g:=g) (by rw [HQR.out];exact k2) k1 rfl (by rw [HQR.out];exact k3);obtain ⟨d0,d1,d2,e0,e1,e2⟩:=S1.cells;have hok2:(⟨27,1,.slice (some ⟨gF,0,none⟩) n cF,n,x1⟩:Rw).ok w1:=(by rw [← HQ1.out];have:=S1.fam.own 1 (by omega);rw [upd_other _ _ (by omega)] at this;exact this);have hF2:=(hok2.at hi).1.trans HXI.out;have hFf2:=(hok2.at hi).2))
  all_goals
   have he:=Lib.hid (HEA.out g p w1 _ k1 k2 k3 rfl)
   clear k1 k2 k3 S1 c0 c1 c2 f0 f1 f2 d0 d1 d2 e0 e1 e2 b0 b1 b2 a0 a1 a2 hF hFf hFX hFfX hF2 hFf2 hok2 hokr hnew HEA
   go_wp2
   go_meet
   exact he
 case rest =>
  clear c0 c1 c2 f0 f1 f2 b0 b1 b2 a0 a1 a2 hF hFf hFX hFfX hokr hnew HEA
  obtain ⟨⟨R2,hS2⟩,hE2⟩:=hcut.out
  have HE2:=Lib.hid hE2
  have HRS:=Lib.hid hS2.res
  obtain ⟨c0,c1,c2,_⟩:=hS2.cells
  obtain ⟨⟨x,y,z,y0,y1,y2⟩,f0,f1,f2⟩:=hS2.rescells
  clear hS2 hE2 hcut
  go_wp2
  exact ret_nfa rfl rfl HRS.out ⟨_,rfl,HE2.out⟩
end Go.Proofs.YtioahgklplbinaaGreatDoor
