/- NMB, NMW, NAgain, NLL, NCT, in one text. -/
import Derived.Test.YtioahgklplbinaaGreatDoorNMA
import Derived.Test.YtioahgklplbinaaGreatDoorVRead
import Derived.Deep.AppendLies
import Derived.Deep.RegionLaw
import Derived.Deep.DeepCutAuto
import Derived.Deep.RegionHeld3
import Derived.Deep.RegionWith
/- NMem, NFree, NApp, NState, NFreeC, in one text. -/
namespace Go.Proofs.YtioahgklplbinaaGreatDoor
open Go.RowKit Go.Shelf Go.Maps SetM WrM NfaM
def EdC (W : World) (B : Nat → Prop) : List Value → List (Int × List Sp) → Prop
 | [],[]=>True
 | a::b::cs,e::es=>(∃ sp sc,a=.int .i64 e.1∧b=.slice sp (List.length e.2) sc∧e.2.length≤100000∧Sl W sp e.2∧(sp=none→sc=0)∧(e.2≠[]→∀ x,sp=some x→B x.block))∧EdC W B cs es
 | _,_=>False
theorem EdC.kept {W W' : World} {B : Nat → Prop} (hs : W.heap.size ≤ W'.heap.size) (hb : ∀ k, B k → W'.heap[k]? = W.heap[k]?) : ∀ {cs : List Value} {es : List (Int × List Sp)}, EdC W B cs es → EdC W' B cs es
 | [],[],_=>trivial
 | a::b::cs,e::es,h=>by
  obtain ⟨⟨sp,sc,h1,h2,h3,h4,h5,h6⟩,h7⟩:=h
  refine ⟨⟨sp,sc,h1,h2,h3,fun hne=>?_,h5,h6⟩,EdC.kept hs hb h7⟩
  obtain ⟨x,o,e1,e2,e3⟩:=h4 hne
  have hq:=hb x (h6 hne _ e1)
  exact ⟨x,o,e1,Nat.lt_of_lt_of_le e2 hs,fun j hj=>⟨(World.cell?_of_block (a:=⟨x,o+j*2,none⟩) hq).trans (e3 j hj).1,(World.cell?_of_block (a:=⟨x,o+j*2+1,none⟩) hq).trans (e3 j hj).2⟩⟩
 | [],_::_,h=>h.elim
 | [_],[],h=>h.elim
 | [_],_::_,h=>h.elim
 | _::_::_,[],h=>h.elim
theorem EdC.push {W : World} {B : Nat → Prop} {a b : Value} {e : Int × List Sp} (hn : EdC W B [a, b] [e]) : ∀ {cs : List Value} {es : List (Int × List Sp)}, EdC W B cs es → EdC W B (cs ++ [a, b]) (es ++ [e])
 | [],[],_=>hn
 | _::_::_,_::_,h=>⟨h.1,EdC.push hn h.2⟩
 | [],_::_,h=>h.elim
 | [_],[],h=>h.elim
 | [_],_::_,h=>h.elim
 | _::_::_,[],h=>h.elim
structure MVx (W : World) (B : Nat → Prop) (R : Nat → Rw) (m : Mc) : Prop where
 l1:m.ed.length=m.tg.length
 l2:m.fr.length=m.tg.length
 fam:Fam W (3+2*m.tg.length) R
 nb:∀ k,Has (3+2*m.tg.length) R k→¬ B k
 bl:∀ k,B k→k < W.heap.size
 r0:(R 0).e = 40∧(R 0).s=1∧(R 0).n=m.tg.length∧(R 0).xs=(List.range m.tg.length).map (fun i=>(R (3+2*i)).v)
 r1:(R 1).e = 27∧(R 1).s=1∧(R 1).n=m.tg.length∧(R 1).xs=(List.range m.tg.length).map (fun i=>(R (4+2*i)).v)
 r2:(R 2).e = 3∧(R 2).s=1∧(R 2).n=m.tg.length∧(R 2).xs=m.tg.map (.int .i64)
 re:∀ i,i < m.tg.length→(R (3+2*i)).e = 43∧(R (3+2*i)).s=2∧(R (3+2*i)).n=(m.ed.getD i []).length∧EdC W B (R (3+2*i)).xs (m.ed.getD i [])
 rf:∀ i,i < m.tg.length→(R (4+2*i)).e = 3∧(R (4+2*i)).s=1∧(R (4+2*i)).n=(m.fr.getD i []).length∧(R (4+2*i)).xs=(m.fr.getD i []).map (.int .i64)
theorem MVx.kept {W W':World} {B:Nat→Prop} {R:Nat→Rw} {m:Mc} (h:MVx W B R m) (hs:W.heap.size≤W'.heap.size) (hb:∀ k,Has (3+2*m.tg.length) R k∨B k→W'.heap[k]? = W.heap[k]?):MVx W' B R m :=
  { h with
    fam:=h.fam.kept (fun k hk=>hb k (.inl hk))
    bl:=fun k hk=>Nat.lt_of_lt_of_le (h.bl k hk) hs
    re:=fun i hi=>⟨(h.re i hi).1,(h.re i hi).2.1,(h.re i hi).2.2.1,(h.re i hi).2.2.2.kept hs (fun k hk=>hb k (.inr hk))⟩ }
theorem infoEs:(Tryz.prog.info? 40).map (fun i=>(i.zero,i.size,i.bytes))=some (some (.slice none 0 0),1,24):=by kernel_rfl
theorem infoIs:(Tryz.prog.info? 27).map (fun i=>(i.zero,i.size,i.bytes))=some (some (.slice none 0 0),1,24):=by kernel_rfl
theorem infoI8:(Tryz.prog.info? 3).map (fun i=>(i.zero,i.size,i.bytes))=some (some (.int .i64 0),1,8):=by kernel_rfl
theorem infoE8:(Tryz.prog.info? 43).map (fun i=>(i.zero,i.size,i.bytes))=some (some (.agg #[.int .i64 0,.slice none 0 0]),2,32):=by kernel_rfl
theorem MVx.state {W W' : World} {B : Nat → Prop} {R R' : Nat → Rw} {m : Mc} (h : MVx W B R m) (hs : W.heap.size ≤ W'.heap.size) (hB : ∀ k, B k → W'.heap[k]? = W.heap[k]?) (hf : Fam W' (3 + 2 * m.tg.length) R') (hn : ∀ k, Has (3 + 2 * m.tg.length) R' k → ¬ B k)
  (h0:(R' 0).e=(R 0).e∧(R' 0).s=1∧(R' 0).n=m.tg.length+1∧(R' 0).xs=(R 0).xs++[.slice none 0 0]) (h1:(R' 1).e=(R 1).e∧(R' 1).s=1∧(R' 1).n=m.tg.length+1∧(R' 1).xs=(R 1).xs++[.slice none 0 0])
  (h2:(R' 2).e=(R 2).e∧(R' 2).s=1∧(R' 2).n=m.tg.length+1∧(R' 2).xs=(R 2).xs++[.int .i64 (-1)]) (ho:∀ i,3≤i→i < 3+2*m.tg.length→R' i=R i) :
  ∃ R2,MVx W' B R2 (stF m)∧(∀ i,i < 3+2*m.tg.length→R2 i=R' i)∧∀ k,Has (3+2*(stF m).tg.length) R2 k→Has (3+2*m.tg.length) R' k:=by
 obtain ⟨n,hnl⟩:∃ n,n=m.tg.length:=⟨_,rfl⟩
 have a1:=hf.more (Rw.nil_ok W' 43 2) rfl
 have a2:=a1.1.more (Rw.nil_ok W' 3 1) rfl
 obtain ⟨R2,hR2⟩:∃ R2,R2=upd (upd R' (3+2*m.tg.length) ⟨43,2,.slice none 0 0,0,[]⟩) (3+2*m.tg.length+1) ⟨3,1,.slice none 0 0,0,[]⟩:=⟨_,rfl⟩
 rw [← hR2] at a2
 have old:∀ i,i < 3+2*m.tg.length→R2 i=R' i:=fun i hi=>by rw [hR2,upd_other _ _ (by omega),upd_other _ _ (by omega)]
 have n1:R2 (3+2*m.tg.length)=⟨43,2,.slice none 0 0,0,[]⟩:=by rw [hR2,upd_other _ _ (by omega),upd_same]
 have n2:R2 (4+2*m.tg.length)=⟨3,1,.slice none 0 0,0,[]⟩:=by rw [hR2,show 4+2*m.tg.length=3+2*m.tg.length+1 by omega,upd_same]
 have hl:(stF m).tg.length=m.tg.length+1:=by simp [stF]
 have hh:∀ k,Has (3+2*(stF m).tg.length) R2 k→Has (3+2*m.tg.length) R' k:=fun k hk=>a1.2 k (a2.2 k (by rw [hl] at hk;exact hk))
 have g1:∀ i,i < m.tg.length→R2 (3+2*i)=R (3+2*i):=fun i hi=>by rw [old _ (by omega),ho _ (by omega) (by omega)]
 have g2:∀ i,i < m.tg.length→R2 (4+2*i)=R (4+2*i):=fun i hi=>by rw [old _ (by omega),ho _ (by omega) (by omega)]
 have d1:∀ i,i < m.tg.length→(stF m).ed.getD i []=m.ed.getD i []:=fun i hi=>by
  have:=h.l1
  simp only [stF,List.getD_eq_getElem?_getD]
  rw [List.getElem?_append_left (by omega)]
 have d2:∀ i,i < m.tg.length→(stF m).fr.getD i []=m.fr.getD i []:=fun i hi=>by
  have:=h.l2
  simp only [stF,List.getD_eq_getElem?_getD]
  rw [List.getElem?_append_left (by omega)]
 have d3:(stF m).ed.getD m.tg.length []=[]:=by
  have:=h.l1
  simp only [stF,List.getD_eq_getElem?_getD]
  rw [List.getElem?_append_right (by omega)]
  simp [this]
 have d4:(stF m).fr.getD m.tg.length []=[]:=by
  have:=h.l2
  simp only [stF,List.getD_eq_getElem?_getD]
  rw [List.getElem?_append_right (by omega)]
  simp [this]
 refine ⟨R2,⟨by simp [stF,h.l1],by simp [stF,h.l2],by rw [hl];exact a2.1,fun k hk=>hn k (hh k hk),fun k hk=>Nat.lt_of_lt_of_le (h.bl k hk) hs,?_,?_,?_,fun i hi=>?_,fun i hi=>?_⟩,old,hh⟩
 ·rw [old 0 (by omega)]
  refine ⟨h0.1.trans h.r0.1,h0.2.1,by rw [h0.2.2.1,hl],?_⟩
  rw [h0.2.2.2,h.r0.2.2.2,hl,List.range_succ,List.map_append,List.map_cons,List.map_nil,n1]
  congr 1
  refine List.map_congr_left (fun i hi=>?_)
  rw [g1 i (List.mem_range.1 hi)]
 ·rw [old 1 (by omega)]
  refine ⟨h1.1.trans h.r1.1,h1.2.1,by rw [h1.2.2.1,hl],?_⟩
  rw [h1.2.2.2,h.r1.2.2.2,hl,List.range_succ,List.map_append,List.map_cons,List.map_nil,n2]
  congr 1
  refine List.map_congr_left (fun i hi=>?_)
  rw [g2 i (List.mem_range.1 hi)]
 ·rw [old 2 (by omega)]
  refine ⟨h2.1.trans h.r2.1,h2.2.1,by rw [h2.2.2.1,hl],?_⟩
  rw [h2.2.2.2,h.r2.2.2.2]
  simp [stF]
 ·rw [hl] at hi
  by_cases e:i=m.tg.length
  ·subst e
   rw [n1,d3]
   exact ⟨rfl,rfl,rfl,trivial⟩
  ·have hi' : i < m.tg.length := by omega
   rw [g1 i hi',d1 i hi']
   have:=h.re i hi'
   exact ⟨this.1,this.2.1,this.2.2.1,this.2.2.2.kept hs hB⟩
 ·rw [hl] at hi
  by_cases e:i=m.tg.length
  ·subst e
   rw [n2,d4]
   exact ⟨rfl,rfl,rfl,rfl⟩
  ·have hi' : i < m.tg.length := by omega
   rw [g2 i hi',d2 i hi']
   exact h.rf i hi'
end Go.Proofs.YtioahgklplbinaaGreatDoor
namespace Go.Proofs.YtioahgklplbinaaGreatDoor
open Go.RowKit Go.Shelf Go.Maps SetM WrM NfaM
theorem map_set {f:Nat→Value} (n i:Nat) (v:Value):((List.range n).map f).set i v=(List.range n).map (fun j=>if j=i then v else f j):=by
 refine List.ext_getElem (by simp) (fun j hj hj'=>?_)
 simp at hj'
 rw [List.getElem_set]
 simp only [List.getElem_map,List.getElem_range]
 by_cases e:i=j
 ·subst e;simp
 ·rw [if_neg e,if_neg (fun h=>e h.symm)]
theorem getD_set {α:Type} (l:List (List α)) (i j:Nat) (x:List α) (hi:i < l.length):(l.set i x).getD j []=if j=i then x else l.getD j []:=by
 simp only [List.getD_eq_getElem?_getD,List.getElem?_set]
 by_cases e:i=j
 ·subst e;simp [hi]
 ·rw [if_neg e,if_neg (fun h=>e h.symm)]
theorem MVx.touch {W W1 : World} {B : Nat → Prop} {R : Nat → Rw} {m : Mc} (h : MVx W B R m) {i q : Nat} (hq : q < 2) (hi : i < m.tg.length) {r : Rw} {g : Nat} (hg : W.grownBy W1 (R (3 + q + 2 * i)).v.ownBlock) (hr : r.ok W1) (hv : r.v.ownBlock = some g) (hat : (R (3 + q + 2 * i)).v.ownBlock = some g ∨ g = W.heap.size)
  {g1 len c1:Nat} (h1:(R q).v=.slice (some ⟨g1,0,none⟩) len c1) (hn1:(R q).n=len) :
  Fam (W1.setCell ⟨g1,i,none⟩ r.v) (3+2*m.tg.length) (upd (upd R (3+q+2*i) r) q { R q with xs:=(R q).xs.set i r.v }) ∧
  (∀ k,Has (3+2*m.tg.length) (upd (upd R (3+q+2*i) r) q { R q with xs:=(R q).xs.set i r.v }) k→Has (3+2*m.tg.length) R k∨k=W.heap.size) ∧
  (∀ k,B k→(W1.setCell ⟨g1,i,none⟩ r.v).heap[k]? = W.heap[k]?)∧W.heap.size≤(W1.setCell ⟨g1,i,none⟩ r.v).heap.size∧(∀ k,k < W.heap.size→¬ Has (3+2*m.tg.length) R k→(W1.setCell ⟨g1,i,none⟩ r.v).heap[k]? = W.heap[k]?):=by
 have a1:=h.fam.grow (i:=3+q+2*i) (by omega) hg hr hv hat
 have e1:upd R (3+q+2*i) r q=R q:=upd_other R r (by omega)
 have a2:=a1.1.store (i:=q) (by omega) (g:=g1) (len:=len) (cap:=c1) (by rw [e1];exact h1) (by rw [e1];exact hn1) i r.v
 rw [e1] at a2
 have hown:∀ k,(R (3+q+2*i)).v.ownBlock=some k→Has (3+2*m.tg.length) R k:=fun k hk=>⟨_,by omega,hk⟩
 have hg1:Has (3+2*m.tg.length) R g1:=⟨q,by omega,by rw [h1];rfl⟩
 have hall:∀ k,k < W.heap.size→¬ Has (3+2*m.tg.length) R k→(W1.setCell ⟨g1,i,none⟩ r.v).heap[k]? = W.heap[k]?:=fun k hk hn=>by
  rw [heap_setCell_other W1 ⟨g1,i,none⟩ k r.v (fun e=>hn (e ▸ hg1))]
  exact hg.block k hk (fun e=>hn (hown k e.symm))
 refine ⟨a2.1,fun k hk=>a1.2 k (a2.2 k hk),fun k hk=>hall k (h.bl k hk) (fun hh=>h.nb k hh hk),?_,hall⟩
 rw [World.size_setCell]
 exact hg.size
theorem MVx.free {W W1 : World} {B : Nat → Prop} {R : Nat → Rw} {m : Mc} (h : MVx W B R m) {i : Nat} {t : Int} (hi : i < m.tg.length) {r : Rw} {g : Nat} (hg : W.grownBy W1 (R (4 + 2 * i)).v.ownBlock) (hr : r.ok W1) (hv : r.v.ownBlock = some g) (hat : (R (4 + 2 * i)).v.ownBlock = some g ∨ g = W.heap.size)
  (he:r.e = 3∧r.s=1∧r.n=(m.fr.getD i []).length+1∧r.xs=(m.fr.getD i []++[t]).map (.int .i64)) {g1 c1:Nat} (h1:(R 1).v=.slice (some ⟨g1,0,none⟩) m.tg.length c1) :
  MVx (W1.setCell ⟨g1,i,none⟩ r.v) B (upd (upd R (4+2*i) r) 1 { R 1 with xs:=(R 1).xs.set i r.v }) (frF m i t)∧(∀ k,Has (3+2*m.tg.length) (upd (upd R (4+2*i) r) 1 { R 1 with xs:=(R 1).xs.set i r.v }) k→Has (3+2*m.tg.length) R k∨k=W.heap.size)∧(∀ k,k < W.heap.size→¬ Has (3+2*m.tg.length) R k→(W1.setCell ⟨g1,i,none⟩ r.v).heap[k]? = W.heap[k]?):=by
 have ht:=h.touch (q:=1) (by omega) hi (r:=r) (g:=g) hg hr hv hat h1 h.r1.2.2.1
 obtain ⟨f1,f2,f3,f4,f5⟩:=ht
 obtain ⟨R2,hR2⟩:∃ R2,R2=upd (upd R (4+2*i) r) 1 { R 1 with xs:=(R 1).xs.set i r.v }:=⟨_,rfl⟩
 have f1':Fam (W1.setCell ⟨g1,i,none⟩ r.v) (3+2*m.tg.length) R2:=by rw [hR2];exact f1
 have f2':∀ k,Has (3+2*m.tg.length) R2 k→Has (3+2*m.tg.length) R k∨k=W.heap.size:=by rw [hR2];exact f2
 rw [← hR2]
 have o:∀ j,j≠4+2*i→j≠1→R2 j=R j:=fun j h1 h2=>by rw [hR2,upd_other _ _ h2,upd_other _ _ h1]
 have n1:R2 (4+2*i)=r:=by rw [hR2,upd_other _ _ (by omega),upd_same]
 have n2:R2 1={ R 1 with xs:=(R 1).xs.set i r.v }:=by rw [hR2,upd_same]
 have hl:(frF m i t).tg=m.tg:=rfl
 refine ⟨⟨h.l1,by simp [frF,h.l2],f1',fun k hk hB=>?_,fun k hk=>Nat.lt_of_lt_of_le (h.bl k hk) f4,?_,?_,?_,fun j hj=>?_,fun j hj=>?_⟩,f2',f5⟩
 ·rcases f2' k hk with hk | hk
  ·exact h.nb k hk hB
  ·have:=h.bl k hB;omega
 ·rw [o 0 (by omega) (by omega)]
  refine ⟨h.r0.1,h.r0.2.1,h.r0.2.2.1,?_⟩
  rw [h.r0.2.2.2]
  exact List.map_congr_left (fun j _=>by rw [o _ (by omega) (by omega)])
 ·rw [n2]
  refine ⟨h.r1.1,h.r1.2.1,h.r1.2.2.1,?_⟩
  show (R 1).xs.set i r.v=_
  rw [h.r1.2.2.2,map_set]
  refine List.map_congr_left (fun j _=>?_)
  by_cases e:j=i
  ·subst e;rw [if_pos rfl,n1]
  ·rw [if_neg e,o _ (by omega) (by omega)]
 ·rw [o 2 (by omega) (by omega)]
  exact h.r2
 ·rw [o _ (by omega) (by omega)]
  have:=h.re j hj
  exact ⟨this.1,this.2.1,this.2.2.1,this.2.2.2.kept f4 f3⟩
 ·have hd : (frF m i t).fr.getD j [] = if j = i then m.fr.getD i [] ++ [t] else m.fr.getD j [] := getD_set _ _ _ _ (by rw [h.l2]; exact hi)
  by_cases e:j=i
  ·subst e
   rw [n1,hd,if_pos rfl]
   exact ⟨he.1,he.2.1,by rw [he.2.2.1];simp,he.2.2.2⟩
  ·rw [o _ (by omega) (by omega), hd, if_neg e]
   exact h.rf j hj
theorem MVx.edge {W W1 : World} {B : Nat → Prop} {R : Nat → Rw} {m : Mc} (h : MVx W B R m) {i : Nat} {t : Int} {sl : List Sp} (hi : i < m.tg.length) {r : Rw} {g : Nat} (hg : W.grownBy W1 (R (3 + 2 * i)).v.ownBlock) (hr : r.ok W1) (hv : r.v.ownBlock = some g) (hat : (R (3 + 2 * i)).v.ownBlock = some g ∨ g = W.heap.size)
  {a b:Value} (he:r.e = 43∧r.s=2∧r.n=(m.ed.getD i []).length+1∧r.xs=(R (3+2*i)).xs++[a,b]) (hE:EdC W B [a,b] [(t,sl)]) {g1 c1:Nat} (h1:(R 0).v=.slice (some ⟨g1,0,none⟩) m.tg.length c1) :
  MVx (W1.setCell ⟨g1,i,none⟩ r.v) B (upd (upd R (3+2*i) r) 0 { R 0 with xs:=(R 0).xs.set i r.v }) (edF m i t sl)∧(∀ k,Has (3+2*m.tg.length) (upd (upd R (3+2*i) r) 0 { R 0 with xs:=(R 0).xs.set i r.v }) k→Has (3+2*m.tg.length) R k∨k=W.heap.size)∧(∀ k,k < W.heap.size→¬ Has (3+2*m.tg.length) R k→(W1.setCell ⟨g1,i,none⟩ r.v).heap[k]? = W.heap[k]?):=by
 have ht:=h.touch (q:=0) (by omega) hi (r:=r) (g:=g) hg hr hv hat h1 h.r0.2.2.1
 obtain ⟨f1,f2,f3,f4,f5⟩:=ht
 obtain ⟨R2,hR2⟩:∃ R2,R2=upd (upd R (3+2*i) r) 0 { R 0 with xs:=(R 0).xs.set i r.v }:=⟨_,rfl⟩
 have f1':Fam (W1.setCell ⟨g1,i,none⟩ r.v) (3+2*m.tg.length) R2:=by rw [hR2];exact f1
 have f2':∀ k,Has (3+2*m.tg.length) R2 k→Has (3+2*m.tg.length) R k∨k=W.heap.size:=by rw [hR2];exact f2
 rw [← hR2]
 have o:∀ j,j≠3+2*i→j≠0→R2 j=R j:=fun j h1 h2=>by rw [hR2,upd_other _ _ h2,upd_other _ _ h1]
 have n1:R2 (3+2*i)=r:=by rw [hR2,upd_other _ _ (by omega),upd_same]
 have n2:R2 0={ R 0 with xs:=(R 0).xs.set i r.v }:=by rw [hR2,upd_same]
 refine ⟨⟨by simp [edF,h.l1],h.l2,f1',fun k hk hB=>?_,fun k hk=>Nat.lt_of_lt_of_le (h.bl k hk) f4,?_,?_,?_,fun j hj=>?_,fun j hj=>?_⟩,f2',f5⟩
 ·rcases f2' k hk with hk | hk
  ·exact h.nb k hk hB
  ·have:=h.bl k hB;omega
 ·rw [n2]
  refine ⟨h.r0.1,h.r0.2.1,h.r0.2.2.1,?_⟩
  show (R 0).xs.set i r.v=_
  rw [h.r0.2.2.2,map_set]
  refine List.map_congr_left (fun j _=>?_)
  by_cases e:j=i
  ·subst e;rw [if_pos rfl,n1]
  ·rw [if_neg e,o _ (by omega) (by omega)]
 ·rw [o 1 (by omega) (by omega)]
  refine ⟨h.r1.1,h.r1.2.1,h.r1.2.2.1,?_⟩
  rw [h.r1.2.2.2]
  exact List.map_congr_left (fun j _=>by rw [o _ (by omega) (by omega)])
 ·rw [o 2 (by omega) (by omega)]
  exact h.r2
 ·have hd : (edF m i t sl).ed.getD j [] = if j = i then m.ed.getD i [] ++ [(t, sl)] else m.ed.getD j [] := getD_set _ _ _ _ (by rw [h.l1]; exact hi)
  by_cases e:j=i
  ·subst e
   rw [n1,hd,if_pos rfl]
   refine ⟨he.1,he.2.1,by rw [he.2.2.1];simp,?_⟩
   rw [he.2.2.2]
   exact EdC.push (hE.kept f4 f3) ((h.re j hj).2.2.2.kept f4 f3)
  ·rw [o _ (by omega) (by omega), hd, if_neg e]
   have:=h.re j hj
   exact ⟨this.1,this.2.1,this.2.2.1,this.2.2.2.kept f4 f3⟩
 ·rw [o _ (by omega) (by omega)]
  exact h.rf j hj
end Go.Proofs.YtioahgklplbinaaGreatDoor
namespace Go.Proofs.YtioahgklplbinaaGreatDoor
open Go.RowKit Go.Shelf Go.Maps SetM WrM NfaM
def Rw.more (r:Rw) (g cap:Nat) (cs:List Value):Rw:=⟨r.e,r.s,.slice (some ⟨g,0,none⟩) (r.n+1) cap,r.n+1,r.xs++cs⟩
theorem wpList_fam {w : World} {ops : Array Oper} {rest : List Oper} {o : Oper} {a : Act} {Q : Exit → Act → World → Prop} (hgd : o.guard = none) (s x : Operand) (t : TypeId)
  (ho:o.op=.call { callee:= .builtin .append,args:=#[s,x],argTypes:=#[t,t] }) {z:Value} {bytes:Nat} (r:Rw) (ht:Tryz.prog.underlying t=some (.slice r.e)) (hinfo:(Tryz.prog.info? r.e).map (fun i=>(i.zero,i.size,i.bytes))=some (some z,r.s,bytes)) (hzs:z.cells.size=r.s) (hsz:0 < r.s) (hby:bytes≤64)
  (hr:r.ok w) (hs:a.eval s=r.v) (g0:Nat) (hx:a.eval x=.slice (some ⟨g0,0,none⟩) 1 1) (cs:List Value) (hb:w.heap[g0]? = some (.cells cs.toArray r.e (0,0))) (hcl:cs.length=r.s) (h1:∀ u∈cs,u.oneCell'=true) (h63:r.n≤1000000)
  (h:∀ g cap w',(r.more g cap cs).ok w'→w.grownBy w' r.v.ownBlock→(r.v.ownBlock=some g∨g=w.heap.size)→wpList Tryz.prog ops Q rest (a.put o.dst (.slice (some ⟨g,0,none⟩) (r.n+1) cap)) w'):wpList Tryz.prog ops Q (o::rest) a w:=by
 obtain ⟨i0,hi,hz0,hz1,hz2⟩:=info_parts hinfo
 refine wpList_append_lies _ hgd s x t ho 0 r.e i0 z r.s bytes ht hi hz0 hz1 hz2 hzs hsz r.v r.n r.xs hs hr ⟨g0,0,none⟩ 1 1 cs hx (by omega) (fun j y hy=>World.news_of_block hb j y (by simpa using hy)) h1 (by omega) (by unfold maxLen;omega) ?_ (Nat.zero_le _) _ rfl ?_
 ·exact Nat.le_trans (Nat.mul_le_mul (show r.n+1≤1000001 by omega) hby) (by decide)
 ·intro g cap w' k1 k2 k3 _
  exact h g cap w' k1 k2 k3
theorem step_fam {w : World} {ops : Array Oper} {o : Oper} {a : Act} {K : Act → World → Prop} {Q : Exit → Act → World → Prop} {E : Prop} (hgd : o.guard = none) (s x : Operand) (t : TypeId)
  (ho:o.op=.call { callee:= .builtin .append,args:=#[s,x],argTypes:=#[t,t] }) {z:Value} {bytes:Nat} (r:Rw) (ht:Tryz.prog.underlying t=some (.slice r.e)) (hinfo:(Tryz.prog.info? r.e).map (fun i=>(i.zero,i.size,i.bytes))=some (some z,r.s,bytes)) (hzs:z.cells.size=r.s) (hsz:0 < r.s) (hby:bytes≤64)
  (hr:r.ok w) (hs:a.eval s=r.v) (g0:Nat) (hx:a.eval x=.slice (some ⟨g0,0,none⟩) 1 1) (cs:List Value) (hb:w.heap[g0]? = some (.cells cs.toArray r.e (0,0))) (hcl:cs.length=r.s) (h1:∀ u∈cs,u.oneCell'=true) (h63:r.n≤1000000)
  (h:∀ g cap w',(r.more g cap cs).ok w'→w.grownBy w' r.v.ownBlock→(r.v.ownBlock=some g∨g=w.heap.size)→K (a.put o.dst (.slice (some ⟨g,0,none⟩) (r.n+1) cap)) w') :
  if Region.wanted o (yielded ops a.tmps)=true then Oper.wp Tryz.prog o a w K Q else E:=by
 obtain ⟨i0,hi,hz0,hz1,hz2⟩:=info_parts hinfo
 refine step_append_lies _ hgd s x t ho 0 r.e i0 z r.s bytes ht hi hz0 hz1 hz2 hzs hsz r.v r.n r.xs hs hr ⟨g0,0,none⟩ 1 1 cs hx (by omega) (fun j y hy=>World.news_of_block hb j y (by simpa using hy)) h1 (by omega) (by unfold maxLen;omega) ?_ (Nat.zero_le _) _ rfl ?_
 ·exact Nat.le_trans (Nat.mul_le_mul (show r.n+1≤1000001 by omega) hby) (by decide)
 ·intro g cap w' k1 k2 k3 _
  exact h g cap w' k1 k2 k3
end Go.Proofs.YtioahgklplbinaaGreatDoor
namespace Go.Proofs.YtioahgklplbinaaGreatDoor
open Go.RowKit Go.Shelf Go.Maps SetM WrM NfaM
theorem rw_eta {r:Rw} {e:TypeId} {s n:Nat} {P:Prop} (h:r.e=e∧r.s=s∧r.n=n∧P):r=⟨e,s,r.v,n,r.xs⟩:=by
 obtain ⟨rfl,rfl,rfl,_⟩:=h
 rfl
def put3 (W:World) (B:Nat) (a b c:Value):World:=((W.setCell ⟨B,0,none⟩ a).setCell ⟨B,1,none⟩ b).setCell ⟨B,2,none⟩ c
theorem put3_heap {W:World} {B:Nat} {x y z:Value} {t:TypeId} (a b c:Value) (h:W.heap[B]? = some (.cells #[x,y,z] t (0,0))):(put3 W B a b c).heap[B]? = some (.cells #[a,b,c] t (0,0)) :=
 heap_setC _ B _ _ (heap_setC _ B _ _ (heap_setC W B _ _ h 0 a) 1 b) 2 c
theorem put3_other (W:World) (B:Nat) (a b c:Value) (k:Nat) (hk:k≠B):(put3 W B a b c).heap[k]? = W.heap[k]?:=by
 unfold put3
 rw [heap_setCell_other _ ⟨B,2,none⟩ k c hk,heap_setCell_other _ ⟨B,1,none⟩ k b hk,heap_setCell_other _ ⟨B,0,none⟩ k a hk]
theorem put3_size (W:World) (B:Nat) (a b c:Value):(put3 W B a b c).heap.size=W.heap.size:=by
 unfold put3
 simp only [World.size_setCell]
end Go.Proofs.YtioahgklplbinaaGreatDoor
namespace Go.Proofs.YtioahgklplbinaaGreatDoor
open Go.RowKit Go.Shelf Go.Maps SetM WrM NfaM
theorem Rw.ok.form {W:World} {e:TypeId} {s n:Nat} {v:Value} {xs:List Value} (h:(⟨e,s,v,n,xs⟩:Rw).ok W) (hn:0 < n):∃ g cap,v=.slice (some ⟨g,0,none⟩) n cap∧g < W.heap.size :=
 let ⟨g,cap,h1,_,h2⟩:=World.ownsRow.form h hn
 ⟨g,cap,h1,h2⟩
theorem Rw.ok.at {W:World} {e:TypeId} {n g cap:Nat} {xs:List Value} (h:(⟨e,1,.slice (some ⟨g,0,none⟩) n cap,n,xs⟩:Rw).ok W) {i:Nat} (hi:i < n):W.cell? ⟨g,i,none⟩=xs[i]?∧W.frozen? ⟨g,i,none⟩=false :=
 ⟨World.ownsRow.cellAt h i (by show i < n*1;omega),World.ownsRow.frozenAt h i⟩
end Go.Proofs.YtioahgklplbinaaGreatDoor

/- NRvb, NWalk, NFork, NLw, in one text. -/
namespace Go.Proofs.YtioahgklplbinaaGreatDoor
open Go.RowKit Go.Shelf Go.Maps SetM PropsM RxM WrM NfaM
def RIB (W : World) (B : Nat → Prop) : Nat → Value → Ns → Prop
 | 0,_,_=>False
 | h+1,v,.mk k sl kids mn mx=>∃ sp sc kp kc,v=.agg #[.int .u8 k,.slice sp (List.length sl) sc,.slice kp (List.length kids) kc,.int .i64 mn,.int .i64 mx]∧(sl.length≤100000∧kids.length≤1000)∧Sl W sp sl∧(sp=none→sc=0)∧(sl≠[]→∀ a,sp=some a→B a.block) ∧
   (kids≠[]→∃ g,kp=some ⟨g,0,none⟩∧B g∧(∃ cs,W.heap[g]? = some (.cells cs 48 (0,0)))∧∀ i (hi:i < kids.length),∃ u,RIB W B h u kids[i]∧∀ j,j < 5→W.cell? ⟨g,i*5+j,none⟩=(kidParts u)[j]?)
def RVB (W:World) (B:Nat→Prop) (v:Value) (t:Ns):Prop:=∃ h,RIB W B h v t
theorem RIB.toR {W : World} {B : Nat → Prop} : ∀ (h : Nat) (v : Value) (t : Ns), RIB W B h v t → RIs W h v t
 | 0,_,_,hn=>hn
 | h+1,v,.mk k sl kids mn mx,hn=>by
  obtain ⟨sp,sc,kp,kc,e,hl,hs,hz,_,hk1⟩:=hn
  refine ⟨sp,sc,kp,kc,e,hl,hs,hz,fun hne=>?_⟩
  obtain ⟨g,e1,_,hb,h3⟩:=hk1 hne
  refine ⟨g,e1,hb,fun i hi=>?_⟩
  obtain ⟨u,h4,h5⟩:=h3 i hi
  exact ⟨u,RIB.toR h u _ h4,h5⟩
theorem RVB.toR {W:World} {B:Nat→Prop} {v:Value} {t:Ns} (h:RVB W B v t):RV W v t:=let ⟨n,hn⟩:=h;⟨n,hn.toR⟩
theorem RIB.kept {W W' : World} {B : Nat → Prop} (hs : W.heap.size ≤ W'.heap.size) (hb : ∀ k, B k → k < W.heap.size → W'.heap[k]? = W.heap[k]?) : ∀ (h : Nat) (v : Value) (t : Ns), RIB W B h v t → RIB W' B h v t
 | 0,_,_,hn=>hn
 | h+1,v,.mk k sl kids mn mx,hn=>by
  obtain ⟨sp,sc,kp,kc,e,hl,hsl,hz,ha,hk1⟩:=hn
  refine ⟨sp,sc,kp,kc,e,hl,fun hne=>?_,hz,ha,fun hne=>?_⟩
  ·obtain ⟨b, off, e1, hb1, hc⟩ := hsl hne
   have hq:=hb b (ha hne _ e1) hb1
   exact ⟨b,off,e1,by omega,fun j hj=>⟨(World.cell?_of_block (a:=⟨b,off+j*2,none⟩) hq).trans (hc j hj).1,(World.cell?_of_block (a:=⟨b,off+j*2+1,none⟩) hq).trans (hc j hj).2⟩⟩
  ·obtain ⟨g, e1, hB, ⟨cs, hg⟩, h3⟩ := hk1 hne
   have hlt:=(Array.getElem?_eq_some_iff.1 hg).1
   have hq:=hb g hB hlt
   refine ⟨g,e1,hB,⟨cs,hq.trans hg⟩,fun i hi=>?_⟩
   obtain ⟨u,h4,h5⟩:=h3 i hi
   exact ⟨u,RIB.kept hs hb h u _ h4,fun j hj=>(World.cell?_of_block (a:=⟨g,i*5+j,none⟩) hq).trans (h5 j hj)⟩
theorem RVB.kept {W W':World} {B:Nat→Prop} {v:Value} {t:Ns} (h:RVB W B v t) (hs:W.heap.size≤W'.heap.size) (hb:∀ k,B k→k < W.heap.size→W'.heap[k]? = W.heap[k]?):RVB W' B v t:=let ⟨n,hn⟩:=h;⟨n,hn.kept hs hb⟩
end Go.Proofs.YtioahgklplbinaaGreatDoor
namespace Go.Proofs.YtioahgklplbinaaGreatDoor
open Go.RowKit Go.Shelf Go.Maps SetM PropsM RxM WrM NfaM
theorem Rw.ok.slice {W:World} {r:Rw} (h:r.ok W):∃ p c,r.v=.slice p r.n c:=by
 rcases h.2 with ⟨h1,h2⟩ | ⟨g,cap,_,h1,_⟩
 ·exact ⟨none,0,by rw [h1,h2]⟩
 ·exact ⟨_,_,h1⟩
def Room (m:Mc) (c:Nat):Prop:=frs m≤2*m.len∧eds m≤m.len∧m.len+c≤100000
theorem Room.row {m:Mc} {c:Nat} (h:Room m c) (i:Nat):(m.fr.getD i []).length≤1000000:=by
 have h1:=row_le m.fr i
 have h2:=h.1
 have h3:=h.2.2
 unfold frs at h2
 omega
end Go.Proofs.YtioahgklplbinaaGreatDoor
namespace Go.Proofs.YtioahgklplbinaaGreatDoor
open Go.RowKit Go.Shelf Go.Maps SetM PropsM RxM WrM NfaM
theorem cells3 {W:World} {b:Nat} {x y z:Value} (h:W.heap[b]? = some (.cells #[x,y,z] 29 (0,0))):(W.cell? ⟨b,0,none⟩=some x∧W.cell? ⟨b,1,none⟩=some y∧W.cell? ⟨b,2,none⟩=some z)∧W.frozen? ⟨b,0,none⟩=false∧W.frozen? ⟨b,1,none⟩=false∧W.frozen? ⟨b,2,none⟩=false :=
 ⟨⟨cell_of_row W _ 0 _ _ _ h,cell_of_row W _ 1 _ _ _ h,cell_of_row W _ 2 _ _ _ h⟩,frozen_of_row W _ 0 _ _ h,frozen_of_row W _ 1 _ _ h,frozen_of_row W _ 2 _ _ h⟩
theorem cells5 {W:World} {b:Nat} {x0 x1 x2 x3 x4:Value} (h:W.heap[b]? = some (.cells #[x0,x1,x2,x3,x4] 48 (0,0))):W.cell? ⟨b,0,none⟩=some x0∧W.cell? ⟨b,1,none⟩=some x1∧W.cell? ⟨b,2,none⟩=some x2∧W.cell? ⟨b,3,none⟩=some x3∧W.cell? ⟨b,4,none⟩=some x4 :=
 ⟨cell_of_row W _ 0 _ _ _ h,cell_of_row W _ 1 _ _ _ h,cell_of_row W _ 2 _ _ _ h,cell_of_row W _ 3 _ _ _ h,cell_of_row W _ 4 _ _ _ h⟩
end Go.Proofs.YtioahgklplbinaaGreatDoor
namespace Go.Proofs.YtioahgklplbinaaGreatDoor
open Go.RowKit Go.Shelf Go.Maps SetM PropsM RxM WrM NfaM
theorem times_succ (g : Mc → Nat → Mc × Nat) : ∀ (n : Nat) (p : Mc × Nat), timesB g (n + 1) p = forkB g (timesB g n p).1 (timesB g n p).2
 | 0,p=>rfl
 | n+1,p=>by rw [timesB,times_succ g n,timesB]
theorem maybe_succ (g : Mc → Nat → Mc × Nat) (e : Nat) : ∀ (n : Nat) (p : Mc × Nat), maybeB g e (n + 1) p = (frF (forkB g (maybeB g e n p).1 (maybeB g e n p).2).1 (forkB g (maybeB g e n p).1 (maybeB g e n p).2).2 e, (forkB g (maybeB g e n p).1 (maybeB g e n p).2).2)
 | 0,p=>rfl
 | n+1,p=>by rw [maybeB,maybe_succ g e n,maybeB]
end Go.Proofs.YtioahgklplbinaaGreatDoor

/- The document's again, by its fork at the tree's kid. -/
namespace Go.Proofs.YtioahgklplbinaaGreatDoor
open Go.RowKit Go.Shelf Go.Maps SetM PropsM RxM WrM NfaM
theorem Room.stp {m:Mc} {p:Mc×Nat} {c c' C:Nat} (h:Room m C) (k:Stp m p c) (hc:c+c'≤C):Room p.1 c':=by
 obtain ⟨h1,h2,h3⟩:=h
 have:=k.len
 have:=k.fr
 have:=k.ed
 exact ⟨by omega,by omega,by omega⟩
end Go.Proofs.YtioahgklplbinaaGreatDoor

/- NLaid0, NLaidC, NLaidO, NLaid1, NLaid, in one text. -/
namespace Go.Proofs.YtioahgklplbinaaGreatDoor
open Go.RowKit Go.Shelf Go.Maps SetM PropsM RxM WrM NfaM
end Go.Proofs.YtioahgklplbinaaGreatDoor
namespace Go.Proofs.YtioahgklplbinaaGreatDoor
open Go.RowKit Go.Shelf Go.Maps SetM PropsM RxM WrM NfaM
theorem cat_snoc : ∀ (l : List Ns) (x : Ns) (m : Mc) (i : Nat), NfaM.catF (l ++ [x]) m i = laidF x (NfaM.catF l m i).1 (NfaM.catF l m i).2
 | [],x,m,i=>by rw [List.nil_append,NfaM.catF,NfaM.catF,NfaM.catF]
 | y::l,x,m,i=>by rw [List.cons_append,NfaM.catF,NfaM.catF,cat_snoc l x]
theorem cnt_snoc : ∀ (l : List Ns) (x : Ns), cntC (l ++ [x]) = cntC l + cntS x
 | [],x=>by rw [List.nil_append,cntC,cntC,cntC];omega
 | y::l,x=>by rw [List.cons_append,cntC,cntC,cnt_snoc l x];omega
theorem cnt_take (l:List Ns) (r:Nat) (h:r < l.length):cntC (l.take r)+cntS l[r]≤cntC l:=by
 have h1:∀ (a b:List Ns),cntC a≤cntC (a++b):=fun a b=>by
  induction a with
  | nil=>rw [cntC];exact Nat.zero_le _
  | cons y a ih=>rw [List.cons_append,cntC,cntC];omega
 rw [← cnt_snoc,← List.take_succ_eq_append_getElem h]
 have:=h1 (l.take (r+1)) (l.drop (r+1))
 rw [List.take_append_drop] at this
 exact this
end Go.Proofs.YtioahgklplbinaaGreatDoor
namespace Go.Proofs.YtioahgklplbinaaGreatDoor
open Go.RowKit Go.Shelf Go.Maps SetM PropsM RxM WrM NfaM
theorem or_snoc : ∀ (l : List Ns) (x : Ns) (m : Mc) (i e : Nat), orF (l ++ [x]) m i e = frF (forkB (laidF x) (orF l m i e) i).1 (forkB (laidF x) (orF l m i e) i).2 e
 | [],x,m,i,e=>by rw [List.nil_append,orF,orF,orF]
 | y::l,x,m,i,e=>by rw [List.cons_append,orF,orF,or_snoc l x]
theorem cnto_snoc : ∀ (l : List Ns) (x : Ns), cntO (l ++ [x]) = cntO l + (cntS x + 1)
 | [],x=>by rw [List.nil_append,cntO,cntO,cntO];omega
 | y::l,x=>by rw [List.cons_append,cntO,cntO,cnto_snoc l x];omega
theorem cnto_take (l:List Ns) (r:Nat) (h:r < l.length):cntO (l.take r)+(cntS l[r]+1)≤cntO l:=by
 have h1:∀ (a b:List Ns),cntO a≤cntO (a++b):=fun a b=>by
  induction a with
  | nil=>rw [cntO];exact Nat.zero_le _
  | cons y a ih=>rw [List.cons_append,cntO,cntO];omega
 rw [← cnto_snoc,← List.take_succ_eq_append_getElem h]
 have:=h1 (l.take (r+1)) (l.drop (r+1))
 rw [List.take_append_drop] at this
 exact this
end Go.Proofs.YtioahgklplbinaaGreatDoor
namespace Go.Proofs.YtioahgklplbinaaGreatDoor
open Go.RowKit Go.Shelf Go.Maps SetM PropsM RxM WrM NfaM
end Go.Proofs.YtioahgklplbinaaGreatDoor
namespace Go.Proofs.YtioahgklplbinaaGreatDoor
open Go.RowKit Go.Shelf Go.Maps SetM PropsM RxM WrM NfaM
end Go.Proofs.YtioahgklplbinaaGreatDoor

/- NCnt, NCnt4, NWhy, NToRB, NTag, in one text. -/
namespace Go.Proofs.YtioahgklplbinaaGreatDoor
open Go.RowKit Go.Shelf Go.Maps SetM PropsM RxM WrM NfaM
def cut3 (n:Nat):Nat:=min n 3000
end Go.Proofs.YtioahgklplbinaaGreatDoor
namespace Go.Proofs.YtioahgklplbinaaGreatDoor
open Go.RowKit Go.Shelf Go.Maps SetM PropsM RxM WrM NfaM
theorem times_t {mn mx:Int} {t:Nat} (hmn:0≤mn∧mn≤20) (hmx:mx = -1∨(mn≤mx∧mx≤20)) (ht:(t:Int)=if mx < 0 then mn+1 else mx):mn.toNat+(if mx < 0 then 1 else (mx - mn).toNat)=t:=by
 by_cases h:mx < 0
 ·rw [if_pos h] at ht ⊢;omega
 ·rw [if_neg h] at ht ⊢;omega
end Go.Proofs.YtioahgklplbinaaGreatDoor
namespace Go.Proofs.YtioahgklplbinaaGreatDoor
open Go.RowKit Go.Shelf Go.Maps SetM PropsM RxM WrM NfaM
def NsL (W:World) (P:Option Addr) (us:List Ns):Prop:=∀ i (hi:i < us.length),∃ g a b c d e,P=some ⟨g,0,none⟩∧g < W.heap.size∧RV W (.agg #[a,b,c,d,e]) us[i]∧W.cell? ⟨g,i*5,none⟩=some a∧W.cell? ⟨g,i*5+1,none⟩=some b∧W.cell? ⟨g,i*5+2,none⟩=some c∧W.cell? ⟨g,i*5+3,none⟩=some d∧W.cell? ⟨g,i*5+4,none⟩=some e
def sumF : List Ns → Nat
 | []=>1
 | u::l=>sumF l+(1+cut3 (cntS u))
def SndL (us:List Ns):Prop:=∀ u∈us,SndAt u 0
noncomputable def whyF (us:List Ns):Nat:=if us.length < 1∨30 < us.length then 1 else if @decide (SndL us) (Classical.propDecidable _)=true then (if 2000 < sumF us then 63 else 0) else 1
theorem why_long {us:List Ns} (h:us.length < 1∨30 < us.length):whyF us=1:=by unfold whyF;rw [if_pos h]
theorem why_bad {us:List Ns} (h:¬ SndL us):whyF us=1:=by
 unfold whyF
 split
 ·rfl
 ·rw [if_neg (by rw [@decide_eq_true_iff _ (Classical.propDecidable _)];exact h)]
theorem why_ok {us:List Ns} (h1:¬ (us.length < 1∨30 < us.length)) (h:SndL us):whyF us=if 2000 < sumF us then 63 else 0:=by
 unfold whyF
 rw [if_neg h1,if_pos (by rw [@decide_eq_true_iff _ (Classical.propDecidable _)];exact h)]
end Go.Proofs.YtioahgklplbinaaGreatDoor
namespace Go.Proofs.YtioahgklplbinaaGreatDoor
open Go.RowKit Go.Shelf Go.Maps SetM PropsM RxM WrM NfaM
theorem NIs.toRB {W : World} {A : Nat → Prop} : ∀ (h : Nat) (v : Value) (t : Nd), NIs W A h v t → ∃ u, nd u = t ∧ RIB W A h v u ∧ Nfs u ∧ Lim 100000 u
 | 0,_,_,hn=>hn.elim
 | h+1,v,.mk k K kids mn mx,hn=>by
  obtain ⟨sp,sl,sc,kp,kc,e,hK,hl,hs,hz,ha,hk0,hk1⟩:=hn
  have hKm:Mem sl=K:=funext fun r=>propext (hK.2 r)
  have main:∃ us:List Ns,ndL us=kids∧NfsL us∧LimL 100000 us∧(kids≠[]→∃ g,kp=some ⟨g,0,none⟩∧A g∧(∃ cs,W.heap[g]? = some (.cells cs 48 (0,0)))∧∀ i (hi:i < us.length),∃ u,RIB W A h u us[i]∧∀ j,j < 5→W.cell? ⟨g,i*5+j,none⟩=(kidParts u)[j]?):=by
   by_cases hne:kids=[]
   ·subst hne
    exact ⟨[],by rw [ndL],by rw [NfsL];trivial,by rw [LimL];trivial,fun h=>absurd rfl h⟩
   ·obtain ⟨g, cs, vs, e1, hA, hb, h1, h2, h3⟩ := hk1 hne
    obtain ⟨us,hus,hall⟩:=list_of (P:=fun i u=>∀ (hi:i < kids.length) x,vs[i]? = some x→nd u=kids[i]∧RIB W A h x u∧Nfs u∧Lim 100000 u) kids.length (fun i hi=>by
     obtain ⟨u,hu⟩:=NIs.toRB h _ _ (h3 i hi vs[i] (List.getElem?_eq_getElem (by omega)))
     exact ⟨u,fun _ x hx=>by rw [List.getElem?_eq_getElem (by omega)] at hx;cases hx;exact hu⟩)
    have hall':∀ i (hi:i < us.length),nd us[i]=kids[i]∧RIB W A h vs[i] us[i]∧Nfs us[i]∧Lim 100000 us[i]:=fun i hi=>hall i hi (by omega) vs[i] (List.getElem?_eq_getElem (by omega))
    have h5:∀ u∈vs,(kidParts u).length=5:=fun u hu=>by
     obtain ⟨j,hj,rfl⟩:=List.mem_iff_getElem.1 hu
     exact (h3 j (by omega) _ (List.getElem?_eq_getElem hj)).parts
    refine ⟨us,?_,?_,?_,fun _=>⟨g,e1,hA,⟨cs,hb⟩,fun i hi=>⟨vs[i],(hall' i hi).2.1,fun j hj=>?_⟩⟩⟩
    ·rw [ndL_eq]
     refine List.ext_getElem (by simp [hus]) (fun i hi hi'=>?_)
     rw [List.getElem_map]
     exact (hall' i (by omega)).1
    ·rw [nfsL_iff]
     intro x hx
     obtain ⟨i,hi,rfl⟩:=List.mem_iff_getElem.1 hx
     exact (hall' i hi).2.2.1
    ·rw [limL_iff]
     intro x hx
     obtain ⟨i,hi,rfl⟩:=List.mem_iff_getElem.1 hx
     exact (hall' i hi).2.2.2
    ·rw [cell_of_row W g (i*5+j) _ _ _ hb,← flat5 vs h5 i j hj _ (List.getElem?_eq_getElem (by omega)),← h2,List.getElem?_take_of_lt (by omega),Array.getElem?_toList]
  obtain ⟨us,m1,m2,m3,m4⟩:=main
  have hlen:us.length=kids.length:=by rw [← m1,ndL_eq,List.length_map]
  refine ⟨.mk k sl us mn mx,by rw [nd_mk,hKm,m1],⟨sp,sc,kp,kc,by rw [hlen];exact e,by rw [hlen];exact hl,hs,hz,fun hne a ea=>ha a ea hne,fun hne=>m4 (fun e=>hne (List.length_eq_zero_iff.1 (by rw [hlen,e];rfl)))⟩,?_,?_⟩
  ·rw [Nfs];exact ⟨hK.1,m2⟩
  ·rw [lim_mk];exact ⟨hl.1,m3⟩
end Go.Proofs.YtioahgklplbinaaGreatDoor
namespace Go.Proofs.YtioahgklplbinaaGreatDoor
open Go.RowKit Go.Shelf Go.Maps SetM PropsM RxM WrM NfaM
def nilR : Nat → Rw
 | 0=>⟨40,1,.slice Option.none 0 0,0,[]⟩
 | 1=>⟨27,1,.slice Option.none 0 0,0,[]⟩
 | _=>⟨3,1,.slice Option.none 0 0,0,[]⟩
theorem nilR_block (i k:Nat):(nilR i).v.ownBlock≠some k:=by
 unfold nilR
 split <;> exact fun h=>by cases h
theorem MVx.tag {W : World} {B : Nat → Prop} {R : Nat → Rw} {m : Mc} (h : MVx W B R m) {i : Nat} {t : Int} {g c : Nat} (hv : (R 2).v = .slice (some ⟨g, 0, none⟩) m.tg.length c) :
  MVx (W.setCell ⟨g,i,none⟩ (.int .i64 t)) B (upd R 2 { R 2 with xs:=(R 2).xs.set i (.int .i64 t) }) (tgF m i t)∧(∀ k,Has (3+2*m.tg.length) (upd R 2 { R 2 with xs:=(R 2).xs.set i (.int .i64 t) }) k→Has (3+2*m.tg.length) R k)∧Has (3+2*m.tg.length) R g:=by
 have a:=h.fam.store (i:=2) (by omega) hv h.r2.2.2.1 i (.int .i64 t)
 have hg:Has (3+2*m.tg.length) R g:=⟨2,by omega,by rw [hv];rfl⟩
 have hl:(tgF m i t).tg.length=m.tg.length:=by simp [tgF]
 have ho:∀ k,B k→(W.setCell ⟨g,i,none⟩ (.int .i64 t)).heap[k]? = W.heap[k]?:=fun k hk=>heap_setCell_other W ⟨g,i,none⟩ k _ (fun e=>h.nb g hg (by have e:k=g:=e;rw [← e];exact hk))
 have hs:W.heap.size≤(W.setCell ⟨g,i,none⟩ (.int .i64 t)).heap.size:=by rw [World.size_setCell];exact Nat.le_refl _
 have o:∀ j,j≠2→upd R 2 { R 2 with xs:=(R 2).xs.set i (.int .i64 t) } j=R j:=fun j hj=>upd_other _ _ hj
 refine ⟨⟨by rw [hl];exact h.l1,by rw [hl];exact h.l2,by rw [hl];exact a.1,fun k hk=>h.nb k (a.2 k (by rw [hl] at hk;exact hk)),fun k hk=>Nat.lt_of_lt_of_le (h.bl k hk) hs,?_,?_,?_,fun j hj=>?_,fun j hj=>?_⟩,a.2,hg⟩
 ·rw [o 0 (by omega), hl]
  refine ⟨h.r0.1,h.r0.2.1,h.r0.2.2.1,?_⟩
  rw [h.r0.2.2.2]
  exact List.map_congr_left (fun j _=>by rw [o _ (by omega)])
 ·rw [o 1 (by omega), hl]
  refine ⟨h.r1.1,h.r1.2.1,h.r1.2.2.1,?_⟩
  rw [h.r1.2.2.2]
  exact List.map_congr_left (fun j _=>by rw [o _ (by omega)])
 ·rw [upd_same, hl]
  refine ⟨h.r2.1,h.r2.2.1,h.r2.2.2.1,?_⟩
  show (R 2).xs.set i _=_
  rw [h.r2.2.2.2]
  simp [tgF,List.map_set]
 ·rw [hl] at hj
  rw [o _ (by omega)]
  have:=h.re j hj
  exact ⟨this.1,this.2.1,this.2.2.1,this.2.2.2.kept hs ho⟩
 ·rw [hl] at hj
  rw [o _ (by omega)]
  exact h.rf j hj
end Go.Proofs.YtioahgklplbinaaGreatDoor
