/- NFam, NMc, NMcP, in one text. -/
import Derived.Deep.AppendLies
import Derived.Laws.OwnMore
import Derived.Test.YtioahgklplbinaaGreatDoorVM
namespace Go.Proofs.YtioahgklplbinaaGreatDoor
open Go
structure Rw where
 e:TypeId
 s:Nat
 v:Value
 n:Nat
 xs:List Value
def Rw.ok (W:World) (r:Rw):Prop:=W.ownsRow 0 r.e r.s r.v r.n r.xs
theorem Rw.ok.lt {W:World} {r:Rw} (h:r.ok W) {k:Nat} (hk:r.v.ownBlock=some k):k < W.heap.size:=(World.ownsRow.lt h k hk).2
theorem Rw.ok.of_block {W W':World} {r:Rw} (h:r.ok W) (hb:∀ k,r.v.ownBlock=some k→W'.heap[k]? = W.heap[k]?):r.ok W':=by
 obtain ⟨h1,h2⟩:=h
 refine ⟨h1,?_⟩
 rcases h2 with h2 | ⟨g,cap,cur,e1,e2,e3,e4⟩
 ·exact .inl h2
 ·exact .inr ⟨g,cap,cur,e1,e2,(hb g (by rw [e1];rfl)).trans e3,e4⟩
def upd (R:Nat→Rw) (i:Nat) (r:Rw):Nat→Rw:=fun j=>if j=i then r else R j
theorem upd_same (R:Nat→Rw) (i:Nat) (r:Rw):upd R i r i=r:=if_pos rfl
theorem upd_other (R:Nat→Rw) {i j:Nat} (r:Rw) (h:j≠i):upd R i r j=R j:=if_neg h
structure Fam (W : World) (n : Nat) (R : Nat → Rw) : Prop where
 own:∀ i,i < n→(R i).ok W
 apart:∀ i j,i < n→j < n→i≠j→∀ k,(R i).v.ownBlock=some k→(R j).v.ownBlock≠some k
def Has (n:Nat) (R:Nat→Rw) (k:Nat):Prop:=∃ i,i < n∧(R i).v.ownBlock=some k
theorem Fam.lt {W:World} {n:Nat} {R:Nat→Rw} (h:Fam W n R) {k:Nat} (hk:Has n R k):k < W.heap.size:=by
 obtain ⟨i,hi,hk⟩:=hk
 exact (h.own i hi).lt hk
theorem Fam.kept {W W':World} {n:Nat} {R:Nat→Rw} (h:Fam W n R) (hb:∀ k,Has n R k→W'.heap[k]? = W.heap[k]?):Fam W' n R :=
 ⟨fun i hi=>(h.own i hi).of_block (fun k hk=>hb k ⟨i,hi,hk⟩),h.apart⟩
theorem Fam.grow {W W' : World} {n : Nat} {R : Nat → Rw} (h : Fam W n R) {i : Nat} (hi : i < n) {r : Rw} {g : Nat} (hg : W.grownBy W' (R i).v.ownBlock) (hr : r.ok W') (hv : r.v.ownBlock = some g) (hat : (R i).v.ownBlock = some g ∨ g = W.heap.size) :
  Fam W' n (upd R i r)∧(∀ k,Has n (upd R i r) k→Has n R k∨k=W.heap.size):=by
 have hne:∀ j,j < n→j≠i→∀ k,(R j).v.ownBlock=some k→some k≠(R i).v.ownBlock:=fun j hj hji k hk e=>h.apart j i hj hi hji k hk e.symm
 have hng:∀ j,j < n→j≠i→∀ k,(R j).v.ownBlock=some k→k≠g:=fun j hj hji k hk e=>by
  rcases hat with ha | ha
  ·exact hne j hj hji k hk (by rw [ha,e])
  ·have:=(h.own j hj).lt hk;omega
 refine ⟨⟨fun j hj=>?_,fun a b ha hb hab k hk=>?_⟩,?_⟩
 ·by_cases e : j = i
  ·subst e;rw [upd_same];exact hr
  ·rw [upd_other R r e]
   exact (h.own j hj).of_block (fun k hk=>hg.block k ((h.own j hj).lt hk) (hne j hj e k hk))
 ·by_cases ea : a = i
  ·subst ea
   rw [upd_same] at hk
   rw [upd_other R r (Ne.symm hab)]
   rw [hv] at hk
   cases hk
   exact fun hk'=>hng b hb (Ne.symm hab) _ hk' rfl
  ·rw [upd_other R r ea] at hk
   by_cases eb:b=i
   ·subst eb
    rw [upd_same,hv]
    exact fun e=>hng a ha ea k hk (by cases e;rfl)
   ·rw [upd_other R r eb]
    exact h.apart a b ha hb hab k hk
 ·rintro k ⟨j, hj, hk⟩
  by_cases e:j=i
  ·subst e
   rw [upd_same,hv] at hk
   cases hk
   rcases hat with ha | ha
   ·exact .inl ⟨j,hj,ha⟩
   ·exact .inr ha
  ·rw [upd_other R r e] at hk
   exact .inl ⟨j,hj,hk⟩
theorem Fam.store {W : World} {n : Nat} {R : Nat → Rw} (h : Fam W n R) {i : Nat} (hi : i < n) {g len cap : Nat} (hv : (R i).v = .slice (some ⟨g, 0, none⟩) len cap) (hn : (R i).n = len) (j : Nat) (u : Value) :
  Fam (W.setCell ⟨g,j,none⟩ u) n (upd R i { R i with xs:=(R i).xs.set j u })∧(∀ k,Has n (upd R i { R i with xs:=(R i).xs.set j u }) k→Has n R k):=by
 have ho:W.ownsRow 0 (R i).e (R i).s (.slice (some ⟨g,0,none⟩) (R i).n cap) (R i).n (R i).xs:=by
  have:=h.own i hi
  unfold Rw.ok at this
  rw [hv,← hn] at this
  exact this
 have hs:=ho.stored j u
 have hvi:(R i).v.ownBlock=some g:=by rw [hv];rfl
 refine ⟨⟨fun a ha=>?_,fun a b ha hb hab k=>?_⟩,?_⟩
 ·by_cases e : a = i
  ·subst e
   rw [upd_same]
   show World.ownsRow _ 0 (R a).e (R a).s (R a).v (R a).n _
   rw [hv,← hn]
   exact hs.1
  ·rw [upd_other R _ e]
   exact (h.own a ha).of_block (fun k hk=>hs.2.block k ((h.own a ha).lt hk) (fun ek=>h.apart a i ha hi e k hk (by rw [hvi,ek])))
 ·have hsame:∀ c,(upd R i { R i with xs:=(R i).xs.set j u } c).v=(R c).v:=fun c=>by
   by_cases e:c=i
   ·subst e;rw [upd_same]
   ·rw [upd_other R _ e]
  rw [hsame,hsame]
  exact h.apart a b ha hb hab k
 ·rintro k ⟨c, hc, hk⟩
  by_cases e:c=i
  ·subst e;rw [upd_same] at hk;exact ⟨c,hc,hk⟩
  ·rw [upd_other R _ e] at hk;exact ⟨c,hc,hk⟩
theorem Fam.more {W:World} {n:Nat} {R:Nat→Rw} (h:Fam W n R) {r:Rw} (hr:r.ok W) (hv:r.v.ownBlock=none):Fam W (n+1) (upd R n r)∧(∀ k,Has (n+1) (upd R n r) k→Has n R k):=by
 refine ⟨⟨fun i hi=>?_,fun a b ha hb hab k hk=>?_⟩,?_⟩
 ·by_cases e : i = n
  ·subst e;rw [upd_same];exact hr
  ·rw [upd_other R r e];exact h.own i (by omega)
 ·by_cases ea : a = n
  ·subst ea;rw [upd_same,hv] at hk;cases hk
  ·rw [upd_other R r ea] at hk
   by_cases eb:b=n
   ·subst eb;rw [upd_same,hv];exact fun e=>by cases e
   ·rw [upd_other R r eb];exact h.apart a b (by omega) (by omega) hab k hk
 ·rintro k ⟨j, hj, hk⟩
  by_cases e:j=n
  ·subst e;rw [upd_same,hv] at hk;cases hk
  ·rw [upd_other R r e] at hk;exact ⟨j,by omega,hk⟩
theorem Rw.nil_ok (W:World) (e:TypeId) (s:Nat):(⟨e,s,.slice Option.none 0 0,0,[]⟩:Rw).ok W:=World.ownsRow_nil W 0 e s
end Go.Proofs.YtioahgklplbinaaGreatDoor
namespace NfaM
open SetM WrM
structure Mc where
 ed:List (List (Int×List Sp))
 fr:List (List Int)
 tg:List Int
def Mc.len (m:Mc):Nat:=m.tg.length
def none0:Mc:=⟨[],[],[]⟩
def stF (m:Mc):Mc:=⟨m.ed++[[]],m.fr++[[]],m.tg++[-1]⟩
def frF (m:Mc) (i:Nat) (t:Int):Mc:=⟨m.ed,m.fr.set i (m.fr.getD i []++[t]),m.tg⟩
def edF (m:Mc) (i:Nat) (t:Int) (s:List Sp):Mc:=⟨m.ed.set i (m.ed.getD i []++[(t,s)]),m.fr,m.tg⟩
def tgF (m:Mc) (i:Nat) (t:Int):Mc:=⟨m.ed,m.fr,m.tg.set i t⟩
def forkB (g:Mc→Nat→Mc×Nat) (m:Mc) (i:Nat):Mc×Nat:=g (frF (stF m) i m.len) m.len
def timesB (g : Mc → Nat → Mc × Nat) : Nat → Mc × Nat → Mc × Nat
 | 0,p=>p
 | n+1,p=>timesB g n (forkB g p.1 p.2)
def maybeB (g : Mc → Nat → Mc × Nat) (e : Nat) : Nat → Mc × Nat → Mc × Nat
 | 0,p=>p
 | n+1,p=>maybeB g e n (frF (forkB g p.1 p.2).1 (forkB g p.1 p.2).2 e,(forkB g p.1 p.2).2)
def againB (g:Mc→Nat→Mc×Nat) (mn mx:Int) (m:Mc) (i:Nat):Mc×Nat :=
 let p:=timesB g mn.toNat (m,i)
 let e:=p.1.len
 let m1:=frF (stF p.1) p.2 e
 if mx < 0 then (frF (forkB g m1 e).1 (forkB g m1 e).2 e,e) else ((maybeB g e (mx - mn).toNat (m1,p.2)).1,e)
mutual
def laidF : Ns → Mc → Nat → Mc × Nat
 | .mk k sl kids mn mx,m,i =>
  if k=1 then (edF (stF m) i m.len sl,m.len)
  else if k=2 then catF kids m i
  else if k=3 then (orF kids (stF m) i m.len,m.len)
  else if k=4 then repF kids mn mx m i
  else (m,i)
def catF : List Ns → Mc → Nat → Mc × Nat
 | [],m,i=>(m,i)
 | x::l,m,i=>catF l (laidF x m i).1 (laidF x m i).2
def orF : List Ns → Mc → Nat → Nat → Mc
 | [],m,_,_=>m
 | x::l,m,i,e=>orF l (frF (forkB (laidF x) m i).1 (forkB (laidF x) m i).2 e) i e
def repF : List Ns → Int → Int → Mc → Nat → Mc × Nat
 | [],_,_,m,i=>(m,i)
 | x::_,mn,mx,m,i=>againB (laidF x) mn mx m i
end
def buildF : List Ns → Nat → Mc → Mc
 | [],_,m=>m
 | x::l,i,m=>buildF l (i+1) (tgF (forkB (laidF x) m 0).1 (forkB (laidF x) m 0).2 i)
def timesN (c:Nat) (mn mx:Int):Nat:=(c+1)*(mn.toNat+(if mx < 0 then 1 else (mx - mn).toNat))+1
mutual
def cntS : Ns → Nat
 | .mk k _ kids mn mx=>if k=1 then 1 else if k=2 then cntC kids else if k=3 then cntO kids+1 else if k=4 then cntR kids mn mx else 0
def cntC : List Ns → Nat
 | []=>0
 | x::l=>cntS x+cntC l
def cntO : List Ns → Nat
 | []=>0
 | x::l=>cntS x+1+cntO l
def cntR : List Ns → Int → Int → Nat
 | [],_,_=>0
 | x::_,mn,mx=>timesN (cntS x) mn mx
end
end NfaM
namespace NfaM
open SetM WrM
def frs (m:Mc):Nat:=(m.fr.map List.length).sum
def eds (m:Mc):Nat:=(m.ed.map List.length).sum
theorem sum_set {α : Type} : ∀ (l : List (List α)) (i : Nat) (x : List α), ((l.set i x).map List.length).sum ≤ (l.map List.length).sum + (x.length - (l.getD i []).length)
 | [],_,_=>by simp
 | a::l,0,x=>by simp;omega
 | a::l,i+1,x=>by
  have:=sum_set l i x
  simp at this ⊢
  omega
theorem row_le {α : Type} : ∀ (l : List (List α)) (i : Nat), (l.getD i []).length ≤ (l.map List.length).sum
 | [],i=>by simp
 | a::l,0=>by simp
 | a::l,i+1=>by
  have:=row_le l i
  simp at this ⊢
  omega
theorem len_st (m:Mc):(stF m).len=m.len+1:=by simp [stF,Mc.len]
theorem len_fr (m:Mc) (i:Nat) (t:Int):(frF m i t).len=m.len:=rfl
theorem len_ed (m:Mc) (i:Nat) (t:Int) (s:List Sp):(edF m i t s).len=m.len:=rfl
theorem frs_st (m:Mc):frs (stF m)=frs m:=by simp [stF,frs]
theorem frs_fr (m:Mc) (i:Nat) (t:Int):frs (frF m i t)≤frs m+1:=by
 have h:=sum_set m.fr i (m.fr.getD i []++[t])
 rw [List.length_append] at h
 simp only [List.length_cons,List.length_nil] at h
 unfold frs
 exact Nat.le_trans h (by omega)
theorem eds_st (m:Mc):eds (stF m)=eds m:=by simp [stF,eds]
theorem eds_fr (m:Mc) (i:Nat) (t:Int):eds (frF m i t)=eds m:=rfl
theorem eds_ed (m:Mc) (i:Nat) (t:Int) (s:List Sp):eds (edF m i t s)≤eds m+1:=by
 have h:=sum_set m.ed i (m.ed.getD i []++[(t,s)])
 rw [List.length_append] at h
 simp only [List.length_cons,List.length_nil] at h
 unfold eds
 exact Nat.le_trans h (by omega)
structure Stp (m : Mc) (p : Mc × Nat) (c : Nat) : Prop where
 len:p.1.len=m.len+c
 lt:p.2 < p.1.len
 fr:frs p.1+2*m.len≤frs m+2*p.1.len
 ed:eds p.1+m.len≤eds m+p.1.len
structure Stp1 (m : Mc) (p : Mc × Nat) (c : Nat) : Prop where
 len:p.1.len=m.len+c
 lt:p.2 < p.1.len
 fr:frs p.1+2*m.len+1≤frs m+2*p.1.len
 ed:eds p.1+m.len≤eds m+p.1.len
theorem Stp1.to {m:Mc} {p:Mc×Nat} {c:Nat} (h:Stp1 m p c):Stp m p c:=⟨h.len,h.lt,by have:=h.fr;omega,h.ed⟩
theorem Stp1.way {m:Mc} {p:Mc×Nat} {c:Nat} (h:Stp1 m p c) (i:Nat) (t:Int) {j:Nat} (hj:j < p.1.len):Stp m (frF p.1 i t,j) c:=by
 have h1:=h.len
 have h2:=h.fr
 have h3:=h.ed
 have h4:=frs_fr p.1 i t
 exact ⟨h1,hj,by show frs (frF p.1 i t)+2*m.len≤frs m+2*p.1.len;omega,h3⟩
theorem Stp.refl {m:Mc} {i:Nat} (hi:i < m.len):Stp m (m,i) 0:=⟨rfl,hi,Nat.le_refl _,Nat.le_refl _⟩
theorem Stp.trans {m:Mc} {p q:Mc×Nat} {c d:Nat} (h:Stp m p c) (k:Stp p.1 q d):Stp m q (c+d):=by
 have:=h.len;have:=k.len;have:=h.fr;have:=k.fr;have:=h.ed;have:=k.ed;have:=k.lt
 exact ⟨by omega,by omega,by omega,by omega⟩
def Good (g:Mc→Nat→Mc×Nat) (c:Nat):Prop:=∀ m i,i < m.len→Stp m (g m i) c
theorem fork_stp {g:Mc→Nat→Mc×Nat} {c:Nat} (hg:Good g c) (m:Mc) (i:Nat):Stp1 m (forkB g m i) (c+1):=by
 have h:=hg (frF (stF m) i m.len) m.len (by rw [len_fr,len_st];omega)
 have h1:=h.len
 have h2:=h.fr
 have h3:=h.ed
 have h4:=frs_fr (stF m) i m.len
 have h5:=eds_fr (stF m) i m.len
 rw [len_fr,len_st] at h1 h2 h3
 rw [frs_st] at h4
 rw [eds_st] at h5
 have e:forkB g m i=g (frF (stF m) i m.len) m.len:=rfl
 rw [e]
 exact ⟨by omega,h.lt,by omega,by omega⟩
theorem times_stp {g : Mc → Nat → Mc × Nat} {c : Nat} (hg : Good g c) : ∀ (n : Nat) (p : Mc × Nat), p.2 < p.1.len → Stp p.1 (timesB g n p) ((c + 1) * n)
 | 0,p,hp=>Stp.refl hp
 | n+1,p,hp=>by
  have h:=(fork_stp hg p.1 p.2).to
  have k:=times_stp hg n (forkB g p.1 p.2) h.lt
  have:=h.trans k
  rw [timesB,Nat.mul_succ,Nat.add_comm]
  exact this
theorem maybe_stp {g : Mc → Nat → Mc × Nat} {c : Nat} (hg : Good g c) (e : Nat) : ∀ (n : Nat) (p : Mc × Nat), p.2 < p.1.len → Stp p.1 (maybeB g e n p) ((c + 1) * n)
 | 0,p,hp=>Stp.refl hp
 | n+1,p,hp=>by
  have h:=(fork_stp hg p.1 p.2).way (forkB g p.1 p.2).2 e (fork_stp hg p.1 p.2).lt
  have k:=maybe_stp hg e n (frF (forkB g p.1 p.2).1 (forkB g p.1 p.2).2 e,(forkB g p.1 p.2).2) h.lt
  have:=h.trans k
  rw [maybeB,Nat.mul_succ,Nat.add_comm]
  exact this
theorem again_stp {g:Mc→Nat→Mc×Nat} {c:Nat} (hg:Good g c) (mn mx:Int):Good (againB g mn mx) (timesN c mn mx):=by
 intro m i hi
 have h1:=times_stp hg mn.toNat (m,i) hi
 have h2:Stp (timesB g mn.toNat (m,i)).1 (frF (stF (timesB g mn.toNat (m,i)).1) (timesB g mn.toNat (m,i)).2 (timesB g mn.toNat (m,i)).1.len,(timesB g mn.toNat (m,i)).1.len) 1:=by
  have a:=frs_fr (stF (timesB g mn.toNat (m,i)).1) (timesB g mn.toNat (m,i)).2 (timesB g mn.toNat (m,i)).1.len
  have b:=frs_st (timesB g mn.toNat (m,i)).1
  have c:=eds_st (timesB g mn.toNat (m,i)).1
  have d:=len_st (timesB g mn.toNat (m,i)).1
  refine ⟨d,?_,?_,?_⟩
  ·show _ < (stF _).len;omega
  ·show _≤_+2*(stF (timesB g mn.toNat (m,i)).1).len;rw [d];simp only;omega
  ·show eds (stF _)+_≤_+(stF (timesB g mn.toNat (m,i)).1).len;rw [d,c];omega
 have h3:=h1.trans h2
 unfold againB
 dsimp only
 split
 ·have h4:=(fork_stp hg (frF (stF (timesB g mn.toNat (m,i)).1) (timesB g mn.toNat (m,i)).2 (timesB g mn.toNat (m,i)).1.len) (timesB g mn.toNat (m,i)).1.len).way (forkB g (frF (stF (timesB g mn.toNat (m,i)).1) (timesB g mn.toNat (m,i)).2 (timesB g mn.toNat (m,i)).1.len) (timesB g mn.toNat (m,i)).1.len).2 (timesB g mn.toNat (m,i)).1.len (j:=(timesB g mn.toNat (m,i)).1.len) (by
   have:=(fork_stp hg (frF (stF (timesB g mn.toNat (m,i)).1) (timesB g mn.toNat (m,i)).2 (timesB g mn.toNat (m,i)).1.len) (timesB g mn.toNat (m,i)).1.len).len
   have d:=len_st (timesB g mn.toNat (m,i)).1
   rw [len_fr,d] at this
   omega)
  have h5:=h3.trans h4
  have e:timesN c mn mx=(c+1)*mn.toNat+1+(c+1):=by
   unfold timesN
   rw [if_pos ‹_›,Nat.mul_add,Nat.mul_one];omega
  rw [e]
  exact h5
 ·have h4:=maybe_stp hg (timesB g mn.toNat (m,i)).1.len (mx - mn).toNat (frF (stF (timesB g mn.toNat (m,i)).1) (timesB g mn.toNat (m,i)).2 (timesB g mn.toNat (m,i)).1.len,(timesB g mn.toNat (m,i)).2) (by
   have:=h1.lt
   have d:=len_st (timesB g mn.toNat (m,i)).1
   show _ < (stF _).len
   omega)
  have h5:=h3.trans h4
  have e:timesN c mn mx=(c+1)*mn.toNat+1+(c+1)*(mx - mn).toNat:=by
   unfold timesN
   rw [if_neg ‹_›,Nat.mul_add];omega
  rw [e]
  refine ⟨h5.len,?_,h5.fr,h5.ed⟩
  have a:=h5.len
  have b:=h3.len
  have d:=h2.len
  have f:=h1.len
  show (timesB g mn.toNat (m,i)).1.len < _
  dsimp only at a b d f ⊢
  omega
mutual
theorem laid_stp : ∀ (u : Ns), Good (laidF u) (cntS u)
 | .mk k sl kids mn mx=>by
  intro m i hi
  rw [laidF,cntS]
  split
  ·have a := len_st m
   have b:=eds_ed (stF m) i m.len sl
   have c:=eds_st m
   have d:=frs_st m
   refine ⟨a,?_,?_,?_⟩
   ·show _ < (stF m).len;omega
   ·show frs (stF m)+_≤_+2*(stF m).len;omega
   ·show _≤_+(stF m).len;simp only;omega
  split
  ·exact cat_stp kids m i hi
  split
  ·have h := or_stp kids (stF m) i m.len (by rw [len_st]; omega)
   have a:=len_st m
   have b:=h.1
   have c:=h.2.1
   have d:=h.2.2
   have e:=frs_st m
   have f:=eds_st m
   refine ⟨by show (orF kids (stF m) i m.len).len=_;omega,by show _ < (orF kids (stF m) i m.len).len;omega,by show frs (orF kids (stF m) i m.len)+_≤_+2*(orF kids (stF m) i m.len).len;omega,by show eds (orF kids (stF m) i m.len)+_≤_+(orF kids (stF m) i m.len).len;omega⟩
  split
  ·exact rep_stp kids mn mx m i hi
  ·exact Stp.refl hi
theorem cat_stp : ∀ (l : List Ns), Good (catF l) (cntC l)
 | []=>fun m i hi=>by rw [catF,cntC];exact Stp.refl hi
 | x::l=>fun m i hi=>by
  rw [catF,cntC]
  have h:=laid_stp x m i hi
  exact h.trans (cat_stp l _ _ h.lt)
theorem or_stp : ∀ (l : List Ns) (m : Mc) (i e : Nat), e < m.len → (orF l m i e).len = m.len + cntO l ∧ frs (orF l m i e) + 2 * m.len ≤ frs m + 2 * (orF l m i e).len ∧ eds (orF l m i e) + m.len ≤ eds m + (orF l m i e).len
 | [],m,i,e,_=>by rw [orF,cntO];exact ⟨rfl,Nat.le_refl _,Nat.le_refl _⟩
 | x::l,m,i,e,he=>by
  rw [orF,cntO]
  have h0:=fork_stp (laid_stp x) m i
  have h:=h0.way (forkB (laidF x) m i).2 e h0.lt
  have h1:=h.len
  have h2:=h.fr
  have h3:=h.ed
  dsimp only at h1 h2 h3
  have k:=or_stp l (frF (forkB (laidF x) m i).1 (forkB (laidF x) m i).2 e) i e (by omega)
  omega
theorem rep_stp : ∀ (l : List Ns) (mn mx : Int), Good (repF l mn mx) (cntR l mn mx)
 | [],mn,mx=>fun m i hi=>by rw [repF,cntR];exact Stp.refl hi
 | x::l,mn,mx=>fun m i hi=>by
  rw [repF,cntR]
  exact again_stp (laid_stp x) mn mx m i hi
end
end NfaM
