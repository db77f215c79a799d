/- Nodes in memory as trees with their spans: any nodes, be their sets sets or not. -/
import Derived.Test.YtioahgklplbinaaGreatDoorRN
import Derived.Test.YtioahgklplbinaaGreatDoorVM
namespace Go.Proofs.YtioahgklplbinaaGreatDoor
open Go.RowKit Go.Shelf Go.Maps SetM PropsM RxM WrM
def RIs (W : World) : Nat → Value → Ns → Prop
 | 0,_,_=>False
 | h+1,v,.mk k sl kids mn mx=>∃ sp sc kp kc,v=.agg #[.int .u8 k,.slice sp (List.length sl) sc,.slice kp (List.length kids) kc,.int .i64 mn,.int .i64 mx]∧(sl.length≤100000∧kids.length≤1000)∧Sl W sp sl∧(sp=none→sc=0) ∧
   (kids≠[]→∃ g,kp=some ⟨g,0,none⟩∧(∃ cs,W.heap[g]? = some (.cells cs 48 (0,0)))∧∀ i (hi:i < kids.length),∃ u,RIs W h u kids[i]∧∀ j,j < 5→W.cell? ⟨g,i*5+j,none⟩=(kidParts u)[j]?)
def RV (W:World) (v:Value) (t:Ns):Prop:=∃ h,RIs W h v t
theorem RIs.step {W W' : World} (hb : Below W.heap.size W W') : ∀ (h : Nat) (v : Value) (t : Ns), RIs W h v t → RIs W' h v t
 | 0,_,_,hn=>hn
 | h+1,v,.mk k sl kids mn mx,hn=>by
  obtain ⟨sp,sc,kp,kc,e,hl,hs,hz,hk1⟩:=hn
  refine ⟨sp,sc,kp,kc,e,hl,hs.step hb,hz,fun hne=>?_⟩
  obtain ⟨g,e1,⟨cs,hg⟩,h3⟩:=hk1 hne
  have hlt:=(Array.getElem?_eq_some_iff.1 hg).1
  refine ⟨g,e1,⟨cs,(hb.block g hlt).trans hg⟩,fun i hi=>?_⟩
  obtain ⟨u,h4,h5⟩:=h3 i hi
  exact ⟨u,RIs.step hb h u _ h4,fun j hj=>(hb.cell (p:=⟨g,i*5+j,none⟩) hlt).trans (h5 j hj)⟩
theorem RV.step {W W':World} {v:Value} {t:Ns} (h:RV W v t) (hb:Below W.heap.size W W'):RV W' v t:=let ⟨n,hn⟩:=h;⟨n,hn.step hb⟩
theorem RIs.parts {W:World} {h:Nat} {v:Value} {t:Ns} (hn:RIs W h v t):(kidParts v).length=5:=by
 cases h with
 | zero=>exact hn.elim
 | succ h =>
  obtain ⟨k,sl,kids,mn,mx⟩:=t
  obtain ⟨sp,sc,kp,kc,rfl,_⟩:=hn
  rfl
theorem RIs.agg {W:World} {h:Nat} {v:Value} {t:Ns} (hn:RIs W h v t):v=.agg (kidParts v).toArray:=by
 cases h with
 | zero=>exact hn.elim
 | succ h =>
  obtain ⟨k,sl,kids,mn,mx⟩:=t
  obtain ⟨sp,sc,kp,kc,rfl,_⟩:=hn
  rfl
theorem RV.form5 {W:World} {v:Value} {t:Ns} (h:RV W v t):∃ (k:Int) (sp:Option Addr) (sn sc:Nat) (kp:Option Addr) (kn kc:Nat) (mn mx:Int),v=.agg #[.int .u8 k,.slice sp sn sc,.slice kp kn kc,.int .i64 mn,.int .i64 mx]:=by
 obtain ⟨n,hn⟩:=h
 cases n with
 | zero=>exact hn.elim
 | succ n =>
  obtain ⟨k,sl,kids,mn,mx⟩:=t
  obtain ⟨sp,sc,kp,kc,rfl,_⟩:=hn
  exact ⟨_,_,_,_,_,_,_,_,_,rfl⟩
theorem RV.read {W : World} {v : Value} {k : Nat} {sl : List Sp} {kids : List Ns} {mn mx : Int} (h : RV W v (.mk k sl kids mn mx)) :
  ∃ (sp:Option Addr) (sc:Nat) (kp:Option Addr) (kc:Nat),v=.agg #[.int .u8 k,.slice sp sl.length sc,.slice kp kids.length kc,.int .i64 mn,.int .i64 mx]∧(sl.length≤100000∧kids.length≤1000)∧Sl W sp sl∧(sp=none→sc=0) ∧
   (kids≠[]→∃ g,kp=some ⟨g,0,none⟩∧(∃ cs,W.heap[g]? = some (.cells cs 48 (0,0)))∧∀ i (hi:i < kids.length),∃ u,RV W u kids[i]∧∀ j,j < 5→W.cell? ⟨g,i*5+j,none⟩=(kidParts u)[j]?):=by
 obtain ⟨m,hm⟩:=h
 cases m with
 | zero=>exact hm.elim
 | succ m =>
  obtain ⟨sp,sc,kp,kc,e,hl,hs,hz,hk1⟩:=hm
  refine ⟨sp,sc,kp,kc,e,hl,hs,hz,fun hne=>?_⟩
  obtain ⟨g,e1,hb,h3⟩:=hk1 hne
  refine ⟨g,e1,hb,fun i hi=>?_⟩
  obtain ⟨u,h4,h5⟩:=h3 i hi
  exact ⟨u,⟨m,h4⟩,h5⟩
theorem sl_same {W:World} {P:Option Addr} {a b:List Sp} (ha:Sl W P a) (hb:Sl W P b) (hl:a.length=b.length):a=b:=by
 by_cases h0:a=[]
 ·subst h0
  exact (List.length_eq_zero_iff.1 hl.symm).symm
 ·have h1 : b ≠ [] := fun e => h0 (List.length_eq_zero_iff.1 (by rw [hl, e]; rfl))
  obtain ⟨x,o,e1,_,hc⟩:=ha h0
  obtain ⟨x',o',e2,_,hc'⟩:=hb h1
  rw [e1] at e2
  cases e2
  refine List.ext_getElem hl (fun j hj hj'=>?_)
  obtain ⟨p,q⟩:=hc j hj
  obtain ⟨p',q'⟩:=hc' j hj'
  rw [p] at p'
  rw [q] at q'
  injection p' with p'
  injection p' with _ p'
  injection q' with q'
  injection q' with _ q'
  exact Prod.ext p' q'
theorem RIs.same {W : World} : ∀ (h k : Nat) (v : Value) (t u : Ns), RIs W h v t → RIs W k v u → t = u
 | 0,_,_,_,_,hn,_=>hn.elim
 | h+1,0,_,_,_,_,hm=>hm.elim
 | h+1,k+1,v,.mk kd sl kids mn mx,.mk kd' sl' kids' mn' mx',hn,hm=>by
  obtain ⟨sp,sc,kp,kc,e,_,hs,_,hk1⟩:=hn
  obtain ⟨sp',sc',kp',kc',e',_,hs',_,hk1'⟩:=hm
  rw [e] at e'
  injection e' with e'
  injection e' with e'
  simp only [List.cons.injEq,Value.int.injEq,Value.slice.injEq,true_and,and_true] at e'
  obtain ⟨e0,⟨e1,e2,e3⟩,⟨e4,e5,e6⟩,e7,e8⟩:=e'
  have hkd:kd=kd':=by omega
  subst e1 e4 e7 e8 hkd
  have hsl:=sl_same hs hs' e2
  subst hsl
  have hkids:kids=kids':=by
   refine List.ext_getElem e5 (fun j hj hj'=>?_)
   obtain ⟨g,eg,_,h3⟩:=hk1 (fun e=>by rw [e] at hj;cases hj)
   obtain ⟨g',eg',_,h3'⟩:=hk1' (fun e=>by rw [e] at hj';cases hj')
   rw [eg] at eg'
   cases eg'
   obtain ⟨u,h4,h5⟩:=h3 j hj
   obtain ⟨u',h4',h5'⟩:=h3' j hj'
   have hu:u=u':=by
    rw [h4.agg,h4'.agg]
    congr 2
    refine List.ext_getElem? (fun i=>?_)
    by_cases hi:i < 5
    ·rw [← h5 i hi,← h5' i hi]
    ·rw [List.getElem?_eq_none (by rw [h4.parts];omega),List.getElem?_eq_none (by rw [h4'.parts];omega)]
   subst hu
   exact RIs.same h k u _ _ h4 h4'
  rw [hkids]
theorem list_of {α:Type} {P:Nat→α→Prop} (n:Nat) (h:∀ i,i < n→∃ x,P i x):∃ l:List α,l.length=n∧∀ i (hi:i < l.length),P i l[i]:=by
 induction n with
 | zero=>exact ⟨[],rfl,fun i hi=>by cases hi⟩
 | succ n ih =>
  obtain ⟨l,hl,h1⟩:=ih (fun i hi=>h i (by omega))
  obtain ⟨x,hx⟩:=h n (by omega)
  refine ⟨l++[x],by simp [hl],fun i hi=>?_⟩
  by_cases hin:i < l.length
  ·rw [List.getElem_append_left hin];exact h1 i hin
  ·have : i = n := by simp at hi; omega
   subst this
   rw [List.getElem_append_right (by omega)]
   simpa [hl] using hx
theorem nfsL_iff : ∀ (l : List Ns), NfsL l ↔ ∀ x ∈ l, Nfs x
 | []=>by rw [NfsL];simp
 | x::l=>by rw [NfsL,nfsL_iff l];simp
end Go.Proofs.YtioahgklplbinaaGreatDoor
