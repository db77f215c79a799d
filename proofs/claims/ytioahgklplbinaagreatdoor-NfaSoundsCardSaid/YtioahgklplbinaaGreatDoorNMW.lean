/- NRvb, NWalk, NFork, NLw, in one text. -/
import Derived.Test.YtioahgklplbinaaGreatDoorNMB
import Derived.Test.YtioahgklplbinaaGreatDoorNMA
import Derived.Deep.RegionHeld3
import Derived.Deep.DeepCutAuto
namespace Go.Proofs.YtioahgklplbinaaGreatDoor
open Go.RowKit Go.Shelf Go.Maps SetM PropsM RxM WrM NfaM
def RIB (W : World) (B : Nat → Prop) : Nat → Value → Ns → Prop
 | 0,_,_=>False
 | h+1,v,.mk k sl kids mn mx=>∃ sp sc kp kc,v=.agg #[.int .u8 k,.slice sp (List.length sl) sc,.slice kp (List.length kids) kc,.int .i64 mn,.int .i64 mx]∧(sl.length≤100000∧kids.length≤1000)∧Sl W sp sl∧(sp=none→sc=0)∧(sl≠[]→∀ a,sp=some a→B a.block) ∧
   (kids≠[]→∃ g,kp=some ⟨g,0,none⟩∧B g∧(∃ cs,W.heap[g]? = some (.cells cs 48 (0,0)))∧∀ i (hi:i < kids.length),∃ u,RIB W B h u kids[i]∧∀ j,j < 5→W.cell? ⟨g,i*5+j,none⟩=(kidParts u)[j]?)
def RVB (W:World) (B:Nat→Prop) (v:Value) (t:Ns):Prop:=∃ h,RIB W B h v t
theorem RIB.toR {W : World} {B : Nat → Prop} : ∀ (h : Nat) (v : Value) (t : Ns), RIB W B h v t → RIs W h v t
 | 0,_,_,hn=>hn
 | h+1,v,.mk k sl kids mn mx,hn=>by
  obtain ⟨sp,sc,kp,kc,e,hl,hs,hz,_,hk1⟩:=hn
  refine ⟨sp,sc,kp,kc,e,hl,hs,hz,fun hne=>?_⟩
  obtain ⟨g,e1,_,hb,h3⟩:=hk1 hne
  refine ⟨g,e1,hb,fun i hi=>?_⟩
  obtain ⟨u,h4,h5⟩:=h3 i hi
  exact ⟨u,RIB.toR h u _ h4,h5⟩
theorem RVB.toR {W:World} {B:Nat→Prop} {v:Value} {t:Ns} (h:RVB W B v t):RV W v t:=let ⟨n,hn⟩:=h;⟨n,hn.toR⟩
theorem RIB.kept {W W' : World} {B : Nat → Prop} (hs : W.heap.size ≤ W'.heap.size) (hb : ∀ k, B k → k < W.heap.size → W'.heap[k]? = W.heap[k]?) : ∀ (h : Nat) (v : Value) (t : Ns), RIB W B h v t → RIB W' B h v t
 | 0,_,_,hn=>hn
 | h+1,v,.mk k sl kids mn mx,hn=>by
  obtain ⟨sp,sc,kp,kc,e,hl,hsl,hz,ha,hk1⟩:=hn
  refine ⟨sp,sc,kp,kc,e,hl,fun hne=>?_,hz,ha,fun hne=>?_⟩
  ·obtain ⟨b, off, e1, hb1, hc⟩ := hsl hne
   have hq:=hb b (ha hne _ e1) hb1
   exact ⟨b,off,e1,by omega,fun j hj=>⟨(World.cell?_of_block (a:=⟨b,off+j*2,none⟩) hq).trans (hc j hj).1,(World.cell?_of_block (a:=⟨b,off+j*2+1,none⟩) hq).trans (hc j hj).2⟩⟩
  ·obtain ⟨g, e1, hB, ⟨cs, hg⟩, h3⟩ := hk1 hne
   have hlt:=(Array.getElem?_eq_some_iff.1 hg).1
   have hq:=hb g hB hlt
   refine ⟨g,e1,hB,⟨cs,hq.trans hg⟩,fun i hi=>?_⟩
   obtain ⟨u,h4,h5⟩:=h3 i hi
   exact ⟨u,RIB.kept hs hb h u _ h4,fun j hj=>(World.cell?_of_block (a:=⟨g,i*5+j,none⟩) hq).trans (h5 j hj)⟩
theorem RVB.kept {W W':World} {B:Nat→Prop} {v:Value} {t:Ns} (h:RVB W B v t) (hs:W.heap.size≤W'.heap.size) (hb:∀ k,B k→k < W.heap.size→W'.heap[k]? = W.heap[k]?):RVB W' B v t:=let ⟨n,hn⟩:=h;⟨n,hn.kept hs hb⟩
theorem RVB.read {W : World} {B : Nat → Prop} {v : Value} {k : Nat} {sl : List Sp} {kids : List Ns} {mn mx : Int} (h : RVB W B v (.mk k sl kids mn mx)) :
  ∃ (sp:Option Addr) (sc:Nat) (kp:Option Addr) (kc:Nat),v=.agg #[.int .u8 k,.slice sp sl.length sc,.slice kp kids.length kc,.int .i64 mn,.int .i64 mx]∧(sl.length≤100000∧kids.length≤1000)∧Sl W sp sl∧(sp=none→sc=0)∧(sl≠[]→∀ a,sp=some a→B a.block) ∧
   (kids≠[]→∃ g,kp=some ⟨g,0,none⟩∧B g∧g < W.heap.size∧∀ i (hi:i < kids.length),∃ a b c d e,RVB W B (.agg #[a,b,c,d,e]) kids[i]∧W.cell? ⟨g,i*5,none⟩=some a∧W.cell? ⟨g,i*5+1,none⟩=some b∧W.cell? ⟨g,i*5+2,none⟩=some c∧W.cell? ⟨g,i*5+3,none⟩=some d∧W.cell? ⟨g,i*5+4,none⟩=some e):=by
 obtain ⟨m,hm⟩:=h
 cases m with
 | zero=>exact hm.elim
 | succ m =>
  obtain ⟨sp,sc,kp,kc,e,hl,hs,hz,ha,hk1⟩:=hm
  refine ⟨sp,sc,kp,kc,e,hl,hs,hz,ha,fun hne=>?_⟩
  obtain ⟨g,e1,hB,⟨cs,hb⟩,h3⟩:=hk1 hne
  refine ⟨g,e1,hB,(Array.getElem?_eq_some_iff.1 hb).1,fun i hi=>?_⟩
  obtain ⟨u,h4,h5⟩:=h3 i hi
  obtain ⟨_,_,_,_,_,_,_,_,_,rfl⟩:=RV.form5 ⟨_,RIB.toR _ _ _ h4⟩
  exact ⟨_,_,_,_,_,⟨m,h4⟩,h5 0 (by omega),h5 1 (by omega),h5 2 (by omega),h5 3 (by omega),h5 4 (by omega)⟩
end Go.Proofs.YtioahgklplbinaaGreatDoor
namespace Go.Proofs.YtioahgklplbinaaGreatDoor
open Go.RowKit Go.Shelf Go.Maps SetM PropsM RxM WrM NfaM
structure WS (W : World) (N : Nat) (O B : Nat → Prop) (X : World) (v : Value) (m : Mc) : Prop where
 mv:MV X (fun k=>O k∨N≤k) B v m
 os:X.os=W.os
 tape:X.tape=W.tape
 output:X.output=W.output
 size:N≤X.heap.size
 old:∀ k,k < W.heap.size→¬ O k→X.heap[k]? = W.heap[k]?
structure OB (W : World) (O B : Nat → Prop) : Prop where
 o:∀ k,O k→k < W.heap.size∧¬ B k
 b:∀ k,B k→k < W.heap.size
theorem WS.start {W V:World} {N:Nat} {O B:Nat→Prop} {v:Value} {m:Mc} (h:MV W O B v m) (hob:OB W O B) (hb:Below W.heap.size W V) (hN:N≤V.heap.size):WS W N O B V v m :=
 ⟨(h.kept hb.size (fun k hk=>hb.block k (hk.elim (fun h=>(hob.o k h).1) (fun h=>hob.b k h)))).imp (fun _ h=>.inl h),hb.os,hb.tape,hb.output,hN,fun k hk _=>hb.block k hk⟩
theorem WS.call {W X X' : World} {N : Nat} {O B : Nat → Prop} {v v' : Value} {m m' : Mc} (h : WS W N O B X v m) (hob : OB W O B) (hN : W.heap.size ≤ N) (hm : MV X' (Onew (fun k => O k ∨ N ≤ k) X) B v' m') (hf : Frm (fun k => O k ∨ N ≤ k) X X') :
  WS W N O B X' v' m'∧(∀ k,W.heap.size≤k→k < N→X'.heap[k]? = X.heap[k]?):=by
 have hs:=h.size
 have hz:=hf.size
 refine ⟨⟨hm.imp (fun k hk=>?_),hf.os.trans h.os,hf.tape.trans h.tape,hf.output.trans h.output,by omega,fun k hk hO=>?_⟩,fun k h1 h2=>hf.block k (by omega) (fun e=>?_)⟩
 ·rcases hk with hk | hk
  ·exact hk
  ·exact .inr (by omega)
 ·rw [hf.block k (by omega) (fun e => by rcases e with e | e; exact hO e; omega)]
  exact h.old k hk hO
 ·rcases e with e | e
  ·have:=(hob.o k e).1;omega
  ·omega
theorem WS.other {W X X':World} {N:Nat} {O B:Nat→Prop} {v:Value} {m:Mc} (h:WS W N O B X v m) (hob:OB W O B) (hN:W.heap.size≤N) (hs:X.heap.size≤X'.heap.size) (ho:X'.os=X.os) (ht:X'.tape=X.tape) (hp:X'.output=X.output) (hb:∀ k,k < X.heap.size→¬ (W.heap.size≤k∧k < N)→X'.heap[k]? = X.heap[k]?):WS W N O B X' v m:=by
 have hz:=h.size
 obtain ⟨R,h1,h2,h3⟩:=h.mv
 refine ⟨⟨R,h1.kept hs (fun k hk=>?_),h2,h3⟩,ho.trans h.os,ht.trans h.tape,hp.trans h.output,by omega,fun k hk hO=>?_⟩
 ·rcases hk with hk | hk
  ·refine hb k (h1.fam.lt hk) (fun e => ?_)
   rcases h3 k hk with h4 | h4
   ·have:=(hob.o k h4).1;omega
   ·omega
  ·have := hob.b k hk
   exact hb k (by omega) (fun e=>by omega)
 ·rw [hb k (by omega) (fun e => by omega)]
  exact h.old k hk hO
theorem WS.put3 {W X:World} {N:Nat} {O B:Nat→Prop} {v:Value} {m:Mc} (h:WS W N O B X v m) (hob:OB W O B) (hN:W.heap.size≤N) {b:Nat} (h1:W.heap.size≤b) (h2:b < N) (x y z:Value):WS W N O B (put3 X b x y z) v m :=
 h.other hob hN (by rw [put3_size];exact Nat.le_refl _) rfl rfl rfl (fun k _ hk=>put3_other _ _ _ _ _ _ (fun e=>hk ⟨by omega,by omega⟩))
theorem WS.drew {W X:World} {N:Nat} {O B:Nat→Prop} {v:Value} {m:Mc} (h:WS W N O B X v m):WS W N O B X.drew v m :=
 ⟨h.mv.kept (Nat.le_refl _) (fun _ _=>rfl),h.os,h.tape,h.output,h.size,h.old⟩
theorem WS.fin {W X:World} {N:Nat} {O B:Nat→Prop} {v:Value} {m:Mc} (h:WS W N O B X v m) (hN:W.heap.size≤N):MV X (Onew O W) B v m∧Frm O W X:=by
 have hs:=h.size
 exact ⟨h.mv.imp (fun k hk=>hk.imp id (fun h=>by omega)),h.os,h.tape,h.output,by omega,h.old⟩
theorem WS.node {W X:World} {N:Nat} {O B:Nat→Prop} {v pv:Value} {m:Mc} {u:Ns} (h:WS W N O B X v m) (hob:OB W O B) (hN:W.heap.size≤N) (hp:RVB W B pv u):RVB X B pv u :=
 hp.kept (by have:=h.size;omega) (fun k hB hk=>h.old k hk (fun hO=>(hob.o k hO).2 hB))
theorem WS.ob {W X:World} {N:Nat} {O B:Nat→Prop} {v:Value} {m:Mc} (h:WS W N O B X v m) (hob:OB W O B) (hN:W.heap.size≤N):OB X (fun k=>(O k∨N≤k)∧k < X.heap.size) B:=by
 have hs:=h.size
 exact ⟨fun k hk=>⟨hk.2,fun hB=>by
  rcases hk.1 with hk | hk
  ·exact (hob.o k hk).2 hB
  ·have:=hob.b k hB;omega⟩,fun k hB=>by have:=hob.b k hB;omega⟩
theorem MV.real {W:World} {O B:Nat→Prop} {v:Value} {m:Mc} (h:MV W O B v m):MV W (fun k=>O k∧k < W.heap.size) B v m:=by
 obtain ⟨R,h1,h2,h3⟩:=h
 exact ⟨R,h1,h2,fun k hk=>⟨h3 k hk,h1.fam.lt hk⟩⟩
theorem Rw.ok.slice {W:World} {r:Rw} (h:r.ok W):∃ p c,r.v=.slice p r.n c:=by
 rcases h.2 with ⟨h1,h2⟩ | ⟨g,cap,_,h1,_⟩
 ·exact ⟨none,0,by rw [h1,h2]⟩
 ·exact ⟨_,_,h1⟩
theorem MV.form {W:World} {O B:Nat→Prop} {v:Value} {m:Mc} (h:MV W O B v m):∃ p0 c0 p1 c1 p2 c2,v=.agg #[.slice p0 m.tg.length c0,.slice p1 m.tg.length c1,.slice p2 m.tg.length c2]:=by
 obtain ⟨R,h1,rfl,_⟩:=h
 obtain ⟨p0,c0,e0⟩:=(h1.fam.own 0 (by omega)).slice
 obtain ⟨p1,c1,e1⟩:=(h1.fam.own 1 (by omega)).slice
 obtain ⟨p2,c2,e2⟩:=(h1.fam.own 2 (by omega)).slice
 rw [h1.r0.2.2.1] at e0
 rw [h1.r1.2.2.1] at e1
 rw [h1.r2.2.2.1] at e2
 exact ⟨p0,c0,p1,c1,p2,c2,by rw [e0,e1,e2]⟩
def Room (m:Mc) (c:Nat):Prop:=frs m≤2*m.len∧eds m≤m.len∧m.len+c≤100000
theorem Room.row {m:Mc} {c:Nat} (h:Room m c) (i:Nat):(m.fr.getD i []).length≤1000000:=by
 have h1:=row_le m.fr i
 have h2:=h.1
 have h3:=h.2.2
 unfold frs at h2
 omega
def LP (W:World) (O B:Nat→Prop) (p:Mc×Nat) (e:Ending) (W':World):Prop:=∃ v',e=.returned (.tuple #[v',.int .i64 (p.2:Nat)])∧MV W' (Onew O W) B v' p.1∧Frm O W W'
def LaidC (u:Ns):Prop:=∀ (W:World) (O B:Nat→Prop) (v pv:Value) (m:Mc) (i:Nat),MV W O B v m→RVB W B pv u→OB W O B→i < m.len→Room m (cntS u) →
 Calls Tryz.prog 55 #[v,pv,.int .i64 i] W (LP W O B (laidF u m i))
def ForkC (u:Ns):Prop:=∀ (W:World) (O B:Nat→Prop) (v pv:Value) (m:Mc) (i:Nat),MV W O B v m→RVB W B pv u→OB W O B→i < m.len→Room m (cntS u+1) →
 Calls Tryz.prog 29 #[v,pv,.int .i64 i] W (LP W O B (forkB (laidF u) m i))
end Go.Proofs.YtioahgklplbinaaGreatDoor
namespace Go.Proofs.YtioahgklplbinaaGreatDoor
open Go.RowKit Go.Shelf Go.Maps SetM PropsM RxM WrM NfaM
theorem results_fork {tmps : Array Value} {w : World} {B : Nat} {a b c : Value} {z : Int} (h1 : tmps.getD 6 undef = .pointer (some ⟨B, 0, none⟩)) (h2 : tmps.getD 7 undef = .int .i64 z)
  (b1:w.heap[B]? = some (.cells #[a,b,c] 29 (0,0))) :
  (results Tryz.f29 tmps).run Tryz.prog w=.ok (.tuple #[.agg #[a,b,c],.int .i64 z]) w:=by
 have h1':tmps[6]?.getD undef=.pointer (some ⟨B,0,none⟩):=by simpa using h1
 have h2':tmps[7]?.getD undef=.int .i64 z:=by simpa using h2
 have q0:w.cell? ⟨B,0,none⟩=some a:=cell_of_row w _ 0 _ _ _ b1
 have q1:w.cell? ⟨B,1,none⟩=some b:=cell_of_row w _ 1 _ _ _ b1
 have q2:w.cell? ⟨B,2,none⟩=some c:=cell_of_row w _ 2 _ _ _ b1
 simp [results,Tryz.results29,h1',h2',go_sem,q0,q1,q2]
theorem ret_fork {Q : Ending → World → Prop} {tmps : Array Value} {w1 : World} {B : Nat} {x y z a b c : Value} {n : Int} (h1 : tmps.getD 6 undef = .pointer (some ⟨B, 0, none⟩)) (h2 : tmps.getD 7 undef = .int .i64 n)
  (h3:w1.heap[B]? = some (.cells #[x,y,z] 29 (0,0))) (hQ:Q (.returned (.tuple #[.agg #[a,b,c],.int .i64 n])) (put3 w1 B a b c)) :
  bodyPost Tryz.prog Tryz.f29 Q .ret { tmps:=tmps,defers:=[] } (((w1.setCell ⟨B,0,none⟩ a).setCell ⟨B,1,none⟩ b).setCell ⟨B,2,none⟩ c) :=
 bodyPost_ret (results_fork h1 h2 (put3_heap a b c h3)) rfl hQ
theorem cells3 {W:World} {b:Nat} {x y z:Value} (h:W.heap[b]? = some (.cells #[x,y,z] 29 (0,0))):(W.cell? ⟨b,0,none⟩=some x∧W.cell? ⟨b,1,none⟩=some y∧W.cell? ⟨b,2,none⟩=some z)∧W.frozen? ⟨b,0,none⟩=false∧W.frozen? ⟨b,1,none⟩=false∧W.frozen? ⟨b,2,none⟩=false :=
 ⟨⟨cell_of_row W _ 0 _ _ _ h,cell_of_row W _ 1 _ _ _ h,cell_of_row W _ 2 _ _ _ h⟩,frozen_of_row W _ 0 _ _ h,frozen_of_row W _ 1 _ _ h,frozen_of_row W _ 2 _ _ h⟩
theorem cells5 {W:World} {b:Nat} {x0 x1 x2 x3 x4:Value} (h:W.heap[b]? = some (.cells #[x0,x1,x2,x3,x4] 48 (0,0))):W.cell? ⟨b,0,none⟩=some x0∧W.cell? ⟨b,1,none⟩=some x1∧W.cell? ⟨b,2,none⟩=some x2∧W.cell? ⟨b,3,none⟩=some x3∧W.cell? ⟨b,4,none⟩=some x4 :=
 ⟨cell_of_row W _ 0 _ _ _ h,cell_of_row W _ 1 _ _ _ h,cell_of_row W _ 2 _ _ _ h,cell_of_row W _ 3 _ _ _ h,cell_of_row W _ 4 _ _ _ h⟩
theorem LaidC.at {u : Ns} (h : LaidC u) {W X : World} {N : Nat} {O B : Nat → Prop} {v pv : Value} {m : Mc} {i : Nat} (hw : WS W N O B X v m) (hob : OB W O B) (hN : W.heap.size ≤ N) (hp : RVB W B pv u) (hi : i < m.len) (hr : Room m (cntS u)) :
  Calls Tryz.prog 55 #[v,pv,.int .i64 i] X fun e X'=>∃ p0 c0 p1 c1 p2 c2 l,e=.returned (.tuple #[.agg #[.slice p0 l c0,.slice p1 l c1,.slice p2 l c2],.int .i64 ((laidF u m i).2:Nat)])∧WS W N O B X' (.agg #[.slice p0 l c0,.slice p1 l c1,.slice p2 l c2]) (laidF u m i).1∧∀ k,W.heap.size≤k→k < N→X'.heap[k]? = X.heap[k]? :=
 (h X _ B v pv m i hw.mv.real (hw.node hob hN hp) (hw.ob hob hN) hi hr).mono fun e X' ⟨v',h1,h2,h3⟩=>by
  have hq:=hw.call hob hN (h2.imp (fun k hk=>hk.imp (fun h=>h.1) id)) (h3.mono (fun k hk=>hk.1))
  obtain ⟨p0,c0,p1,c1,p2,c2,rfl⟩:=h2.form
  exact ⟨_,_,_,_,_,_,_,h1,hq.1,hq.2⟩
theorem state_at {W X : World} {N : Nat} {O B : Nat → Prop} {v : Value} {m : Mc} (hw : WS W N O B X v m) (hob : OB W O B) (hN : W.heap.size ≤ N) (hr : m.len ≤ 1000000) :
  Calls Tryz.prog 28 #[v] X fun e X'=>∃ p0 c0 p1 c1 p2 c2,e=.returned (.agg #[.slice p0 (m.len+1) c0,.slice p1 (m.len+1) c1,.slice p2 (m.len+1) c2])∧WS W N O B X' (.agg #[.slice p0 (m.len+1) c0,.slice p1 (m.len+1) c1,.slice p2 (m.len+1) c2]) (stF m)∧∀ k,W.heap.size≤k→k < N→X'.heap[k]? = X.heap[k]? :=
 (state_c hw.mv hr).mono fun e X' ⟨v',h1,h2,h3⟩=>by
  have hq:=hw.call hob hN h2 h3
  obtain ⟨p0,c0,p1,c1,p2,c2,e1⟩:=h2.form
  rw [show (stF m).tg.length=m.len+1 from len_st m] at e1
  subst e1
  exact ⟨_,_,_,_,_,_,h1,hq.1,hq.2⟩
theorem free_at {W X : World} {N : Nat} {O B : Nat → Prop} {v : Value} {m : Mc} {i : Nat} {t : Int} (hw : WS W N O B X v m) (hob : OB W O B) (hN : W.heap.size ≤ N) (hi : i < m.len) (hr : m.len ≤ 1000000) (h9 : (m.fr.getD i []).length ≤ 1000000) :
  Calls Tryz.prog 56 #[v,.int .i64 i,.int .i64 t] X fun e X'=>∃ p0 c0 p1 c1 p2 c2,e=.returned (.agg #[.slice p0 m.len c0,.slice p1 m.len c1,.slice p2 m.len c2])∧WS W N O B X' (.agg #[.slice p0 m.len c0,.slice p1 m.len c1,.slice p2 m.len c2]) (frF m i t)∧∀ k,W.heap.size≤k→k < N→X'.heap[k]? = X.heap[k]? :=
 (free_c hw.mv hi hr h9).mono fun e X' ⟨v',h1,h2,h3⟩=>by
  have hq:=hw.call hob hN h2 h3
  obtain ⟨p0,c0,p1,c1,p2,c2,e1⟩:=h2.form
  subst e1
  exact ⟨_,_,_,_,_,_,h1,hq.1,hq.2⟩
set_option maxRecDepth 100000 in
set_option maxHeartbeats 8000000 in
theorem fork_c {u:Ns} (hu:LaidC u):ForkC u:=by
 intro W O B v pv m i h hp hob hi hr
 obtain ⟨p0,c0,p1,c1,p2,c2,rfl⟩:=h.form
 obtain ⟨kd,sp,sn,sc,kp,kn,kc,mn,mx,rfl⟩:=hp.toR.form5
 obtain ⟨n,hn⟩:∃ n,n=m.tg.length:=⟨_,rfl⟩
 rw [← hn] at h ⊢
 have hnl:m.len=n:=by rw [hn];rfl
 obtain ⟨V,hV⟩:∃ V,V=((W.alloc (.cells #[.slice p0 n c0,.slice p1 n c1,.slice p2 n c2] 29)).alloc (.cells #[.int .u8 kd,.slice sp sn sc,.slice kp kn kc,.int .i64 mn,.int .i64 mx] 48)).alloc (.cells #[.slice none 0 0,.slice none 0 0,.slice none 0 0] 29):=⟨_,rfl⟩
 have z1:=World.size_alloc W (.cells #[.slice p0 n c0,.slice p1 n c1,.slice p2 n c2] 29)
 have z2:=World.size_alloc (W.alloc (.cells #[.slice p0 n c0,.slice p1 n c1,.slice p2 n c2] 29)) (.cells #[.int .u8 kd,.slice sp sn sc,.slice kp kn kc,.int .i64 mn,.int .i64 mx] 48)
 have z3:V.heap.size=W.heap.size+3:=by rw [hV,World.size_alloc,z2,z1]
 have hb:Below W.heap.size W V:=by rw [hV];exact (((Below.refl _ _).alloc (Nat.le_refl _) _).alloc (by rw [z1];omega) _).alloc (by rw [z2,z1];omega) _
 have x0:V.heap[W.heap.size]? = some (.cells #[.slice p0 n c0,.slice p1 n c1,.slice p2 n c2] 29 (0,0)):=by
  rw [hV,Lib.alloc_old _ _ _ (by rw [z2,z1];omega),Lib.alloc_old _ _ _ (by rw [z1];omega)]
  exact heap_alloc_new W _
 have x1:V.heap[W.heap.size+1]? = some (.cells #[.int .u8 kd,.slice sp sn sc,.slice kp kn kc,.int .i64 mn,.int .i64 mx] 48 (0,0)):=by
  rw [hV,Lib.alloc_old _ _ _ (by rw [z2,z1];omega),← z1]
  exact heap_alloc_new _ _
 have x2:V.heap[W.heap.size+1+1]? = some (.cells #[.slice none 0 0,.slice none 0 0,.slice none 0 0] 29 (0,0)):=by
  rw [hV,show W.heap.size+1+1=((W.alloc (.cells #[.slice p0 n c0,.slice p1 n c1,.slice p2 n c2] 29)).alloc (.cells #[.int .u8 kd,.slice sp sn sc,.slice kp kn kc,.int .i64 mn,.int .i64 mx] 48)).heap.size from by rw [z2,z1]]
  exact heap_alloc_new _ _
 have hws:WS W (W.heap.size+3) O B V (.agg #[.slice p0 n c0,.slice p1 n c1,.slice p2 n c2]) m:=WS.start h hob hb (by omega)
 have HOB:=Lib.hid hob
 have HPV:=Lib.hid hp
 have HRM:=Lib.hid hr
 have HIL:=Lib.hid hi
 have HNL:=Lib.hid hnl
 have hn8:n≤100000:=by have:=hr.2.2;omega
 have HST:=Lib.hid (state_at hws hob (by omega) (by rw [hnl];omega))
 rw [hnl] at HST
 obtain ⟨⟨k0,k1,k2⟩,_⟩:=cells3 x0
 have X0:=Lib.hid x0
 have X1:=Lib.hid x1
 have X2:=Lib.hid x2
 clear hn hnl hb x0 x1 x2 hws hob hp hr hi h z1 z2 z3
 go_enter Tryz.func29,Tryz.ntmps29
 go_upto_region 1 with fail
 rw [← hV]
 clear hV
 go_wp2_with fail
 refine HST.out.mono ?_
 rintro e w1 ⟨q0,d0,q1,d1,q2,d2,rfl,hw1,hk1⟩
 have y0:=(hk1 W.heap.size (by omega) (by omega)).trans X0.out
 have y1:=(hk1 (W.heap.size+1) (by omega) (by omega)).trans X1.out
 have y2:=(hk1 (W.heap.size+1+1) (by omega) (by omega)).trans X2.out
 obtain ⟨⟨a0,a1,a2⟩,f0,f1,f2⟩:=cells3 y0
 have hw2:=hw1.put3 HOB.out (by omega) (b:=W.heap.size) (by omega) (by omega) (.slice q0 (n+1) d0) (.slice q1 (n+1) d1) (.slice q2 (n+1) d2)
 have u0:=put3_heap (.slice q0 (n+1) d0) (.slice q1 (n+1) d1) (.slice q2 (n+1) d2) y0
 have u1:=(put3_other w1 W.heap.size (.slice q0 (n+1) d0) (.slice q1 (n+1) d1) (.slice q2 (n+1) d2) (W.heap.size+1) (by omega)).trans y1
 have u2:=(put3_other w1 W.heap.size (.slice q0 (n+1) d0) (.slice q1 (n+1) d1) (.slice q2 (n+1) d2) (W.heap.size+1+1) (by omega)).trans y2
 clear HST k0 k1 k2 hk1 hw1 y0 y1 y2
 go_upto_region 2 with fail
 obtain ⟨Y,hY⟩:∃ Y,Y=put3 w1 W.heap.size (.slice q0 (n+1) d0) (.slice q1 (n+1) d1) (.slice q2 (n+1) d2):=⟨_,rfl⟩
 rw [← hY] at hw2 u0 u1 u2
 have hY2:=hY
 unfold put3 at hY2
 rw [← hY2]
 clear hY hY2 a0 a1 a2 f0 f1 f2
 obtain ⟨⟨a0,a1,a2⟩,_⟩:=cells3 u0
 have hwn:wrap64 (((n+1:Nat):Int) - 1)=(n:Int):=by rw [IntWalk.wrap64_in _ (by omega)];omega
 have hl1:(stF m).len=n+1:=by rw [len_st,HNL.out]
 have HFR:=Lib.hid (free_at (i:=i) (t:=(n:Int)) hw2.drew HOB.out (by omega) (by rw [hl1];have:=HIL.out;have:=HNL.out;omega) (by rw [hl1];omega) (by
  have a:=row_le (stF m).fr i
  have b:=frs_st m
  have c:=HRM.out.1
  have d:=HRM.out.2.2
  unfold frs at b c
  omega))
 rw [hl1] at HFR
 have HLA:Hid (∀ (X:World) (v:Value),WS W (W.heap.size+3) O B X v (frF (stF m) i n)→Calls Tryz.prog 55 #[v,.agg #[.int .u8 kd,.slice sp sn sc,.slice kp kn kc,.int .i64 mn,.int .i64 mx],.int .i64 n] X fun e X'=>∃ p0 c0 p1 c1 p2 c2 l,e=.returned (.tuple #[.agg #[.slice p0 l c0,.slice p1 l c1,.slice p2 l c2],.int .i64 ((forkB (laidF u) m i).2:Nat)])∧WS W (W.heap.size+3) O B X' (.agg #[.slice p0 l c0,.slice p1 l c1,.slice p2 l c2]) (forkB (laidF u) m i).1∧∀ k,W.heap.size≤k→k < W.heap.size+3→X'.heap[k]? = X.heap[k]?):=Lib.hid (fun X v hx=>by
  have hl2:(frF (stF m) i n).len=n+1:=hl1
  have:=hu.at (i:=n) hx HOB.out (by omega) HPV.out (by rw [hl2];omega) (by
   have a:=frs_fr (stF m) i n
   have b:=frs_st m
   have c:=eds_fr (stF m) i n
   have d:=eds_st m
   have e:=HRM.out
   have f:=HNL.out
   unfold Room at e ⊢
   rw [hl2]
   omega)
  have e:forkB (laidF u) m i=laidF u (frF (stF m) i n) n:=by unfold forkB;rw [HNL.out]
  rw [e]
  exact this)
 have HU:=Lib.hid (And.intro u0 (And.intro u1 u2))
 have HS:=Lib.hid (fun (U:World) (hU:∀ k,W.heap.size≤k→k < W.heap.size+2→U.heap[k]? = Y.heap[k]?)=>(⟨(cells3 ((hU _ (by omega) (by omega)).trans u0)).1,cells5 ((hU _ (by omega) (by omega)).trans u1)⟩:(U.cell? ⟨W.heap.size,0,none⟩=some (.slice q0 (n+1) d0)∧U.cell? ⟨W.heap.size,1,none⟩=some (.slice q1 (n+1) d1)∧U.cell? ⟨W.heap.size,2,none⟩=some (.slice q2 (n+1) d2))∧(U.cell? ⟨W.heap.size+1,0,none⟩=some (.int .u8 kd)∧U.cell? ⟨W.heap.size+1,1,none⟩=some (.slice sp sn sc)∧U.cell? ⟨W.heap.size+1,2,none⟩=some (.slice kp kn kc)∧U.cell? ⟨W.heap.size+1,3,none⟩=some (.int .i64 mn)∧U.cell? ⟨W.heap.size+1,4,none⟩=some (.int .i64 mx))))
 have HSR:=Lib.hid (fun (U:World) (hU:∀ k,W.heap.size≤k→k < W.heap.size+3→U.heap[k]? = Y.heap[k]?)=>cells3 ((hU _ (by omega) (by omega)).trans u2))
 clear u0 u1 u2 hw2 hl1
 go_upto_region 3 with fail
 have hr:∀ k,W.heap.size≤k→k < W.heap.size+3→Y.drew.heap[k]? = Y.heap[k]?:=fun _ _ _=>rfl
 have hrr:=HSR.out _ hr
 go_cut [7] (fun s7 wc=>∃ a b c xx xy xz X,s7=.int .i64 ((forkB (laidF u) m i).2:Nat)∧wc=put3 X (W.heap.size+1+1) a b c∧X.heap[W.heap.size+1+1]? = some (.cells #[xx,xy,xz] 29 (0,0))∧WS W (W.heap.size+3) O B X (.agg #[a,b,c]) (forkB (laidF u) m i).1)
 case first =>
  have hk:=hr
  go_region_held3 (fun U => (U.cell? ⟨W.heap.size, 0, none⟩ = some (.slice q0 (n + 1) d0) ∧ U.cell? ⟨W.heap.size, 1, none⟩ = some (.slice q1 (n + 1) d1) ∧ U.cell? ⟨W.heap.size, 2, none⟩ = some (.slice q2 (n + 1) d2)) ∧ (U.cell? ⟨W.heap.size + 1, 0, none⟩ = some (.int .u8 kd) ∧ U.cell? ⟨W.heap.size + 1, 1, none⟩ = some (.slice sp sn sc) ∧ U.cell? ⟨W.heap.size + 1, 2, none⟩ = some (.slice kp kn kc) ∧ U.cell? ⟨W.heap.size + 1, 3, none⟩ = some (.int .i64 mn) ∧ U.cell? ⟨W.heap.size + 1, 4, none⟩ = some (.int .i64 mx)))
   (first | exact HS.out _ (fun k h1 h2=>hk k h1 (by omega)) | exact HS.out _ (fun k h1 h2=>(put3_other w4 (W.heap.size+1+1) _ _ _ k (by omega)).trans (hk k h1 (by omega))))
   (first
    | (go_at_call 56;(refine HFR.out.mono ?_);rintro e w3 ⟨r0,t0,r1,t1,r2,t2,rfl,hw3,hk3⟩;have hk:∀ k,W.heap.size≤k→k < W.heap.size+3→w3.heap[k]? = Y.heap[k]?:=(fun k h1 h2=>(hk3 k h1 h2).trans (hk k h1 h2));have HC3:=Lib.hid (HLA.out w3 _ hw3);clear hk3 hw3)
    | (go_at_call 55;(refine HC3.out.mono ?_);rintro e w4 ⟨r0,t0,r1,t1,r2,t2,l4,rfl,hw4,hk4⟩;have hk:∀ k,W.heap.size≤k→k < W.heap.size+3→w4.heap[k]? = Y.heap[k]?:=(fun k h1 h2=>(hk4 k h1 h2).trans (hk k h1 h2));obtain ⟨⟨g0,g1,g2⟩,e0,e1,e2⟩:=HSR.out w4 hk;have HW4:=Lib.hid hw4;clear hk4 hw4))
  all_goals
   have HR4:=Lib.hid (HSR.out w4 hk)
   have HX4:=Lib.hid ((hk (W.heap.size+1+1) (by omega) (by omega)).trans HU.out.2.2)
   clear hk hr hrr HS HSR
   go_wp2
   go_meet
   exact ⟨_,_,_,_,_,_,w4,rfl,rfl,HX4.out,HW4.out⟩
 case rest =>
  obtain ⟨a,b,c,xx,xy,xz,X,rfl,rfl,hX,hws⟩:=hcut
  have HF:=hws.put3 HOB.out (by omega) (b:=W.heap.size+1+1) (by omega) (by omega) a b c
  have HE:=Lib.hid (HF.fin (by omega))
  clear HF hws
  go_wp2
  exact ret_fork rfl rfl hX ⟨_,rfl,HE.out⟩
end Go.Proofs.YtioahgklplbinaaGreatDoor
namespace Go.Proofs.YtioahgklplbinaaGreatDoor
open Go.RowKit Go.Shelf Go.Maps SetM PropsM RxM WrM NfaM
structure Lw (W : World) (O B : Nat → Prop) (nd : Array Value) (X : World) (bx : Array Value) (m : Mc) : Prop where
 b0:X.heap[W.heap.size]? = some (.cells bx 29 (0,0))
 b1:X.heap[W.heap.size+1]? = some (.cells nd 48 (0,0))
 b2:X.heap[W.heap.size+1+1]? = some (.cells #[.slice none 0 0,.slice none 0 0,.slice none 0 0] 29 (0,0))
 ws:WS W (W.heap.size+3) O B X (.agg bx) m
theorem Lw.start {W V:World} {O B:Nat→Prop} {nd bx:Array Value} {m:Mc} (h:MV W O B (.agg bx) m) (hob:OB W O B) (hV:V=((W.alloc (.cells bx 29)).alloc (.cells nd 48)).alloc (.cells #[.slice none 0 0,.slice none 0 0,.slice none 0 0] 29)):Lw W O B nd V bx m:=by
 have z1:=World.size_alloc W (.cells bx 29)
 have z2:=World.size_alloc (W.alloc (.cells bx 29)) (.cells nd 48)
 have z3:V.heap.size=W.heap.size+3:=by rw [hV,World.size_alloc,z2,z1]
 have hb:Below W.heap.size W V:=by rw [hV];exact (((Below.refl _ _).alloc (Nat.le_refl _) _).alloc (by rw [z1];omega) _).alloc (by rw [z2,z1];omega) _
 refine ⟨?_,?_,?_,WS.start h hob hb (by omega)⟩
 ·rw [hV, Lib.alloc_old _ _ _ (by rw [z2, z1]; omega), Lib.alloc_old _ _ _ (by rw [z1]; omega)]
  exact heap_alloc_new W _
 ·rw [hV, Lib.alloc_old _ _ _ (by rw [z2, z1]; omega), ← z1]
  exact heap_alloc_new _ _
 ·rw [hV, show W.heap.size + 1 + 1 = ((W.alloc (.cells bx 29)).alloc (.cells nd 48)).heap.size from by rw [z2, z1]]
  exact heap_alloc_new _ _
theorem Lw.drew {W X:World} {O B:Nat→Prop} {nd bx:Array Value} {m:Mc} (h:Lw W O B nd X bx m):Lw W O B nd X.drew bx m:=⟨h.b0,h.b1,h.b2,h.ws.drew⟩
theorem Lw.mid {W X X' : World} {O B : Nat → Prop} {nd bx : Array Value} {m : Mc} (h : Lw W O B nd X bx m) (hk : ∀ k, W.heap.size ≤ k → k < W.heap.size + 3 → X'.heap[k]? = X.heap[k]?) :
  X'.heap[W.heap.size]? = some (.cells bx 29 (0,0))∧X'.heap[W.heap.size+1]? = some (.cells nd 48 (0,0))∧X'.heap[W.heap.size+1+1]? = some (.cells #[.slice none 0 0,.slice none 0 0,.slice none 0 0] 29 (0,0)) :=
 ⟨(hk _ (by omega) (by omega)).trans h.b0,(hk _ (by omega) (by omega)).trans h.b1,(hk _ (by omega) (by omega)).trans h.b2⟩
theorem Lw.next {W X X':World} {O B:Nat→Prop} {nd:Array Value} {x y z a b c:Value} {m m':Mc} (h:Lw W O B nd X #[x,y,z] m) (hob:OB W O B) (hw:WS W (W.heap.size+3) O B X' (.agg #[a,b,c]) m') (hk:∀ k,W.heap.size≤k→k < W.heap.size+3→X'.heap[k]? = X.heap[k]?):Lw W O B nd (put3 X' W.heap.size a b c) #[a,b,c] m':=by
 obtain ⟨h0,h1,h2⟩:=h.mid hk
 exact ⟨put3_heap a b c h0,(put3_other _ _ _ _ _ _ (by omega)).trans h1,(put3_other _ _ _ _ _ _ (by omega)).trans h2,hw.put3 hob (by omega) (by omega) (by omega) a b c⟩
theorem Lw.old {W X:World} {O B:Nat→Prop} {nd bx:Array Value} {m:Mc} (h:Lw W O B nd X bx m) (hob:OB W O B) {g:Nat} (hg:B g) (j:Nat):X.cell? ⟨g,j,none⟩=W.cell? ⟨g,j,none⟩ :=
 World.cell?_of_block (a:=⟨g,j,none⟩) (h.ws.old g (hob.b g hg) (fun hO=>(hob.o g hO).2 hg))
theorem times_succ (g : Mc → Nat → Mc × Nat) : ∀ (n : Nat) (p : Mc × Nat), timesB g (n + 1) p = forkB g (timesB g n p).1 (timesB g n p).2
 | 0,p=>rfl
 | n+1,p=>by rw [timesB,times_succ g n,timesB]
theorem maybe_succ (g : Mc → Nat → Mc × Nat) (e : Nat) : ∀ (n : Nat) (p : Mc × Nat), maybeB g e (n + 1) p = (frF (forkB g (maybeB g e n p).1 (maybeB g e n p).2).1 (forkB g (maybeB g e n p).1 (maybeB g e n p).2).2 e, (forkB g (maybeB g e n p).1 (maybeB g e n p).2).2)
 | 0,p=>rfl
 | n+1,p=>by rw [maybeB,maybe_succ g e n,maybeB]
theorem ForkC.at {u : Ns} (h : ForkC u) {W X : World} {N : Nat} {O B : Nat → Prop} {v pv : Value} {m : Mc} {i : Nat} (hw : WS W N O B X v m) (hob : OB W O B) (hN : W.heap.size ≤ N) (hp : RVB W B pv u) (hi : i < m.len) (hr : Room m (cntS u + 1)) :
  Calls Tryz.prog 29 #[v,pv,.int .i64 i] X fun e X'=>∃ p0 c0 p1 c1 p2 c2 l,e=.returned (.tuple #[.agg #[.slice p0 l c0,.slice p1 l c1,.slice p2 l c2],.int .i64 ((forkB (laidF u) m i).2:Nat)])∧WS W N O B X' (.agg #[.slice p0 l c0,.slice p1 l c1,.slice p2 l c2]) (forkB (laidF u) m i).1∧∀ k,W.heap.size≤k→k < N→X'.heap[k]? = X.heap[k]? :=
 (h X _ B v pv m i hw.mv.real (hw.node hob hN hp) (hw.ob hob hN) hi hr).mono fun e X' ⟨v',h1,h2,h3⟩=>by
  have hq:=hw.call hob hN (h2.imp (fun k hk=>hk.imp (fun h=>h.1) id)) (h3.mono (fun k hk=>hk.1))
  obtain ⟨p0,c0,p1,c1,p2,c2,rfl⟩:=h2.form
  exact ⟨_,_,_,_,_,_,_,h1,hq.1,hq.2⟩
end Go.Proofs.YtioahgklplbinaaGreatDoor
