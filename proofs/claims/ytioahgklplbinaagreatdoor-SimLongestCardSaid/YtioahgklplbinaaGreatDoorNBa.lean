/- NPs, NInv, NNs, NList, NUns, NPBd, NPBe, NKn, NXl, in one text. -/
import Derived.Test.YtioahgklplbinaaGreatDoorNPa
import Derived.Test.YtioahgklplbinaaGreatDoorNQ
import Derived.Test.YtioahgklplbinaaGreatDoorNSa
import Derived.Test.YtioahgklplbinaaGreatDoorVQ
import Derived.Test.YtioahgklplbinaaGreatDoorVSH
import Derived.Test.YtioahgklplbinaaGreatDoorNPb
import Derived.Deep.RegionWith
/- The document's sum of states, by the program's count. -/
namespace Go.Proofs.YtioahgklplbinaaGreatDoor
open SetM WrM NfaM
theorem sum_big {us:List Ns} (h:sumF us≤2000):1+cntB us=sumF us:=by
 induction us with
 | nil=>rw [cntB,sumF]
 | cons u l ih =>
  rw [sumF] at h
  rw [cntB,sumF]
  have:=ih (by omega)
  unfold cut3 at h ⊢
  omega
theorem sum_cut (us:List Ns):2000 < sumF us↔2000 < 1+(us.length+cutP (cntC us)):=by
 have h1:∀ l:List Ns,(sumF l≤1+cntB l)∧(sumF l≤2000→sumF l=1+cntB l):=fun l=>by
  induction l with
  | nil=>rw [sumF,cntB];omega
  | cons u l ih =>
   rw [sumF,cntB]
   unfold cut3
   omega
 have h2:=h1 us
 have h3:=cntB_C us
 unfold cutP
 omega
end Go.Proofs.YtioahgklplbinaaGreatDoor

/- A machine that was built may be; how it reads in memory. -/
namespace NfaM
open SetM WrM
structure Inv (m : Mc) : Prop where
 wf:m.ed.length=m.tg.length∧m.fr.length=m.tg.length
 ed:∀ row∈m.ed,∀ e∈row,0≤e.1∧e.1 < m.len∧Norml e.2
 fr:∀ row∈m.fr,∀ t∈row,0≤t∧t < (m.len:Int)
 tg:∀ t∈m.tg,-1≤t
theorem Inv.none:Inv none0:=⟨⟨rfl,rfl⟩,fun _ h=>(by cases h),fun _ h=>(by cases h),fun _ h=>(by cases h)⟩
theorem Inv.st {m:Mc} (h:Inv m):Inv (stF m):=by
 have hl:=len_st m
 refine ⟨⟨by simp [stF,h.wf.1],by simp [stF,h.wf.2]⟩,fun row hr e he=>?_,fun row hr t ht=>?_,fun t ht=>?_⟩
 ·simp only [stF, List.mem_append, List.mem_singleton] at hr
  rcases hr with hr | rfl
  ·have:=h.ed row hr e he;rw [hl];exact ⟨this.1,by omega,this.2.2⟩
  ·cases he
 ·simp only [stF, List.mem_append, List.mem_singleton] at hr
  rcases hr with hr | rfl
  ·have:=h.fr row hr t ht;rw [hl];omega
  ·cases ht
 ·simp only [stF, List.mem_append, List.mem_singleton] at ht
  rcases ht with ht | rfl
  ·exact h.tg t ht
  ·omega
theorem mem_getD {α:Type} {l:List (List α)} {i:Nat} {x:α} (h:x∈l.getD i []):∃ row∈l,x∈row:=by
 by_cases hi:i < l.length
 ·have e : l.getD i [] = l[i] := by simp [List.getD, hi]
  rw [e] at h
  exact ⟨l[i],List.getElem_mem hi,h⟩
 ·have e : l.getD i [] = [] := by simp [List.getD, Nat.le_of_not_lt hi]
  rw [e] at h
  cases h
theorem Inv.fre {m:Mc} (h:Inv m) (i:Nat) {t:Int} (ht:0≤t∧t < (m.len:Int)):Inv (frF m i t):=by
 refine ⟨⟨h.wf.1,by simp [frF,h.wf.2]⟩,h.ed,fun row hr u hu=>?_,h.tg⟩
 rcases List.mem_or_eq_of_mem_set hr with hr | rfl
 ·exact h.fr row hr u hu
 ·rcases List.mem_append.1 hu with hu | hu
  ·obtain ⟨row, h1, h2⟩ := mem_getD hu
   exact h.fr row h1 u h2
  ·simp at hu;subst hu;exact ht
theorem Inv.edg {m:Mc} (h:Inv m) (i:Nat) {t:Int} {s:List Sp} (ht:0≤t∧t < (m.len:Int)) (hs:Norml s):Inv (edF m i t s):=by
 refine ⟨⟨by simp [edF,h.wf.1],h.wf.2⟩,fun row hr u hu=>?_,h.fr,h.tg⟩
 rcases List.mem_or_eq_of_mem_set hr with hr | rfl
 ·exact h.ed row hr u hu
 ·rcases List.mem_append.1 hu with hu | hu
  ·obtain ⟨row, h1, h2⟩ := mem_getD hu
   exact h.ed row h1 u h2
  ·simp at hu;subst hu;exact ⟨ht.1,ht.2,hs⟩
theorem Inv.tag {m:Mc} (h:Inv m) (i:Nat) {t:Int} (ht:-1≤t):Inv (tgF m i t):=by
 have hl:(tgF m i t).len=m.len:=by simp [tgF,Mc.len]
 refine ⟨⟨by simp [tgF,h.wf.1],by simp [tgF,h.wf.2]⟩,fun row hr e he=>by rw [hl];exact h.ed row hr e he,fun row hr u hu=>by rw [hl];exact h.fr row hr u hu,fun u hu=>?_⟩
 rcases List.mem_or_eq_of_mem_set hu with hu | rfl
 ·exact h.tg u hu
 ·exact ht
def Gd (g:Mc→Nat→Mc×Nat):Prop:=∀ m i,Inv m→i < m.len→Inv (g m i).1∧m.len≤(g m i).1.len∧(g m i).2 < (g m i).1.len
theorem fork_inv {g:Mc→Nat→Mc×Nat} (hg:Gd g) (m:Mc) (i:Nat) (h:Inv m):Inv (forkB g m i).1∧m.len < (forkB g m i).1.len∧(forkB g m i).2 < (forkB g m i).1.len:=by
 have hl:=len_st m
 have a:=hg (frF (stF m) i m.len) m.len (h.st.fre i (by omega)) (by rw [len_fr,hl];omega)
 have e:forkB g m i=g (frF (stF m) i m.len) m.len:=rfl
 rw [e]
 rw [len_fr,hl] at a
 exact ⟨a.1,by omega,a.2.2⟩
theorem times_inv {g : Mc → Nat → Mc × Nat} (hg : Gd g) : ∀ (n : Nat) (p : Mc × Nat), Inv p.1 → p.2 < p.1.len → Inv (timesB g n p).1 ∧ p.1.len ≤ (timesB g n p).1.len ∧ (timesB g n p).2 < (timesB g n p).1.len
 | 0,p,h,hi=>⟨h,Nat.le_refl _,hi⟩
 | n+1,p,h,hi=>by
  have a:=fork_inv hg p.1 p.2 h
  have b:=times_inv hg n (forkB g p.1 p.2) a.1 a.2.2
  rw [timesB]
  exact ⟨b.1,by omega,b.2.2⟩
theorem maybe_inv {g : Mc → Nat → Mc × Nat} (hg : Gd g) (e : Nat) : ∀ (n : Nat) (p : Mc × Nat), Inv p.1 → p.2 < p.1.len → e < p.1.len → Inv (maybeB g e n p).1 ∧ p.1.len ≤ (maybeB g e n p).1.len
 | 0,p,h,hi,_=>⟨h,Nat.le_refl _⟩
 | n+1,p,h,hi,he=>by
  have a:=fork_inv hg p.1 p.2 h
  have b:=maybe_inv hg e n (frF (forkB g p.1 p.2).1 (forkB g p.1 p.2).2 e,(forkB g p.1 p.2).2) (a.1.fre _ (by omega)) a.2.2 (by show e < (forkB g p.1 p.2).1.len;omega)
  rw [maybeB]
  refine ⟨b.1,Nat.le_trans ?_ b.2⟩
  show p.1.len≤(forkB g p.1 p.2).1.len
  omega
theorem again_inv {g:Mc→Nat→Mc×Nat} (hg:Gd g) (mn mx:Int):Gd (againB g mn mx):=by
 intro m i h hi
 have a:=times_inv hg mn.toNat (m,i) h hi
 have hl:=len_st (timesB g mn.toNat (m,i)).1
 have b:=(a.1.st).fre (timesB g mn.toNat (m,i)).2 (t:=((timesB g mn.toNat (m,i)).1.len:Int)) (by omega)
 unfold againB
 dsimp only at a ⊢
 split
 ·have c := fork_inv hg (frF (stF (timesB g mn.toNat (m, i)).1) (timesB g mn.toNat (m, i)).2 (timesB g mn.toNat (m, i)).1.len) (timesB g mn.toNat (m, i)).1.len b
  rw [len_fr,hl] at c
  refine ⟨c.1.fre _ (by omega),?_,?_⟩
  ·rw [len_fr];omega
  ·rw [len_fr];omega
 ·have c := maybe_inv hg (timesB g mn.toNat (m, i)).1.len (mx - mn).toNat (frF (stF (timesB g mn.toNat (m, i)).1) (timesB g mn.toNat (m, i)).2 (timesB g mn.toNat (m, i)).1.len, (timesB g mn.toNat (m, i)).2) b (by show _ < (stF _).len; omega) (by show _ < (stF _).len; omega)
  exact ⟨c.1,Nat.le_trans (show m.len≤(stF (timesB g mn.toNat (m,i)).1).len by omega) c.2,Nat.lt_of_lt_of_le (show (timesB g mn.toNat (m,i)).1.len < (stF (timesB g mn.toNat (m,i)).1).len by omega) c.2⟩
mutual
theorem laid_inv : ∀ (u : Ns), Shp u → Gd (laidF u)
 | .mk k sl kids mn mx,hs=>by
  intro m i h hi
  obtain ⟨hS,hL⟩:=(shp_mk _ _ _ _ _).1 hs
  rw [laidF]
  split
  ·rename_i hk
   have hN:Norml sl:=by unfold Shape at hS;rcases hS with h | h | h | h <;> first | exact h.2.2.2.2 | omega
   have hl:=len_st m
   refine ⟨h.st.edg i (by omega) hN,?_,?_⟩
   ·rw [len_ed];omega
   ·rw [len_ed];omega
  split
  ·exact cat_inv kids hL m i h hi
  split
  ·have hl := len_st m
   have a:=or_inv kids hL (stF m) i m.len h.st (by omega) (by omega)
   exact ⟨a.1,by have:=a.2;show _≤(orF kids (stF m) i m.len).len;omega,by have:=a.2;show _ < (orF kids (stF m) i m.len).len;omega⟩
  split
  ·exact rep_inv kids hL mn mx m i h hi
  ·exact ⟨h,Nat.le_refl _,hi⟩
theorem cat_inv : ∀ (l : List Ns), ShpL l → Gd (catF l)
 | [],_=>fun m i h hi=>by rw [catF];exact ⟨h,Nat.le_refl _,hi⟩
 | x::l,hL=>fun m i h hi=>by
  rw [ShpL] at hL
  rw [catF]
  have a:=laid_inv x hL.1 m i h hi
  have b:=cat_inv l hL.2 _ _ a.1 a.2.2
  exact ⟨b.1,by omega,b.2.2⟩
theorem or_inv : ∀ (l : List Ns), ShpL l → ∀ (m : Mc) (i e : Nat), Inv m → i < m.len → e < m.len → Inv (orF l m i e) ∧ m.len ≤ (orF l m i e).len
 | [],_,m,i,e,h,_,_=>by rw [orF];exact ⟨h,Nat.le_refl _⟩
 | x::l,hL,m,i,e,h,hi,he=>by
  rw [ShpL] at hL
  rw [orF]
  have a:=fork_inv (laid_inv x hL.1) m i h
  have b:=or_inv l hL.2 (frF (forkB (laidF x) m i).1 (forkB (laidF x) m i).2 e) i e (a.1.fre _ (by omega)) (by rw [len_fr];omega) (by rw [len_fr];omega)
  rw [len_fr] at b
  exact ⟨b.1,by omega⟩
theorem rep_inv : ∀ (l : List Ns), ShpL l → ∀ (mn mx : Int), Gd (repF l mn mx)
 | [],_,mn,mx=>fun m i h hi=>by rw [repF];exact ⟨h,Nat.le_refl _,hi⟩
 | x::l,hL,mn,mx=>fun m i h hi=>by
  rw [ShpL] at hL
  rw [repF]
  exact again_inv (laid_inv x hL.1) mn mx m i h hi
end
theorem build_inv : ∀ (l : List Ns), (∀ u ∈ l, Shp u) → ∀ (i : Nat) (m : Mc), Inv m → 0 < m.len → Inv (buildF l i m)
 | [],_,i,m,h,_=>by rw [buildF];exact h
 | x::l,hs,i,m,h,h0=>by
  rw [buildF]
  have a:=fork_inv (laid_inv x (hs x (by simp))) m 0 h
  exact build_inv l (fun u hu=>hs u (by simp [hu])) (i+1) _ (a.1.tag _ (by omega)) (by rw [show (tgF (forkB (laidF x) m 0).1 (forkB (laidF x) m 0).2 i).len=(forkB (laidF x) m 0).1.len by simp [tgF,Mc.len]];omega)
theorem Inv.snd {m:Mc} (h:Inv m) (h1:1≤m.tg.length) (h2:m.tg.length≤2000):sndM m=true:=by
 rw [sndM_yes ⟨h1,h2,h.wf.1,h.wf.2⟩]
 unfold rowsM
 rw [List.all_eq_true]
 intro i hi
 have hi:=List.mem_range.1 hi
 have e1:m.tg.getD i 0=m.tg[i]:=by simp [List.getD,hi]
 unfold okR
 rw [e1,decide_eq_true (h.tg _ (List.getElem_mem hi)),Bool.true_and,Bool.and_eq_true]
 constructor
 ·unfold allE
  rw [List.all_eq_true]
  intro e he
  obtain ⟨row,h3,h4⟩:=mem_getD he
  obtain ⟨h5,h6,h7⟩:=h.ed row h3 e h4
  unfold okE
  rw [decide_eq_true ⟨h5,h6⟩,Bool.true_and,isSet_norml]
  exact h7
 ·unfold allI
  rw [List.all_eq_true]
  intro t ht
  obtain ⟨row,h3,h4⟩:=mem_getD ht
  unfold okI
  exact decide_eq_true (h.fr row h3 t h4)
theorem norml_wide {l:List Sp} (h:Norml l):∀ s∈l,0≤s.2:=fun s hs=>by
 have hle:∀ (m:List Sp),Nf m→∀ s∈m,s.1≤s.2:=fun m=>by
  induction m with
  | nil=>intro _ s h;cases h
  | cons x m ih=>intro hn s hs;rcases List.mem_cons.1 hs with rfl | hs;exact hn.1;exact ih hn.2.2 s hs
 have h1:=h.2 s.2 ⟨s,hs,hle l h.1 s hs,Int.le_refl _⟩
 unfold Sc at h1
 omega
end NfaM
namespace Go.Proofs.YtioahgklplbinaaGreatDoor
open Go.RowKit Go.Shelf Go.Maps SetM PropsM RxM WrM NfaM
theorem EdC.get {W : World} {B : Nat → Prop} : ∀ {cs : List Value} {es : List (Int × List Sp)}, EdC W B cs es → ∀ k (h : k < es.length), ∃ sp sc, cs[k * 2]? = some (.int .i64 es[k].1) ∧ cs[k * 2 + 1]? = some (.slice sp es[k].2.length sc) ∧ es[k].2.length ≤ 100000 ∧ Sl W sp es[k].2 ∧ (es[k].2 ≠ [] → ∀ x, sp = some x → B x.block)
 | [],[],_,k,h=>by cases h
 | a::b::cs,e::es,hh,k,h=>by
  obtain ⟨⟨sp,sc,h1,h2,h3,h4,_,h6⟩,h7⟩:=hh
  cases k with
  | zero=>exact ⟨sp,sc,by rw [h1];rfl,by rw [h2];rfl,h3,h4,h6⟩
  | succ k =>
   obtain ⟨sp,sc,g1,g2,g3,g4,g5⟩:=EdC.get h7 k (by simpa using h)
   exact ⟨sp,sc,by rw [show (k+1)*2=k*2+2 by omega];exact g1,by rw [show (k+1)*2+1=k*2+1+2 by omega];exact g2,g3,g4,g5⟩
 | [],_::_,hh,_,_=>hh.elim
 | [_],[],hh,_,_=>hh.elim
 | [_],_::_,hh,_,_=>hh.elim
 | _::_::_,[],hh,_,_=>hh.elim
theorem Rw.ok.cells {W:World} {r:Rw} (h:r.ok W) (hs:0 < r.s) {j:Nat} (hj:j < r.n*r.s):∃ g c,r.v=.slice (some ⟨g,0,none⟩) r.n c∧g < W.heap.size∧W.cell? ⟨g,j,none⟩=r.xs[j]?:=by
 have hok:=h
 unfold Rw.ok at hok
 rcases h.2 with ⟨_,b⟩ | ⟨g,cap,cur,a,_⟩
 ·have b' : r.n = 0 := b
  rw [b'] at hj
  simp at hj
 ·have a' : r.v = .slice (some ⟨g, 0, none⟩) r.n cap := a
  refine ⟨g,cap,a',h.lt (by rw [a'];rfl),?_⟩
  rw [a'] at hok
  exact World.ownsRow.cellAt hok j hj
theorem MVx.toMR {W:World} {B:Nat→Prop} {R:Nat→Rw} {m:Mc} (h:MVx W B R m) {p0 p1 p2:Option Addr} {c0 c1 c2:Nat} (e0:(R 0).v=.slice p0 m.tg.length c0) (e1:(R 1).v=.slice p1 m.tg.length c1) (e2:(R 2).v=.slice p2 m.tg.length c2):MR W p0 p1 p2 m:=by
 refine ⟨fun i hi=>?_,fun i hi=>?_,fun k hk=>?_⟩
 ·have hi' : i < m.tg.length := by rw [← h.l1]; exact hi
  obtain ⟨g,c,a1,a2,a3⟩:=(h.fam.own 0 (by omega)).cells (by rw [h.r0.2.1];omega) (j:=i) (by rw [h.r0.2.1,h.r0.2.2.1];omega)
  rw [e0,h.r0.2.2.1] at a1
  injection a1 with b1 b2 b3
  rw [h.r0.2.2.2,List.getElem?_map,List.getElem?_range hi'] at a3
  have hre:=h.re i hi'
  rw [getD_of hi] at hre
  obtain ⟨P,cc,hv⟩:=(h.fam.own (3+2*i) (by omega)).slice
  rw [hre.2.2.1] at hv
  refine ⟨g,0,P,cc,b1,a2,by rw [Nat.zero_add,a3,← hv];rfl,fun k hk=>?_⟩
  obtain ⟨sp,sc,q1,q2,q3,q4,_⟩:=EdC.get hre.2.2.2 k hk
  obtain ⟨g2,cc2,d1,d2,d3⟩:=(h.fam.own (3+2*i) (by omega)).cells (by rw [hre.2.1];omega) (j:=k*2) (by rw [hre.2.1,hre.2.2.1];omega)
  obtain ⟨g3,cc3,f1,f2,f3⟩:=(h.fam.own (3+2*i) (by omega)).cells (by rw [hre.2.1];omega) (j:=k*2+1) (by rw [hre.2.1,hre.2.2.1];omega)
  rw [hv,hre.2.2.1] at d1 f1
  injection d1 with d1
  injection f1 with f1
  rw [d1] at f1
  injection f1 with f1
  injection f1 with f1
  subst f1
  exact ⟨g2,0,sp,sc,d1,d2,by rw [Nat.zero_add,d3];exact q1,by rw [Nat.zero_add,f3];exact q2,q4⟩
 ·have hi' : i < m.tg.length := by rw [← h.l2]; exact hi
  obtain ⟨g,c,a1,a2,a3⟩:=(h.fam.own 1 (by omega)).cells (by rw [h.r1.2.1];omega) (j:=i) (by rw [h.r1.2.1,h.r1.2.2.1];omega)
  rw [e1,h.r1.2.2.1] at a1
  injection a1 with b1 b2 b3
  rw [h.r1.2.2.2,List.getElem?_map,List.getElem?_range hi'] at a3
  have hre:=h.rf i hi'
  rw [getD_of hi] at hre
  obtain ⟨P,cc,hv⟩:=(h.fam.own (4+2*i) (by omega)).slice
  rw [hre.2.2.1] at hv
  refine ⟨g,0,P,cc,b1,a2,by rw [Nat.zero_add,a3,← hv];rfl,fun k hk=>?_⟩
  obtain ⟨g2,cc2,d1,d2,d3⟩:=(h.fam.own (4+2*i) (by omega)).cells (by rw [hre.2.1];omega) (j:=k) (by rw [hre.2.1,hre.2.2.1];omega)
  rw [hv,hre.2.2.1] at d1
  injection d1 with d1
  refine ⟨g2,0,d1,d2,?_⟩
  rw [Nat.zero_add,d3,hre.2.2.2]
  simp [hk]
 ·obtain ⟨g, c, a1, a2, a3⟩ := (h.fam.own 2 (by omega)).cells (by rw [h.r2.2.1]; omega) (j := k) (by rw [h.r2.2.1, h.r2.2.2.1]; omega)
  rw [e2,h.r2.2.2.1] at a1
  injection a1 with b1 b2 b3
  refine ⟨g,0,b1,a2,?_⟩
  rw [Nat.zero_add,a3,h.r2.2.2.2]
  simp [hk]
theorem MVx.sets {W:World} {B:Nat→Prop} {R:Nat→Rw} {m:Mc} (h:MVx W B R m):∀ i < m.ed.length,∀ e∈m.ed.getD i [],e.2.length≤100000:=fun i hi e he=>by
 have hi':i < m.tg.length:=by rw [← h.l1];exact hi
 obtain ⟨k,hk,rfl⟩:=List.mem_iff_getElem.1 he
 obtain ⟨_,_,_,_,h3,_⟩:=EdC.get (h.re i hi').2.2.2 k hk
 exact h3
end Go.Proofs.YtioahgklplbinaaGreatDoor

/- A row of nodes whose blocks are of one kind. -/
namespace Go.Proofs.YtioahgklplbinaaGreatDoor
open Go.RowKit Go.Shelf Go.Maps SetM PropsM RxM WrM NfaM
def NsB (W:World) (B:Nat→Prop) (P:Option Addr) (us:List Ns):Prop:=∀ i (hi:i < us.length),∃ g a b c d e,P=some ⟨g,0,none⟩∧B g∧g < W.heap.size∧RVB W B (.agg #[a,b,c,d,e]) us[i]∧W.cell? ⟨g,i*5,none⟩=some a∧W.cell? ⟨g,i*5+1,none⟩=some b∧W.cell? ⟨g,i*5+2,none⟩=some c∧W.cell? ⟨g,i*5+3,none⟩=some d∧W.cell? ⟨g,i*5+4,none⟩=some e
theorem NsB.toL {W:World} {B:Nat→Prop} {P:Option Addr} {us:List Ns} (h:NsB W B P us):NsL W P us:=fun i hi=>by
 obtain ⟨g,a,b,c,d,e,e1,_,hg,hv,r⟩:=h i hi
 exact ⟨g,a,b,c,d,e,e1,hg,hv.toR,r⟩
theorem NsB.kept {W W':World} {B:Nat→Prop} {P:Option Addr} {us:List Ns} (h:NsB W B P us) (hs:W.heap.size≤W'.heap.size) (hb:∀ k,B k→k < W.heap.size→W'.heap[k]? = W.heap[k]?):NsB W' B P us:=fun i hi=>by
 obtain ⟨g,a,b,c,d,e,e1,hB,hg,hv,r0,r1,r2,r3,r4⟩:=h i hi
 have hq:=hb g hB hg
 exact ⟨g,a,b,c,d,e,e1,hB,Nat.lt_of_lt_of_le hg hs,hv.kept hs hb,(World.cell?_of_block (a:=⟨g,i*5,none⟩) hq).trans r0,(World.cell?_of_block (a:=⟨g,i*5+1,none⟩) hq).trans r1,(World.cell?_of_block (a:=⟨g,i*5+2,none⟩) hq).trans r2,(World.cell?_of_block (a:=⟨g,i*5+3,none⟩) hq).trans r3,(World.cell?_of_block (a:=⟨g,i*5+4,none⟩) hq).trans r4⟩
theorem NsB.step {W W':World} {B:Nat→Prop} {P:Option Addr} {us:List Ns} (h:NsB W B P us) (hb:Below W.heap.size W W'):NsB W' B P us:=h.kept hb.size (fun k _ hk=>hb.block k hk)
theorem RIB.imp {W : World} {B B' : Nat → Prop} (hB : ∀ k, B k → k < W.heap.size → B' k) : ∀ (h : Nat) (v : Value) (t : Ns), RIB W B h v t → RIB W B' h v t
 | 0,_,_,hn=>hn
 | h+1,v,.mk k sl kids mn mx,hn=>by
  obtain ⟨sp,sc,kp,kc,e,hl,hsl,hz,ha,hk1⟩:=hn
  refine ⟨sp,sc,kp,kc,e,hl,hsl,hz,fun hne a ea=>?_,fun hne=>?_⟩
  ·obtain ⟨b, off, e1, hb1, _⟩ := hsl hne
   have:=ha hne a ea
   rw [e1] at ea
   cases ea
   exact hB _ this hb1
  ·obtain ⟨g, e1, hBg, ⟨cs, hg⟩, h3⟩ := hk1 hne
   refine ⟨g,e1,hB g hBg (Array.getElem?_eq_some_iff.1 hg).1,⟨cs,hg⟩,fun i hi=>?_⟩
   obtain ⟨u,h4,h5⟩:=h3 i hi
   exact ⟨u,RIB.imp hB h u _ h4,h5⟩
theorem RVB.imp {W:World} {B B':Nat→Prop} {v:Value} {t:Ns} (h:RVB W B v t) (hB:∀ k,B k→k < W.heap.size→B' k):RVB W B' v t:=let ⟨n,hn⟩:=h;⟨n,RIB.imp hB n v t hn⟩
theorem NsB.imp {W:World} {B B':Nat→Prop} {P:Option Addr} {us:List Ns} (h:NsB W B P us) (hB:∀ k,B k→k < W.heap.size→B' k):NsB W B' P us:=fun i hi=>by
 obtain ⟨g,a,b,c,d,e,e1,hBg,hg,hv,r⟩:=h i hi
 exact ⟨g,a,b,c,d,e,e1,hB g hBg hg,hg,hv.imp hB,r⟩
end Go.Proofs.YtioahgklplbinaaGreatDoor

/- The law's list of patterns, as choices say. -/
namespace Go.Proofs.YtioahgklplbinaaGreatDoor
open Go.RowKit Go.Shelf Go.Maps SetM PropsM RxM WrM NfaM
def UssR (W:World) (A:Option Addr) (rows:List (List Int)):Prop:=∀ i (_:i < rows.length),∃ g o P c,A=some ⟨g,o,none⟩∧g < W.heap.size∧W.cell? ⟨g,o+i,none⟩=some (.slice P rows[i].length c)∧U8s W.heap.size W P rows[i]
theorem UssR.step {W W':World} {A:Option Addr} {rows:List (List Int)} (h:UssR W A rows) (hb:Below W.heap.size W W'):UssR W' A rows:=fun i hi=>by
 obtain ⟨g,o,P,c,e,hg,h1,h2⟩:=h i hi
 exact ⟨g,o,P,c,e,Nat.lt_of_lt_of_le hg hb.size,(hb.cell (p:=⟨g,o+i,none⟩) hg).trans h1,(h2.below hb).up hb.size⟩
noncomputable def ndsF (rows:List (List Int)):List Nd:=(rows.take 6).map ndF
theorem RowN.toB {W:World} {base:Nat} {A:Nat→Prop} {v:Value} {ts:List Nd} (h:RowN W base A v ts) (hA:∀ b,base≤b→A b):∃ P c us,v=.slice P ts.length c∧us.length=ts.length∧NsB W A P us∧∀ i (hi:i < us.length) (hj:i < ts.length),nd us[i]=ts[i]∧Nfs us[i]∧Lim 100000 us[i]:=by
 obtain ⟨vs,h1,k,hl,hi⟩:=h
 have h5:∀ u∈vs,(kidParts u).length=5:=fun u hu=>by
  obtain ⟨j,hj,rfl⟩:=List.mem_iff_getElem.1 hu
  exact (hi j (by omega) _ (List.getElem?_eq_getElem hj)).parts
 obtain ⟨us,hus,hall⟩:=list_of (P:=fun i u=>∀ (hj:i < ts.length) x,vs[i]? = some x→nd u=ts[i]∧RVB W A x u∧Nfs u∧Lim 100000 u) ts.length (fun i hlt=>by
  obtain ⟨u,hu1,hu2,hu3,hu4⟩:=NIs.toRB k _ _ (hi i hlt vs[i] (List.getElem?_eq_getElem (by omega)))
  exact ⟨u,fun _ x hx=>by rw [List.getElem?_eq_getElem (by omega)] at hx;cases hx;exact ⟨hu1,RVB.imp ⟨k,hu2⟩ (fun b hb _=>hb.1),hu3,hu4⟩⟩)
 have hform:∃ P c,v=.slice P ts.length c:=by
  rcases h1.2 with ⟨a,b⟩ | ⟨g,cap,cur,a,_⟩
  ·exact ⟨none,0,by rw [a,b]⟩
  ·exact ⟨_,_,a⟩
 obtain ⟨P,c,rfl⟩:=hform
 refine ⟨P,c,us,rfl,hus,fun i hlt=>?_,fun i hlt hj=>?_⟩
 ·have hv : i < vs.length := by omega
  have hj:i < ts.length:=by omega
  obtain ⟨_,hR,_,_⟩:=hall i hlt hj vs[i] (List.getElem?_eq_getElem hv)
  obtain ⟨kk,sp,sn,sc,kp,kn,kc,mn,mx,hfm⟩:=hR.toR.form5
  rw [hfm] at hR
  rcases h1.2 with ⟨_,b⟩ | ⟨g,cap,cur,a,hgb,hcur,_⟩
  ·omega
  ·have a' : Value.slice P ts.length c = .slice (some ⟨g, 0, none⟩) ts.length cap := a
   injection a' with a1 a2 a3
   subst a1
   have hcl:∀ j,j < 5→W.cell? ⟨g,i*5+j,none⟩=(kidParts vs[i])[j]?:=fun j hj5=>by
    rw [World.ownsRow.cellAt h1 (i*5+j) (by omega),flat5 vs h5 i j hj5 _ (List.getElem?_eq_getElem hv)]
   rw [hfm] at hcl
   exact ⟨g,_,_,_,_,_,rfl,hA g hgb,(Array.getElem?_eq_some_iff.1 hcur).1,hR,hcl 0 (by omega),hcl 1 (by omega),hcl 2 (by omega),hcl 3 (by omega),hcl 4 (by omega)⟩
 ·have hv : i < vs.length := by omega
  obtain ⟨h1,_,h3,h4⟩:=hall i hlt hj vs[i] (List.getElem?_eq_getElem hv)
  exact ⟨h1,h3,h4⟩
set_option maxRecDepth 100000 in
set_option maxHeartbeats 8000000 in
theorem list_f {W : World} {A : Option Addr} {n ca : Nat} {rows : List (List Int)} (hU : UssR W A rows) (hn : n = rows.length) (h8 : n ≤ 9223372036854775807) :
  Calls Tryz.prog 7 #[.slice A n ca] W fun e W'=>∃ v,e=.returned v∧RowN W' W.heap.size (fun b=>W.heap.size≤b) v (ndsF rows)∧Below W.heap.size W W':=by
 have HU:=Lib.hid hU
 have HN:=Lib.hid hn
 clear hU hn
 go_enter Tryz.func7,Tryz.ntmps7
 go_wp2_with fail
 go_loopg [3,4] n (fun gk s3 s4 wx=>∃ (r:Nat) (v:Value),r+gk=n∧r≤6∧s4=.int .i64 r∧v=s3∧Hid (RowN wx W.heap.size (fun b=>W.heap.size≤b) v ((rows.take r).map ndF))∧Hid (Below W.heap.size W wx))
 case atStart=>exact ⟨0,_,by omega,by omega,rfl,rfl,Lib.hid (by rw [List.take_zero];exact RowN.nil),Lib.hid (Below.refl _ _)⟩
 case round =>
  obtain ⟨r,v,hrg,hr6,rfl,rfl,HR,HB⟩:=hrel
  by_cases h6:r=6
  ·have HE : Hid (RowN wr W.heap.size (fun b => W.heap.size ≤ b) v (ndsF rows)) := Lib.hid (by unfold ndsF; have := HR.out; rw [h6] at this; exact this)
   subst h6
   have hlt:¬ (((6:Nat):Int) < 6):=by decide
   by_cases h7:((6:Nat):Int) < (n:Int)
   ·go_wp2
    go_ret
    exact ⟨_,rfl,HE.out,HB.out⟩
   ·go_wp2
    go_ret
    exact ⟨_,rfl,HE.out,HB.out⟩
  ·have hlt6 : (r : Int) < 6 := by omega
   cases gk with
   | zero =>
    obtain rfl:r=n:=by omega
    have hlt:¬ (r:Int) < (r:Int):=by omega
    have HE:Hid (RowN wr W.heap.size (fun b=>W.heap.size≤b) v (ndsF rows)):=Lib.hid (by
     have h:=HR.out
     have h9:=HN.out
     rw [List.take_of_length_le (by omega)] at h
     unfold ndsF
     rw [List.take_of_length_le (by omega)]
     exact h)
    go_wp2
    go_ret
    exact ⟨_,rfl,HE.out,HB.out⟩
   | succ gk =>
    have hlt:(r:Int) < (n:Int):=by omega
    have hrl:r < rows.length:=by have:=HN.out;omega
    have h0:(0:Int)≤(r:Int):=by omega
    have hwr:wrap64 ((r:Int)+1)=((r+1:Nat):Int):=by rw [IntWalk.wrap64_in _ (by omega)];omega
    obtain ⟨g,o,P,c,rfl,hg,hc,hu⟩:=(HU.out.step HB.out) r hrl
    have HNF:=Lib.hid (node_f P c rows[r] wr hu)
    generalize rows[r].length=ln at hc HNF
    have HTK:Hid ((rows.take (r+1)).map ndF=(rows.take r).map ndF++[ndF rows[r]]):=Lib.hid (by rw [List.take_succ_eq_append_getElem hrl,List.map_append];rfl)
    generalize ndF rows[r]=t at HNF HTK
    have HL:Hid (((rows.take r).map ndF).length≤1000):=Lib.hid (by rw [List.length_map,List.length_take];omega)
    generalize (rows.take r).map ndF=ts at HR HTK HL
    clear hu hg
    go_wp2_with fail
    refine HNF.out.mono ?_
    rintro e w4 ⟨u,rfl,hnv,b4⟩
    obtain ⟨kk,sp,sn,sc,kp,kn,kc,mn,mx,rfl⟩:=NV.form5 hnv
    have hal:=(Below.refl w4.heap.size w4).alloc (Nat.le_refl _) (.cells #[.int .u8 kk,.slice sp sn sc,.slice kp kn kc,.int .i64 mn,.int .i64 mx] 48)
    have hbk:=b4.trans (hal.mono b4.size)
    have hlv:∀ k,v.ownBlock=some k→k < wr.heap.size:=fun k hk=>(HR.out.lt k hk).2
    have hnv':NV (w4.alloc (.cells #[.int .u8 kk,.slice sp sn sc,.slice kp kn kc,.int .i64 mn,.int .i64 mx] 48)) (fun b=>W.heap.size≤b∧v.ownBlock≠some b) (.agg #[.int .u8 kk,.slice sp sn sc,.slice kp kn kc,.int .i64 mn,.int .i64 mx]) t:=hnv.imp (fun b hA hlt=>⟨⟨Nat.le_trans HB.out.size hA,fun e=>by have:=hlv b e;omega⟩,hal.block b hlt⟩) hal.size
    have hrow:RowN (w4.alloc (.cells #[.int .u8 kk,.slice sp sn sc,.slice kp kn kc,.int .i64 mn,.int .i64 mx] 48)) W.heap.size (fun b=>W.heap.size≤b) v ts:=HR.out.imp (fun b hA hlt=>⟨hA,hbk.block b hlt⟩) (fun b _ h2=>hbk.block b h2) hbk.size
    have hnew:=heap_alloc_new w4 (.cells #[.int .u8 kk,.slice sp sn sc,.slice kp kn kc,.int .i64 mn,.int .i64 mx] 48)
    have HBK:=Lib.hid (HB.out.trans (hbk.mono HB.out.size))
    have hsz:W.heap.size≤(w4.alloc (.cells #[.int .u8 kk,.slice sp sn sc,.slice kp kn kc,.int .i64 mn,.int .i64 mx] 48)).heap.size:=HBK.out.size
    have hl8:=HL.out
    clear hnv b4 hal hbk hlv HNF hc
    go_wp2_with (at_builtin;refine wpList_push rfl _ _ rfl W.heap.size (fun b=>W.heap.size≤b) v ts rfl hrow w4.heap.size (.agg #[.int .u8 kk,.slice sp sn sc,.slice kp kn kc,.int .i64 mn,.int .i64 mx]) t rfl hnv' hnew hl8 hsz ?_;intro v2 w5 k1 k2;have HR5:=Lib.hid k1;have HB5:=Lib.hid (HBK.out.trans (show Below W.heap.size _ _ from ⟨k2.os,k2.tape,k2.output,k2.size,fun k hk=>k2.block k (by omega) (fun e=>by have:=(HR.out.lt k e.symm).1;omega)⟩));clear k1 k2)
    rw [← HTK.out] at HR5
    go_roundg gk
    case measure=>omega
    case rel=>exact ⟨r+1,v2,by omega,by omega,by first | rw [hwr] | rfl | simp,rfl,HR5,HB5⟩
end Go.Proofs.YtioahgklplbinaaGreatDoor

/- The program's look for a pattern that may not be. -/
namespace Go.Proofs.YtioahgklplbinaaGreatDoor
open Go.RowKit Go.Shelf Go.Maps SetM PropsM RxM WrM NfaM
noncomputable def allS (us:List Ns):Bool:=us.all (fun u=>sndB u 0)
theorem allS_iff (us:List Ns):allS us=true↔SndL us:=by
 unfold allS SndL
 rw [List.all_eq_true]
 exact ⟨fun h u hu=>sndB_true.1 (h u hu),fun h u hu=>sndB_true.2 (h u hu)⟩
set_option maxRecDepth 100000 in
set_option maxHeartbeats 4000000 in
theorem unsound_c {W:World} {v:Value} {u:Ns} (hv:RV W v u) (hA:Ar W):Calls Tryz.prog 21 #[v] W fun e W'=>e=.returned (.bool (!sndB u 0))∧Below W.heap.size W W':=by
 obtain ⟨kd,sp,sn,sc,kp,kn,kc,mn,mx,rfl⟩:=hv.form5
 obtain ⟨V,hV⟩:∃ V,V=W.alloc (.cells #[.int .u8 kd,.slice sp sn sc,.slice kp kn kc,.int .i64 mn,.int .i64 mx] 48):=⟨_,rfl⟩
 have hb:Below W.heap.size W V:=by rw [hV];exact (Below.refl _ _).alloc (Nat.le_refl _) _
 have hx:V.heap[W.heap.size]? = some (.cells #[.int .u8 kd,.slice sp sn sc,.slice kp kn kc,.int .i64 mn,.int .i64 mx] 48 (0,0)):=by rw [hV];exact heap_alloc_new W _
 obtain ⟨e0,e1,e2,e3,e4⟩:=cells5 hx
 have HC:=Lib.hid (sound_c (hv.step hb) (hA.step hb))
 have HB:=Lib.hid hb
 generalize sndB u 0=q at *
 clear hv hA hx hb
 go_enter Tryz.func21,Tryz.ntmps21
 go_upto_region 1 with fail
 rw [← hV]
 clear hV
 go_wp2_with fail
 refine HC.out.mono ?_
 rintro e w1 ⟨rfl,b1⟩
 have HE:=Lib.hid (HB.out.trans (b1.mono HB.out.size))
 clear b1 HC
 go_wp2
 go_ret
 exact ⟨by cases q <;> rfl,HE.out⟩
set_option maxRecDepth 100000 in
set_option maxHeartbeats 8000000 in
theorem idxN_c {W : World} {P : Option Addr} {n c : Nat} {us : List Ns} (h : NsL W P us) (hn : n = us.length) (h8 : n ≤ 1000000) (hA : Ar W) :
  Calls Tryz.prog 49 #[.slice P n c,.func (.func 21) #[] #[]] W fun e W'=>(∃ z:Int,e=.returned (.int .i64 z)∧Hid (0≤z↔allS us=false))∧Below W.heap.size W W':=by
 have HS:=Lib.hid h
 have HN:=Lib.hid hn
 have HA:=Lib.hid hA
 clear h hn hA
 go_enter Tryz.func49,Tryz.ntmps49
 go_wp2_with fail
 go_loopg [5,8] n (fun gk s5 s8 wx=>∃ (r:Nat),r+gk=n∧s8=.int .i64 r∧Hid (allS (us.take r)=true)∧Hid (Below W.heap.size W wx))
 case atStart=>exact ⟨0,by omega,rfl,Lib.hid rfl,Lib.hid (Below.refl _ _)⟩
 case round =>
  obtain ⟨r,hrg,rfl,HL,HB⟩:=hrel
  cases gk with
  | zero =>
   obtain rfl:r=n:=by omega
   have hlt:¬ (r:Int) < (r:Int):=by omega
   have HE:Hid (allS us=true):=Lib.hid (by have h:=HL.out;rw [List.take_of_length_le (by have:=HN.out;omega)] at h;exact h)
   go_wp2
   go_ret
   exact ⟨⟨-1,rfl,Lib.hid (by rw [HE.out];simp)⟩,HB.out⟩
  | succ gk =>
   have hlt:(r:Int) < (n:Int):=by omega
   have hrl:r < us.length:=by have:=HN.out;omega
   have h0:(0:Int)≤(r:Int):=by omega
   have hwr:wrap64 ((r:Int)+1)=((r+1:Nat):Int):=by rw [IntWalk.wrap64_in _ (by omega)];omega
   obtain ⟨g,a,b,cc,d,e,rfl,hg,hv,c0,c1,c2,c3,c4⟩:=HS.out r hrl
   have hb:=HB.out
   have d0:=(hb.cell (p:=⟨g,r*5,none⟩) hg).trans c0
   have d1:=(hb.cell (p:=⟨g,r*5+1,none⟩) hg).trans c1
   have d2:=(hb.cell (p:=⟨g,r*5+2,none⟩) hg).trans c2
   have d3:=(hb.cell (p:=⟨g,r*5+3,none⟩) hg).trans c3
   have d4:=(hb.cell (p:=⟨g,r*5+4,none⟩) hg).trans c4
   have HC:=Lib.hid (unsound_c (hv.step hb) (HA.out.step hb))
   obtain ⟨q,hq⟩:∃ q,q=sndB us[r] 0:=⟨_,rfl⟩
   rw [← hq] at HC
   have HQ:=Lib.hid hq.symm
   clear hv c0 c1 c2 c3 c4 hb hq hg
   go_wp2_with fail
   refine HC.out.mono ?_
   rintro ee w2 ⟨rfl,b2⟩
   have HB2:=Lib.hid (HB.out.trans (b2.mono HB.out.size))
   clear b2 d0 d1 d2 d3 d4 HC
   cases q with
   | false =>
    have HE:Hid (allS us=false):=Lib.hid (by
     show List.all us (_)=false
     rw [List.all_eq_false]
     exact ⟨us[r],List.getElem_mem hrl,by rw [HQ.out];simp⟩)
    go_wp2
    go_ret
    exact ⟨⟨(r:Int),rfl,Lib.hid ⟨fun _=>HE.out,fun _=>h0⟩⟩,HB2.out⟩
   | true =>
    have HL2:Hid (allS (us.take (r+1))=true):=Lib.hid (by
     have h:=HL.out
     unfold allS at h ⊢
     rw [List.take_succ_eq_append_getElem hrl,List.all_append,h]
     simp [HQ.out])
    go_wp2
    go_roundg gk
    case measure=>omega
    case rel=>exact ⟨r+1,by omega,by first | rw [hwr] | rfl | simp,HL2,HB2⟩
set_option maxRecDepth 100000 in
set_option maxHeartbeats 4000000 in
theorem contN_c {W : World} {P : Option Addr} {n c : Nat} {us : List Ns} (h : NsL W P us) (hn : n = us.length) (h8 : n ≤ 1000000) (hA : Ar W) :
  Calls Tryz.prog 23 #[.slice P n c,.func (.func 21) #[] #[]] W fun e W'=>e=.returned (.bool (!allS us))∧Below W.heap.size W W':=by
 have HI:=Lib.hid (idxN_c (c:=c) h hn h8 hA)
 clear h hn hA
 go_enter Tryz.func23,Tryz.ntmps23
 go_wp2_with fail
 refine HI.out.mono ?_
 rintro e w1 ⟨⟨z,rfl,HZ⟩,b1⟩
 have HB:=Lib.hid b1
 clear b1 HI
 by_cases hz:0≤z
 ·have HE : Hid (allS us = false) := Lib.hid (HZ.out.1 hz)
  go_wp2
  go_ret
  exact ⟨by rw [HE.out];rfl,HB.out⟩
 ·have HE:Hid (allS us=true):=Lib.hid (by
   cases h:allS us with
   | true=>rfl
   | false=>exact absurd (HZ.out.2 h) hz)
  go_wp2
  go_ret
  exact ⟨by rw [HE.out];simp;omega,HB.out⟩
end Go.Proofs.YtioahgklplbinaaGreatDoor

/- The program's Build of machines. -/
namespace Go.Proofs.YtioahgklplbinaaGreatDoor
open Go.RowKit Go.Shelf Go.Maps SetM PropsM RxM WrM NfaM
def PMV (W W':World) (v:Value) (m:Mc):Prop:=∃ R B,MVx W' B R m∧v=.agg #[(R 0).v,(R 1).v,(R 2).v]∧(∀ k,Has (3+2*m.tg.length) R k→W.heap.size≤k)∧∀ k,B k→W.heap.size≤k∧Unf W' k
def PBP (W:World) (us:List Ns) (e:Ending) (W':World):Prop:=∃ v,e=.returned (.tuple #[v,.int .u16 (whyF us:Nat)])∧(whyF us=0→PMV W W' v (buildF us 0 (stF NfaM.none0)))∧(whyF us≠0→v=.agg #[.slice none 0 0,.slice none 0 0,.slice none 0 0])∧Below W.heap.size W W'
theorem NsL.row {W:World} {us:List Ns} {g:Nat} (h:NsL W (some ⟨g,0,none⟩) us):RowR W g us:=fun i hi=>by
 obtain ⟨g',a,b,c,d,e,e1,hg,hv,c0,c1,c2,c3,c4⟩:=h i hi
 cases e1
 refine ⟨_,hv,fun j hj=>?_⟩
 match j,hj with
 | 0,_=>exact c0
 | 1,_=>exact c1
 | 2,_=>exact c2
 | 3,_=>exact c3
 | 4,_=>exact c4
theorem RowN.alive {W:World} {base:Nat} {A:Nat→Prop} {P:Option Addr} {n c:Nat} {ts:List Nd} (h:RowN W base A (.slice P n c) ts) (h0:0 < ts.length):∃ g,P=some ⟨g,0,none⟩∧Alive W g:=by
 obtain ⟨vs,h1,_⟩:=h
 rcases h1.2 with ⟨_,b⟩ | ⟨g,cap,cur,a,_,hcur,_⟩
 ·omega
 ·injection a with a1 _ _
  exact ⟨g,a1,cur,hcur⟩
theorem results_pbuild {tmps : Array Value} {w : World} {B : Nat} {a b c : Value} {z : Int} (h1 : tmps.getD 2 undef = .pointer (some ⟨B, 0, none⟩)) (h2 : tmps.getD 3 undef = .int .u16 z)
  (b1:w.heap[B]? = some (.cells #[a,b,c] 29 (0,0))) :
  (results Tryz.f8 tmps).run Tryz.prog w=.ok (.tuple #[.agg #[a,b,c],.int .u16 z]) w:=by
 have h1':tmps[2]?.getD undef=.pointer (some ⟨B,0,none⟩):=by simpa using h1
 have h2':tmps[3]?.getD undef=.int .u16 z:=by simpa using h2
 have q0:w.cell? ⟨B,0,none⟩=some a:=cell_of_row w _ 0 _ _ _ b1
 have q1:w.cell? ⟨B,1,none⟩=some b:=cell_of_row w _ 1 _ _ _ b1
 have q2:w.cell? ⟨B,2,none⟩=some c:=cell_of_row w _ 2 _ _ _ b1
 simp [results,Tryz.results8,h1',h2',go_sem,q0,q1,q2]
theorem ret_pbuild {Q : Ending → World → Prop} {tmps : Array Value} {w1 : World} {B : Nat} {x y z a b c : Value} {n : Int} (h1 : tmps.getD 2 undef = .pointer (some ⟨B, 0, none⟩)) (h2 : tmps.getD 3 undef = .int .u16 n)
  (h3:w1.heap[B]? = some (.cells #[x,y,z] 29 (0,0))) (hQ:Q (.returned (.tuple #[.agg #[a,b,c],.int .u16 n])) (put3 w1 B a b c)) :
  bodyPost Tryz.prog Tryz.f8 Q .ret { tmps:=tmps,defers:=[] } (((w1.setCell ⟨B,0,none⟩ a).setCell ⟨B,1,none⟩ b).setCell ⟨B,2,none⟩ c) :=
 bodyPost_ret (results_pbuild h1 h2 (put3_heap a b c h3)) rfl hQ
theorem PW.tag {W0 V X : World} {Y O L : Nat → Prop} {b M : Nat} {m : Mc} (h : PW Y W0 b M V O L X m) {i : Nat} (hi : i < m.len) (t : Int) :
  ∃ p0 c0 p1 c1 g c,X.heap[b]? = some (bxO (.slice p0 m.len c0) (.slice p1 m.len c1) (.slice (some ⟨g,0,none⟩) m.len c) M)∧X.frozen? ⟨g,i,none⟩=false∧(∃ x,X.cell? ⟨g,i,none⟩=some x)∧g≠b∧(O g∨V.heap.size≤g)∧PW Y W0 b M V O L (X.setCell ⟨g,i,none⟩ (.int .i64 t)) (tgF m i t):=by
 obtain ⟨OX,hX,hsub⟩:=h.st
 obtain ⟨R,B,h1,h2,h3,h4⟩:=hX.mv
 obtain ⟨p0,c0,e0⟩:=(h1.fam.own 0 (by omega)).slice
 obtain ⟨p1,c1,e1⟩:=(h1.fam.own 1 (by omega)).slice
 rw [h1.r0.2.2.1] at e0
 rw [h1.r1.2.2.1] at e1
 have hi':i < m.tg.length:=hi
 have hr2:=h1.fam.own 2 (by omega)
 obtain ⟨g,c,e2,hg,hcl⟩:=hr2.cells (by rw [h1.r2.2.1];omega) (j:=i) (by rw [h1.r2.2.1,h1.r2.2.2.1];omega)
 rw [h1.r2.2.2.1] at e2
 have hown:(R 2).ok X:=hr2
 unfold Rw.ok at hown
 rw [e2,h1.r2.1,h1.r2.2.1,h1.r2.2.2.1] at hown
 have hfz:=World.ownsRow.frozenAt hown i
 obtain ⟨t1,t2,t3⟩:=h1.tag (i:=i) (t:=t) e2
 have hOg:OX g:=h3 g t3
 have hgo:=hX.o g hOg
 have ho:∀ k,k≠g→(X.setCell ⟨g,i,none⟩ (.int .i64 t)).heap[k]? = X.heap[k]?:=fun k hk=>heap_setCell_other X ⟨g,i,none⟩ k _ hk
 have hz:(X.setCell ⟨g,i,none⟩ (.int .i64 t)).heap.size=X.heap.size:=World.size_setCell ..
 have hx:(R 2).xs[i]? = some ((R 2).xs[i]'(by rw [h1.r2.2.2.2];simpa using hi')):=List.getElem?_eq_getElem _
 have hl:(tgF m i t).tg.length=m.tg.length:=len_tg m i t
 refine ⟨p0,c0,p1,c1,g,c,by rw [h2,e0,e1,e2];rfl,hfz,⟨_,hcl.trans hx⟩,hgo.2.2.1,hsub g hOg,⟨OX,⟨⟨_,B,t1,?_,fun k hk=>h3 k (t2 k (by rw [hl] at hk;exact hk)),fun k hk=>⟨(h4 k hk).1,(h4 k hk).2.of (ho k (fun e=>h1.nb g t3 (e ▸ hk)))⟩⟩,?_,by rw [hz];exact hX.o,by rw [hz];exact hX.y,by rw [hz];exact hX.b0,by rw [hz];exact hX.m0,⟨hX.w.os,hX.w.tape,hX.w.output,by rw [hz];exact hX.w.size,fun k hk=>(ho k (by omega)).trans (hX.w.block k hk)⟩⟩,hsub⟩,h.os,h.tape,h.output,by rw [hz];exact h.size,fun k hk h5 h6 h7 h8=>(ho k (fun e=>by rw [e] at h5 hk;exact (hsub g hOg).elim h5 (fun hh=>by omega))).trans (h.old k hk h5 h6 h7 h8)⟩
 ·rw [ho b (Ne.symm hgo.2.2.1),h2,upd_other _ _ (by omega),upd_other _ _ (by omega),upd_same]
 ·exact hX.mo.kept (ho M (Ne.symm hgo.2.2.2)) (by rw [hz];exact Nat.le_refl _) (fun k _ hn=>⟨hn,ho k (fun e=>hn (.inl (e ▸ hOg)))⟩)
theorem PB.begin {W0 X:World} {b M:Nat} {Y:Nat→Prop} (hw:Below W0.heap.size W0 X) (hb:X.heap[b]? = some (bxO (.slice none 0 0) (.slice none 0 0) (.slice none 0 0) M)) (hb0:W0.heap.size≤b) (hm0:W0.heap.size≤M) (hM:M < X.heap.size) (hne:b≠M) (hY:∀ k,Y k→k < X.heap.size) (hmo:PMo W0 X (fun k=>False∨Y k∨k=b∨k=M) M):PB Y W0 X (fun _=>False) b M NfaM.none0:=by
 have hno:∀ n k,¬ Has n nilR k:=fun n k ⟨i,_,h⟩=>nilR_block i k h
 refine ⟨⟨nilR,fun _=>False,⟨rfl,rfl,⟨fun i _=>?_,fun i j _ _ _ k h=>absurd h (nilR_block i k)⟩,fun k hk=>absurd hk (hno _ k),fun k hk=>hk.elim,⟨rfl,rfl,rfl,rfl⟩,⟨rfl,rfl,rfl,rfl⟩,⟨rfl,rfl,rfl,rfl⟩,fun i hi=>absurd hi (Nat.not_lt_zero i),fun i hi=>absurd hi (Nat.not_lt_zero i)⟩,hb,fun k hk=>absurd hk (hno _ k),fun k hk=>hk.elim⟩,hmo,fun k hk=>hk.elim,hY,⟨hb0,(Array.getElem?_eq_some_iff.1 hb).1,hne⟩,⟨hm0,hM⟩,hw⟩
 unfold nilR
 split <;> exact Rw.nil_ok X _ _
end Go.Proofs.YtioahgklplbinaaGreatDoor

/- The program's Build of machines, whole. -/
namespace Go.Proofs.YtioahgklplbinaaGreatDoor
open Go.RowKit Go.Shelf Go.Maps SetM PropsM RxM WrM NfaM
theorem why_one {us:List Ns} (h:¬ (us.length < 1∨30 < us.length)→allS us=false):whyF us=1:=by
 by_cases h1:us.length < 1∨30 < us.length
 ·exact why_long h1
 ·refine why_bad (fun h2 => ?_)
  have:=h h1
  rw [(allS_iff us).2 h2] at this
  cases this
theorem pbp_no {W X:World} {us:List Ns} {y:Nat} (hy:whyF us=y) (h0:y≠0) (hb:Below W.heap.size W X):PBP W us (.returned (.tuple #[.agg #[.slice none 0 0,.slice none 0 0,.slice none 0 0],.int .u16 (y:Nat)])) (put3 X W.heap.size (.slice none 0 0) (.slice none 0 0) (.slice none 0 0)) :=
 ⟨_,by rw [hy],fun h=>absurd (hy.symm.trans h) h0,fun _=>rfl,⟨hb.os,hb.tape,hb.output,by rw [put3_size];exact hb.size,fun k hk=>by rw [put3_other _ _ _ _ _ _ (by omega)];exact hb.block k hk⟩⟩
set_option maxRecDepth 100000 in
set_option maxHeartbeats 16000000 in
theorem pbuild_c {W:World} {P:Option Addr} {us:List Ns} {n pc:Nat} (h:NsL W P us) (hal:us≠[]→∃ g,P=some ⟨g,0,none⟩∧Alive W g) (hA:Ar W) (hn:n=us.length) (h8:n≤1000000):Calls Tryz.prog 8 #[.slice P n pc] W (PBP W us):=by
 obtain ⟨V,hV⟩:∃ V,V=W.alloc (.cells #[.slice none 0 0,.slice none 0 0,.slice none 0 0] 29):=⟨_,rfl⟩
 have hbV:Below W.heap.size W V:=by rw [hV];exact (Below.refl _ _).alloc (Nat.le_refl _) _
 have zV:V.heap.size=W.heap.size+1:=by rw [hV,World.size_alloc]
 have xV:V.heap[W.heap.size]? = some (.cells #[.slice none 0 0,.slice none 0 0,.slice none 0 0] 29 (0,0)):=by rw [hV];exact heap_alloc_new W _
 have h':NsL V P us:=fun i hi=>by
  obtain ⟨g,a,b,c,d,e,e1,hg,hv,r0,r1,r2,r3,r4⟩:=h i hi
  exact ⟨g,a,b,c,d,e,e1,Nat.lt_of_lt_of_le hg hbV.size,hv.step hbV,(hbV.cell (p:=⟨g,i*5,none⟩) hg).trans r0,(hbV.cell (p:=⟨g,i*5+1,none⟩) hg).trans r1,(hbV.cell (p:=⟨g,i*5+2,none⟩) hg).trans r2,(hbV.cell (p:=⟨g,i*5+3,none⟩) hg).trans r3,(hbV.cell (p:=⟨g,i*5+4,none⟩) hg).trans r4⟩
 have HCN:=Lib.hid (contN_c (c:=pc) h' hn h8 (hA.step hbV))
 obtain ⟨qs,hqs⟩:∃ q,q=allS us:=⟨_,rfl⟩
 rw [← hqs] at HCN
 have HQS:=Lib.hid hqs
 have HN:=Lib.hid hn
 have HL:=Lib.hid h
 have HAL:=Lib.hid hal
 have HBV:=Lib.hid hbV
 have HXV:=Lib.hid xV
 have HZV:=Lib.hid zV
 clear h h' hal hA hn hbV zV hqs
 go_enter Tryz.func8,Tryz.ntmps8
 go_upto_region 1 with fail
 rw [← hV]
 clear hV
 by_cases hn0:n=0
 ·have g1 : ((n : Int) == 0) = true := by rw [beq_iff_eq]; omega
  have HE:=Lib.hid (pbp_no (us:=us) (why_one (fun h=>absurd (.inl (by have:=HN.out;omega)) h)) (by decide) HBV.out)
  obtain ⟨⟨a0,a1,a2⟩,f0,f1,f2⟩:=cells3 xV
  clear hn0
  go_wp2
  exact ret_pbuild rfl rfl HXV.out HE.out
 have g1:((n:Int) == 0)=false:=by rw [beq_eq_false_iff_ne];omega
 by_cases hn3:30 < n
 ·have g2 : (30 : Int) < (n : Int) := by omega
  have HE:=Lib.hid (pbp_no (us:=us) (why_one (fun h=>absurd (.inr (by have:=HN.out;omega)) h)) (by decide) HBV.out)
  obtain ⟨⟨a0,a1,a2⟩,f0,f1,f2⟩:=cells3 xV
  clear hn0 hn3
  go_wp2
  exact ret_pbuild rfl rfl HXV.out HE.out
 have g2:¬ (30:Int) < (n:Int):=by omega
 have hn30:n≤30:=by omega
 have hn1:0 < n:=by omega
 clear hn0 hn3 xV h8
 go_wp2_with fail
 refine HCN.out.mono ?_
 rintro e w1 ⟨rfl,b1⟩
 have HB1:=Lib.hid b1
 have HBW:=Lib.hid (HBV.out.trans (b1.mono HBV.out.size))
 have HX1:=Lib.hid ((b1.block _ (by have:=HZV.out;omega)).trans HXV.out)
 clear b1 HCN
 cases qs with
 | false =>
  have HE:=Lib.hid (pbp_no (us:=us) (why_one (fun _=>HQS.out.symm)) (by decide) HBW.out)
  obtain ⟨⟨a0,a1,a2⟩,f0,f1,f2⟩:=cells3 HX1.out
  go_wp2
  exact ret_pbuild rfl rfl HX1.out HE.out
 | true =>
  have HSL:=Lib.hid ((allS_iff us).1 HQS.out.symm)
  have hne:us≠[]:=fun e=>by have:=HN.out;rw [e] at this;simp at this;omega
  obtain ⟨g,rfl,halg⟩:=HAL.out hne
  have hmk:∀ w,(Instr.makeMap 62 none).run Tryz.prog w=.ok (.map (some w.heap.size)) (w.alloc (.map #[] 0)):=fun _=>by kernel_rfl
  obtain ⟨M,hM⟩:∃ M,M=w1.heap.size:=⟨_,rfl⟩
  obtain ⟨X1,hX1⟩:∃ X,X=w1.alloc (.map #[] 0):=⟨_,rfl⟩
  have hbx:Below w1.heap.size w1 X1:=by rw [hX1];exact (Below.refl _ _).alloc (Nat.le_refl _) _
  have zx:X1.heap.size=w1.heap.size+1:=by rw [hX1,World.size_alloc]
  have hmx:X1.heap[M]? = some (.map #[] 0):=by rw [hM,hX1];exact heap_alloc_new w1 _
  have hMW:W.heap.size < M:=by have:=HB1.out.size;have:=HZV.out;omega
  have hkd:Kd W g us:=⟨halg,HL.out.row,fun u hu=>(HSL.out u hu).1,by have:=HN.out;omega⟩
  have hof:OfA W X1 M g (fun k=>k=M) us:=⟨fun x _=>ln_all x,hkd.shp,hne,by have:=hkd.l8;omega,hkd.al,hkd.row,HBW.out.trans (hbx.mono HBW.out.size),by omega,fun k hk=>by omega,rfl,PMo.new hmx⟩
  have HFO:=Lib.hid (forked_c (pc:=pc) hof HN.out)
  obtain ⟨f,hf⟩:∃ f,f=n+cutP (cntC us):=⟨_,rfl⟩
  rw [← hf] at HFO
  have HF:=Lib.hid hf
  have hf8:f≤3000:=by rw [hf];have:=cutP_le (cntC us);omega
  have HKD:=Lib.hid hkd
  have HBX:=Lib.hid (HBW.out.trans (hbx.mono HBW.out.size))
  have HXX:=Lib.hid ((hbx.block _ (by have:=HB1.out.size;have:=HZV.out;omega)).trans HX1.out)
  have HMM:Hid (M=w1.heap.size∧W.heap.size < M∧X1.heap.size=w1.heap.size+1):=Lib.hid ⟨hM,hMW,zx⟩
  have HNL:Hid (¬ (us.length < 1∨30 < us.length)):=Lib.hid (by have:=HN.out;omega)
  have hwf:wrap64 (1+(f:Int))=1+(f:Int):=IntWalk.wrap64_in _ (by omega)
  clear hof hf hkd hbx zx hmx hMW halg hne
  go_upto_region 5 with fail
  rw [← hX1,← hM]
  clear hX1 hM hmk
  go_wp2_with fail
  refine HFO.out.mono ?_
  rintro e w2 ⟨rfl,hmo,hgr⟩
  have HMO:=Lib.hid hmo
  have HGR:=Lib.hid hgr
  have HX2:=Lib.hid ((hgr.block _ (by have:=HMM.out;omega) (fun e=>by have:=HMM.out;have e:=Option.some.inj e;omega)).trans HXX.out)
  have HB2:=Lib.hid (hgr.below HBX.out (by have:=HMM.out;omega))
  clear hmo hgr HFO
  by_cases hbig:2000 < sumF us
  ·have hg3 : (2000 : Int) < 1 + (f : Int) := by have := (sum_cut us).1 hbig; have := HF.out; have := HN.out; omega
   have HWY:Hid (whyF us=63):=Lib.hid (by rw [why_ok HNL.out HSL.out,if_pos hbig])
   have HE:=Lib.hid (pbp_no HWY.out (by decide) HB2.out)
   obtain ⟨⟨a0,a1,a2⟩,f0,f1,f2⟩:=cells3 HX2.out
   clear hbig
   go_wp2
   exact ret_pbuild rfl rfl HX2.out HE.out
  ·have hg3:¬ (2000:Int) < 1+(f:Int):=by
    intro hh
    exact hbig ((sum_cut us).2 (by have:=HF.out;have:=HN.out;omega))
   have HWY:Hid (whyF us=0):=Lib.hid (by rw [why_ok HNL.out HSL.out,if_neg hbig])
   have HCB:Hid (1+cntB us≤2000):=Lib.hid (by rw [sum_big (by omega)];omega)
   obtain ⟨X3,hX3⟩:∃ X,X=w2.alloc (bxO (.slice none 0 0) (.slice none 0 0) (.slice none 0 0) M):=⟨_,rfl⟩
   have hb3:Below w2.heap.size w2 X3:=by rw [hX3];exact (Below.refl _ _).alloc (Nat.le_refl _) _
   have z3:X3.heap.size=w2.heap.size+1:=by rw [hX3,World.size_alloc]
   have x3:X3.heap[w2.heap.size]? = some (bxO (.slice none 0 0) (.slice none 0 0) (.slice none 0 0) M):=by rw [hX3];exact heap_alloc_new w2 _
   have hs2:=HGR.out.size
   have hs2':M < w2.heap.size:=by have:=HMM.out;omega
   have hpb:PB noL W X3 (fun _=>False) w2.heap.size M NfaM.none0:=PB.begin (HB2.out.trans (hb3.mono HB2.out.size)) x3 (by have:=HB2.out.size;omega) (by have:=HMM.out;omega) (by omega) (by omega) (fun k hk=>hk.elim) (HMO.out.kept (hb3.block M hs2') hb3.size (fun k hk hn=>⟨fun hh=>by
    rcases hh with hh | hh | hh | hh
    ·exact hh
    ·exact hh
    ·omega
    ·exact hn hh,hb3.block k hk⟩))
   have HST:=Lib.hid (hpb.pw (L:=noL) |>.use (fun OX hX=>state_b hX (by decide)))
   have HB3:=Lib.hid (HB2.out.trans (hb3.mono HB2.out.size))
   have HX3:=Lib.hid ((hb3.block _ (by have:=HB2.out.size;have:=HMM.out;omega)).trans HX2.out)
   have HZ3:Hid (X3.heap.size=w2.heap.size+1∧M < w2.heap.size∧W.heap.size < M):=Lib.hid ⟨z3,hs2',HMM.out.2.1⟩
   clear hbig hb3 z3 x3 hs2 hs2' hpb
   go_upto_region 8 with fail
   rw [← hX3]
   clear hX3
   go_wp2_with fail
   refine HST.out.mono ?_
   rintro e w4 ⟨rfl,hw4,_⟩
   have HW4:=Lib.hid hw4
   have hl0:((NfaM.none0.len:Nat):Int)=0:=rfl
   rw [hl0]
   clear hw4 HST hl0
   go_wp2_with fail
   have HSTP:=Lib.hid (fun r=>build_stp (us.take r) (stF NfaM.none0) (by decide) (by decide) (by decide) 0)
   go_loopg [38] n (fun gk s38 wx=>∃ r:Nat,r+gk=n∧s38=.int .i64 r∧Hid (PW noL W w2.heap.size M X3 (fun _=>False) noL wx (buildF (us.take r) 0 (stF NfaM.none0))))
   case atStart=>exact ⟨0,by omega,rfl,Lib.hid (by rw [List.take_zero,buildF];exact HW4.out)⟩
   case round =>
    obtain ⟨r,hrg,rfl,HLP⟩:=hrel
    cases gk with
    | zero =>
     obtain rfl:r=n:=by omega
     have hlt:¬ (r:Int) < (r:Int):=by omega
     have HTK:Hid (us.take r=us):=Lib.hid (List.take_of_length_le (by have:=HN.out;omega))
     have hpw:=HLP.out
     rw [HTK.out] at hpw
     obtain ⟨OX,hX,hsub⟩:=hpw.st
     obtain ⟨R,B,m1,m2,m3,m4⟩:=hX.mv
     have hrs:wr.heap[W.heap.size]? = some (.cells #[.slice none 0 0,.slice none 0 0,.slice none 0 0] 29 (0,0)):=(hpw.old _ (by have:=HZ3.out;omega) (fun h=>h) (fun h=>h) (by have:=HZ3.out;omega) (by have:=HZ3.out;omega)).trans HX3.out
     obtain ⟨v0,hv0⟩:∃ v,v=(R 0).v:=⟨_,rfl⟩
     obtain ⟨v1,hv1⟩:∃ v,v=(R 1).v:=⟨_,rfl⟩
     obtain ⟨v2,hv2⟩:∃ v,v=(R 2).v:=⟨_,rfl⟩
     rw [← hv0,← hv1,← hv2] at m2
     have hno:∀ k,OX k→k≠W.heap.size:=fun k hk e=>by
      rcases hsub k hk with h | h
      ·exact h
      ·have:=HZ3.out;omega
     have HE:Hid (PBP W us (.returned (.tuple #[.agg #[v0,v1,v2],.int .u16 0])) (put3 wr W.heap.size v0 v1 v2)):=Lib.hid (by
      have hk:∀ k,k≠W.heap.size→(put3 wr W.heap.size v0 v1 v2).heap[k]? = wr.heap[k]?:=fun k hk=>put3_other _ _ _ _ _ _ hk
      refine ⟨_,by rw [HWY.out];rfl,fun _=>⟨R,B,m1.kept (by rw [put3_size];exact Nat.le_refl _) (fun k hh=>hk k (hno k (hh.elim (m3 k) (fun h=>(m4 k h).1)))),by rw [hv0,hv1,hv2],fun k hh=>(hX.o k (m3 k hh)).1,fun k hh=>⟨(hX.o k (m4 k hh).1).1,(m4 k hh).2.of (hk k (hno k (m4 k hh).1))⟩⟩,fun h=>absurd HWY.out h,?_⟩
      have hw:=hX.w
      exact ⟨hw.os,hw.tape,hw.output,by rw [put3_size];exact hw.size,fun k hh=>(hk k (by omega)).trans (hw.block k hh)⟩)
     have HRS:=Lib.hid hrs
     obtain ⟨⟨x0,x1,x2⟩,f0,f1,f2⟩:=cells3 hrs
     obtain ⟨⟨y0,y1,y2,y3⟩,_⟩:=cells4 m2
     obtain ⟨q0,d0,e0⟩:=(m1.fam.own 0 (by omega)).slice
     obtain ⟨q1,d1,e1⟩:=(m1.fam.own 1 (by omega)).slice
     obtain ⟨q2,d2,e2⟩:=(m1.fam.own 2 (by omega)).slice
     rw [← hv0] at e0
     rw [← hv1] at e1
     rw [← hv2] at e2
     generalize (R 0).n=l0 at e0
     generalize (R 1).n=l1 at e1
     generalize (R 2).n=l2 at e2
     subst e0 e1 e2
     clear hv0 hv1 hv2 m1 m2 m3 m4 hX hsub hno hpw hrs
     go_wp2
     exact ret_pbuild rfl rfl HRS.out HE.out
    | succ gk =>
     have hlt:(r:Int) < (n:Int):=by omega
     have hrl:r < us.length:=by have:=HN.out;omega
     have h0:(0:Int)≤(r:Int):=by omega
     have hwr:wrap64 ((r:Int)+1)=((r+1:Nat):Int):=by rw [IntWalk.wrap64_in _ (by omega)];omega
     obtain ⟨kd,sp,sn,sc,kp,kn2,kc2,mn,mx,hv,b0,b1,b2,b3,b4⟩:=HKD.out.cell HLP.out.below hrl
     have hmem:=List.getElem_mem hrl
     have HRR:Hid (Room (buildF (us.take r) 0 (stF NfaM.none0)) (cntS us[r]+1)∧0 < (buildF (us.take r) 0 (stF NfaM.none0)).len):=Lib.hid (by
      have a:=HSTP.out r
      have b:=cntb_take us r hrl
      have c:=HCB.out
      have d:(stF NfaM.none0).len=1:=rfl
      unfold Room
      omega)
     have HSN:Hid (buildF (us.take (r+1)) 0 (stF NfaM.none0)=tgF (forkB (laidF us[r]) (buildF (us.take r) 0 (stF NfaM.none0)) 0).1 (forkB (laidF us[r]) (buildF (us.take r) 0 (stF NfaM.none0)) 0).2 (r:Int)):=Lib.hid (by
      rw [List.take_succ_eq_append_getElem hrl,build_snoc]
      congr 1
      rw [List.length_take]
      have:min r us.length=r:=by omega
      rw [this]
      simp)
     obtain ⟨mr,hmr⟩:∃ mr,mr=buildF (us.take r) 0 (stF NfaM.none0):=⟨_,rfl⟩
     rw [← hmr] at HSN HRR HLP
     have HSF:=Lib.hid (fork_stp (laid_stp us[r]) mr 0)
     obtain ⟨OX,hX,hback⟩:=HLP.out.nest
     obtain ⟨Z,hZ⟩:∃ Z,Z=wr.alloc (.cells #[.int .u8 kd,.slice sp sn sc,.slice kp kn2 kc2,.int .i64 mn,.int .i64 mx] 48):=⟨_,rfl⟩
     have hbZ:Below wr.heap.size wr Z:=by rw [hZ];exact (Below.refl _ _).alloc (Nat.le_refl _) _
     have hxZ:Z.heap[wr.heap.size]? = some (.cells #[.int .u8 kd,.slice sp sn sc,.slice kp kn2 kc2,.int .i64 mn,.int .i64 mx] 48 (0,0)):=by rw [hZ];exact heap_alloc_new wr _
     have hpz:PW noL W w2.heap.size M Z OX noL Z mr:=(hX.step hbZ).pw
     have HFK:=Lib.hid (hpz.use (fun OZ hO=>fork_p (lay_all us[r]) W _ noL OZ w2.heap.size M mr 0 _ (HKD.out.shp _ hmem) hO hv HRR.out.2 HRR.out.1))
     have hk0:(((0:Nat):Int))=0:=rfl
     rw [hk0] at HFK
     generalize forkB (laidF us[r]) mr 0=fk at HFK HSF HSN
     have HBK:=Lib.hid (fun X' m' (hp:PW noL W w2.heap.size M Z OX noL X' m')=>hback X' m' (hp.fin hbZ (fun k hk=>hk.elim)))
     obtain ⟨c0,c1,c2,c3,c4⟩:=cells5 hxZ
     have hf0:(0:Int)≤(fk.2:Int):=by omega
     have hfl:(fk.2:Int) < (fk.1.len:Int):=by have:=HSF.out.lt;omega
     clear hv hmem hmr hX hback hbZ hxZ hpz hk0
     go_upto_region 12 with fail
     rw [← hZ]
     clear hZ b0 b1 b2 b3 b4
     go_wp2_with fail
     refine HFK.out.mono ?_
     rintro e w5 ⟨rfl,hw5,hk5⟩
     obtain ⟨q0,d0,q1,d1,gt,ct,hbox,hft,⟨xo,hxo⟩,hne,_,hwt⟩:=hw5.tag HSF.out.lt (r:Int)
     have HLN:=Lib.hid (HBK.out _ _ hwt)
     obtain ⟨⟨z0,z1,z2,z3⟩,_⟩:=cells4 hbox
     rw [← HSN.out] at HLN
     clear hw5 hk5 hwt hbox hne c0 c1 c2 c3 c4 HFK HBK
     go_wp2
     go_roundg gk
     case measure=>omega
     case rel=>exact ⟨r+1,by omega,by first | rw [hwr] | rfl | simp,HLN⟩
end Go.Proofs.YtioahgklplbinaaGreatDoor

/- The law's known: the chapter's example. -/
namespace NfaM
open SetM RxM WrM
end NfaM
namespace Go.Proofs.YtioahgklplbinaaGreatDoor
open Go.RowKit Go.Shelf Go.Maps SetM PropsM RxM WrM NfaM
structure BltM (W : World) (us : List Ns) (v : Value) : Prop where
 form:∃ p0 c0 p1 c1 p2 c2,v=.agg #[.slice p0 (buildF us 0 (stF NfaM.none0)).tg.length c0,.slice p1 (buildF us 0 (stF NfaM.none0)).tg.length c1,.slice p2 (buildF us 0 (stF NfaM.none0)).tg.length c2]∧MR W p0 p1 p2 (buildF us 0 (stF NfaM.none0))
 sets:∀ i < (buildF us 0 (stF NfaM.none0)).ed.length,∀ e∈(buildF us 0 (stF NfaM.none0)).ed.getD i [],e.2.length≤100000
theorem MVx.blt {W:World} {B:Nat→Prop} {R:Nat→Rw} {us:List Ns} (h:MVx W B R (buildF us 0 (stF NfaM.none0))):BltM W us (.agg #[(R 0).v,(R 1).v,(R 2).v]):=by
 obtain ⟨p0,c0,e0⟩:=(h.fam.own 0 (by omega)).slice
 obtain ⟨p1,c1,e1⟩:=(h.fam.own 1 (by omega)).slice
 obtain ⟨p2,c2,e2⟩:=(h.fam.own 2 (by omega)).slice
 rw [h.r0.2.2.1] at e0
 rw [h.r1.2.2.1] at e1
 rw [h.r2.2.2.1] at e2
 exact ⟨⟨p0,c0,p1,c1,p2,c2,by rw [e0,e1,e2],h.toMR e0 e1 e2⟩,h.sets⟩
theorem built_ok {us:List Ns} (h:whyF us=0):Inv (buildF us 0 (stF NfaM.none0))∧1≤(buildF us 0 (stF NfaM.none0)).tg.length∧(buildF us 0 (stF NfaM.none0)).tg.length≤2000∧frs (buildF us 0 (stF NfaM.none0))≤4000∧eds (buildF us 0 (stF NfaM.none0))≤2000:=by
 have h1:¬ (us.length < 1∨30 < us.length):=fun h1=>by rw [why_long h1] at h;cases h
 have h2:SndL us:=by
  refine Classical.byContradiction (fun h2=>?_)
  rw [why_bad h2] at h
  cases h
 rw [why_ok h1 h2] at h
 have h3:sumF us≤2000:=by
  refine Nat.le_of_not_lt (fun h3=>?_)
  rw [if_pos h3] at h
  cases h
 have hc:=sum_big h3
 have a:=build_stp us (stF NfaM.none0) (by decide) (by decide) (by decide) 0
 have e:(stF NfaM.none0).len=1:=rfl
 have hl:(buildF us 0 (stF NfaM.none0)).tg.length=(buildF us 0 (stF NfaM.none0)).len:=rfl
 exact ⟨build_inv us (fun u hu=>(h2 u hu).1) 0 _ Inv.none.st (by decide),by omega,by omega,by omega,by omega⟩
end Go.Proofs.YtioahgklplbinaaGreatDoor

/- The law's list of patterns, as a row of nodes. -/
namespace Go.Proofs.YtioahgklplbinaaGreatDoor
open Go.RowKit Go.Shelf Go.Maps SetM PropsM RxM WrM NfaM
structure XL (W X : World) (P : Option Addr) (us : List Ns) : Prop where
 nb:NsB X (fun k=>W.heap.size≤k∧k < X.heap.size) P us
 al:us≠[]→∃ g,P=some ⟨g,0,none⟩∧Alive X g
 wd:∀ u∈us,WdT u
 l8:us.length≤1000
 below:Below W.heap.size W X
theorem list_x {W W':World} {rows:List (List Int)} {v:Value} (h:RowN W' W.heap.size (fun b=>W.heap.size≤b) v (ndsF rows)) (hb:Below W.heap.size W W'):∃ P c us,v=.slice P us.length c∧XL W W' P us∧(us.length=(ndsF rows).length)∧∀ i (hi:i < us.length) (hj:i < (ndsF rows).length),nd us[i]=(ndsF rows)[i]∧Nfs us[i]:=by
 have hh:=h
 obtain ⟨P,c,us,rfl,hl,hnb,hall⟩:=h.toB (fun b hb=>hb)
 refine ⟨P,c,us,by rw [hl],⟨hnb.imp (fun k hk hlt=>⟨hk,hlt⟩),fun hne=>hh.alive (by rw [← hl];exact List.length_pos_iff.2 hne),fun u hu=>?_,by rw [hl];unfold ndsF;rw [List.length_map,List.length_take];omega,hb⟩,hl,fun i hi hj=>⟨(hall i hi hj).1,(hall i hi hj).2.1⟩⟩
 obtain ⟨i,hi,rfl⟩:=List.mem_iff_getElem.1 hu
 obtain ⟨e1,e2,e3⟩:=hall i hi (by omega)
 have hj:i < (rows.take 6).length:=by have:=hl;unfold ndsF at this;rw [List.length_map] at this;omega
 have e4:nd us[i]=ndF (rows.take 6)[i]:=by rw [e1];unfold ndsF;rw [List.getElem_map]
 exact ends_wd _ (sc_ends _ e2 (by rw [e4];exact ndF_sc _))
end Go.Proofs.YtioahgklplbinaaGreatDoor
