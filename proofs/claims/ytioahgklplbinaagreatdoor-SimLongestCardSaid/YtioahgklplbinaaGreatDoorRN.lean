/- RNode, RPiece, RClass, RRow, RJoin, RRep, RCat, RAlt, RGroup, RDefs, RNamed, RParse, RKnown, in one text. -/
import Derived.Test.YtioahgklplbinaaGreatDoorRA
import Derived.Test.YtioahgklplbinaaGreatDoorWE
import Derived.Test.YtioahgklplbinaaGreatDoorPA
import Derived.Test.YtioahgklplbinaaGreatDoorFO
import Derived.Laws.AppendOwnNone
import Derived.WalkSmall
import Derived.StillTailTactics
import Derived.Test.YtioahgklplbinaaGreatDoorPURE
import Derived.Deep.AppendLies
import Derived.Deep.DeepCutAuto
namespace Go.Proofs.YtioahgklplbinaaGreatDoor
open Go.RowKit Go.Shelf SetM RxM
def SetNew (W:World) (K:Int→Prop) (N:Nat) (e:Ending) (W':World):Prop :=
 ∃ P c out,e=.returned (.slice P (List.length out) c)∧IsSet out K∧out.length≤N∧Sl W' P out∧(P=none→c=0)∧(∀ a,P=some a→W.heap.size≤a.block)∧Below W.heap.size W W'
theorem SetPost.toNew {W:World} {K:Int→Prop} {N:Nat} {e:Ending} {W':World} (h:SetPost W K N e W'):SetNew W K N e W':=by
 obtain ⟨v,out,h1,h2,h3,h4,h5,h6⟩:=h
 have h7:=h5.lt
 obtain ⟨P,c,rfl,hs⟩:=spans_of h5
 refine ⟨P,c,out,h1,⟨h2,h3⟩,h4,hs,fun hP=>?_,fun a ha=>?_,h6⟩
 ·rcases h5.2 with ⟨e1, _⟩ | ⟨g, cap, cur, e1, _⟩
  ·injection e1
  ·subst hP;injection e1 with e1;cases e1
 ·subst ha
  exact (h7 a.block rfl).1
def kidParts : Value → List Value
 | .agg cs=>cs.toList
 | _=>[]
def NIs (W : World) (A : Nat → Prop) : Nat → Value → Nd → Prop
 | 0,_,_=>False
 | h+1,v,.mk k K kids mn mx=>∃ sp sl sc kp kc,v=.agg #[.int .u8 k,.slice sp (List.length sl) sc,.slice kp kids.length kc,.int .i64 mn,.int .i64 mx]∧IsSet sl K∧(sl.length≤100000∧kids.length≤1000)∧Sl W sp sl∧(sp=none→sc=0)∧(∀ a,sp=some a→sl≠[]→A a.block)∧(kids=[]→kp=none∧kc=0) ∧
   (kids≠[]→∃ g cs us,kp=some ⟨g,0,none⟩∧A g∧W.heap[g]? = some (.cells cs 48 (0,0))∧List.length us=kids.length∧cs.toList.take (List.length us*5)=us.flatMap kidParts∧∀ i (hi:i < kids.length) u,us[i]? = some u→NIs W A h u kids[i])
theorem NIs.imp {W W' : World} {A B : Nat → Prop} (hAB : ∀ b, A b → b < W.heap.size → B b ∧ W'.heap[b]? = W.heap[b]?) (hsz : W.heap.size ≤ W'.heap.size) : ∀ (h : Nat) (v : Value) (t : Nd), NIs W A h v t → NIs W' B h v t
 | 0,_,_,hn=>hn
 | h+1,v,.mk k K kids mn mx,hn=>by
  obtain ⟨sp,sl,sc,kp,kc,e,hK,hl,hs,hz,ha,hk0,hk1⟩:=hn
  refine ⟨sp,sl,sc,kp,kc,e,hK,hl,fun hne=>?_,hz,fun a ea hne=>?_,hk0,fun hne=>?_⟩
  ·obtain ⟨b, off, e1, hb, hc⟩ := hs hne
   have hq:=hAB b (ha ⟨b,off,none⟩ e1 hne) hb
   exact ⟨b,off,e1,by omega,fun j hj=>⟨(World.cell?_of_block (a:=⟨b,off+j*2,none⟩) hq.2).trans (hc j hj).1,(World.cell?_of_block (a:=⟨b,off+j*2+1,none⟩) hq.2).trans (hc j hj).2⟩⟩
  ·obtain ⟨b, off, e1, hb, hc⟩ := hs hne
   rw [ea] at e1
   cases e1
   exact (hAB b (ha _ ea hne) hb).1
  ·obtain ⟨g, cs, us, e1, hA, hb, h1, h2, h3⟩ := hk1 hne
   have hq:=hAB g hA (Array.getElem?_eq_some_iff.1 hb).1
   exact ⟨g,cs,us,e1,hq.1,hq.2.trans hb,h1,h2,fun i hi u hu=>NIs.imp hAB hsz h u _ (h3 i hi u hu)⟩
theorem NIs.up {W : World} {A : Nat → Prop} : ∀ (h k : Nat) (v : Value) (t : Nd), NIs W A h v t → h ≤ k → NIs W A k v t
 | 0,_,_,_,hn,_=>hn.elim
 | h+1,0,_,_,_,hk=>absurd hk (by omega)
 | h+1,k+1,v,.mk kd K kids mn mx,hn,hk=>by
  obtain ⟨sp,sl,sc,kp,kc,e,hK,hl,hs,hz,ha,hk0,hk1⟩:=hn
  refine ⟨sp,sl,sc,kp,kc,e,hK,hl,hs,hz,ha,hk0,fun hne=>?_⟩
  obtain ⟨g,cs,us,e1,hA,hb,h1,h2,h3⟩:=hk1 hne
  exact ⟨g,cs,us,e1,hA,hb,h1,h2,fun i hi u hu=>NIs.up h k u _ (h3 i hi u hu) (by omega)⟩
def NV (W:World) (A:Nat→Prop) (v:Value) (t:Nd):Prop:=∃ h,NIs W A h v t
theorem NV.imp {W W':World} {A B:Nat→Prop} {v:Value} {t:Nd} (hn:NV W A v t) (hAB:∀ b,A b→b < W.heap.size→B b∧W'.heap[b]? = W.heap[b]?) (hsz:W.heap.size≤W'.heap.size):NV W' B v t :=
 let ⟨h,hi⟩:=hn;⟨h,hi.imp hAB hsz⟩
def Old (N:Nat×Nat) (n:Nat) (b:Nat):Prop:=(N.1≤b∧b < N.2)∨n≤b
theorem NV.gr {N:Nat×Nat} {R n m:Nat} {W W':World} {v:Value} {t:Nd} (hn:NV W (Old N n) v t) (hg:Gr R W W') (hR:R < n) (hm:m≤n) (hN:N.2≤R:=by omega):NV W' (Old N m) v t :=
 hn.imp (fun b hA hb=>⟨hA.imp id (fun h=>by omega),hg.block b hb (fun e=>by cases e;rcases hA with h | h <;> omega)⟩) hg.size
theorem NV.form {W : World} {A : Nat → Prop} {v : Value} {k : Nat} {K : Int → Prop} {kids : List Nd} {mn mx : Int} (hn : NV W A v (.mk k K kids mn mx)) :
  ∃ (sp:Option Addr) (sl:List Sp) (sc:Nat) (kp:Option Addr) (kc:Nat),v=.agg #[.int .u8 k,.slice sp (List.length sl) sc,.slice kp kids.length kc,.int .i64 mn,.int .i64 mx]:=by
 obtain ⟨h,hi⟩:=hn
 cases h with
 | zero=>exact hi.elim
 | succ h=>obtain ⟨sp,sl,sc,kp,kc,e,_⟩:=hi;exact ⟨sp,sl,sc,kp,kc,e⟩
theorem NV.five {W:World} {A:Nat→Prop} {v:Value} {t:Nd} (hn:NV W A v t):∃ a b c d e,v=.agg #[a,b,c,d,e]:=by
 cases t with
 | mk k K kids mn mx=>obtain ⟨sp,sl,sc,kp,kc,rfl⟩:=hn.form;exact ⟨_,_,_,_,_,rfl⟩
theorem chars_nv {W : World} {A : Nat → Prop} {P : Option Addr} {c : Nat} {l : List Sp} {K : Int → Prop} (hK : IsSet l K) (hl : l.length ≤ 100000) (hs : Sl W P l) (hz : P = none → c = 0) (ha : ∀ a, P = some a → A a.block) :
  NV W A (.agg #[.int .u8 1,.slice P l.length c,.slice none 0 0,.int .i64 0,.int .i64 0]) (.mk 1 K [] 0 0) :=
 ⟨1,P,l,c,none,0,rfl,hK,⟨hl,by simp⟩,hs,hz,fun a e _=>ha a e,fun _=>⟨rfl,rfl⟩,fun h=>absurd rfl h⟩
theorem none_set:IsSet [] none0:=⟨trivial,fun r=>⟨fun h=>(mem_nil r h).elim,fun h=>h.elim⟩⟩
theorem empty_nv {W:World} {A:Nat→Prop}:NV W A (.agg #[.int .u8 0,.slice none 0 0,.slice none 0 0,.int .i64 0,.int .i64 0]) (.mk 0 none0 [] 0 0) :=
 ⟨1,none,[],0,none,0,rfl,none_set,by simp,fun h=>absurd rfl h,fun _=>rfl,fun a h=>(by cases h),fun _=>⟨rfl,rfl⟩,fun h=>absurd rfl h⟩
theorem B5.gr {R:Nat} {W W':World} {B:Nat} (h:B5 W B) (hg:Gr R W W') (hne:B≠R):B5 W' B:=by
 have hl:=h.lt
 obtain ⟨x0,x1,x2,x3,x4,h⟩:=h
 exact ⟨x0,x1,x2,x3,x4,(hg.block B hl (fun e=>hne (by cases e;rfl))).trans h⟩
theorem put5_gr (W:World) (B:Nat) (a b c d e:Value):Gr B W (put5 W B a b c d e) :=
 (Gr.set W 0 a).trans ((Gr.set _ 1 b).trans ((Gr.set _ 2 c).trans ((Gr.set _ 3 d).trans (Gr.set _ 4 e))))
theorem put5_grR {R:Nat} {W W0:World} {B:Nat} (a b c d e:Value) (h:Gr R W0 W) (hB:W0.heap.size≤B):Gr R W0 (put5 W B a b c d e):=by
 have g:=put5_gr W B a b c d e
 exact ⟨g.os.trans h.os,g.tape.trans h.tape,g.output.trans h.output,Nat.le_trans h.size g.size,fun k hk hr=>(put5_block _ _ _ _ _ _ _ k (by omega)).trans (h.block k hk hr)⟩
theorem put5_nv {N:Nat×Nat} {R n m B:Nat} {W:World} {v:Value} {t:Nd} (a b c d e:Value) (hn:NV W (Old N n) v t) (hB:B < n) (hRB:R < B) (hm:m≤n) (hN:N.2≤R:=by omega):NV (put5 W B a b c d e) (Old N m) v t :=
 hn.imp (fun k hA _=>⟨hA.imp id (fun h=>by omega),put5_block _ _ _ _ _ _ _ k (by rcases hA with h | h <;> omega)⟩) (by rw [put5_size];exact Nat.le_refl _)
end Go.Proofs.YtioahgklplbinaaGreatDoor
namespace Go.Proofs.YtioahgklplbinaaGreatDoor
open Go.RowKit Go.Shelf Go.Maps SetM PropsM RxM
section
variable {w W:World}
end
theorem Sl.gr {R:Nat} {W W':World} {P:Option Addr} {l:List Sp} (h:Sl W P l) (hg:Gr R W W') (ha:∀ a,P=some a→R < a.block):Sl W' P l:=fun hl=>by
 obtain ⟨b,off,e,hb,hc⟩:=h hl
 have hR:R < b:=ha _ e
 refine ⟨b,off,e,Nat.lt_of_lt_of_le hb hg.size,fun j hj=>?_⟩
 have hk:=hg.block b hb (fun e=>by cases e;omega)
 exact ⟨(World.cell?_of_block (a:=⟨b,off+j*2,none⟩) hk).trans (hc j hj).1,(World.cell?_of_block (a:=⟨b,off+j*2+1,none⟩) hk).trans (hc j hj).2⟩
variable {R:Nat} {W:World} {s:ByteArray} {dv:Value} {rest:List Int} {d:Nat} {cl:Bool}
end Go.Proofs.YtioahgklplbinaaGreatDoor
namespace Go.Proofs.YtioahgklplbinaaGreatDoor
open Go.RowKit Go.Shelf Go.Maps SetM PropsM RxM
variable {R:Nat} {W:World} {s:ByteArray} {dv:Value} {rest:List Int} {d:Nat} {cl:Bool}
theorem Gr.row {R base:Nat} {W U U':World} {v:Value} {n:Nat} {xs:List Value} {t:TypeId} {k:Nat} (hg:Gr R W U) (hb:W.heap.size≤base) (hown:U.ownsRow base t k v n xs) (h:U.grownBy U' v.ownBlock):Gr R W U' :=
 ⟨h.os.trans hg.os,h.tape.trans hg.tape,h.output.trans hg.output,Nat.le_trans hg.size h.size,fun i hi hr=>by
  refine (h.block i (Nat.lt_of_lt_of_le hi hg.size) (fun e=>?_)).trans (hg.block i hi hr)
  have:=(hown.lt i e.symm).1
  omega⟩
end Go.Proofs.YtioahgklplbinaaGreatDoor
namespace Go.Proofs.YtioahgklplbinaaGreatDoor
open Go.RowKit Go.Shelf Go.Maps SetM PropsM RxM
theorem infoN:(Tryz.prog.info? 48).map (fun i=>(i.zero,i.size,i.bytes))=some (some (.agg #[.int .u8 0,.slice none 0 0,.slice none 0 0,.int .i64 0,.int .i64 0]),5,72):=by kernel_rfl
theorem NIs.one {W : World} {A : Nat → Prop} : ∀ {h : Nat} {v : Value} {t : Nd}, NIs W A h v t → ∀ u ∈ kidParts v, u.oneCell' = true
 | 0,_,_,hn=>hn.elim
 | h+1,v,.mk k K kids mn mx,hn=>by
  obtain ⟨sp,sl,sc,kp,kc,rfl,_⟩:=hn
  intro u hu
  simp only [kidParts,List.mem_cons,List.not_mem_nil,or_false] at hu
  rcases hu with rfl | rfl | rfl | rfl | rfl <;> rfl
theorem NIs.parts {W : World} {A : Nat → Prop} : ∀ {h : Nat} {v : Value} {t : Nd}, NIs W A h v t → (kidParts v).length = 5
 | 0,_,_,hn=>hn.elim
 | h+1,v,.mk k K kids mn mx,hn=>by
  obtain ⟨sp,sl,sc,kp,kc,rfl,_⟩:=hn
  rfl
def NRow (W:World) (A:Nat→Prop) (us:List Value) (ts:List Nd):Prop:=∃ h,us.length=ts.length∧∀ i (hi:i < ts.length) u,us[i]? = some u→NIs W A h u ts[i]
theorem NRow.nil {W:World} {A:Nat→Prop}:NRow W A [] []:=⟨0,rfl,fun i hi=>by simp at hi⟩
theorem NRow.imp {W W':World} {A B:Nat→Prop} {us:List Value} {ts:List Nd} (h:NRow W A us ts) (hAB:∀ b,A b→b < W.heap.size→B b∧W'.heap[b]? = W.heap[b]?) (hsz:W.heap.size≤W'.heap.size):NRow W' B us ts:=by
 obtain ⟨k,hl,hi⟩:=h
 exact ⟨k,hl,fun i h u hu=>(hi i h u hu).imp hAB hsz⟩
theorem NRow.push {W:World} {A:Nat→Prop} {us:List Value} {ts:List Nd} {u:Value} {t:Nd} (h:NRow W A us ts) (hu:NV W A u t):NRow W A (us++[u]) (ts++[t]):=by
 obtain ⟨k,hl,hi⟩:=h
 obtain ⟨m,hm⟩:=hu
 refine ⟨max k m,by simp [hl],fun i hlt v hv=>?_⟩
 rcases Nat.lt_or_ge i ts.length with h1 | h1
 ·rw [List.getElem?_append_left (by omega)] at hv
  rw [List.getElem_append_left h1]
  exact (hi i h1 v hv).up _ _ _ _ (Nat.le_max_left _ _)
 ·have : i = ts.length := by simp at hlt; omega
  subst this
  rw [← hl,List.getElem?_append_right (by omega)] at hv
  simp at hv
  subst hv
  rw [List.getElem_append_right (by omega)]
  simp
  exact hm.up _ _ _ _ (Nat.le_max_right _ _)
def RowN (W:World) (base:Nat) (A:Nat→Prop) (v:Value) (ts:List Nd):Prop :=
 ∃ us,W.ownsRow base 48 5 v ts.length (us.flatMap kidParts)∧NRow W (fun b=>A b∧v.ownBlock≠some b) us ts
theorem RowN.nil {W:World} {base:Nat} {A:Nat→Prop}:RowN W base A (.slice none 0 0) []:=⟨[],⟨rfl,.inl ⟨rfl,rfl⟩⟩,NRow.nil⟩
theorem RowN.imp {W W':World} {base:Nat} {A B:Nat→Prop} {v:Value} {ts:List Nd} (h:RowN W base A v ts) (hAB:∀ b,A b→b < W.heap.size→B b∧W'.heap[b]? = W.heap[b]?) (hrow:∀ b,base≤b→b < W.heap.size→W'.heap[b]? = W.heap[b]?) (hsz:W.heap.size≤W'.heap.size):RowN W' base B v ts:=by
 obtain ⟨us,h1,h2⟩:=h
 refine ⟨us,⟨h1.1,?_⟩,h2.imp (fun b hb hlt=>⟨⟨(hAB b hb.1 hlt).1,hb.2⟩,(hAB b hb.1 hlt).2⟩) hsz⟩
 rcases h1.2 with h | ⟨g,cap,cur,e1,e2,e3,e4⟩
 ·exact .inl h
 ·exact .inr ⟨g,cap,cur,e1,e2,(hrow g e2 (Array.getElem?_eq_some_iff.1 e3).1).trans e3,e4⟩
theorem RowN.gr {N:Nat×Nat} {R n:Nat} {W W':World} {base:Nat} {v:Value} {ts:List Nd} (h:RowN W base (Old N n) v ts) (hg:Gr R W W') (hR:R < n) (hb:R < base) (hN:N.2≤R:=by omega):RowN W' base (Old N n) v ts :=
 h.imp (fun b hA hlt=>⟨hA,hg.block b hlt (fun e=>by cases e;rcases hA with h | h <;> omega)⟩) (fun b h1 h2=>hg.block b h2 (fun e=>by cases e;omega)) hg.size
theorem RowN.lt {W:World} {base:Nat} {A:Nat→Prop} {v:Value} {ts:List Nd} (h:RowN W base A v ts):∀ k,v.ownBlock=some k→base≤k∧k < W.heap.size:=by
 obtain ⟨us,h1,_⟩:=h
 exact h1.lt
set_option maxHeartbeats 1000000 in
theorem wpList_push {w : World} {ops : Array Oper} {rest : List Oper} {o : Oper} {a : Act} {Q : Exit → Act → World → Prop} (hgd : o.guard = none) (s x : Operand)
  (ho:o.op=.call { callee:= .builtin .append,args:=#[s,x],argTypes:=#[23,23] }) (base:Nat) (A:Nat→Prop)
  (v:Value) (ts:List Nd) (hs:a.eval s=v) (hown:RowN w base A v ts) (g0:Nat) (u:Value) (t:Nd) (hx:a.eval x=.slice (some ⟨g0,0,none⟩) 1 1)
  (hu:NV w (fun b=>A b∧v.ownBlock≠some b) u t) (hb:w.heap[g0]? = some (.cells (kidParts u).toArray 48 (0,0)))
  (h63:ts.length≤1000) (hbase:base≤w.heap.size)
  (h:∀ v' w',RowN w' base A v' (ts++[t])→w.grownBy w' v.ownBlock→wpList Tryz.prog ops Q rest (a.put o.dst v') w'):wpList Tryz.prog ops Q (o::rest) a w:=by
 obtain ⟨i0,hi,hz0,hz1,hz2⟩:=info_parts infoN
 obtain ⟨us,h1,h2⟩:=hown
 obtain ⟨m,hm⟩:=hu
 have h5:=hm.parts
 refine wpList_append_lies _ hgd s x 23 ho base 48 i0 _ 5 72 Tryz.underlying23 hi hz0 hz1 hz2 rfl (by decide) v ts.length (us.flatMap kidParts) hs h1 ⟨g0,0,none⟩ 1 1 (kidParts u) hx (by omega) (fun j y hy=>World.news_of_block hb j y (by simpa using hy)) hm.one (by omega) (by unfold maxLen;omega) (by omega) hbase _ rfl ?_
 intro g cap w' k1 k2 k3 k4
 refine h _ w' ⟨us++[u],?_,?_⟩ k2
 ·rw [List.flatMap_append, List.length_append]
  simpa using k1
 ·refine (h2.push ⟨m, hm⟩).imp (fun b hA' hlt => ⟨⟨hA'.1, fun e => ?_⟩, k2.block b hlt (fun e => hA'.2 e.symm)⟩) k2.size
  have e:g=b:=by cases e;rfl
  rcases k3 with k3 | k3
  ·exact hA'.2 (by rw [← e];exact k3)
  ·omega
end Go.Proofs.YtioahgklplbinaaGreatDoor
namespace Go.Proofs.YtioahgklplbinaaGreatDoor
open Go.RowKit Go.Shelf Go.Maps SetM PropsM RxM
theorem NIs.form5 {W : World} {A : Nat → Prop} : ∀ {h : Nat} {v : Value} {t : Nd}, NIs W A h v t → ∃ (k : Int) (sp : Option Addr) (sn sc : Nat) (kp : Option Addr) (kn kc : Nat) (mn mx : Int), v = .agg #[.int .u8 k, .slice sp sn sc, .slice kp kn kc, .int .i64 mn, .int .i64 mx]
 | 0,_,_,hn=>hn.elim
 | h+1,v,.mk k K kids mn mx,hn=>by
  obtain ⟨sp,sl,sc,kp,kc,rfl,_⟩:=hn
  exact ⟨_,_,_,_,_,_,_,_,_,rfl⟩
theorem NV.form5 {W:World} {A:Nat→Prop} {v:Value} {t:Nd} (h:NV W A v t):∃ (k:Int) (sp:Option Addr) (sn sc:Nat) (kp:Option Addr) (kn kc:Nat) (mn mx:Int),v=.agg #[.int .u8 k,.slice sp sn sc,.slice kp kn kc,.int .i64 mn,.int .i64 mx]:=let ⟨_,h⟩:=h;h.form5
end Go.Proofs.YtioahgklplbinaaGreatDoor
namespace Go.Proofs.YtioahgklplbinaaGreatDoor
open Go.RowKit Go.Shelf Go.Maps SetM PropsM RxM
variable {R:Nat} {W W0:World} {s:ByteArray} {dv:Value} {rest:List Int} {d:Nat} {cl:Bool}
theorem repL_succ (f:Nat) (x:Nd) (r:List Int):repL (f+1) x r=match timesF r with
  | .err e y=>.err e y
  | .ok none r1=>.ok x r1
  | .ok (some p) r1=>repL f (.mk 4 none0 [x] p.1 p.2) r1:=rfl
def VarN (W:World) (A:Nat→Prop) (B:Nat) (x:Nd):Prop :=
 ∃ (k:Int) (sp:Option Addr) (sn sc:Nat) (kp:Option Addr) (kn kc:Nat) (mn mx:Int),W.heap[B]? = some (.cells #[.int .u8 k,.slice sp sn sc,.slice kp kn kc,.int .i64 mn,.int .i64 mx] 48 (0,0)) ∧
  NV W (fun b=>A b∧b≠B) (.agg #[.int .u8 k,.slice sp sn sc,.slice kp kn kc,.int .i64 mn,.int .i64 mx]) x
theorem VarN.gr {N:Nat×Nat} {R n:Nat} {W W':World} {B:Nat} {x:Nd} (h:VarN W (Old N n) B x) (hg:Gr R W W') (hR:R < n) (hB:B≠R) (hN:N.2≤R:=by omega):VarN W' (Old N n) B x:=by
 obtain ⟨k,sp,sn,sc,kp,kn,kc,mn,mx,hb,hn⟩:=h
 refine ⟨k,sp,sn,sc,kp,kn,kc,mn,mx,(hg.block B (Array.getElem?_eq_some_iff.1 hb).1 (fun e=>hB (by cases e;rfl))).trans hb,hn.imp (fun b hA hlt=>⟨hA,hg.block b hlt (fun e=>by cases e;rcases hA.1 with h | h <;> omega)⟩) hg.size⟩
theorem VarN.lt {A:Nat→Prop} {B:Nat} {x:Nd} (h:VarN W A B x):B < W.heap.size:=by
 obtain ⟨k,sp,sn,sc,kp,kn,kc,mn,mx,hb,hn⟩:=h
 exact (Array.getElem?_eq_some_iff.1 hb).1
theorem VarN.rep {N : Nat × Nat} {n : Nat} {B : Nat} {x : Nd} (k : Int) (sp : Option Addr) (sn sc : Nat) (kp : Option Addr) (kn kc : Nat) (mn mx : Int) (hb : W.heap[B]? = some (.cells #[.int .u8 k, .slice sp sn sc, .slice kp kn kc, .int .i64 mn, .int .i64 mx] 48 (0, 0)))
  (hn:NV W (fun b=>Old N n b∧b≠B) (.agg #[.int .u8 k,.slice sp sn sc,.slice kp kn kc,.int .i64 mn,.int .i64 mx]) x) (hnz:n≤W.heap.size) (p q:Int) :
  VarN ((put5 W B (.int .u8 4) (.slice none 0 0) (.slice (some ⟨W.heap.size,0,none⟩) 1 1) (.int .i64 p) (.int .i64 q)).alloc (.cells #[.int .u8 k,.slice sp sn sc,.slice kp kn kc,.int .i64 mn,.int .i64 mx] 48)) (Old N n) B (.mk 4 none0 [x] p q):=by
 have hlt:B < W.heap.size:=(Array.getElem?_eq_some_iff.1 hb).1
 obtain ⟨U,hU⟩:∃ U,U=put5 W B (.int .u8 4) (.slice none 0 0) (.slice (some ⟨W.heap.size,0,none⟩) 1 1) (.int .i64 p) (.int .i64 q):=⟨_,rfl⟩
 have hUz:U.heap.size=W.heap.size:=by rw [hU];exact put5_size _ _ _ _ _ _ _
 have hUB:U.heap[B]? = some (.cells #[.int .u8 4,.slice none 0 0,.slice (some ⟨W.heap.size,0,none⟩) 1 1,.int .i64 p,.int .i64 q] 48 (0,0)):=by rw [hU];exact put5_b5 _ _ _ _ _ ⟨_,_,_,_,_,hb⟩
 have hUk:∀ x,x≠B→U.heap[x]? = W.heap[x]?:=by rw [hU];exact fun x hx=>put5_block _ _ _ _ _ _ _ x hx
 rw [← hU]
 have hal:=(Below.refl U.heap.size U).alloc (Nat.le_refl _) (.cells #[.int .u8 k,.slice sp sn sc,.slice kp kn kc,.int .i64 mn,.int .i64 mx] 48)
 refine ⟨4,none,0,0,some ⟨W.heap.size,0,none⟩,1,1,p,q,(hal.block B (by omega)).trans hUB,?_⟩
 obtain ⟨m,hm⟩:=hn
 refine ⟨m+1,none,[],0,some ⟨W.heap.size,0,none⟩,1,rfl,none_set,by simp,fun h=>absurd rfl h,fun _=>rfl,fun a h=>(by cases h),fun h=>(by cases h),fun _=>⟨W.heap.size,_,[.agg #[.int .u8 k,.slice sp sn sc,.slice kp kn kc,.int .i64 mn,.int .i64 mx]],rfl,⟨.inr hnz,by omega⟩,(by rw [← hUz];exact heap_alloc_new U _),rfl,rfl,fun i hi u hu=>?_⟩⟩
 have hi0:i=0:=by simpa using hi
 subst hi0
 cases hu
 exact hm.imp (fun b hA hlt=>⟨hA,(hal.block b (by omega)).trans (hUk b hA.2)⟩) (by rw [World.size_alloc];omega)
end Go.Proofs.YtioahgklplbinaaGreatDoor
namespace Go.Proofs.YtioahgklplbinaaGreatDoor
open Go.RowKit Go.Shelf Go.Maps SetM PropsM RxM
variable {R:Nat} {W W0:World} {s:ByteArray} {dv:Value} {rest:List Int} {d:Nat} {cl:Bool}
theorem fresh_nv {N:Nat×Nat} {n m:Nat} {base:Nat} {A:Nat→Prop} {U U':World} {v u:Value} {ts:List Nd} {t:Nd} (hrow:RowN U base A v ts) (hR:R < base) (hu:NV U' (Old N U.heap.size) u t) (hn:n≤U.heap.size) (_:m=n) (hN:N.2≤R:=by omega):NV U' (fun b=>Old N n b∧v.ownBlock≠some b) u t :=
 hu.imp (fun b hA _=>⟨⟨hA.imp id (fun h=>by omega),fun e=>by have:=hrow.lt b e;rcases hA with h | h <;> omega⟩,rfl⟩) (Nat.le_refl _)
theorem Gr.rowN {R base:Nat} {A:Nat→Prop} {W U U':World} {v:Value} {ts:List Nd} (hg:Gr R W U) (hb:W.heap.size≤base) (hown:RowN U base A v ts) (h:U.grownBy U' v.ownBlock):Gr R W U':=by
 obtain ⟨us,h1,_⟩:=hown
 exact hg.row hb h1 h
end Go.Proofs.YtioahgklplbinaaGreatDoor
namespace Go.Proofs.YtioahgklplbinaaGreatDoor
open Go.RowKit Go.Shelf Go.Maps SetM PropsM RxM
variable {R:Nat} {W W0:World} {s:ByteArray} {dv:Value} {rest:List Int} {d:Nat} {cl:Bool}
theorem RowN.one {A:Nat→Prop} {u:Value} {t:Nd} (hu:NV W A u t) {cs:Array Value} (hc:cs=(kidParts u).toArray):RowN (W.alloc (.cells cs 48)) W.heap.size A (.slice (some ⟨W.heap.size,0,none⟩) 1 1) [t]:=by
 obtain ⟨m,hm⟩:=hu
 have h5:=hm.parts
 have hal:=(Below.refl W.heap.size W).alloc (Nat.le_refl _) (.cells cs 48)
 refine ⟨[u],⟨by simpa using h5,.inr ⟨W.heap.size,1,cs,rfl,Nat.le_refl _,heap_alloc_new W _,Nat.le_refl _,by unfold maxLen;omega,by rw [hc];simpa using h5,?_⟩⟩,?_⟩
 ·rw [hc]
  simp only [List.flatMap_cons,List.flatMap_nil,List.append_nil,List.length_cons,List.length_nil]
  rw [List.take_of_length_le (by omega)]
 ·refine NRow.push (NRow.nil) ⟨m, hm.imp (fun b hA hlt => ⟨⟨hA, fun e => ?_⟩, hal.block b hlt⟩) hal.size⟩
  have:W.heap.size=b:=by cases e;rfl
  omega
end Go.Proofs.YtioahgklplbinaaGreatDoor
namespace Go.Proofs.YtioahgklplbinaaGreatDoor
open Go.RowKit Go.Shelf Go.Maps SetM PropsM RxM
variable {R:Nat} {W W0:World} {s:ByteArray} {dv:Value} {rest:List Int} {d:Nat} {cl:Bool}
end Go.Proofs.YtioahgklplbinaaGreatDoor
namespace Go.Proofs.YtioahgklplbinaaGreatDoor
open Go.RowKit Go.Shelf Go.Maps SetM PropsM RxM
def Def6 (W:World) (g o:Nat) (nm:ByteArray) (x0 x1 x2 x3 x4:Value):Prop :=
 W.cell? ⟨g,o,none⟩=some (.string nm)∧W.cell? ⟨g,o+1,none⟩=some x0∧W.cell? ⟨g,o+2,none⟩=some x1∧W.cell? ⟨g,o+3,none⟩=some x2∧W.cell? ⟨g,o+4,none⟩=some x3∧W.cell? ⟨g,o+5,none⟩=some x4
theorem Def6.below {n:Nat} {W W':World} {g o:Nat} {nm:ByteArray} {x0 x1 x2 x3 x4:Value} (h:Def6 W g o nm x0 x1 x2 x3 x4) (hb:Below n W W') (hg:g < n):Def6 W' g o nm x0 x1 x2 x3 x4 :=
 ⟨(hb.cell (p:=⟨g,_,none⟩) hg).trans h.1,(hb.cell (p:=⟨g,_,none⟩) hg).trans h.2.1,(hb.cell (p:=⟨g,_,none⟩) hg).trans h.2.2.1,(hb.cell (p:=⟨g,_,none⟩) hg).trans h.2.2.2.1,(hb.cell (p:=⟨g,_,none⟩) hg).trans h.2.2.2.2.1,(hb.cell (p:=⟨g,_,none⟩) hg).trans h.2.2.2.2.2⟩
end Go.Proofs.YtioahgklplbinaaGreatDoor
namespace Go.Proofs.YtioahgklplbinaaGreatDoor
open Go.RowKit Go.Shelf Go.Maps SetM PropsM RxM
variable {R:Nat} {W W0:World} {s:ByteArray} {dv:Value} {rest:List Int} {d:Nat} {cl:Bool}
theorem bs_append (a b:ByteArray):bs (a++b)=bs a++bs b:=by
 unfold bs
 rw [ByteArray.data_append,Array.toList_append,List.map_append]
end Go.Proofs.YtioahgklplbinaaGreatDoor
namespace Go.Proofs.YtioahgklplbinaaGreatDoor
open Go.RowKit Go.Shelf Go.Maps SetM PropsM RxM
end Go.Proofs.YtioahgklplbinaaGreatDoor
namespace Go.Proofs.YtioahgklplbinaaGreatDoor
open Go.RowKit Go.Shelf Go.Maps SetM PropsM RxM
theorem flat5 : ∀ (us : List Value) (_ : ∀ u ∈ us, (kidParts u).length = 5) (i j : Nat) (_ : j < 5) (u : Value) (_ : us[i]? = some u), (us.flatMap kidParts)[i * 5 + j]? = (kidParts u)[j]?
 | [],_,i,j,_,u,hu=>by simp at hu
 | v::us,h,0,j,hj,u,hu=>by
  have e:v=u:=by simpa using hu
  subst e
  rw [List.flatMap_cons,Nat.zero_mul,Nat.zero_add,List.getElem?_append_left (by rw [h v (by simp)];exact hj)]
 | v::us,h,i+1,j,hj,u,hu=>by
  rw [List.flatMap_cons,List.getElem?_append_right (by rw [h v (by simp)];omega),h v (by simp),show (i+1)*5+j - 5=i*5+j by omega]
  exact flat5 us (fun x hx=>h x (by simp [hx])) i j hj u (by simpa using hu)
theorem NV.read {W : World} {A : Nat → Prop} {v : Value} {k : Nat} {K : Int → Prop} {kids : List Nd} {mn mx : Int} (h : NV W A v (.mk k K kids mn mx)) :
  ∃ (sp:Option Addr) (sl:List Sp) (sc:Nat) (kp:Option Addr) (kc:Nat),v=.agg #[.int .u8 k,.slice sp (List.length sl) sc,.slice kp kids.length kc,.int .i64 mn,.int .i64 mx]∧IsSet sl K∧(sl.length≤100000∧kids.length≤1000)∧Sl W sp sl ∧
   (kids≠[]→∃ g,kp=some ⟨g,0,none⟩∧g < W.heap.size∧∀ i (hi:i < kids.length),∃ u,NV W A u kids[i]∧∀ j,j < 5→W.cell? ⟨g,i*5+j,none⟩=(kidParts u)[j]?):=by
 obtain ⟨m,hm⟩:=h
 cases m with
 | zero=>exact hm.elim
 | succ m =>
  obtain ⟨sp,sl,sc,kp,kc,e,hK,hl,hs,hz,ha,hk0,hk1⟩:=hm
  refine ⟨sp,sl,sc,kp,kc,e,hK,hl,hs,fun hne=>?_⟩
  obtain ⟨g,cs,us,e1,hA,hb,h1,h2,h3⟩:=hk1 hne
  refine ⟨g,e1,(Array.getElem?_eq_some_iff.1 hb).1,fun i hi=>?_⟩
  have hu:us[i]? = some us[i]:=List.getElem?_eq_getElem (by omega)
  have h5:∀ u∈us,(kidParts u).length=5:=fun u hu=>by
   obtain ⟨j,hj,rfl⟩:=List.mem_iff_getElem.1 hu
   exact (h3 j (by omega) _ (List.getElem?_eq_getElem hj)).parts
  refine ⟨us[i],⟨m,h3 i hi _ hu⟩,fun j hj=>?_⟩
  rw [cell_of_row W g (i*5+j) _ _ _ hb,← flat5 us h5 i j hj _ hu,← h2,List.getElem?_take_of_lt (by omega),Array.getElem?_toList]
end Go.Proofs.YtioahgklplbinaaGreatDoor
