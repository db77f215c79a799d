/- The document's closed: a node all of whose sets are closed. -/
import Derived.Test.YtioahgklplbinaaGreatDoorQB
import Derived.Deep.RegionLaw
import Derived.Deep.AppendLies
namespace RxM
open SetM
mutual
def clF : Nd → Nd
 | .mk k K kids a b=>.mk k (if k=1 then ClosedK K else none0) (clL kids) a b
def clL : List Nd → List Nd
 | []=>[]
 | x::l=>clF x::clL l
end
theorem clL_map : ∀ l : List Nd, clL l = l.map clF
 | []=>by rw [clL];rfl
 | x::l=>by rw [clL,clL_map l];rfl
theorem clF_mk (k:Nat) (K:Int→Prop) (kids:List Nd) (a b:Int):clF (.mk k K kids a b)=.mk k (if k=1 then ClosedK K else none0) (kids.map clF) a b:=by rw [clF,clL_map]
end RxM
namespace Go.Proofs.YtioahgklplbinaaGreatDoor
open Go.RowKit Go.Shelf Go.Maps SetM PropsM RxM
mutual
def Few : Nd → Prop
 | .mk k K kids _ _=>(k=1→(∀ r,K r→Sc r)∧∀ o,IsSet o K→o.length≤43000)∧FewL kids
def FewL : List Nd → Prop
 | []=>True
 | x::l=>Few x∧FewL l
end
theorem Few.mk {k:Nat} {K:Int→Prop} {kids:List Nd} {a b:Int} (h:Few (.mk k K kids a b)):(k=1→(∀ r,K r→Sc r)∧∀ o,IsSet o K→o.length≤43000)∧FewL kids:=by rwa [Few] at h
theorem FewL.mem : ∀ {l : List Nd}, FewL l → ∀ x ∈ l, Few x
 | [],_,x,hx=>by simp at hx
 | y::l,h,x,hx=>by
  rw [FewL] at h
  rcases List.mem_cons.1 hx with rfl | hx
  ·exact h.1
  ·exact h.2.mem x hx
def ClP (W:World) (t:Nd) (e:Ending) (W':World):Prop :=
 ∃ v,e=.returned v∧NV W' (fun b=>W.heap.size≤b) v (clF t)∧Below W.heap.size W W'
set_option maxHeartbeats 1000000 in
theorem step_push {w : World} {ops : Array Oper} {o : Oper} {a : Act} {K : Act → World → Prop} {Q : Exit → Act → World → Prop} {E : Prop} (hgd : o.guard = none) (s x : Operand)
  (ho:o.op=.call { callee:= .builtin .append,args:=#[s,x],argTypes:=#[23,23] }) (base:Nat) (A:Nat→Prop)
  (v:Value) (ts:List Nd) (hs:a.eval s=v) (hown:RowN w base A v ts) (g0:Nat) (u:Value) (t:Nd) (hx:a.eval x=.slice (some ⟨g0,0,none⟩) 1 1)
  (hu:NV w (fun b=>A b∧v.ownBlock≠some b) u t) (hb:w.heap[g0]? = some (.cells (kidParts u).toArray 48 (0,0)))
  (h63:ts.length≤1000) (hbase:base≤w.heap.size)
  (h:∀ v' w',RowN w' base A v' (ts++[t])→w.grownBy w' v.ownBlock→K (a.put o.dst v') w'):if Region.wanted o (yielded ops a.tmps)=true then Oper.wp Tryz.prog o a w K Q else E:=by
 obtain ⟨i0,hi,hz0,hz1,hz2⟩:=info_parts infoN
 obtain ⟨us,h1,h2⟩:=hown
 obtain ⟨m,hm⟩:=hu
 have h5:=hm.parts
 refine step_append_lies _ hgd s x 23 ho base 48 i0 _ 5 72 Tryz.underlying23 hi hz0 hz1 hz2 rfl (by decide) v ts.length (us.flatMap kidParts) hs h1 ⟨g0,0,none⟩ 1 1 (kidParts u) hx (by omega) (fun j y hy=>World.news_of_block hb j y (by simpa using hy)) hm.one (by omega) (by unfold maxLen;omega) (by omega) hbase _ rfl ?_
 intro g cap w' k1 k2 k3 k4
 refine h _ w' ⟨us++[u],?_,?_⟩ k2
 ·rw [List.flatMap_append, List.length_append]
  simpa using k1
 ·refine (h2.push ⟨m, hm⟩).imp (fun b hA' hlt => ⟨⟨hA'.1, fun e => ?_⟩, k2.block b hlt (fun e => hA'.2 e.symm)⟩) k2.size
  have e:g=b:=by cases e;rfl
  rcases k3 with k3 | k3
  ·exact hA'.2 (by rw [← e];exact k3)
  ·omega
theorem node_of_row {W : World} {base : Nat} {A : Nat → Prop} {kv : Value} {ts : List Nd} {k : Nat} {K : Int → Prop} {P : Option Addr} {o : List Sp} {c : Nat} {mn mx : Int} (hown : RowN W base A kv ts) (h0 : ts = [] → kv = .slice none 0 0) (hl : ts.length ≤ 1000)
  (hK:IsSet o K) (ho:o.length≤100000) (hs:Sl W P o) (hz:P=none→c=0) (ha:∀ a,P=some a→A a.block) (hA:∀ b,base≤b→A b) :
  ∃ kp kc,kv=.slice kp ts.length kc∧NV W A (.agg #[.int .u8 k,.slice P o.length c,.slice kp ts.length kc,.int .i64 mn,.int .i64 mx]) (.mk k K ts mn mx):=by
 by_cases he:ts=[]
 ·subst he
  exact ⟨none,0,h0 rfl,1,P,o,c,none,0,rfl,hK,⟨ho,hl⟩,hs,hz,fun a e _=>ha a e,fun _=>⟨rfl,rfl⟩,fun h=>absurd rfl h⟩
 ·obtain ⟨us, h1, hh⟩ := hown
  obtain ⟨m,hm,hi⟩:=hh
  rcases h1.2 with h | ⟨g,cap,cur,e1,e2,e3,e4,e5,e6,e7⟩
  ·exact absurd (List.length_eq_zero_iff.1 h.2) he
  ·subst e1
   refine ⟨some ⟨g,0,none⟩,cap,rfl,m+1,P,o,c,some ⟨g,0,none⟩,cap,rfl,hK,⟨ho,hl⟩,hs,hz,fun a e _=>ha a e,fun h=>absurd h he,fun _=>⟨g,cur,us,rfl,hA g e2,e3,hm,by rw [hm];exact e7,fun i hlt u hu=>?_⟩⟩
   exact (hi i hlt u hu).imp (fun x hx hlt=>⟨hx.1,rfl⟩) (Nat.le_refl _)
theorem RowN.form {W:World} {base:Nat} {A:Nat→Prop} {v:Value} {ts:List Nd} (h:RowN W base A v ts):∃ p n c,v=.slice p n c:=by
 obtain ⟨us,h1,_⟩:=h
 rcases h1.2 with h | ⟨g,cap,cur,e1,_⟩
 ·exact ⟨_,_,_,h.1⟩
 ·exact ⟨_,_,_,e1⟩
structure ClI (W X wx : World) (kids : List Nd) (z : Int) (P : Option Addr) (on c : Nat) (mn mx : Int) (i : Nat) (kv : Value) : Prop where
 v:wx.heap[W.heap.size+1+1]? = some (.cells #[.int .u8 z,.slice P on c,kv,.int .i64 mn,.int .i64 mx] 48 (0,0))
 row:RowN wx X.heap.size (fun b=>W.heap.size+3≤b) kv ((kids.take i).map clF)
 nil:i=0→kv=.slice none 0 0
 g:Gr (W.heap.size+1+1) X wx
theorem ClI.step {W X wx wy:World} {kids:List Nd} {z:Int} {P:Option Addr} {on c:Nat} {mn mx:Int} {i:Nat} {kv:Value} (h:ClI W X wx kids z P on c mn mx i kv) (hb:Below wx.heap.size wx wy):ClI W X wy kids z P on c mn mx i kv :=
 ⟨(hb.block _ (Array.getElem?_eq_some_iff.1 h.v).1).trans h.v,h.row.imp (fun b hA hlt=>⟨hA,hb.block b hlt⟩) (fun b _ hlt=>hb.block b hlt) hb.size,h.nil,h.g.trans (Gr.of hb)⟩
theorem ClI.put {W X w6 w7 : World} {kids : List Nd} {z : Int} {P : Option Addr} {on c : Nat} {mn mx : Int} {i : Nat} {kv v7 : Value} {t : Nd} (h : ClI W X w6 kids z P on c mn mx i kv) (hX : W.heap.size + 3 ≤ X.heap.size) (hn : (kids.take (i + 1)).map clF = (kids.take i).map clF ++ [t])
  (hrow:RowN w7 X.heap.size (fun b=>W.heap.size+3≤b) v7 ((kids.take i).map clF++[t])) (hg:w6.grownBy w7 kv.ownBlock):B5 w7 (W.heap.size+1+1)∧ClI W X (w7.setCell ⟨W.heap.size+1+1,2,none⟩ v7) kids z P on c mn mx (i+1) v7:=by
 have hv:w7.heap[W.heap.size+1+1]? = some (.cells #[.int .u8 z,.slice P on c,kv,.int .i64 mn,.int .i64 mx] 48 (0,0)):=(hg.block _ (Array.getElem?_eq_some_iff.1 h.v).1 (fun e=>by have:=h.row.lt _ e.symm;omega)).trans h.v
 have hG:Gr (W.heap.size+1+1) X w7:=h.g.rowN (Nat.le_refl _) h.row hg
 refine ⟨⟨_,_,_,_,_,hv⟩,heap_setC _ _ _ _ hv 2 _,?_,fun e=>by omega,hG.trans (Gr.set _ _ _)⟩
 rw [hn]
 have hs:=Gr.set (R:=W.heap.size+1+1) w7 2 v7
 exact hrow.imp (fun b hA hlt=>⟨hA,hs.block b hlt (fun e=>by have:=Option.some.inj e;omega)⟩) (fun b hA hlt=>hs.block b hlt (fun e=>by have:=Option.some.inj e;omega)) hs.size
set_option maxRecDepth 100000 in
set_option maxHeartbeats 4000000 in
theorem closed_chars {W : World} {A : Nat → Prop} {v : Value} {k : Nat} {K : Int → Prop} {kids : List Nd} {mn mx : Int} (hv : NV W A v (.mk k K kids mn mx)) (hF : Few (.mk k K kids mn mx)) (hk1 : k = 1)
  (ih:∀ (i:Nat) (hi:i < kids.length) (x:Value) (W':World),NV W' A x kids[i]→Calls Tryz.prog 141 #[x] W' (ClP W' kids[i])) :
  Calls Tryz.prog 141 #[v] W (ClP W (.mk k K kids mn mx)):=by
 obtain ⟨sp,sl,sc,kp,kc,rfl,hK,hsl,hs,hk⟩:=hv.read
 obtain ⟨n,hn⟩:∃ n,n=kids.length:=⟨_,rfl⟩
 rw [← hn]
 have hn1:n≤1000:=by omega
 have HKID:Hid (∀ i,i < n→∃ g a b c d e x,kp=some ⟨g,0,none⟩∧g < W.heap.size∧(kids.take (i+1)).map clF=(kids.take i).map clF++[clF x]∧(W.cell? ⟨g,i*5,none⟩=some a∧W.cell? ⟨g,i*5+1,none⟩=some b∧W.cell? ⟨g,i*5+2,none⟩=some c∧W.cell? ⟨g,i*5+3,none⟩=some d∧W.cell? ⟨g,i*5+4,none⟩=some e)∧∀ W',Below W.heap.size W W'→Calls Tryz.prog 141 #[.agg #[a,b,c,d,e]] W' (ClP W' x)):=Lib.hid (by
  intro i hi
  have hne:kids≠[]:=by intro e;rw [e] at hn;simp at hn;omega
  obtain ⟨g,e1,hg,hc⟩:=hk hne
  obtain ⟨x,hx,hcx⟩:=hc i (by omega)
  obtain ⟨a,b,c,d,e,rfl⟩:=hx.five
  refine ⟨g,a,b,c,d,e,kids[i],e1,hg,by rw [List.take_succ_eq_append_getElem (by omega),List.map_append];rfl,⟨hcx 0 (by decide),hcx 1 (by decide),hcx 2 (by decide),hcx 3 (by decide),hcx 4 (by decide)⟩,fun W' hW=>ih i (by omega) _ W' (hx.imp (fun z hA hz=>⟨hA,hW.block z hz⟩) hW.size)⟩)
 have HEND:Hid ((kids.take n).map clF=kids.map clF∧(kids.map clF).length=n):=Lib.hid ⟨by rw [hn,List.take_length],by rw [hn,List.length_map]⟩
 obtain ⟨z,hz⟩:∃ z:Int,z=(k:Int):=⟨_,rfl⟩
 rw [← hz]
 have HZ:=Lib.hid hz
 obtain ⟨V,hV⟩:∃ V,V=((W.alloc (.cells #[.int .u8 z,.slice sp sl.length sc,.slice kp n kc,.int .i64 mn,.int .i64 mx] 48)).alloc (.cells #[.int .u8 0,.slice none 0 0,.slice none 0 0,.int .i64 0,.int .i64 0] 48)).alloc (.cells #[.int .u8 z,.slice none 0 0,.slice kp n kc,.int .i64 mn,.int .i64 mx] 48):=⟨_,rfl⟩
 have hbV:Below W.heap.size W V:=by rw [hV];exact (((Below.refl _ _).alloc (Nat.le_refl _) _).alloc (by rw [World.size_alloc];omega) _).alloc (by rw [World.size_alloc,World.size_alloc];omega) _
 have hVz:V.heap.size=W.heap.size+3:=by rw [hV,World.size_alloc,World.size_alloc,World.size_alloc]
 have hV1:V.heap[W.heap.size]? = some (.cells #[.int .u8 z,.slice sp sl.length sc,.slice kp n kc,.int .i64 mn,.int .i64 mx] 48 (0,0)):=by
  rw [hV]
  refine (((Below.refl _ _).alloc (Nat.le_refl _) _).block W.heap.size (by rw [World.size_alloc,World.size_alloc];omega)).trans ((((Below.refl _ _).alloc (Nat.le_refl _) _).block W.heap.size (by rw [World.size_alloc];omega)).trans (heap_alloc_new W _))
 have hV2:V.heap[W.heap.size+1]? = some (.cells #[.int .u8 0,.slice none 0 0,.slice none 0 0,.int .i64 0,.int .i64 0] 48 (0,0)):=by
  rw [hV]
  have h:=heap_alloc_new (W.alloc (.cells #[.int .u8 z,.slice sp sl.length sc,.slice kp n kc,.int .i64 mn,.int .i64 mx] 48)) (.cells #[.int .u8 0,.slice none 0 0,.slice none 0 0,.int .i64 0,.int .i64 0] 48)
  rw [World.size_alloc] at h
  exact (((Below.refl _ _).alloc (Nat.le_refl _) _).block (W.heap.size+1) (by rw [World.size_alloc,World.size_alloc];omega)).trans h
 have hV3:V.heap[W.heap.size+1+1]? = some (.cells #[.int .u8 z,.slice none 0 0,.slice kp n kc,.int .i64 mn,.int .i64 mx] 48 (0,0)):=by
  rw [hV]
  have h:=heap_alloc_new ((W.alloc (.cells #[.int .u8 z,.slice sp sl.length sc,.slice kp n kc,.int .i64 mn,.int .i64 mx] 48)).alloc (.cells #[.int .u8 0,.slice none 0 0,.slice none 0 0,.int .i64 0,.int .i64 0] 48)) (.cells #[.int .u8 z,.slice none 0 0,.slice kp n kc,.int .i64 mn,.int .i64 mx] 48)
  rw [World.size_alloc,World.size_alloc] at h
  exact h
 have hw1:Wide sl:=wide_set hK (hF.mk.1 hk1).1
 have hl43:=(hF.mk.1 hk1).2 sl hK
 have HCL:=Lib.hid (rclose_n (c:=sc) (hs.step hbV) hl43 hw1)
 have HKC:Hid (∀ r,ClosedK (Tells sl) r↔ClosedK K r):=Lib.hid (closed_congr (hK.tells (hF.mk.1 hk1).1))
 have HB:=Lib.hid hbV
 have HV1:=Lib.hid hV1
 have HV2:=Lib.hid hV2
 have HV3:=Lib.hid hV3
 have HN:=Lib.hid hn
 have HK1:=Lib.hid hk1
 obtain rfl:z=1:=by omega
 clear ih hk hv hF hK hs hn hz hbV hV1 hV2 hV3 hw1 hl43 hk1
 go_enter Tryz.func141,Tryz.ntmps141
 go_wp2_with fail
 rw [← hV]
 clear hV
 refine HCL.out.mono ?_
 rintro e w1 ⟨P,c,o,rfl,i1,n1,s1,z1,a1,b1⟩
 have hb:=(b1.block (W.heap.size+1+1) (by omega)).trans HV3.out
 have h5:B5 w1 (W.heap.size+1+1):=⟨_,_,_,_,_,hb⟩
 obtain ⟨⟨x0,x1,x2,x3,x4,k0,k1,k2,k3,k4⟩,f0,f1,f2,f3,f4⟩:=h5.cells
 obtain ⟨X,hX⟩:∃ X,X=(w1.setCell ⟨W.heap.size+1+1,1,none⟩ (.slice P o.length c)).setCell ⟨W.heap.size+1+1,2,none⟩ (.slice none 0 0):=⟨_,rfl⟩
 have HX3:Hid (X.heap[W.heap.size+1+1]? = some (.cells #[.int .u8 1,.slice P o.length c,.slice none 0 0,.int .i64 mn,.int .i64 mx] 48 (0,0))):=Lib.hid (by rw [hX];exact heap_setC _ _ _ _ (heap_setC _ _ _ _ hb 1 _) 2 _)
 have HGX:Hid (Gr (W.heap.size+1+1) w1 X):=Lib.hid (by rw [hX];exact (Gr.set _ _ _).trans (Gr.set _ _ _))
 have HXZ:Hid (W.heap.size+3≤X.heap.size):=Lib.hid (by have:=HGX.out.size;have:=b1.size;omega)
 have HBX:Hid (Below W.heap.size W X):=Lib.hid (HGX.out.below (HB.out.trans (b1.mono HB.out.size)) (by omega))
 have HN2:Hid (X.cell? ⟨W.heap.size,2,none⟩=some (.slice kp n kc)):=Lib.hid (by rw [cell_of_row X _ 2 _ _ _ ((HGX.out.block W.heap.size (by have:=b1.size;omega) (fun e=>by have:=Option.some.inj e;omega)).trans ((b1.block W.heap.size (by omega)).trans HV1.out))];rfl)
 have HX2:Hid (B5 X (W.heap.size+1)):=Lib.hid ⟨_,_,_,_,_,(HGX.out.block (W.heap.size+1) (by have:=b1.size;omega) (fun e=>by have:=Option.some.inj e;omega)).trans ((b1.block (W.heap.size+1) (by omega)).trans HV2.out)⟩
 obtain ⟨K',hK'⟩:∃ K',K'=ClosedK K:=⟨_,rfl⟩
 have HKS:Hid (K'=if k=1 then ClosedK K else none0):=Lib.hid (by rw [if_pos HK1.out];exact hK')
 have HSET:Hid (IsSet o K'∧o.length≤100000∧Sl X P o∧(P=none→c=0)∧∀ a,P=some a→W.heap.size+3≤a.block):=Lib.hid ⟨by rw [hK'];exact i1.congr HKC.out,n1,s1.gr HGX.out (fun a ha=>by have:=a1 a ha;omega),z1,fun a ha=>by have:=a1 a ha;omega⟩
 clear hb h5 i1 n1 s1 z1 a1 b1 hK' HCL HKC
 go_wp2_with fail
 rw [← hX]
 clear hX k0 k1 k2 k3 k4 f0 f1 f2 f3 f4
 have hi0:Hid (ClI W X X kids 1 P o.length c mn mx 0 (.slice none 0 0)):=Lib.hid ⟨HX3.out,RowN.nil,fun _=>rfl,Gr.refl _ _⟩
 have hXz:=HXZ.out
 go_loopg [4] n (fun g s4 wx=>∃ (i:Nat) (kv:Value),i+g=n∧s4=.int .i64 i∧Hid (ClI W X wx kids 1 P o.length c mn mx i kv))
 case atStart=>exact ⟨0,.slice none 0 0,by omega,rfl,hi0⟩
 case round =>
  obtain ⟨i,kv,hig,rfl,HI⟩:=hrel
  have k2:wr.cell? ⟨W.heap.size,2,none⟩=some (.slice kp n kc):=(HI.out.g.cellAt (g:=W.heap.size) (by omega) (by omega)).trans HN2.out
  have hwz:=HI.out.g.size
  have hBW:Below W.heap.size W wr:=HI.out.g.below HBX.out (by omega)
  have HBW:=Lib.hid hBW
  clear hi0
  cases gk with
  | zero =>
   have hl:¬ ((i:Int) < (n:Int)):=by omega
   obtain rfl:i=n:=by omega
   have hrow:=HI.out.row
   rw [HEND.out.1] at hrow
   have hnv:=node_of_row (k:=k) (K:=K') (mn:=mn) (mx:=mx) hrow (fun h=>HI.out.nil (by rw [← HEND.out.2,h];rfl)) (by rw [HEND.out.2];omega) HSET.out.1 HSET.out.2.1 (HSET.out.2.2.1.gr HI.out.g (fun a ha=>by have:=HSET.out.2.2.2.2 a ha;omega)) HSET.out.2.2.2.1 (fun a ha=>HSET.out.2.2.2.2 a ha) (fun b hb=>by omega)
   rw [HEND.out.2,← HZ.out] at hnv
   obtain ⟨kp1,kc1,rfl,hnv⟩:=hnv
   have hb:=HI.out.v
   have h5a:B5 wr (W.heap.size+1+1):=⟨_,_,_,_,_,hb⟩
   have k30:wr.cell? ⟨W.heap.size+1+1,0,none⟩=some (.int .u8 1):=by rw [cell_of_row wr _ 0 _ _ _ hb];rfl
   have k31:wr.cell? ⟨W.heap.size+1+1,1,none⟩=some (.slice P o.length c):=by rw [cell_of_row wr _ 1 _ _ _ hb];rfl
   have k32:wr.cell? ⟨W.heap.size+1+1,2,none⟩=some (.slice kp1 i kc1):=by rw [cell_of_row wr _ 2 _ _ _ hb];rfl
   have k33:wr.cell? ⟨W.heap.size+1+1,3,none⟩=some (.int .i64 mn):=by rw [cell_of_row wr _ 3 _ _ _ hb];rfl
   have k34:wr.cell? ⟨W.heap.size+1+1,4,none⟩=some (.int .i64 mx):=by rw [cell_of_row wr _ 4 _ _ _ hb];rfl
   have h5:B5 wr (W.heap.size+1):=HX2.out.gr HI.out.g (by omega)
   obtain ⟨⟨x0,x1,x2,x3,x4,k0,k1,k2',k3,k4⟩,f0,f1,f2,f3,f4⟩:=h5.cells
   have H5:=Lib.hid h5
   have HNV:Hid (NV wr (fun b=>W.heap.size+3≤b) (.agg #[.int .u8 1,.slice P o.length c,.slice kp1 i kc1,.int .i64 mn,.int .i64 mx]) (clF (.mk k K kids mn mx))):=Lib.hid (by rw [clF_mk,← HKS.out];exact hnv)
   clear hrow hnv hb h5a h5 hBW
   go_wp2
   exact ret_node rfl rfl H5.out ⟨_,rfl,HNV.out.imp (fun b hA _=>⟨by omega,put5_block _ _ _ _ _ _ _ b (by omega)⟩) (by rw [put5_size];exact Nat.le_refl _),put5_below _ _ _ _ _ HBW.out (by omega)⟩
  | succ gk =>
   have hl:(i:Int) < (n:Int):=by omega
   obtain ⟨g,a,b,c',d,e,x,rfl,hg,hnext,⟨q0,q1,q2,q3,q4⟩,hcall⟩:=HKID.out i (by omega)
   have q0:=(HBW.out.cell (p:=⟨g,i*5,none⟩) hg).trans q0
   have q1:=(HBW.out.cell (p:=⟨g,i*5+1,none⟩) hg).trans q1
   have q2:=(HBW.out.cell (p:=⟨g,i*5+2,none⟩) hg).trans q2
   have q3:=(HBW.out.cell (p:=⟨g,i*5+3,none⟩) hg).trans q3
   have q4:=(HBW.out.cell (p:=⟨g,i*5+4,none⟩) hg).trans q4
   have HNX:=Lib.hid hnext
   have HCALL:=Lib.hid hcall
   have hL:((kids.take i).map clF).length≤1000:=by rw [List.length_map,List.length_take];omega
   have HLL:=Lib.hid hL
   have k32:wr.cell? ⟨W.heap.size+1+1,2,none⟩=some kv:=by rw [cell_of_row wr _ 2 _ _ _ HI.out.v];rfl
   have h0:(0:Int)≤(i:Int):=by omega
   have HC:=Lib.hid (hcall wr.drew hBW.drew)
   clear hcall hBW hnext hL
   go_wp2_with fail
   go_region_law (first
    | (refine step_push (by rfl) _ _ (by rfl) X.heap.size (fun b=>W.heap.size+3≤b) _ _ (by rfl) (HI3.out.step HAL.out).row w3.heap.size (.agg #[.int .u8 kk,.slice sp3 sn3 sc3,.slice kp3 kn3 kc3,.int .i64 mn3,.int .i64 mx3]) _ (by rfl) (HV3'.out.imp (fun b hA hlt=>⟨⟨by have:=HI.out.g.size;have hA':wr.heap.size≤b:=hA;omega,fun e=>by have:=HI.out.row.lt b e;have hA':wr.heap.size≤b:=hA;omega⟩,HAL.out.block b hlt⟩) HAL.out.size) (heap_alloc_new w3 _) HLL.out (by have:=HI3.out.g.size;have:=HAL.out.size;omega) ?_;intro v7 w7 hrow7 hg7;obtain ⟨p7,n7,c7,rfl⟩:=hrow7.form;have HP:=Lib.hid ((HI3.out.step HAL.out).put HXZ.out HNX.out hrow7 hg7);obtain ⟨⟨y0,y1,y2,y3,y4,l0,l1,l2,l3,l4⟩,m0,m1,m2,m3,m4⟩:=HP.out.1.cells;clear hrow7 hg7)
    | (go_simp;go_at_call 141;refine HC.out.mono ?_;rintro e' w3 ⟨v3,rfl,hv3,b3⟩;obtain ⟨kk,sp3,sn3,sc3,kp3,kn3,kc3,mn3,mx3,rfl⟩:=NV.form5 hv3;have HI3:=Lib.hid (HI.out.step ((Below.refl _ _).drew.trans b3));have k33:w3.cell? ⟨W.heap.size+1+1,2,none⟩=some kv:=(by rw [cell_of_row w3 _ 2 _ _ _ HI3.out.v];rfl);have HB3:=Lib.hid b3;have HV3':=Lib.hid hv3;have HAL:=Lib.hid ((Below.refl w3.heap.size w3).alloc (Nat.le_refl _) (.cells #[.int .u8 kk,.slice sp3 sn3 sc3,.slice kp3 kn3 kc3,.int .i64 mn3,.int .i64 mx3] 48));have k35:(w3.alloc (.cells #[.int .u8 kk,.slice sp3 sn3 sc3,.slice kp3 kn3 kc3,.int .i64 mn3,.int .i64 mx3] 48)).cell? ⟨W.heap.size+1+1,2,none⟩=some kv:=(by rw [cell_of_row _ _ 2 _ _ _ (HI3.out.step HAL.out).v];rfl);clear hv3 b3)
    | (go_at_call 141;refine HC.out.mono ?_;rintro e' w3 ⟨v3,rfl,hv3,b3⟩;obtain ⟨kk,sp3,sn3,sc3,kp3,kn3,kc3,mn3,mx3,rfl⟩:=NV.form5 hv3;have HI3:=Lib.hid (HI.out.step ((Below.refl _ _).drew.trans b3));have k33:w3.cell? ⟨W.heap.size+1+1,2,none⟩=some kv:=(by rw [cell_of_row w3 _ 2 _ _ _ HI3.out.v];rfl);have HB3:=Lib.hid b3;have HV3':=Lib.hid hv3;have HAL:=Lib.hid ((Below.refl w3.heap.size w3).alloc (Nat.le_refl _) (.cells #[.int .u8 kk,.slice sp3 sn3 sc3,.slice kp3 kn3 kc3,.int .i64 mn3,.int .i64 mx3] 48));have k35:(w3.alloc (.cells #[.int .u8 kk,.slice sp3 sn3 sc3,.slice kp3 kn3 kc3,.int .i64 mn3,.int .i64 mx3] 48)).cell? ⟨W.heap.size+1+1,2,none⟩=some kv:=(by rw [cell_of_row _ _ 2 _ _ _ (HI3.out.step HAL.out).v];rfl);clear hv3 b3))
   all_goals
    go_wp2
    go_roundg gk
    case measure=>omega
    case rel=>exact ⟨i+1,_,by omega,by go_num,Lib.hid HP.out.2⟩
set_option maxRecDepth 100000 in
set_option maxHeartbeats 4000000 in
theorem closed_other {W : World} {A : Nat → Prop} {v : Value} {k : Nat} {K : Int → Prop} {kids : List Nd} {mn mx : Int} (hv : NV W A v (.mk k K kids mn mx)) (hk1 : k ≠ 1)
  (ih:∀ (i:Nat) (hi:i < kids.length) (x:Value) (W':World),NV W' A x kids[i]→Calls Tryz.prog 141 #[x] W' (ClP W' kids[i])) :
  Calls Tryz.prog 141 #[v] W (ClP W (.mk k K kids mn mx)):=by
 obtain ⟨sp,sl,sc,kp,kc,rfl,hK,hsl,hs,hk⟩:=hv.read
 obtain ⟨n,hn⟩:∃ n,n=kids.length:=⟨_,rfl⟩
 rw [← hn]
 have hn1:n≤1000:=by omega
 have HKID:Hid (∀ i,i < n→∃ g a b c d e x,kp=some ⟨g,0,none⟩∧g < W.heap.size∧(kids.take (i+1)).map clF=(kids.take i).map clF++[clF x]∧(W.cell? ⟨g,i*5,none⟩=some a∧W.cell? ⟨g,i*5+1,none⟩=some b∧W.cell? ⟨g,i*5+2,none⟩=some c∧W.cell? ⟨g,i*5+3,none⟩=some d∧W.cell? ⟨g,i*5+4,none⟩=some e)∧∀ W',Below W.heap.size W W'→Calls Tryz.prog 141 #[.agg #[a,b,c,d,e]] W' (ClP W' x)):=Lib.hid (by
  intro i hi
  have hne:kids≠[]:=by intro e;rw [e] at hn;simp at hn;omega
  obtain ⟨g,e1,hg,hc⟩:=hk hne
  obtain ⟨x,hx,hcx⟩:=hc i (by omega)
  obtain ⟨a,b,c,d,e,rfl⟩:=hx.five
  refine ⟨g,a,b,c,d,e,kids[i],e1,hg,by rw [List.take_succ_eq_append_getElem (by omega),List.map_append];rfl,⟨hcx 0 (by decide),hcx 1 (by decide),hcx 2 (by decide),hcx 3 (by decide),hcx 4 (by decide)⟩,fun W' hW=>ih i (by omega) _ W' (hx.imp (fun z hA hz=>⟨hA,hW.block z hz⟩) hW.size)⟩)
 have HEND:Hid ((kids.take n).map clF=kids.map clF∧(kids.map clF).length=n):=Lib.hid ⟨by rw [hn,List.take_length],by rw [hn,List.length_map]⟩
 obtain ⟨z,hz⟩:∃ z:Int,z=(k:Int):=⟨_,rfl⟩
 rw [← hz]
 have HZ:=Lib.hid hz
 obtain ⟨V,hV⟩:∃ V,V=((W.alloc (.cells #[.int .u8 z,.slice sp sl.length sc,.slice kp n kc,.int .i64 mn,.int .i64 mx] 48)).alloc (.cells #[.int .u8 0,.slice none 0 0,.slice none 0 0,.int .i64 0,.int .i64 0] 48)).alloc (.cells #[.int .u8 z,.slice none 0 0,.slice none 0 0,.int .i64 mn,.int .i64 mx] 48):=⟨_,rfl⟩
 have hbV:Below W.heap.size W V:=by rw [hV];exact (((Below.refl _ _).alloc (Nat.le_refl _) _).alloc (by rw [World.size_alloc];omega) _).alloc (by rw [World.size_alloc,World.size_alloc];omega) _
 have hVz:V.heap.size=W.heap.size+3:=by rw [hV,World.size_alloc,World.size_alloc,World.size_alloc]
 have hV1:V.heap[W.heap.size]? = some (.cells #[.int .u8 z,.slice sp sl.length sc,.slice kp n kc,.int .i64 mn,.int .i64 mx] 48 (0,0)):=by
  rw [hV]
  refine (((Below.refl _ _).alloc (Nat.le_refl _) _).block W.heap.size (by rw [World.size_alloc,World.size_alloc];omega)).trans ((((Below.refl _ _).alloc (Nat.le_refl _) _).block W.heap.size (by rw [World.size_alloc];omega)).trans (heap_alloc_new W _))
 have hV2:V.heap[W.heap.size+1]? = some (.cells #[.int .u8 0,.slice none 0 0,.slice none 0 0,.int .i64 0,.int .i64 0] 48 (0,0)):=by
  rw [hV]
  have h:=heap_alloc_new (W.alloc (.cells #[.int .u8 z,.slice sp sl.length sc,.slice kp n kc,.int .i64 mn,.int .i64 mx] 48)) (.cells #[.int .u8 0,.slice none 0 0,.slice none 0 0,.int .i64 0,.int .i64 0] 48)
  rw [World.size_alloc] at h
  exact (((Below.refl _ _).alloc (Nat.le_refl _) _).block (W.heap.size+1) (by rw [World.size_alloc,World.size_alloc];omega)).trans h
 have hV3:V.heap[W.heap.size+1+1]? = some (.cells #[.int .u8 z,.slice none 0 0,.slice none 0 0,.int .i64 mn,.int .i64 mx] 48 (0,0)):=by
  rw [hV]
  have h:=heap_alloc_new ((W.alloc (.cells #[.int .u8 z,.slice sp sl.length sc,.slice kp n kc,.int .i64 mn,.int .i64 mx] 48)).alloc (.cells #[.int .u8 0,.slice none 0 0,.slice none 0 0,.int .i64 0,.int .i64 0] 48)) (.cells #[.int .u8 z,.slice none 0 0,.slice none 0 0,.int .i64 mn,.int .i64 mx] 48)
  rw [World.size_alloc,World.size_alloc] at h
  exact h
 have HB:=Lib.hid hbV
 have HV1:=Lib.hid hV1
 have HV2:=Lib.hid hV2
 have HV3:=Lib.hid hV3
 have HN:=Lib.hid hn
 have HK1:=Lib.hid hk1
 have h2:(z == 1)=false:=by simp;omega
 clear ih hk hv hK hs hn hz hbV hV1 hV2 hV3 hk1
 go_enter Tryz.func141,Tryz.ntmps141
 go_wp2_with fail
 rw [← hV]
 clear hV
 obtain ⟨X,rfl⟩:∃ X,X=V:=⟨_,rfl⟩
 obtain ⟨P,hP⟩:∃ P:Option Addr,P=none:=⟨_,rfl⟩
 obtain ⟨o,ho⟩:∃ o:List Sp,o=[]:=⟨_,rfl⟩
 obtain ⟨c,hc⟩:∃ c:Nat,c=0:=⟨_,rfl⟩
 have HX3:Hid (X.heap[W.heap.size+1+1]? = some (.cells #[.int .u8 z,.slice P o.length c,.slice none 0 0,.int .i64 mn,.int .i64 mx] 48 (0,0))):=Lib.hid (by rw [hP,ho,hc];exact HV3.out)
 have HXZ:Hid (W.heap.size+3≤X.heap.size):=Lib.hid (by omega)
 have HBX:=HB
 have HN2:Hid (X.cell? ⟨W.heap.size,2,none⟩=some (.slice kp n kc)):=Lib.hid (by rw [cell_of_row X _ 2 _ _ _ HV1.out];rfl)
 have HX2:Hid (B5 X (W.heap.size+1)):=Lib.hid ⟨_,_,_,_,_,HV2.out⟩
 obtain ⟨K',hK'⟩:∃ K':Int→Prop,K'=none0:=⟨_,rfl⟩
 have HKS:Hid (K'=if k=1 then ClosedK K else none0):=Lib.hid (by rw [if_neg HK1.out];exact hK')
 have HSET:Hid (IsSet o K'∧o.length≤100000∧Sl X P o∧(P=none→c=0)∧∀ a,P=some a→W.heap.size+3≤a.block):=Lib.hid (by rw [hK',hP,ho,hc];exact ⟨none_set,by simp,fun h=>absurd rfl h,fun _=>rfl,fun a h=>by cases h⟩)
 clear hP ho hc hK'
 have hi0:Hid (ClI W X X kids z P o.length c mn mx 0 (.slice none 0 0)):=Lib.hid ⟨HX3.out,RowN.nil,fun _=>rfl,Gr.refl _ _⟩
 have hXz:=HXZ.out
 go_loopg [4] n (fun g s4 wx=>∃ (i:Nat) (kv:Value),i+g=n∧s4=.int .i64 i∧Hid (ClI W X wx kids z P o.length c mn mx i kv))
 case atStart=>exact ⟨0,.slice none 0 0,by omega,rfl,hi0⟩
 case round =>
  obtain ⟨i,kv,hig,rfl,HI⟩:=hrel
  have k2:wr.cell? ⟨W.heap.size,2,none⟩=some (.slice kp n kc):=(HI.out.g.cellAt (g:=W.heap.size) (by omega) (by omega)).trans HN2.out
  have hwz:=HI.out.g.size
  have hBW:Below W.heap.size W wr:=HI.out.g.below HBX.out (by omega)
  have HBW:=Lib.hid hBW
  clear hi0
  cases gk with
  | zero =>
   have hl:¬ ((i:Int) < (n:Int)):=by omega
   obtain rfl:i=n:=by omega
   have hrow:=HI.out.row
   rw [HEND.out.1] at hrow
   have hnv:=node_of_row (k:=k) (K:=K') (mn:=mn) (mx:=mx) hrow (fun h=>HI.out.nil (by rw [← HEND.out.2,h];rfl)) (by rw [HEND.out.2];omega) HSET.out.1 HSET.out.2.1 (HSET.out.2.2.1.gr HI.out.g (fun a ha=>by have:=HSET.out.2.2.2.2 a ha;omega)) HSET.out.2.2.2.1 (fun a ha=>HSET.out.2.2.2.2 a ha) (fun b hb=>by omega)
   rw [HEND.out.2,← HZ.out] at hnv
   obtain ⟨kp1,kc1,rfl,hnv⟩:=hnv
   have hb:=HI.out.v
   have h5a:B5 wr (W.heap.size+1+1):=⟨_,_,_,_,_,hb⟩
   have k30:wr.cell? ⟨W.heap.size+1+1,0,none⟩=some (.int .u8 z):=by rw [cell_of_row wr _ 0 _ _ _ hb];rfl
   have k31:wr.cell? ⟨W.heap.size+1+1,1,none⟩=some (.slice P o.length c):=by rw [cell_of_row wr _ 1 _ _ _ hb];rfl
   have k32:wr.cell? ⟨W.heap.size+1+1,2,none⟩=some (.slice kp1 i kc1):=by rw [cell_of_row wr _ 2 _ _ _ hb];rfl
   have k33:wr.cell? ⟨W.heap.size+1+1,3,none⟩=some (.int .i64 mn):=by rw [cell_of_row wr _ 3 _ _ _ hb];rfl
   have k34:wr.cell? ⟨W.heap.size+1+1,4,none⟩=some (.int .i64 mx):=by rw [cell_of_row wr _ 4 _ _ _ hb];rfl
   have h5:B5 wr (W.heap.size+1):=HX2.out.gr HI.out.g (by omega)
   obtain ⟨⟨x0,x1,x2,x3,x4,k0,k1,k2',k3,k4⟩,f0,f1,f2,f3,f4⟩:=h5.cells
   have H5:=Lib.hid h5
   have HNV:Hid (NV wr (fun b=>W.heap.size+3≤b) (.agg #[.int .u8 z,.slice P o.length c,.slice kp1 i kc1,.int .i64 mn,.int .i64 mx]) (clF (.mk k K kids mn mx))):=Lib.hid (by rw [clF_mk,← HKS.out];exact hnv)
   clear hrow hnv hb h5a h5 hBW
   go_wp2
   exact ret_node rfl rfl H5.out ⟨_,rfl,HNV.out.imp (fun b hA _=>⟨by omega,put5_block _ _ _ _ _ _ _ b (by omega)⟩) (by rw [put5_size];exact Nat.le_refl _),put5_below _ _ _ _ _ HBW.out (by omega)⟩
  | succ gk =>
   have hl:(i:Int) < (n:Int):=by omega
   obtain ⟨g,a,b,c',d,e,x,rfl,hg,hnext,⟨q0,q1,q2,q3,q4⟩,hcall⟩:=HKID.out i (by omega)
   have q0:=(HBW.out.cell (p:=⟨g,i*5,none⟩) hg).trans q0
   have q1:=(HBW.out.cell (p:=⟨g,i*5+1,none⟩) hg).trans q1
   have q2:=(HBW.out.cell (p:=⟨g,i*5+2,none⟩) hg).trans q2
   have q3:=(HBW.out.cell (p:=⟨g,i*5+3,none⟩) hg).trans q3
   have q4:=(HBW.out.cell (p:=⟨g,i*5+4,none⟩) hg).trans q4
   have HNX:=Lib.hid hnext
   have HCALL:=Lib.hid hcall
   have hL:((kids.take i).map clF).length≤1000:=by rw [List.length_map,List.length_take];omega
   have HLL:=Lib.hid hL
   have k32:wr.cell? ⟨W.heap.size+1+1,2,none⟩=some kv:=by rw [cell_of_row wr _ 2 _ _ _ HI.out.v];rfl
   have h0:(0:Int)≤(i:Int):=by omega
   have HC:=Lib.hid (hcall wr.drew hBW.drew)
   clear hcall hBW hnext hL
   go_wp2_with fail
   go_region_law (first
    | (refine step_push (by rfl) _ _ (by rfl) X.heap.size (fun b=>W.heap.size+3≤b) _ _ (by rfl) (HI3.out.step HAL.out).row w3.heap.size (.agg #[.int .u8 kk,.slice sp3 sn3 sc3,.slice kp3 kn3 kc3,.int .i64 mn3,.int .i64 mx3]) _ (by rfl) (HV3'.out.imp (fun b hA hlt=>⟨⟨by have:=HI.out.g.size;have hA':wr.heap.size≤b:=hA;omega,fun e=>by have:=HI.out.row.lt b e;have hA':wr.heap.size≤b:=hA;omega⟩,HAL.out.block b hlt⟩) HAL.out.size) (heap_alloc_new w3 _) HLL.out (by have:=HI3.out.g.size;have:=HAL.out.size;omega) ?_;intro v7 w7 hrow7 hg7;obtain ⟨p7,n7,c7,rfl⟩:=hrow7.form;have HP:=Lib.hid ((HI3.out.step HAL.out).put HXZ.out HNX.out hrow7 hg7);obtain ⟨⟨y0,y1,y2,y3,y4,l0,l1,l2,l3,l4⟩,m0,m1,m2,m3,m4⟩:=HP.out.1.cells;clear hrow7 hg7)
    | (go_simp;go_at_call 141;refine HC.out.mono ?_;rintro e' w3 ⟨v3,rfl,hv3,b3⟩;obtain ⟨kk,sp3,sn3,sc3,kp3,kn3,kc3,mn3,mx3,rfl⟩:=NV.form5 hv3;have HI3:=Lib.hid (HI.out.step ((Below.refl _ _).drew.trans b3));have k33:w3.cell? ⟨W.heap.size+1+1,2,none⟩=some kv:=(by rw [cell_of_row w3 _ 2 _ _ _ HI3.out.v];rfl);have HB3:=Lib.hid b3;have HV3':=Lib.hid hv3;have HAL:=Lib.hid ((Below.refl w3.heap.size w3).alloc (Nat.le_refl _) (.cells #[.int .u8 kk,.slice sp3 sn3 sc3,.slice kp3 kn3 kc3,.int .i64 mn3,.int .i64 mx3] 48));have k35:(w3.alloc (.cells #[.int .u8 kk,.slice sp3 sn3 sc3,.slice kp3 kn3 kc3,.int .i64 mn3,.int .i64 mx3] 48)).cell? ⟨W.heap.size+1+1,2,none⟩=some kv:=(by rw [cell_of_row _ _ 2 _ _ _ (HI3.out.step HAL.out).v];rfl);clear hv3 b3)
    | (go_at_call 141;refine HC.out.mono ?_;rintro e' w3 ⟨v3,rfl,hv3,b3⟩;obtain ⟨kk,sp3,sn3,sc3,kp3,kn3,kc3,mn3,mx3,rfl⟩:=NV.form5 hv3;have HI3:=Lib.hid (HI.out.step ((Below.refl _ _).drew.trans b3));have k33:w3.cell? ⟨W.heap.size+1+1,2,none⟩=some kv:=(by rw [cell_of_row w3 _ 2 _ _ _ HI3.out.v];rfl);have HB3:=Lib.hid b3;have HV3':=Lib.hid hv3;have HAL:=Lib.hid ((Below.refl w3.heap.size w3).alloc (Nat.le_refl _) (.cells #[.int .u8 kk,.slice sp3 sn3 sc3,.slice kp3 kn3 kc3,.int .i64 mn3,.int .i64 mx3] 48));have k35:(w3.alloc (.cells #[.int .u8 kk,.slice sp3 sn3 sc3,.slice kp3 kn3 kc3,.int .i64 mn3,.int .i64 mx3] 48)).cell? ⟨W.heap.size+1+1,2,none⟩=some kv:=(by rw [cell_of_row _ _ 2 _ _ _ (HI3.out.step HAL.out).v];rfl);clear hv3 b3))
   all_goals
    go_wp2
    go_roundg gk
    case measure=>omega
    case rel=>exact ⟨i+1,_,by omega,by go_num,Lib.hid HP.out.2⟩
theorem closed_any {A : Nat → Prop} : ∀ (t : Nd) (v : Value) (W : World), NV W A v t → Few t → Calls Tryz.prog 141 #[v] W (ClP W t)
 | .mk k K kids mn mx,v,W,hv,hF=>by
  by_cases hk:k=1
  ·exact closed_chars hv hF hk (fun i hi x W' hx=>closed_any kids[i] x W' hx (hF.mk.2.mem _ (List.getElem_mem hi)))
  ·exact closed_other hv hk (fun i hi x W' hx=>closed_any kids[i] x W' hx (hF.mk.2.mem _ (List.getElem_mem hi)))
termination_by t=>SizeOf.sizeOf t
decreasing_by
 all_goals
  have:=List.sizeOf_lt_of_mem (List.getElem_mem hi)
  simp only [Nd.mk.sizeOf_spec]
  omega
end Go.Proofs.YtioahgklplbinaaGreatDoor
