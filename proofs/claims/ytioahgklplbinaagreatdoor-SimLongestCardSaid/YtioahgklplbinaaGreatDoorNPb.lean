/- NPFk, NPCa, NPOr, NPRp, NPRq, NPLay, in one text. -/
import Derived.Test.YtioahgklplbinaaGreatDoorNPa
import Derived.Test.YtioahgklplbinaaGreatDoorNQ
import Derived.Deep.RegionHeld3
import Derived.Deep.RegionWith
/- The program's builder of machines: fork, chars. -/
namespace Go.Proofs.YtioahgklplbinaaGreatDoor
open Go.RowKit Go.Shelf Go.Maps SetM PropsM RxM WrM NfaM
def LayC (u:Ns):Prop:=∀ (W0 W:World) (Y O:Nat→Prop) (b M:Nat) (m:Mc) (i:Nat) (v:Value),Shp u→PB Y W0 W O b M m→RV W0 v u→i < m.len→Room m (cntS u) →
 Calls Tryz.prog 52 #[.pointer (some ⟨b,0,none⟩),v,.int .i64 i] W fun e W'=>e=.returned (.int .i64 ((laidF u m i).2:Nat))∧PW Y W0 b M W O noL W' (laidF u m i).1
def ForkP (u:Ns):Prop:=∀ (W0 W:World) (Y O:Nat→Prop) (b M:Nat) (m:Mc) (i:Nat) (v:Value),Shp u→PB Y W0 W O b M m→RV W0 v u→i < m.len→Room m (cntS u+1) →
 Calls Tryz.prog 26 #[.pointer (some ⟨b,0,none⟩),v,.int .i64 i] W fun e W'=>e=.returned (.int .i64 ((forkB (laidF u) m i).2:Nat))∧PW Y W0 b M W O noL W' (forkB (laidF u) m i).1
theorem Kb.at {V X X':World} {O:Nat→Prop} {b M:Nat} (h:Kb V O b M X X') {Y:Nat→Prop} {W0 W:World} {m:Mc} (hp:PB Y W0 W O b M m) {k:Nat} (h1:W.heap.size≤k) (h2:k < V.heap.size):X'.heap[k]? = X.heap[k]? :=
 h k h2 (fun hh=>by have:=(hp.o k hh).2.1;omega) (by have:=hp.b0.2.1;omega) (by have:=hp.m0.2;omega)
theorem Kb.trans {V X X' X'':World} {O:Nat→Prop} {b M:Nat} (h:Kb V O b M X X') (k:Kb V O b M X' X''):Kb V O b M X X'':=fun i h1 h2 h3 h4=>(k i h1 h2 h3 h4).trans (h i h1 h2 h3 h4)
theorem Room.ways {m:Mc} {c:Nat} (h:Room m c):m.len≤1000000:=by have:=h.2.2;omega
set_option maxRecDepth 100000 in
set_option maxHeartbeats 8000000 in
theorem fork_p {u:Ns} (hu:LayC u):ForkP u:=by
 intro W0 W Y O b M m i v hsh h hv hi hr
 obtain ⟨kd,sp,sn,sc,kp,kn,kc,mn,mx,rfl⟩:=hv.form5
 obtain ⟨V,hV⟩:∃ V,V=W.alloc (.cells #[.int .u8 kd,.slice sp sn sc,.slice kp kn kc,.int .i64 mn,.int .i64 mx] 48):=⟨_,rfl⟩
 have hb:Below W.heap.size W V:=by rw [hV];exact (Below.refl _ _).alloc (Nat.le_refl _) _
 have hx:V.heap[W.heap.size]? = some (.cells #[.int .u8 kd,.slice sp sn sc,.slice kp kn kc,.int .i64 mn,.int .i64 mx] 48 (0,0)):=by rw [hV];exact heap_alloc_new W _
 have hlt:=(Array.getElem?_eq_some_iff.1 hx).1
 have hpw:PW Y W0 b M V O noL V m:=(h.step hb).pw
 obtain ⟨n,hn⟩:∃ n,n=m.len:=⟨_,rfl⟩
 have HST:=Lib.hid (hpw.use (fun OX hX=>state_b hX hr.ways))
 rw [← hn] at HST
 have HH:=Lib.hid h
 have HV:=Lib.hid hv
 have HR:=Lib.hid hr
 have HI:=Lib.hid hi
 have HB:=Lib.hid hb
 have HX:=Lib.hid hx
 have HLT:=Lib.hid hlt
 have HN:=Lib.hid hn
 have hn8:n≤100000:=by rw [hn];have:=hr.2.2;omega
 have HSH:=Lib.hid hsh
 clear h hv hr hi hb hx hlt hpw hn hsh
 go_enter Tryz.func26,Tryz.ntmps26
 go_upto_region 1 with fail
 rw [← hV]
 clear hV
 go_wp2_with fail
 refine HST.out.mono ?_
 rintro e w1 ⟨rfl,hw1,hk1⟩
 have hl1:(stF m).len=n+1:=by rw [len_st,HN.out]
 have HFR:=Lib.hid (hw1.use (fun OX hX=>free_b (i:=i) (t:=(n:Int)) hX (by rw [hl1];have:=HI.out;have:=HN.out;omega) (by rw [hl1];omega) (by
  have a:=row_le (stF m).fr i
  have b:=frs_st m
  have c:=HR.out.1
  have d:=HR.out.2.2
  unfold frs at b c
  omega)))
 have HK1:=Lib.hid hk1
 clear hw1 hk1 HST
 go_wp2_with fail
 refine HFR.out.mono ?_
 rintro e w2 ⟨rfl,hw2,hk2⟩
 have HK2:=Lib.hid (HK1.out.trans hk2)
 obtain ⟨k0,k1,k2,k3,k4⟩:=cells5 ((HK2.out.at HH.out (Nat.le_refl _) HLT.out).trans HX.out)
 have e:forkB (laidF u) m i=laidF u (frF (stF m) i n) n:=by unfold forkB;rw [HN.out]
 have HLA:=Lib.hid (hw2.use (fun OX hX=>hu W0 _ Y OX b M _ n _ HSH.out hX HV.out (by rw [len_fr,hl1];omega) (by
  have a:=frs_fr (stF m) i n
  have b:=frs_st m
  have c:=eds_fr (stF m) i n
  have d:=eds_st m
  have e:=HR.out
  have f:=HN.out
  unfold Room at e ⊢
  rw [len_fr,hl1]
  omega)))
 rw [← e] at HLA
 clear hw2 hk2 HFR e hl1
 go_wp2_with fail
 refine HLA.out.mono ?_
 rintro e w3 ⟨rfl,hw3,hk3⟩
 have HE:=Lib.hid (hw3.fin HB.out (fun k hk=>hk.elim))
 clear hw3 hk3 HLA k0 k1 k2 k3 k4
 go_wp2
 go_ret
 exact ⟨rfl,HE.out⟩
set_option maxRecDepth 100000 in
set_option maxHeartbeats 8000000 in
theorem chars_p {W0 W : World} {Y O : Nat → Prop} {b M : Nat} {m : Mc} {i sln sc : Nat} {sp : Option Addr} {sl : List Sp} (h : PB Y W0 W O b M m) (hi : i < m.len) (hr : Room m 1) (hsln : sln = sl.length) (hs8 : sln ≤ 100000) (hsl : Sl W0 sp sl) :
  Calls Tryz.prog 78 #[.pointer (some ⟨b,0,none⟩),.slice sp sln sc,.int .i64 i] W fun e W'=>e=.returned (.int .i64 (m.len:Nat))∧PW Y W0 b M W O noL W' (edF (stF m) i m.len sl):=by
 have hpw:PW Y W0 b M W O noL W m:=h.pw
 obtain ⟨n,hn⟩:∃ n,n=m.len:=⟨_,rfl⟩
 have HST:=Lib.hid (hpw.use (fun OX hX=>state_b hX hr.ways))
 rw [← hn] at HST ⊢
 have HR:=Lib.hid hr
 have HI:=Lib.hid hi
 have HN:=Lib.hid hn
 have hn8:n≤100000:=by rw [hn];have:=hr.2.2;omega
 have HSL:=Lib.hid (And.intro hsln (And.intro hs8 hsl))
 clear h hr hi hpw hn hsln hs8 hsl
 go_enter Tryz.func78,Tryz.ntmps78
 go_wp2_with fail
 refine HST.out.mono ?_
 rintro e w1 ⟨rfl,hw1,_⟩
 have hl1:(stF m).len=n+1:=by rw [len_st,HN.out]
 have HFR:=Lib.hid (hw1.use (fun OX hX=>edge_b (i:=i) (t:=(n:Int)) (sc:=sc) hX (by rw [hl1];have:=HI.out;have:=HN.out;omega) (by rw [hl1];omega) (by
  have a:=row_le (stF m).ed i
  have b:=eds_st m
  have c:=HR.out.2.1
  have d:=HR.out.2.2
  unfold eds at b c
  omega) HSL.out.1 HSL.out.2.1 (HSL.out.2.2.step hX.w)))
 clear hw1 HST hl1
 go_wp2_with fail
 refine HFR.out.mono ?_
 rintro e w2 ⟨rfl,hw2,_⟩
 have HE:=Lib.hid hw2
 clear hw2 HFR
 go_wp2
 go_ret
 exact ⟨rfl,HE.out⟩
end Go.Proofs.YtioahgklplbinaaGreatDoor

/- The program's builder of machines: a row. -/
namespace Go.Proofs.YtioahgklplbinaaGreatDoor
open Go.RowKit Go.Shelf Go.Maps SetM PropsM RxM WrM NfaM
theorem PB.map {W0 W X:World} {Y O:Nat→Prop} {b M:Nat} {m:Mc} (h:PB Y W0 W O b M m) (hm:PMo W0 X (fun k=>O k∨Y k∨k=b∨k=M) M) (hg:Gr M W X):PB Y W0 X O b M m:=by
 have hk:∀ k,k < W.heap.size→k≠M→X.heap[k]? = W.heap[k]?:=fun k hk hn=>hg.block k hk (fun e=>hn (by cases e;rfl))
 have hs:=hg.size
 obtain ⟨R,B,m1,m2,m3,m4⟩:=h.mv
 refine ⟨⟨R,B,m1.kept hs (fun k hk1=>?_),(hk b h.b0.2.1 h.b0.2.2).trans m2,m3,fun k hk1=>⟨(m4 k hk1).1,(m4 k hk1).2.of (hk k (m1.bl k hk1) (by have:=h.o k (m4 k hk1).1;omega))⟩⟩,hm,fun k hk1=>?_,fun k hk1=>Nat.lt_of_lt_of_le (h.y k hk1) hs,⟨h.b0.1,by have:=h.b0.2.1;omega,h.b0.2.2⟩,⟨h.m0.1,by have:=h.m0.2;omega⟩,⟨hg.os.trans h.w.os,hg.tape.trans h.w.tape,hg.output.trans h.w.output,Nat.le_trans h.w.size hs,fun k hk1=>?_⟩⟩
 ·have hO : O k := hk1.elim (m3 k) (fun h => (m4 k h).1)
  have:=h.o k hO
  exact hk k (by omega) (by omega)
 ·have := h.o k hk1
  omega
 ·have := h.m0.1
  have:=h.w.size
  exact (hk k (by omega) (by omega)).trans (h.w.block k hk1)
theorem PW.finM {W0 W V X:World} {Y O L:Nat→Prop} {b M:Nat} {m:Mc} (h:PW Y W0 b M V O L X m) (hb:Gr M W V) (hL:∀ k,L k→W.heap.size≤k):PW Y W0 b M W O noL X m:=by
 obtain ⟨OX,h1,h2⟩:=h.st
 have hs:=hb.size
 refine ⟨⟨OX,h1,fun k hk=>?_⟩,h.os.trans hb.os,h.tape.trans hb.tape,h.output.trans hb.output,Nat.le_trans hs h.size,fun k hk hO _ h3 h4=>(h.old k (by omega) hO (fun hl=>by have:=hL k hl;omega) h3 h4).trans (hb.block k hk (fun e=>h4 (by cases e;rfl)))⟩
 rcases h2 k hk with h | h
 ·exact .inl h
 ·right;omega
structure Kd (W0 : World) (g : Nat) (kids : List Ns) : Prop where
 al:Alive W0 g
 row:RowR W0 g kids
 shp:∀ x∈kids,Shp x
 l8:kids.length≤100000
theorem Kd.cell {W0 X:World} {g:Nat} {kids:List Ns} (h:Kd W0 g kids) (hb:Below W0.heap.size W0 X) {r:Nat} (hr:r < kids.length):∃ k sp sn sc kp kn kc mn mx,RV W0 (.agg #[.int .u8 k,.slice sp sn sc,.slice kp kn kc,.int .i64 mn,.int .i64 mx]) kids[r]∧X.cell? ⟨g,r*5,none⟩=some (.int .u8 k)∧X.cell? ⟨g,r*5+1,none⟩=some (.slice sp sn sc)∧X.cell? ⟨g,r*5+2,none⟩=some (.slice kp kn kc)∧X.cell? ⟨g,r*5+3,none⟩=some (.int .i64 mn)∧X.cell? ⟨g,r*5+4,none⟩=some (.int .i64 mx):=by
 obtain ⟨u,hu,hc⟩:=h.row r hr
 obtain ⟨k,sp,sn,sc,kp,kn,kc,mn,mx,rfl⟩:=RV.form5 hu
 obtain ⟨cs,hcs⟩:=h.al
 have hg:=(Array.getElem?_eq_some_iff.1 hcs).1
 exact ⟨k,sp,sn,sc,kp,kn,kc,mn,mx,hu,(hb.cell (p:=⟨g,r*5+0,none⟩) hg).trans (hc 0 (by omega)),(hb.cell (p:=⟨g,r*5+1,none⟩) hg).trans (hc 1 (by omega)),(hb.cell (p:=⟨g,r*5+2,none⟩) hg).trans (hc 2 (by omega)),(hb.cell (p:=⟨g,r*5+3,none⟩) hg).trans (hc 3 (by omega)),(hb.cell (p:=⟨g,r*5+4,none⟩) hg).trans (hc 4 (by omega))⟩
theorem PW.below {W0 V X:World} {Y O L:Nat→Prop} {b M:Nat} {m:Mc} (h:PW Y W0 b M V O L X m):Below W0.heap.size W0 X:=let ⟨_,h1,_⟩:=h.st;h1.w
set_option maxRecDepth 100000 in
set_option maxHeartbeats 8000000 in
theorem cat_p {kids : List Ns} (ih : ∀ x ∈ kids, LayC x) (hne : kids ≠ []) {W0 W : World} {Y O : Nat → Prop} {b M g kn kc : Nat} {m : Mc} {i : Nat} (h : PB Y W0 W O b M m) (hk : Kd W0 g kids) (hkn : kn = kids.length) (hi : i < m.len) (hr : Room m (cntC kids)) :
  Calls Tryz.prog 79 #[.pointer (some ⟨b,0,none⟩),.slice (some ⟨g,0,none⟩) kn kc,.int .i64 i] W fun e W'=>e=.returned (.int .i64 ((NfaM.catF kids m i).2:Nat))∧PW Y W0 b M W O noL W' (NfaM.catF kids m i).1:=by
 have hA:OfA W0 W M g (fun k=>O k∨Y k∨k=b∨k=M) kids:=⟨fun x _=>ln_all x,hk.shp,hne,by have:=hk.l8;omega,hk.al,hk.row,h.w,h.m0.1,fun k hk=>by
  have:=h.b0
  have:=h.m0
  rcases hk with hk | hk | hk | hk
  ·exact (h.o k hk).2.1
  ·exact h.y k hk
  ·omega
  ·omega,.inr (.inr (.inr rfl)),h.mo⟩
 have HOF:=Lib.hid (hA.c hkn kc)
 obtain ⟨R,B,hR,hbox,hO,hBO⟩:=h.mv
 obtain ⟨⟨c0,c1,c2,c3⟩,_⟩:=cells4 hbox
 obtain ⟨pn,hpn⟩:∃ pn,pn=(plF kids 0).length:=⟨_,rfl⟩
 obtain ⟨q,hq⟩:∃ q,q=cutP (cntC kids):=⟨_,rfl⟩
 unfold OfP at HOF
 rw [← hpn,← hq] at HOF
 have hpk:=pl_kept kids 0
 have HPK:=Lib.hid hpk
 have HPN:=Lib.hid hpn
 have hpn8:pn≤100000:=by rw [hpn];have:=pl_le kids 0;have:=hk.l8;omega
 have HH:=Lib.hid h
 have HK:=Lib.hid hk
 have HKN:=Lib.hid hkn
 have HI:=Lib.hid hi
 have HR:=Lib.hid hr
 have HIH:=Lib.hid ih
 have HSTP:=Lib.hid (fun r=>cat_stp ((keptF kids).take r) m i hi)
 have hkn8:kn≤100000:=by rw [hkn];exact hk.l8
 have hf:=need_parts
 clear h hk hkn hi hr ih hR hbox hO hBO hpk hpn hq hA hne
 go_enter Tryz.func79,Tryz.ntmps79
 go_wp2_with fail
 refine HOF.out.mono ?_
 rintro e w1 ⟨P,c,rfl,hpl,hm1,hg1⟩
 have hpb:=HH.out.map hm1 hg1
 have hpw:PW Y W0 b M w1 O noL w1 m:=hpb.pw
 have HPW:=Lib.hid hpw
 have HPL:=Lib.hid hpl
 have HG1:=Lib.hid hg1
 clear hpb hpw hpl hm1 hg1 HOF c0 c1 c2 c3
 go_wp2_with fail
 go_loopg [2,17] pn (fun gk s2 s17 wx=>∃ r:Nat,r+gk=pn∧s17=.int .i64 r∧s2=.int .i64 ((NfaM.catF ((keptF kids).take r) m i).2:Nat)∧Hid (PW Y W0 b M w1 O noL wx (NfaM.catF ((keptF kids).take r) m i).1))
 case atStart=>exact ⟨0,by omega,rfl,by rw [List.take_zero,NfaM.catF],by rw [List.take_zero,NfaM.catF];exact HPW⟩
 case round =>
  obtain ⟨r,hrg,rfl,rfl,HL⟩:=hrel
  cases gk with
  | zero =>
   obtain rfl:r=pn:=by omega
   have hlt:¬ (r:Int) < (r:Int):=by omega
   have HTK:Hid (NfaM.catF ((keptF kids).take r) m i=NfaM.catF kids m i):=Lib.hid (by rw [List.take_of_length_le (by have:=HPN.out;have:=HPK.out.1;omega),cat_kept])
   have HE:=Lib.hid (HL.out.finM HG1.out (fun k hk=>hk.elim))
   rw [HTK.out] at HE ⊢
   go_wp2
   go_ret
   exact ⟨rfl,HE.out⟩
  | succ gk =>
   have hlt:(r:Int) < (pn:Int):=by omega
   have hrp:r < (plF kids 0).length:=by have:=HPN.out;omega
   have h0:(0:Int)≤(r:Int):=by omega
   have hwr:wrap64 ((r:Int)+1)=((r+1:Nat):Int):=by rw [IntWalk.wrap64_in _ (by omega)];omega
   obtain ⟨k,rfl,hk1,hk2,hk3⟩:=HPL.out (fun e=>by rw [e] at hrp;cases hrp)
   have hc:=hk3 r hrp
   obtain ⟨j,hj1,hj2⟩:=HPK.out.2 r hrp
   rw [hj1,Nat.zero_add] at hc
   have hcx:=(World.cell?_of_block (a:=⟨k,r,none⟩) (HL.out.old k hk1 (fun h=>hk2 (.inl h)) (fun h=>h) (fun h=>hk2 (.inr (.inr (.inl h)))) (fun h=>hk2 (.inr (.inr (.inr h)))))).trans hc
   have hrk:r < (keptF kids).length:=by have:=HPK.out.1;omega
   rw [List.getElem?_eq_getElem hrk] at hj2
   have hjk:j < kids.length:=(List.getElem?_eq_some_iff.1 hj2).1
   have hje:kids[j]=(keptF kids)[r]:=(List.getElem?_eq_some_iff.1 hj2).2
   have hjn:(j:Int) < (kn:Int):=by have:=HKN.out;omega
   have hj0:(0:Int)≤(j:Int):=by omega
   obtain ⟨kd,sp,sn,sc,kp,kn2,kc2,mn,mx,hv,b0,b1,b2,b3,b4⟩:=HK.out.cell HL.out.below hjk
   have hmem:=List.getElem_mem hjk
   have HLA:=Lib.hid (HL.out.use (fun OX hX=>HIH.out kids[j] hmem W0 _ Y OX b M _ _ _ (HK.out.shp _ hmem) hX hv (HSTP.out r).lt (HR.out.stp (HSTP.out r) (by
    have:=cnt_take (keptF kids) r hrk
    rw [cntc_kept] at this
    rw [hje]
    exact this))))
   have HSN:Hid (laidF kids[j] (NfaM.catF ((keptF kids).take r) m i).1 (NfaM.catF ((keptF kids).take r) m i).2=NfaM.catF ((keptF kids).take (r+1)) m i):=Lib.hid (by rw [List.take_succ_eq_append_getElem hrk,cat_snoc,hje])
   rw [HSN.out] at HLA
   clear hc hk1 hk2 hk3 hv HSN hj1 hj2 hje hmem
   go_wp2_with fail
   refine HLA.out.mono ?_
   rintro ee w4 ⟨rfl,hw4,_⟩
   have HL4:=Lib.hid hw4
   clear hw4 HLA b0 b1 b2 b3 b4 hcx
   go_wp2
   go_roundg gk
   case measure=>omega
   case rel=>exact ⟨r+1,by omega,by first | rw [hwr] | rfl | simp,rfl,HL4⟩
end Go.Proofs.YtioahgklplbinaaGreatDoor

/- The program's builder of machines: one of some. -/
namespace Go.Proofs.YtioahgklplbinaaGreatDoor
open Go.RowKit Go.Shelf Go.Maps SetM PropsM RxM WrM NfaM
theorem PW.nest {W0 V X:World} {Y O L:Nat→Prop} {b M:Nat} {m:Mc} (h:PW Y W0 b M V O L X m):∃ OX,PB Y W0 X OX b M m∧∀ X' m',PW Y W0 b M X OX noL X' m'→PW Y W0 b M V O L X' m':=by
 obtain ⟨OX,h1,h2⟩:=h.st
 have hs:=h.size
 refine ⟨OX,h1,fun X' m' hk=>?_⟩
 obtain ⟨O',h3,h4⟩:=hk.st
 have hz:=hk.size
 refine ⟨⟨O',h3,fun k hk5=>?_⟩,hk.os.trans h.os,hk.tape.trans h.tape,hk.output.trans h.output,by omega,fun k hk1 hO hL hb hM=>(hk.old k (by omega) (fun hh=>(h2 k hh).elim hO (fun h=>by omega)) (fun h=>h) hb hM).trans (h.old k hk1 hO hL hb hM)⟩
 rcases h4 k hk5 with h | h
 ·exact h2 k h
 ·right;omega
theorem PB.boxes {W0 W V:World} {Y O:Nat→Prop} {b M:Nat} {m:Mc} (h:PB Y W0 W O b M m) (hb:Below W.heap.size W V):PB (fun k=>Y k∨(W.heap.size≤k∧k < V.heap.size)) W0 V O b M m:=by
 have h2:=h.step hb
 have hs:=hb.size
 refine ⟨h2.mv,h.mo.kept (hb.block M h.m0.2) hs (fun k hk hn=>⟨fun hh=>?_,hb.block k hk⟩),h2.o,fun k hk=>?_,h2.b0,h2.m0,h2.w⟩
 ·rcases hh with hh | (hh | hh) | hh
  ·exact hn (.inl hh)
  ·exact hn (.inr (.inl hh))
  ·omega
  ·exact hn (.inr (.inr hh))
 ·rcases hk with hk | hk
  ·have:=h.y k hk;omega
  ·exact hk.2
theorem PW.less {W0 V X:World} {Y Y' O L:Nat→Prop} {b M:Nat} {m:Mc} (h:PW Y' W0 b M V O L X m) (hY:∀ k,Y k→Y' k):PW Y W0 b M V O L X m:=by
 obtain ⟨OX,h1,h2⟩:=h.st
 exact ⟨⟨OX,⟨h1.mv,h1.mo.imp (fun k _ hk=>hk.imp id (fun hk=>hk.imp (hY k) id)),h1.o,fun k hk=>h1.y k (hY k hk),h1.b0,h1.m0,h1.w⟩,h2⟩,h.os,h.tape,h.output,h.size,h.old⟩
set_option maxRecDepth 100000 in
set_option maxHeartbeats 8000000 in
theorem or_p {kids : List Ns} (ih : ∀ x ∈ kids, LayC x) {W0 W : World} {Y O : Nat → Prop} {b M g kn kc : Nat} {m : Mc} {i : Nat} (h : PB Y W0 W O b M m) (hk : Kd W0 g kids) (hkn : kn = kids.length) (hi : i < m.len) (hr : Room m (cntO kids + 1)) :
  Calls Tryz.prog 80 #[.pointer (some ⟨b,0,none⟩),.slice (some ⟨g,0,none⟩) kn kc,.int .i64 i] W fun e W'=>e=.returned (.int .i64 (m.len:Nat))∧PW Y W0 b M W O noL W' (orF kids (stF m) i m.len):=by
 have hpw:PW Y W0 b M W O noL W m:=h.pw
 obtain ⟨n,hn⟩:∃ n,n=m.len:=⟨_,rfl⟩
 have HST:=Lib.hid (hpw.use (fun OX hX=>state_b hX hr.ways))
 rw [← hn] at HST ⊢
 have HH:=Lib.hid h
 have HK:=Lib.hid hk
 have HKN:=Lib.hid hkn
 have HN:=Lib.hid hn
 have HIH:=Lib.hid ih
 have hn8:n≤100000:=by rw [hn];have:=hr.2.2;omega
 have hkn8:kn≤100000:=by rw [hkn];exact hk.l8
 obtain ⟨m1,hm1⟩:∃ m1,m1=stF m:=⟨_,rfl⟩
 have HM1:Hid (m1.len=n+1∧i < m1.len∧Room m1 (cntO kids)):=Lib.hid (by
  have a:=frs_st m
  have c:=eds_st m
  have d:=len_st m
  rw [← hm1] at a c d
  unfold Room at hr ⊢
  omega)
 rw [← hm1] at HST ⊢
 have HSTP:=Lib.hid (fun r=>or_stp (kids.take r) m1 i n (by have:=HM1.out;omega))
 clear h hk hkn hi hr hpw hn hm1 ih
 go_enter Tryz.func80,Tryz.ntmps80
 go_wp2_with fail
 refine HST.out.mono ?_
 rintro e w1 ⟨rfl,hw1,_⟩
 have HW1:=Lib.hid hw1
 clear hw1 HST
 go_wp2_with fail
 go_loopg [16] kn (fun gk s16 wx=>∃ r:Nat,r+gk=kn∧s16=.int .i64 r∧Hid (PW Y W0 b M W O noL wx (orF (kids.take r) m1 i n)))
 case atStart=>exact ⟨0,by omega,rfl,by rw [List.take_zero,orF];exact HW1⟩
 case round =>
  obtain ⟨r,hrg,rfl,HL⟩:=hrel
  cases gk with
  | zero =>
   obtain rfl:r=kn:=by omega
   have hlt:¬ (r:Int) < (r:Int):=by omega
   have HTK:Hid (orF (kids.take r) m1 i n=orF kids m1 i n):=Lib.hid (by rw [List.take_of_length_le (by have:=HKN.out;omega)])
   rw [HTK.out] at HL
   go_wp2
   go_ret
   exact ⟨rfl,HL.out⟩
  | succ gk =>
   have hlt:(r:Int) < (kn:Int):=by omega
   have hrl:r < kids.length:=by have:=HKN.out;omega
   have h0:(0:Int)≤(r:Int):=by omega
   have hwr:wrap64 ((r:Int)+1)=((r+1:Nat):Int):=by rw [IntWalk.wrap64_in _ (by omega)];omega
   obtain ⟨kd,sp,sn,sc,kp,kn2,kc2,mn,mx,hv,b0,b1,b2,b3,b4⟩:=HK.out.cell HL.out.below hrl
   have hmem:=List.getElem_mem hrl
   have HRR:Hid (Room (orF (kids.take r) m1 i n) (cntS kids[r]+1)∧i < (orF (kids.take r) m1 i n).len):=Lib.hid (by
    have a:=HSTP.out r
    have b:=cnto_take kids r hrl
    have c:=HM1.out
    unfold Room at c ⊢
    omega)
   have HSN:Hid (orF (kids.take (r+1)) m1 i n=frF (forkB (laidF kids[r]) (orF (kids.take r) m1 i n) i).1 (forkB (laidF kids[r]) (orF (kids.take r) m1 i n) i).2 n):=Lib.hid (by rw [List.take_succ_eq_append_getElem hrl,or_snoc])
   obtain ⟨mr,hmr⟩:∃ mr,mr=orF (kids.take r) m1 i n:=⟨_,rfl⟩
   rw [← hmr] at HSN HRR HL
   have HSF:=Lib.hid (fork_stp (laid_stp kids[r]) mr i)
   have HRF:Hid (Room (forkB (laidF kids[r]) mr i).1 0):=Lib.hid (HRR.out.1.stp HSF.out.to (by omega))
   obtain ⟨OX,hX,hback⟩:=HL.out.nest
   obtain ⟨Z,hZ⟩:∃ Z,Z=wr.alloc (.cells #[.int .u8 kd,.slice sp sn sc,.slice kp kn2 kc2,.int .i64 mn,.int .i64 mx] 48):=⟨_,rfl⟩
   have hbZ:Below wr.heap.size wr Z:=by rw [hZ];exact (Below.refl _ _).alloc (Nat.le_refl _) _
   have hxZ:Z.heap[wr.heap.size]? = some (.cells #[.int .u8 kd,.slice sp sn sc,.slice kp kn2 kc2,.int .i64 mn,.int .i64 mx] 48 (0,0)):=by rw [hZ];exact heap_alloc_new wr _
   have hlz:=(Array.getElem?_eq_some_iff.1 hxZ).1
   have hpz:PW Y W0 b M Z OX noL Z mr:=(hX.step hbZ).pw
   have hpd:PW Y W0 b M Z OX noL Z.drew mr:=hpz.step ((Below.refl _ _).drew)
   have HFK:=Lib.hid (hpd.use (fun OZ hO=>fork_p (HIH.out kids[r] hmem) W0 _ Y OZ b M mr i _ (HK.out.shp _ hmem) hO hv HRR.out.2 HRR.out.1))
   generalize forkB (laidF kids[r]) mr i=fk at HFK HSF HRF HSN
   have HFR:Hid (∀ U,PW Y W0 b M Z OX noL U fk.1→Calls Tryz.prog 51 #[.pointer (some ⟨b,0,none⟩),.int .i64 fk.2,.int .i64 n] U fun e X'=>e=.returned (.tuple #[])∧PW Y W0 b M Z OX noL X' (frF fk.1 fk.2 n)∧Kb Z OX b M U X'):=Lib.hid (fun U hU=>hU.use (fun OZ hO=>free_b (i:=fk.2) (t:=(n:Int)) hO HSF.out.lt (by have:=HRF.out.2.2;omega) (HRF.out.row _)))
   have HBK:=Lib.hid (fun X' m' (hp:PW Y W0 b M Z OX noL X' m')=>hback X' m' (hp.fin hbZ (fun k hk=>hk.elim)))
   have HXB:=Lib.hid hX
   have HCE:=Lib.hid (fun (U:World) (hU:Kb Z OX b M Z U)=>cells5 ((hU.at HXB.out (Nat.le_refl _) hlz).trans hxZ))
   clear hv hmem hmr hX hback hbZ hxZ hlz hpz hpd
   go_upto_region 5 with fail
   rw [← hZ]
   clear hZ b0 b1 b2 b3 b4
   have hr:Kb Z OX b M Z Z.drew:=fun _ _ _ _ _=>rfl
   go_region_held3 (fun U => U.cell? ⟨wr.heap.size, 0, none⟩ = some (.int .u8 kd) ∧ U.cell? ⟨wr.heap.size, 1, none⟩ = some (.slice sp sn sc) ∧ U.cell? ⟨wr.heap.size, 2, none⟩ = some (.slice kp kn2 kc2) ∧ U.cell? ⟨wr.heap.size, 3, none⟩ = some (.int .i64 mn) ∧ U.cell? ⟨wr.heap.size, 4, none⟩ = some (.int .i64 mx))
    (exact HCE.out _ hr)
    (first
     | (go_at_call 26;(refine HFK.out.mono ?_);rintro e w4 ⟨rfl,hw4,hk4⟩;have hr:=hr.trans hk4;have HC3:=Lib.hid (HFR.out w4 hw4);clear hw4)
     | (go_at_call 51;(refine HC3.out.mono ?_);rintro e w5 ⟨rfl,hw5,hk5⟩;have hr:=hr.trans hk5;have HW5:=Lib.hid (HBK.out w5 _ hw5);clear hw5))
   all_goals
    rw [← HSN.out] at HW5
    clear hr hk4 hk5 HC3 HFK
    go_wp2
    go_roundg gk
    case measure=>omega
    case rel=>exact ⟨r+1,by omega,by first | rw [hwr] | rfl | simp,HW5⟩
end Go.Proofs.YtioahgklplbinaaGreatDoor

/- The program's builder of machines: a repetition. -/
namespace Go.Proofs.YtioahgklplbinaaGreatDoor
open Go.RowKit Go.Shelf Go.Maps SetM PropsM RxM WrM NfaM
structure RpW (Y : Nat → Prop) (W0 : World) (b M : Nat) (W V : World) (O : Nat → Prop) (nd : Array Value) (X : World) (m : Mc) (i : Nat) : Prop where
 pw:PW Y W0 b M V O (fun k=>k=W.heap.size+1+1) X m
 b3:X.heap[W.heap.size]? = some (.cells #[.pointer (some ⟨b,0,none⟩)] 99 (0,0))
 b4:X.heap[W.heap.size+1]? = some (.cells nd 48 (0,0))
 b5:X.heap[W.heap.size+1+1]? = some (.cells #[.int .i64 i] 3 (0,0))
structure RpA (Y : Nat → Prop) (W0 : World) (b M : Nat) (W V : World) (O : Nat → Prop) : Prop where
 o:∀ k,O k→k < W.heap.size
 b:b < W.heap.size
 m:M < W.heap.size
 w:W0.heap.size≤W.heap.size
 z:V.heap.size=W.heap.size+3
 y:Y (W.heap.size+1+1)
theorem RpW.call {Y O:Nat→Prop} {W0 W V X X':World} {b M i:Nat} {nd:Array Value} {m m':Mc} (h:RpW Y W0 b M W V O nd X m i) (hA:RpA Y W0 b M W V O) (hp:PW Y W0 b M V O (fun k=>k=W.heap.size+1+1) X' m') (hk:Kb V O b M X X'):RpW Y W0 b M W V O nd X' m' i:=by
 have a:=hA.b
 have c:=hA.m
 have d:=hA.z
 have key:∀ k,W.heap.size≤k→k < W.heap.size+3→X'.heap[k]? = X.heap[k]?:=fun k h1 h2=>hk k (by omega) (fun hh=>by have:=hA.o k hh;omega) (by omega) (by omega)
 exact ⟨hp,(key _ (by omega) (by omega)).trans h.b3,(key _ (by omega) (by omega)).trans h.b4,(key _ (by omega) (by omega)).trans h.b5⟩
theorem RpW.put {Y O:Nat→Prop} {W0 W V X:World} {b M i:Nat} {nd:Array Value} {m:Mc} (h:RpW Y W0 b M W V O nd X m i) (hA:RpA Y W0 b M W V O) (j:Nat):RpW Y W0 b M W V O nd (X.setCell ⟨W.heap.size+1+1,0,none⟩ (.int .i64 j)) m j:=by
 have a:=hA.b
 have c:=hA.m
 have d:=hA.z
 have e:=hA.w
 have ho:∀ k,k≠W.heap.size+1+1→(X.setCell ⟨W.heap.size+1+1,0,none⟩ (.int .i64 j)).heap[k]? = X.heap[k]?:=fun k hk=>heap_setCell_other X ⟨W.heap.size+1+1,0,none⟩ k _ hk
 refine ⟨h.pw.box (a:=W.heap.size+1+1) rfl (by omega) (fun hh=>by have:=hA.o _ hh;omega) (by omega) (by omega) (by omega) trivial rfl rfl rfl (World.size_setCell ..) ho (fun OX hX=>hX.mo.kept (ho M (by omega)) (by rw [World.size_setCell];exact Nat.le_refl _) (fun k _ hn=>⟨hn,ho k (fun e=>hn (.inr (.inl (e ▸ hA.y))))⟩)),(ho _ (by omega)).trans h.b3,(ho _ (by omega)).trans h.b4,heap_setC X _ _ _ h.b5 0 _⟩
theorem RpW.drew {Y O:Nat→Prop} {W0 W V X:World} {b M i:Nat} {nd:Array Value} {m:Mc} (h:RpW Y W0 b M W V O nd X m i):RpW Y W0 b M W V O nd X.drew m i:=⟨h.pw.step ((Below.refl _ _).drew),h.b3,h.b4,h.b5⟩
theorem cells1 {W:World} {b:Nat} {x:Value} {t:TypeId} (h:W.heap[b]? = some (.cells #[x] t (0,0))):W.cell? ⟨b,0,none⟩=some x∧W.frozen? ⟨b,0,none⟩=false:=⟨cell_of_row W _ 0 _ _ _ h,frozen_of_row W _ 0 _ _ h⟩
set_option maxRecDepth 100000 in
set_option maxHeartbeats 8000000 in
theorem once_c {x : Ns} (hx : ForkP x) (hsh : Shp x) {Y O : Nat → Prop} {W0 W V X : World} {b M i g kc sln sc : Nat} {sp : Option Addr} {mn mx : Int} {m : Mc} (h : RpW Y W0 b M W V O #[.int .u8 4, .slice sp sln sc, .slice (some ⟨g, 0, none⟩) 1 kc, .int .i64 mn, .int .i64 mx] X m i) (hA : RpA Y W0 b M W V O) (hk : Kd W0 g [x]) (hi : i < m.len) (hr : Room m (cntS x + 1)) :
  Calls Tryz.prog 97 #[.pointer (some ⟨W.heap.size,0,none⟩),.pointer (some ⟨W.heap.size+1,0,none⟩),.pointer (some ⟨W.heap.size+1+1,0,none⟩)] X fun e X'=>e=.returned (.tuple #[])∧RpW Y W0 b M W V O #[.int .u8 4,.slice sp sln sc,.slice (some ⟨g,0,none⟩) 1 kc,.int .i64 mn,.int .i64 mx] X' (forkB (laidF x) m i).1 (forkB (laidF x) m i).2:=by
 obtain ⟨kd,sp2,sn2,sc2,kp2,kn2,kc2,mn2,mx2,hv,b0,b1,b2,b3,b4⟩:=hk.cell h.pw.below (r:=0) (by simp)
 have hv:RV W0 (.agg #[.int .u8 kd,.slice sp2 sn2 sc2,.slice kp2 kn2 kc2,.int .i64 mn2,.int .i64 mx2]) x:=hv
 have HFK:=Lib.hid (h.drew.pw.use (fun OX hX=>hx W0 _ Y OX b M m i _ hsh hX hv hi hr))
 generalize forkB (laidF x) m i=fk at HFK ⊢
 have HH:=Lib.hid h
 have HA:=Lib.hid hA
 obtain ⟨c3,_⟩:=cells1 h.b3
 obtain ⟨d0,d1,d2,d3,d4⟩:=cells5 h.b4
 obtain ⟨c5,f5⟩:=cells1 h.b5
 simp only [Nat.zero_mul,Nat.zero_add] at b0 b1 b2 b3 b4
 clear h hA hk hi hr hx hv hsh
 go_enter Tryz.func97,Tryz.ntmps97
 go_region_with (first
  | (go_at_call 26;refine HFK.out.mono ?_;rintro ee w4 ⟨rfl,hw4,hk4⟩;have HR4:=Lib.hid (HH.out.drew.call HA.out hw4 hk4);obtain ⟨y5,g5⟩:=cells1 HR4.out.b5;clear hw4 hk4))
 all_goals
  have HE:=Lib.hid (HR4.out.put HA.out fk.2)
  clear b0 b1 b2 b3 b4 c3 c5 f5 d0 d1 d2 d3 d4 y5 g5 HFK
  go_wp2
  go_returns
  exact ⟨rfl,HE.out⟩
end Go.Proofs.YtioahgklplbinaaGreatDoor

/- The program's builder of machines: a repetition, whole. -/
namespace Go.Proofs.YtioahgklplbinaaGreatDoor
open Go.RowKit Go.Shelf Go.Maps SetM PropsM RxM WrM NfaM
theorem mulr {c r n:Nat} (h:r < n):c*r+c≤c*n:=by
 have:=Nat.mul_le_mul_left c (show r+1≤n from h)
 rw [Nat.mul_succ] at this
 exact this
theorem way_stp {m:Mc} {i:Nat} (hi:i < m.len):Stp m (frF (stF m) i m.len,m.len) 1:=by
 have a:=frs_fr (stF m) i m.len
 have b:=frs_st m
 have c:=eds_st m
 have d:=len_st m
 refine ⟨d,?_,?_,?_⟩
 ·show _ < (stF _).len;omega
 ·show _≤_+2*(stF m).len;rw [d];simp only;omega
 ·show eds (stF _)+_≤_+(stF m).len;rw [d,c];omega
set_option maxRecDepth 100000 in
set_option maxHeartbeats 16000000 in
theorem rep_p {x : Ns} (hx : LayC x) {W0 W : World} {Y O : Nat → Prop} {b M : Nat} {m : Mc} {i : Nat} {v : Value} {sl : List Sp} {mn mx : Int} (h : PB Y W0 W O b M m) (hv : RV W0 v (.mk 4 sl [x] mn mx)) (hsh : Shp (.mk 4 sl [x] mn mx)) (hi : i < m.len) (hr : Room m (timesN (cntS x) mn mx)) :
  Calls Tryz.prog 81 #[.pointer (some ⟨b,0,none⟩),v,.int .i64 i] W fun e W'=>e=.returned (.int .i64 ((againB (laidF x) mn mx m i).2:Nat))∧PW Y W0 b M W O noL W' (againB (laidF x) mn mx m i).1:=by
 obtain ⟨hS,hL⟩:=(shp_mk _ _ _ _ _).1 hsh
 have hmm:(0≤mn∧mn≤20)∧(mx = -1∨(mn≤mx∧mx≤20)):=by unfold Shape at hS;simp at hS;omega
 have hshx:Shp x:=(shpL_iff _).1 hL x (by simp)
 obtain ⟨sp,sc,kp,kc,rfl,hl,_,_,hk⟩:=hv.read
 obtain ⟨g,rfl,⟨cs,hcs⟩,hrow⟩:=hk (by simp)
 have hkd:Kd W0 g [x]:=⟨⟨cs,hcs⟩,hrow,(shpL_iff _).1 hL,by simp⟩
 obtain ⟨sln,hsln⟩:∃ k,k=List.length sl:=⟨_,rfl⟩
 rw [← hsln]
 have e1:List.length [x]=1:=rfl
 have e4:((4:Nat):Int)=4:=rfl
 rw [e1,e4]
 obtain ⟨V,hV⟩:∃ V,V=((W.alloc (.cells #[.pointer (some ⟨b,0,none⟩)] 99)).alloc (.cells #[.int .u8 4,.slice sp sln sc,.slice (some ⟨g,0,none⟩) 1 kc,.int .i64 mn,.int .i64 mx] 48)).alloc (.cells #[.int .i64 i] 3):=⟨_,rfl⟩
 have z1:=World.size_alloc W (.cells #[.pointer (some ⟨b,0,none⟩)] 99)
 have z2:=World.size_alloc (W.alloc (.cells #[.pointer (some ⟨b,0,none⟩)] 99)) (.cells #[.int .u8 4,.slice sp sln sc,.slice (some ⟨g,0,none⟩) 1 kc,.int .i64 mn,.int .i64 mx] 48)
 have z3:V.heap.size=W.heap.size+3:=by rw [hV,World.size_alloc,z2,z1]
 have hb:Below W.heap.size W V:=by rw [hV];exact (((Below.refl _ _).alloc (Nat.le_refl _) _).alloc (by rw [z1];omega) _).alloc (by rw [z2,z1];omega) _
 have x0:V.heap[W.heap.size]? = some (.cells #[.pointer (some ⟨b,0,none⟩)] 99 (0,0)):=by
  rw [hV,Lib.alloc_old _ _ _ (by rw [z2,z1];omega),Lib.alloc_old _ _ _ (by rw [z1];omega)]
  exact heap_alloc_new W _
 have x1:V.heap[W.heap.size+1]? = some (.cells #[.int .u8 4,.slice sp sln sc,.slice (some ⟨g,0,none⟩) 1 kc,.int .i64 mn,.int .i64 mx] 48 (0,0)):=by
  rw [hV,Lib.alloc_old _ _ _ (by rw [z2,z1];omega),← z1]
  exact heap_alloc_new _ _
 have x2:V.heap[W.heap.size+1+1]? = some (.cells #[.int .i64 i] 3 (0,0)):=by
  rw [hV,show W.heap.size+1+1=((W.alloc (.cells #[.pointer (some ⟨b,0,none⟩)] 99)).alloc (.cells #[.int .u8 4,.slice sp sln sc,.slice (some ⟨g,0,none⟩) 1 kc,.int .i64 mn,.int .i64 mx] 48)).heap.size from by rw [z2,z1]]
  exact heap_alloc_new _ _
 obtain ⟨Y',hY'⟩:∃ Y':Nat→Prop,Y'=fun k=>Y k∨(W.heap.size≤k∧k < V.heap.size):=⟨_,rfl⟩
 have hA:RpA Y' W0 b M W V O:=⟨fun k hk=>(h.o k hk).2.1,h.b0.2.1,h.m0.2,h.w.size,z3,by rw [hY'];exact .inr (by omega)⟩
 obtain ⟨nd,hnd⟩:∃ nd:Array Value,nd = #[.int .u8 4,.slice sp sln sc,.slice (some ⟨g,0,none⟩) 1 kc,.int .i64 mn,.int .i64 mx]:=⟨_,rfl⟩
 have h0:RpW Y' W0 b M W V O nd V m i:=⟨by have:=(h.boxes hb);rw [← hY'] at this;exact this.pw,x0,by rw [hnd];exact x1,x2⟩
 have HON:Hid (∀ (X:World) (m':Mc) (j:Nat),RpW Y' W0 b M W V O nd X m' j→j < m'.len→Room m' (cntS x+1)→Calls Tryz.prog 97 #[.pointer (some ⟨W.heap.size,0,none⟩),.pointer (some ⟨W.heap.size+1,0,none⟩),.pointer (some ⟨W.heap.size+1+1,0,none⟩)] X fun e X'=>e=.returned (.tuple #[])∧RpW Y' W0 b M W V O nd X' (forkB (laidF x) m' j).1 (forkB (laidF x) m' j).2):=Lib.hid (fun X m' j hR hj hrm=>by
  subst hnd
  exact once_c (fork_p hx) hshx hR hA hkd hj hrm)
 have HST:Hid (∀ (X:World) (m':Mc) (j:Nat),RpW Y' W0 b M W V O nd X m' j→m'.len≤1000000→Calls Tryz.prog 25 #[.pointer (some ⟨b,0,none⟩)] X fun e X'=>e=.returned (.int .i64 m'.len)∧RpW Y' W0 b M W V O nd X' (stF m') j):=Lib.hid (fun X m' j hR hl=>(hR.pw.use (fun OX hX=>state_b hX hl)).mono (fun e X' ⟨h1,h2,h3⟩=>⟨h1,hR.call hA h2 h3⟩))
 have HFR:Hid (∀ (X:World) (m':Mc) (j k:Nat) (t:Int),RpW Y' W0 b M W V O nd X m' j→k < m'.len→Room m' 0→Calls Tryz.prog 51 #[.pointer (some ⟨b,0,none⟩),.int .i64 k,.int .i64 t] X fun e X'=>e=.returned (.tuple #[])∧RpW Y' W0 b M W V O nd X' (frF m' k t) j):=Lib.hid (fun X m' j k t hR hk hl=>(hR.pw.use (fun OX hX=>free_b (i:=k) (t:=t) hX hk hl.ways (hl.row _))).mono (fun e X' ⟨h1,h2,h3⟩=>⟨h1,hR.call hA h2 h3⟩))
 have HFIN:Hid (∀ (X:World) (m':Mc) (j:Nat),RpW Y' W0 b M W V O nd X m' j→PW Y W0 b M W O noL X m'):=Lib.hid (fun X m' j hR=>(hR.pw.fin hb (fun k hk=>by omega)).less (fun k hk=>by rw [hY'];exact .inl hk))
 have HND:=Lib.hid (fun (X:World) (m':Mc) (j:Nat) (hR:RpW Y' W0 b M W V O nd X m' j)=>(⟨(cells1 hR.b3).1,cells5 (by have:=hR.b4;rw [hnd] at this;exact this),cells1 hR.b5⟩:X.cell? ⟨W.heap.size,0,none⟩=some (.pointer (some ⟨b,0,none⟩))∧(X.cell? ⟨W.heap.size+1,0,none⟩=some (.int .u8 4)∧X.cell? ⟨W.heap.size+1,1,none⟩=some (.slice sp sln sc)∧X.cell? ⟨W.heap.size+1,2,none⟩=some (.slice (some ⟨g,0,none⟩) 1 kc)∧X.cell? ⟨W.heap.size+1,3,none⟩=some (.int .i64 mn)∧X.cell? ⟨W.heap.size+1,4,none⟩=some (.int .i64 mx))∧X.cell? ⟨W.heap.size+1+1,0,none⟩=some (.int .i64 j)∧X.frozen? ⟨W.heap.size+1+1,0,none⟩=false))
 have HPUT:=Lib.hid (fun (X:World) (m':Mc) (j k:Nat) (hR:RpW Y' W0 b M W V O nd X m' j)=>hR.put hA k)
 obtain ⟨c1,hc1⟩:∃ c1,c1=cntS x+1:=⟨_,rfl⟩
 rw [← hc1] at HON
 obtain ⟨mnN,hmnN⟩:∃ n:Nat,mn=(n:Int):=⟨mn.toNat,by omega⟩
 obtain ⟨q,hq⟩:∃ q:Nat,q=if mx < 0 then 1 else (mx - mn).toNat:=⟨_,rfl⟩
 have hrT:Room m (c1*mnN+c1*q+1):=by
  have e:timesN (cntS x) mn mx=c1*mnN+c1*q+1:=by
   unfold timesN
   rw [hq,hc1,← Nat.mul_add,hmnN]
   rfl
  rw [← e];exact hr
 have hgd:NfaM.Good (laidF x) (cntS x):=laid_stp x
 have HT1:=Lib.hid (fun r=>times_stp hgd r (m,i) hi)
 rw [← hc1] at HT1
 have HFS:=Lib.hid (fun (m':Mc) (j:Nat)=>fork_stp hgd m' j)
 rw [← hc1] at HFS
 have HMB:=Lib.hid (fun (e r:Nat) (p:Mc×Nat) (hp:p.2 < p.1.len)=>maybe_stp hgd e r p hp)
 rw [← hc1] at HMB
 have HRT:=Lib.hid hrT
 have HMN:=Lib.hid hmnN
 have HMM:=Lib.hid hmm
 have hmn20:mnN≤20:=by omega
 have H0:=Lib.hid h0
 have HQ:=Lib.hid hq
 obtain ⟨a3,⟨a40,a41,a42,a43,a44⟩,a5,f5⟩:=HND.out V m i h0
 have HGA:Hid (∀ (p:Mc×Nat),p=timesB (laidF x) mnN (m,i)→againB (laidF x) mn mx m i=(if mx < 0 then (frF (forkB (laidF x) (frF (stF p.1) p.2 p.1.len) p.1.len).1 (forkB (laidF x) (frF (stF p.1) p.2 p.1.len) p.1.len).2 p.1.len,p.1.len) else ((maybeB (laidF x) p.1.len (mx - mn).toNat (frF (stF p.1) p.2 p.1.len,p.2)).1,p.1.len))):=Lib.hid (fun p hp=>by
  unfold againB
  rw [hp,hmnN]
  rfl)
 rw [hmnN] at a43
 clear h hv hsh hi hr hS hL hmm hshx hl hk hcs hrow hkd hsln e1 e4 z1 z2 z3 hb x0 x1 x2 hY' hA h0 hnd hc1 hq hrT hgd hmnN
 go_enter Tryz.func81,Tryz.ntmps81
 go_upto_region 1 with fail
 rw [← hV]
 clear hV
 go_wp2_with fail
 go_loopg [12] mnN (fun gk s12 wx=>∃ r:Nat,r+gk=mnN∧s12=.int .i64 r∧Hid (RpW Y' W0 b M W V O nd wx (timesB (laidF x) r (m,i)).1 (timesB (laidF x) r (m,i)).2))
 case atStart=>exact ⟨0,by omega,rfl,H0⟩
 case round =>
  obtain ⟨r,hrg,rfl,HL⟩:=hrel
  clear a3 a40 a41 a42 a43 a44 a5 f5
  cases gk with
  | zero =>
   obtain rfl:r=mnN:=by omega
   have hlt:¬ (r:Int) < (r:Int):=by omega
   have hT:=HT1.out r
   obtain ⟨p,hp⟩:∃ p,p=timesB (laidF x) r (m,i):=⟨_,rfl⟩
   rw [← hp] at HL hT
   have HRP:Hid (Room p.1 (c1*q+1)):=Lib.hid (HRT.out.stp hT (by omega))
   have HPL:=Lib.hid hT.lt
   obtain ⟨en,hen⟩:∃ en,en=p.1.len:=⟨_,rfl⟩
   have HS:=Lib.hid (HST.out _ _ _ HL.out HRP.out.ways)
   have hG:=HGA.out p hp
   have hW:=way_stp hT.lt
   rw [← hen] at HS hG hW
   have hen8:en≤100000:=by rw [hen];have:=HRP.out.2.2;omega
   have HF0:Hid (p.2 < (stF p.1).len∧Room (stF p.1) 0):=Lib.hid (by
    have a:=len_st p.1
    have b:=frs_st p.1
    have c:=eds_st p.1
    have d:=HRP.out
    have e:=HPL.out
    unfold Room at d ⊢
    omega)
   obtain ⟨m1,hm1⟩:∃ m1,m1=frF (stF p.1) p.2 en:=⟨_,rfl⟩
   have HM1:Hid (m1.len=en+1∧Room m1 (c1*q)):=Lib.hid (by
    rw [← hm1] at hW
    have:=hW.len
    exact ⟨by dsimp only at this;omega,HRP.out.stp hW (by omega)⟩)
   rw [← hm1] at hG
   have HG:=Lib.hid hG
   have HMI:=Lib.hid hm1
   have HEN:=Lib.hid hen
   clear hT hp hen hG hW hm1 H0
   obtain ⟨a3,⟨a40,a41,a42,a43,a44⟩,a5,f5⟩:=HND.out _ _ _ HL.out
   go_wp2_with fail
   refine HS.out.mono ?_
   rintro ee w2 ⟨rfl,h2⟩
   have HF:=Lib.hid (HFR.out _ _ _ p.2 (en:Int) h2.drew HF0.out.1 HF0.out.2)
   rw [← HMI.out] at HF
   clear a3 a40 a41 a42 a43 a44 a5 f5 HS
   have HC2:Hid (w2.drew.cell? ⟨W.heap.size,0,none⟩=some (.pointer (some ⟨b,0,none⟩))∧w2.drew.cell? ⟨W.heap.size+1+1,0,none⟩=some (.int .i64 p.2)):=Lib.hid (by
    obtain ⟨a3,_,a5,_⟩:=HND.out _ _ _ h2.drew
    exact ⟨a3,a5⟩)
   clear h2
   go_upto_region 7 with fail
   go_region_held3 (fun U => U.cell? ⟨W.heap.size, 0, none⟩ = some (.pointer (some ⟨b, 0, none⟩)) ∧ U.cell? ⟨W.heap.size + 1 + 1, 0, none⟩ = some (.int .i64 p.2))
    (first | exact HC2.out | exact ⟨(HND.out w3 _ _ H3.out).1,(HND.out w3 _ _ H3.out).2.2.1⟩)
    (first
     | (go_at_call 51;(refine HF.out.mono ?_);rintro ee w3 ⟨rfl,h3⟩;have H3:=Lib.hid h3;clear h3))
   clear HC2 HF
   obtain ⟨a3,⟨a40,a41,a42,a43,a44⟩,a5,f5⟩:=HND.out _ _ _ H3.out
   by_cases h1:mx = -1
   ·subst h1
    have HQ1:Hid (q=1):=Lib.hid (by rw [HQ.out,if_pos (by decide)])
    have H4:=Lib.hid (HPUT.out _ _ _ en H3.out)
    have HO:=Lib.hid (HON.out _ _ _ H4.out (by have:=HM1.out.1;omega) (by have:=HM1.out.2;rw [HQ1.out,Nat.mul_one] at this;exact this))
    have HFK:=Lib.hid (HFS.out m1 en)
    rw [if_pos (by decide)] at HG
    generalize forkB (laidF x) m1 en=fk at HO HG HFK
    have HFR2:Hid (∀ U,RpW Y' W0 b M W V O nd U fk.1 fk.2→Calls Tryz.prog 51 #[.pointer (some ⟨b,0,none⟩),.int .i64 fk.2,.int .i64 en] U fun e X'=>e=.returned (.tuple #[])∧RpW Y' W0 b M W V O nd X' (frF fk.1 fk.2 en) fk.2):=Lib.hid (fun U hU=>HFR.out U _ _ fk.2 (en:Int) hU HFK.out.lt (HM1.out.2.stp HFK.out.to (by rw [HQ1.out];omega)))
    go_wp2_with fail
    refine HO.out.mono ?_
    rintro ee w5 ⟨rfl,h5⟩
    clear a3 a40 a41 a42 a43 a44 a5 f5 HO
    have HC5:Hid (w5.drew.cell? ⟨W.heap.size,0,none⟩=some (.pointer (some ⟨b,0,none⟩))∧w5.drew.cell? ⟨W.heap.size+1+1,0,none⟩=some (.int .i64 fk.2)):=Lib.hid (by
     obtain ⟨a3,_,a5,_⟩:=HND.out _ _ _ h5.drew
     exact ⟨a3,a5⟩)
    have HF5:=Lib.hid (HFR2.out _ h5.drew)
    clear h5
    go_upto_region 11 with fail
    go_region_held3 (fun U => U.cell? ⟨W.heap.size, 0, none⟩ = some (.pointer (some ⟨b, 0, none⟩)) ∧ U.cell? ⟨W.heap.size + 1 + 1, 0, none⟩ = some (.int .i64 fk.2))
     (first | exact HC5.out | exact ⟨(HND.out w6 _ _ H6r.out).1,(HND.out w6 _ _ H6r.out).2.2.1⟩)
     (first
      | (go_at_call 51;(refine HF5.out.mono ?_);rintro ee w6 ⟨rfl,h6⟩;have H6r:=Lib.hid h6;have H6:=Lib.hid (HFIN.out _ _ _ h6);clear h6))
    clear HC5 HF5
    go_wp2
    go_ret
    rw [HG.out]
    exact ⟨rfl,H6.out⟩
   ·have h1' : (mx == -1) = false := by rw [beq_eq_false_iff_ne]; exact h1
    have hmx0:¬ mx < 0:=by have:=HMM.out;omega
    have hmq:mx - mn=(q:Int):=by have:=HQ.out;rw [if_neg hmx0] at this;have:=HMM.out;omega
    have HQT:Hid ((mx - mn).toNat=q):=Lib.hid (by have:=HQ.out;rw [if_neg hmx0] at this;exact this.symm)
    have hsub:wrap64 (mx - mn)=(q:Int):=by rw [hmq];exact IntWalk.wrap64_in _ (by have:=HMM.out;omega)
    have hq20:q≤20:=by have:=HMM.out;omega
    rw [if_neg hmx0,HQT.out] at HG
    have HMR:Hid (p.2 < m1.len):=Lib.hid (by have:=HM1.out.1;have:=HPL.out;have:=HEN.out;omega)
    have HMS:=Lib.hid (fun r2=>HMB.out en r2 (m1,p.2) HMR.out)
    clear hmx0 hmq
    go_wp2_with fail
    go_loopg [45] q (fun gk s45 wx=>∃ r2:Nat,r2+gk=q∧s45=.int .i64 r2∧Hid (RpW Y' W0 b M W V O nd wx (maybeB (laidF x) en r2 (m1,p.2)).1 (maybeB (laidF x) en r2 (m1,p.2)).2))
    case atStart=>exact ⟨0,by omega,rfl,H3⟩
    case round =>
     obtain ⟨r2,hrg2,rfl,HL2⟩:=hrel
     clear a3 a40 a41 a42 a43 a44 a5 f5
     cases gk with
     | zero =>
      obtain rfl:r2=q:=by omega
      have hlt2:¬ (r2:Int) < (r2:Int):=by omega
      have H6:=Lib.hid (HFIN.out _ _ _ HL2.out)
      go_wp2
      go_ret
      rw [HG.out]
      exact ⟨rfl,H6.out⟩
     | succ gk =>
      have hlt2:(r2:Int) < (q:Int):=by omega
      have hwr:wrap64 ((r2:Int)+1)=((r2+1:Nat):Int):=by rw [IntWalk.wrap64_in _ (by omega)];omega
      have HRR:Hid (Room (maybeB (laidF x) en r2 (m1,p.2)).1 c1):=Lib.hid (HM1.out.2.stp (HMS.out r2) (by have:=mulr (c:=c1) (show r2 < q by omega);omega))
      have HO:=Lib.hid (HON.out _ _ _ HL2.out (HMS.out r2).lt HRR.out)
      have HSN:Hid (maybeB (laidF x) en (r2+1) (m1,p.2)=(frF (forkB (laidF x) (maybeB (laidF x) en r2 (m1,p.2)).1 (maybeB (laidF x) en r2 (m1,p.2)).2).1 (forkB (laidF x) (maybeB (laidF x) en r2 (m1,p.2)).1 (maybeB (laidF x) en r2 (m1,p.2)).2).2 en,(forkB (laidF x) (maybeB (laidF x) en r2 (m1,p.2)).1 (maybeB (laidF x) en r2 (m1,p.2)).2).2)):=Lib.hid (maybe_succ _ _ _ _)
      have HFK:=Lib.hid (HFS.out (maybeB (laidF x) en r2 (m1,p.2)).1 (maybeB (laidF x) en r2 (m1,p.2)).2)
      have HRK:Hid (Room (forkB (laidF x) (maybeB (laidF x) en r2 (m1,p.2)).1 (maybeB (laidF x) en r2 (m1,p.2)).2).1 0):=Lib.hid (HRR.out.stp HFK.out.to (by omega))
      generalize forkB (laidF x) (maybeB (laidF x) en r2 (m1,p.2)).1 (maybeB (laidF x) en r2 (m1,p.2)).2=fk at HO HSN HFK HRK
      have HFR2:Hid (∀ U,RpW Y' W0 b M W V O nd U fk.1 fk.2→Calls Tryz.prog 51 #[.pointer (some ⟨b,0,none⟩),.int .i64 fk.2,.int .i64 en] U fun e X'=>e=.returned (.tuple #[])∧RpW Y' W0 b M W V O nd X' (frF fk.1 fk.2 en) fk.2):=Lib.hid (fun U hU=>HFR.out U _ _ fk.2 (en:Int) hU HFK.out.lt HRK.out)
      go_wp2_with fail
      refine HO.out.mono ?_
      rintro ee w5 ⟨rfl,h5⟩
      have HC5:Hid (w5.drew.cell? ⟨W.heap.size,0,none⟩=some (.pointer (some ⟨b,0,none⟩))∧w5.drew.cell? ⟨W.heap.size+1+1,0,none⟩=some (.int .i64 fk.2)):=Lib.hid (by
       obtain ⟨a3,_,a5,_⟩:=HND.out _ _ _ h5.drew
       exact ⟨a3,a5⟩)
      have HF5:=Lib.hid (HFR2.out _ h5.drew)
      clear h5 HO
      go_upto_region 16 with fail
      go_region_held3 (fun U => U.cell? ⟨W.heap.size, 0, none⟩ = some (.pointer (some ⟨b, 0, none⟩)) ∧ U.cell? ⟨W.heap.size + 1 + 1, 0, none⟩ = some (.int .i64 fk.2))
       (first | exact HC5.out | exact ⟨(HND.out w6 _ _ H6r.out).1,(HND.out w6 _ _ H6r.out).2.2.1⟩)
       (first
        | (go_at_call 51;(refine HF5.out.mono ?_);rintro ee w6 ⟨rfl,h6⟩;have H6r:=Lib.hid h6;have H6:=Lib.hid h6;clear h6))
      clear HC5 HF5
      go_wp2
      go_roundg gk
      case measure=>omega
      case rel=>exact ⟨r2+1,by omega,by first | rw [hwr] | rfl | simp,by rw [HSN.out];exact H6⟩
  | succ gk =>
   have hlt:(r:Int) < (mnN:Int):=by omega
   have hwr:wrap64 ((r:Int)+1)=((r+1:Nat):Int):=by rw [IntWalk.wrap64_in _ (by omega)];omega
   have HRR:Hid (Room (timesB (laidF x) r (m,i)).1 c1):=Lib.hid (HRT.out.stp (HT1.out r) (by have:=mulr (c:=c1) (show r < mnN by omega);omega))
   have HCA:=Lib.hid (HON.out _ _ _ HL.out (HT1.out r).lt HRR.out)
   have HSN:Hid (timesB (laidF x) (r+1) (m,i)=forkB (laidF x) (timesB (laidF x) r (m,i)).1 (timesB (laidF x) r (m,i)).2):=Lib.hid (times_succ _ _ _)
   rw [← HSN.out] at HCA
   go_wp2_with fail
   refine HCA.out.mono ?_
   rintro ee w4 ⟨rfl,h4⟩
   have HL4:=Lib.hid h4
   clear h4 HCA
   go_wp2
   go_roundg gk
   case measure=>omega
   case rel=>exact ⟨r+1,by omega,by first | rw [hwr] | rfl | simp,HL4⟩
end Go.Proofs.YtioahgklplbinaaGreatDoor

/- The program's builder of machines: lay, at any sound tree. -/
namespace Go.Proofs.YtioahgklplbinaaGreatDoor
open Go.RowKit Go.Shelf Go.Maps SetM PropsM RxM WrM NfaM
set_option maxRecDepth 100000 in
set_option maxHeartbeats 4000000 in
theorem lay_0 {sl:List Sp} {kids:List Ns} {mn mx:Int} (ih:∀ x∈kids,LayC x):LayC (.mk 0 sl kids mn mx):=by
 intro W0 W Y O b M m i v hsh h hv hi hr
 obtain ⟨hS,hL⟩:=(shp_mk _ _ _ _ _).1 hsh
 have hv0:=hv
 obtain ⟨sp,sc,kp,kc,rfl,⟨hl1,hl2⟩,hsl,_,hk⟩:=hv.read
 obtain ⟨sln,hsln⟩:∃ k,k=List.length sl:=⟨_,rfl⟩
 rw [← hsln] at hv0 ⊢
 obtain ⟨kn,hkn⟩:∃ k,k=List.length kids:=⟨_,rfl⟩
 rw [← hkn] at hv0 ⊢
 rw [← hkn] at hS
 obtain ⟨kz,hkz⟩:∃ z:Int,z=((0:Nat):Int):=⟨_,rfl⟩
 rw [← hkz] at hv0 ⊢
 obtain ⟨V,hV⟩:∃ V,V=W.alloc (.cells #[.int .u8 kz,.slice sp sln sc,.slice kp kn kc,.int .i64 mn,.int .i64 mx] 48):=⟨_,rfl⟩
 have hb0:Below W.heap.size W V:=by rw [hV];exact (Below.refl _ _).alloc (Nat.le_refl _) _
 have hx:V.heap[W.heap.size]? = some (.cells #[.int .u8 kz,.slice sp sln sc,.slice kp kn kc,.int .i64 mn,.int .i64 mx] 48 (0,0)):=by rw [hV];exact heap_alloc_new W _
 obtain ⟨e0,e1,e2,e3,e4⟩:=cells5 hx
 have hpw:PW Y W0 b M V O noL V m:=(h.step hb0).pw
 have HB0:=Lib.hid hb0
 obtain rfl:kz=0:=by rw [hkz];rfl
 have HLF:Hid (laidF (.mk 0 sl kids mn mx) m i=(m,i)):=Lib.hid (by rw [laidF];rfl)
 have HE:=Lib.hid (hpw.fin hb0 (fun k hk=>hk.elim))
 clear hv hv0 hk hb0 hx hsln hkn hkz hl1 hl2 hS hL hsh hpw h hi hr ih hsl
 go_enter Tryz.func52,Tryz.ntmps52
 go_upto_region 1 with fail
 rw [← hV]
 clear hV
 go_wp2
 go_ret
 rw [HLF.out]
 exact ⟨rfl,HE.out⟩
set_option maxRecDepth 100000 in
set_option maxHeartbeats 4000000 in
theorem lay_1 {sl:List Sp} {kids:List Ns} {mn mx:Int} (ih:∀ x∈kids,LayC x):LayC (.mk 1 sl kids mn mx):=by
 intro W0 W Y O b M m i v hsh h hv hi hr
 obtain ⟨hS,hL⟩:=(shp_mk _ _ _ _ _).1 hsh
 have hv0:=hv
 obtain ⟨sp,sc,kp,kc,rfl,⟨hl1,hl2⟩,hsl,_,hk⟩:=hv.read
 obtain ⟨sln,hsln⟩:∃ k,k=List.length sl:=⟨_,rfl⟩
 rw [← hsln] at hv0 ⊢
 obtain ⟨kn,hkn⟩:∃ k,k=List.length kids:=⟨_,rfl⟩
 rw [← hkn] at hv0 ⊢
 rw [← hkn] at hS
 obtain ⟨kz,hkz⟩:∃ z:Int,z=((1:Nat):Int):=⟨_,rfl⟩
 rw [← hkz] at hv0 ⊢
 obtain ⟨V,hV⟩:∃ V,V=W.alloc (.cells #[.int .u8 kz,.slice sp sln sc,.slice kp kn kc,.int .i64 mn,.int .i64 mx] 48):=⟨_,rfl⟩
 have hb0:Below W.heap.size W V:=by rw [hV];exact (Below.refl _ _).alloc (Nat.le_refl _) _
 have hx:V.heap[W.heap.size]? = some (.cells #[.int .u8 kz,.slice sp sln sc,.slice kp kn kc,.int .i64 mn,.int .i64 mx] 48 (0,0)):=by rw [hV];exact heap_alloc_new W _
 obtain ⟨e0,e1,e2,e3,e4⟩:=cells5 hx
 have hpw:PW Y W0 b M V O noL V m:=(h.step hb0).pw
 have HB0:=Lib.hid hb0
 obtain rfl:kz=1:=by rw [hkz];rfl
 have HLF:Hid (laidF (.mk 1 sl kids mn mx) m i=(edF (stF m) i m.len sl,m.len)):=Lib.hid (by rw [laidF];rfl)
 have HC:=Lib.hid (hpw.use (fun OX hX=>chars_p (sc:=sc) hX hi (by rw [cntS] at hr;exact hr) hsln (by omega) hsl))
 clear hv hv0 hk hb0 hx hsln hkn hkz hl1 hl2 hS hL hsh hpw h hi hr ih hsl
 go_enter Tryz.func52,Tryz.ntmps52
 go_upto_region 1 with fail
 rw [← hV]
 clear hV
 go_wp2_with fail
 refine HC.out.mono ?_
 rintro e w1 ⟨rfl,hw1,_⟩
 have HE:=Lib.hid (hw1.fin HB0.out (fun k hk=>hk.elim))
 clear hw1 HC
 go_wp2
 go_ret
 rw [HLF.out]
 exact ⟨rfl,HE.out⟩
set_option maxRecDepth 100000 in
set_option maxHeartbeats 4000000 in
theorem lay_2 {sl:List Sp} {kids:List Ns} {mn mx:Int} (ih:∀ x∈kids,LayC x):LayC (.mk 2 sl kids mn mx):=by
 intro W0 W Y O b M m i v hsh h hv hi hr
 obtain ⟨hS,hL⟩:=(shp_mk _ _ _ _ _).1 hsh
 have hv0:=hv
 obtain ⟨sp,sc,kp,kc,rfl,⟨hl1,hl2⟩,hsl,_,hk⟩:=hv.read
 obtain ⟨sln,hsln⟩:∃ k,k=List.length sl:=⟨_,rfl⟩
 rw [← hsln] at hv0 ⊢
 obtain ⟨kn,hkn⟩:∃ k,k=List.length kids:=⟨_,rfl⟩
 rw [← hkn] at hv0 ⊢
 rw [← hkn] at hS
 obtain ⟨kz,hkz⟩:∃ z:Int,z=((2:Nat):Int):=⟨_,rfl⟩
 rw [← hkz] at hv0 ⊢
 obtain ⟨V,hV⟩:∃ V,V=W.alloc (.cells #[.int .u8 kz,.slice sp sln sc,.slice kp kn kc,.int .i64 mn,.int .i64 mx] 48):=⟨_,rfl⟩
 have hb0:Below W.heap.size W V:=by rw [hV];exact (Below.refl _ _).alloc (Nat.le_refl _) _
 have hx:V.heap[W.heap.size]? = some (.cells #[.int .u8 kz,.slice sp sln sc,.slice kp kn kc,.int .i64 mn,.int .i64 mx] 48 (0,0)):=by rw [hV];exact heap_alloc_new W _
 obtain ⟨e0,e1,e2,e3,e4⟩:=cells5 hx
 have hpw:PW Y W0 b M V O noL V m:=(h.step hb0).pw
 have HB0:=Lib.hid hb0
 obtain rfl:kz=2:=by rw [hkz];rfl
 have hkne:kids≠[]:=fun e=>by rw [e] at hkn;unfold Shape at hS;rw [hkn] at hS;simp at hS
 obtain ⟨g,rfl,⟨cs,hcs⟩,hrow⟩:=hk hkne
 have hkd:Kd W0 g kids:=⟨⟨cs,hcs⟩,hrow,(shpL_iff _).1 hL,by omega⟩
 have HLF:Hid (laidF (.mk 2 sl kids mn mx) m i=NfaM.catF kids m i):=Lib.hid (by rw [laidF];rfl)
 have HC:=Lib.hid (hpw.use (fun OX hX=>cat_p (kc:=kc) ih hkne hX hkd hkn hi (by rw [cntS] at hr;exact hr)))
 clear hv hv0 hk hb0 hx hsln hkn hkz hl1 hl2 hS hL hsh hpw h hi hr ih hsl hcs hrow hkd hkne
 go_enter Tryz.func52,Tryz.ntmps52
 go_upto_region 1 with fail
 rw [← hV]
 clear hV
 go_wp2_with fail
 refine HC.out.mono ?_
 rintro e w1 ⟨rfl,hw1,_⟩
 have HE:=Lib.hid (hw1.fin HB0.out (fun k hk=>hk.elim))
 clear hw1 HC
 go_wp2
 go_ret
 rw [HLF.out]
 exact ⟨rfl,HE.out⟩
set_option maxRecDepth 100000 in
set_option maxHeartbeats 4000000 in
theorem lay_3 {sl:List Sp} {kids:List Ns} {mn mx:Int} (ih:∀ x∈kids,LayC x):LayC (.mk 3 sl kids mn mx):=by
 intro W0 W Y O b M m i v hsh h hv hi hr
 obtain ⟨hS,hL⟩:=(shp_mk _ _ _ _ _).1 hsh
 have hv0:=hv
 obtain ⟨sp,sc,kp,kc,rfl,⟨hl1,hl2⟩,hsl,_,hk⟩:=hv.read
 obtain ⟨sln,hsln⟩:∃ k,k=List.length sl:=⟨_,rfl⟩
 rw [← hsln] at hv0 ⊢
 obtain ⟨kn,hkn⟩:∃ k,k=List.length kids:=⟨_,rfl⟩
 rw [← hkn] at hv0 ⊢
 rw [← hkn] at hS
 obtain ⟨kz,hkz⟩:∃ z:Int,z=((3:Nat):Int):=⟨_,rfl⟩
 rw [← hkz] at hv0 ⊢
 obtain ⟨V,hV⟩:∃ V,V=W.alloc (.cells #[.int .u8 kz,.slice sp sln sc,.slice kp kn kc,.int .i64 mn,.int .i64 mx] 48):=⟨_,rfl⟩
 have hb0:Below W.heap.size W V:=by rw [hV];exact (Below.refl _ _).alloc (Nat.le_refl _) _
 have hx:V.heap[W.heap.size]? = some (.cells #[.int .u8 kz,.slice sp sln sc,.slice kp kn kc,.int .i64 mn,.int .i64 mx] 48 (0,0)):=by rw [hV];exact heap_alloc_new W _
 obtain ⟨e0,e1,e2,e3,e4⟩:=cells5 hx
 have hpw:PW Y W0 b M V O noL V m:=(h.step hb0).pw
 have HB0:=Lib.hid hb0
 obtain rfl:kz=3:=by rw [hkz];rfl
 have hkne:kids≠[]:=fun e=>by rw [e] at hkn;unfold Shape at hS;rw [hkn] at hS;simp at hS
 obtain ⟨g,rfl,⟨cs,hcs⟩,hrow⟩:=hk hkne
 have hkd:Kd W0 g kids:=⟨⟨cs,hcs⟩,hrow,(shpL_iff _).1 hL,by omega⟩
 have HLF:Hid (laidF (.mk 3 sl kids mn mx) m i=(orF kids (stF m) i m.len,m.len)):=Lib.hid (by rw [laidF];rfl)
 have HC:=Lib.hid (hpw.use (fun OX hX=>or_p (kc:=kc) ih hX hkd hkn hi (by rw [cntS] at hr;exact hr)))
 clear hv hv0 hk hb0 hx hsln hkn hkz hl1 hl2 hS hL hsh hpw h hi hr ih hsl hcs hrow hkd hkne
 go_enter Tryz.func52,Tryz.ntmps52
 go_upto_region 1 with fail
 rw [← hV]
 clear hV
 go_wp2_with fail
 refine HC.out.mono ?_
 rintro e w1 ⟨rfl,hw1,_⟩
 have HE:=Lib.hid (hw1.fin HB0.out (fun k hk=>hk.elim))
 clear hw1 HC
 go_wp2
 go_ret
 rw [HLF.out]
 exact ⟨rfl,HE.out⟩
set_option maxRecDepth 100000 in
set_option maxHeartbeats 4000000 in
theorem lay_4 {sl:List Sp} {kids:List Ns} {mn mx:Int} (ih:∀ x∈kids,LayC x):LayC (.mk 4 sl kids mn mx):=by
 intro W0 W Y O b M m i v hsh h hv hi hr
 obtain ⟨hS,hL⟩:=(shp_mk _ _ _ _ _).1 hsh
 have hv0:=hv
 obtain ⟨sp,sc,kp,kc,rfl,⟨hl1,hl2⟩,hsl,_,hk⟩:=hv.read
 obtain ⟨sln,hsln⟩:∃ k,k=List.length sl:=⟨_,rfl⟩
 rw [← hsln] at hv0 ⊢
 obtain ⟨kn,hkn⟩:∃ k,k=List.length kids:=⟨_,rfl⟩
 rw [← hkn] at hv0 ⊢
 rw [← hkn] at hS
 obtain ⟨kz,hkz⟩:∃ z:Int,z=((4:Nat):Int):=⟨_,rfl⟩
 rw [← hkz] at hv0 ⊢
 obtain ⟨V,hV⟩:∃ V,V=W.alloc (.cells #[.int .u8 kz,.slice sp sln sc,.slice kp kn kc,.int .i64 mn,.int .i64 mx] 48):=⟨_,rfl⟩
 have hb0:Below W.heap.size W V:=by rw [hV];exact (Below.refl _ _).alloc (Nat.le_refl _) _
 have hx:V.heap[W.heap.size]? = some (.cells #[.int .u8 kz,.slice sp sln sc,.slice kp kn kc,.int .i64 mn,.int .i64 mx] 48 (0,0)):=by rw [hV];exact heap_alloc_new W _
 obtain ⟨e0,e1,e2,e3,e4⟩:=cells5 hx
 have hpw:PW Y W0 b M V O noL V m:=(h.step hb0).pw
 have HB0:=Lib.hid hb0
 obtain rfl:kz=4:=by rw [hkz];rfl
 have hk1:kids.length=1:=by unfold Shape at hS;omega
 obtain ⟨x,hxk⟩:=List.length_eq_one_iff.1 hk1
 have HLF:Hid (laidF (.mk 4 sl kids mn mx) m i=againB (laidF x) mn mx m i):=Lib.hid (by rw [hxk,laidF,if_neg (by decide),if_neg (by decide),if_neg (by decide),if_pos rfl,NfaM.repF])
 have HC:=Lib.hid (hpw.use (fun OX hX=>rep_p (x:=x) (sl:=sl) (mn:=mn) (mx:=mx) (ih x (by rw [hxk];simp)) hX (by rw [hxk] at hv;exact hv) (by rw [hxk] at hsh;exact hsh) hi (by rw [hxk,cntS,if_neg (by decide),if_neg (by decide),if_neg (by decide),if_pos rfl,cntR] at hr;exact hr)))
 have e4:((4:Nat):Int)=4:=rfl
 have hx1:List.length [x]=kn:=by rw [← hxk];exact hkn.symm
 rw [← hsln,hx1,e4] at HC
 clear hv hv0 hk hb0 hx hsln hkn hkz hl1 hl2 hS hL hsh hpw h hi hr ih hsl hk1 hxk hx1
 go_enter Tryz.func52,Tryz.ntmps52
 go_upto_region 1 with fail
 rw [← hV]
 clear hV
 go_wp2_with fail
 refine HC.out.mono ?_
 rintro e w1 ⟨rfl,hw1,_⟩
 have HE:=Lib.hid (hw1.fin HB0.out (fun k hk=>hk.elim))
 clear hw1 HC
 go_wp2
 go_ret
 rw [HLF.out]
 exact ⟨rfl,HE.out⟩
theorem lay_all : ∀ (u : Ns), LayC u
 | .mk k sl kids mn mx=>by
  have ih:∀ x∈kids,LayC x:=fun x _hx=>lay_all x
  intro W0 W Y O b M m i v hsh
  have hS:=((shp_mk _ _ _ _ _).1 hsh).1
  rcases hS with ⟨rfl,_⟩ | ⟨rfl,_⟩ | ⟨rfl | rfl,_⟩ | ⟨rfl,_⟩
  ·exact lay_0 ih W0 W Y O b M m i v hsh
  ·exact lay_1 ih W0 W Y O b M m i v hsh
  ·exact lay_2 ih W0 W Y O b M m i v hsh
  ·exact lay_3 ih W0 W Y O b M m i v hsh
  ·exact lay_4 ih W0 W Y O b M m i v hsh
termination_by u=>SizeOf.sizeOf u
decreasing_by
 have:=List.sizeOf_lt_of_mem (show x∈kids from _hx)
 simp only [Ns.mk.sizeOf_spec]
 omega
end Go.Proofs.YtioahgklplbinaaGreatDoor
