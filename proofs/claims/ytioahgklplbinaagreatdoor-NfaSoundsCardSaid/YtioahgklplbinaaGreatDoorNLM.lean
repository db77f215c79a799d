/- NAgain, NLL, in one text. -/
import Derived.Test.YtioahgklplbinaaGreatDoorNMW
import Derived.Deep.RegionWith
import Derived.Deep.DeepCutAuto
import Derived.Deep.RegionLaw
/- The document's again, by its fork at the tree's kid. -/
namespace Go.Proofs.YtioahgklplbinaaGreatDoor
open Go.RowKit Go.Shelf Go.Maps SetM PropsM RxM WrM NfaM
theorem results_again {tmps : Array Value} {w : World} {B : Nat} {a b c : Value} {z : Int} (h1 : tmps.getD 6 undef = .pointer (some ⟨B, 0, none⟩)) (h2 : tmps.getD 7 undef = .int .i64 z)
  (b1:w.heap[B]? = some (.cells #[a,b,c] 29 (0,0))) :
  (results Tryz.f83 tmps).run Tryz.prog w=.ok (.tuple #[.agg #[a,b,c],.int .i64 z]) w:=by
 have h1':tmps[6]?.getD undef=.pointer (some ⟨B,0,none⟩):=by simpa using h1
 have h2':tmps[7]?.getD undef=.int .i64 z:=by simpa using h2
 have q0:w.cell? ⟨B,0,none⟩=some a:=cell_of_row w _ 0 _ _ _ b1
 have q1:w.cell? ⟨B,1,none⟩=some b:=cell_of_row w _ 1 _ _ _ b1
 have q2:w.cell? ⟨B,2,none⟩=some c:=cell_of_row w _ 2 _ _ _ b1
 simp [results,Tryz.results83,h1',h2',go_sem,q0,q1,q2]
theorem ret_again {Q : Ending → World → Prop} {tmps : Array Value} {w1 : World} {B : Nat} {x y z a b c : Value} {n : Int} (h1 : tmps.getD 6 undef = .pointer (some ⟨B, 0, none⟩)) (h2 : tmps.getD 7 undef = .int .i64 n)
  (h3:w1.heap[B]? = some (.cells #[x,y,z] 29 (0,0))) (hQ:Q (.returned (.tuple #[.agg #[a,b,c],.int .i64 n])) (put3 w1 B a b c)) :
  bodyPost Tryz.prog Tryz.f83 Q .ret { tmps:=tmps,defers:=[] } (((w1.setCell ⟨B,0,none⟩ a).setCell ⟨B,1,none⟩ b).setCell ⟨B,2,none⟩ c) :=
 bodyPost_ret (results_again h1 h2 (put3_heap a b c h3)) rfl hQ
theorem Room.stp {m:Mc} {p:Mc×Nat} {c c' C:Nat} (h:Room m C) (k:Stp m p c) (hc:c+c'≤C):Room p.1 c':=by
 obtain ⟨h1,h2,h3⟩:=h
 have:=k.len
 have:=k.fr
 have:=k.ed
 exact ⟨by omega,by omega,by omega⟩
set_option maxRecDepth 100000 in
set_option maxHeartbeats 16000000 in
theorem again_c {x : Ns} (hx : ForkC x) {sl : List Sp} {mn mx : Int} (hmn : 0 ≤ mn ∧ mn ≤ 20) (hmx : mx = -1 ∨ (mn ≤ mx ∧ mx ≤ 20)) (W : World) (O B : Nat → Prop) (v pv : Value) (m : Mc) (i : Nat) (h : MV W O B v m) (hp : RVB W B pv (.mk 4 sl [x] mn mx)) (hob : OB W O B) (hi : i < m.len) (hr : Room m (timesN (cntS x) mn mx)) :
  Calls Tryz.prog 83 #[v,pv,.int .i64 i] W (LP W O B (againB (laidF x) mn mx m i)):=by
 obtain ⟨p0,c0,p1,c1,p2,c2,rfl⟩:=h.form
 obtain ⟨sp,sc,kp,kc,rfl,_,_,_,_,hk⟩:=hp.read
 obtain ⟨g,rfl,hBg,hgW,hkid⟩:=hk (by simp)
 obtain ⟨a,b,c,d,e,hxv,r0,r1,r2,r3,r4⟩:=hkid 0 (by simp)
 simp only [Nat.zero_mul,Nat.zero_add,List.getElem_cons_zero] at hxv r0 r1 r2 r3 r4
 obtain ⟨n,hn⟩:∃ n,n=m.tg.length:=⟨_,rfl⟩
 rw [← hn] at h ⊢
 obtain ⟨N0,hN0⟩:∃ k,k=mn.toNat:=⟨_,rfl⟩
 have hmnN:mn=(N0:Int):=by omega
 obtain ⟨sln,hsln⟩:∃ k,k=sl.length:=⟨_,rfl⟩
 rw [← hsln]
 have hkn:([x]:List Ns).length=1:=rfl
 rw [hkn]
 obtain ⟨kz,hkz⟩:∃ z:Int,z=((4:Nat):Int):=⟨_,rfl⟩
 rw [← hkz]
 obtain ⟨nd,hnd⟩:∃ nd:Array Value,nd = #[.int .u8 kz,.slice sp sln sc,.slice (some ⟨g,0,none⟩) 1 kc,.int .i64 mn,.int .i64 mx]:=⟨_,rfl⟩
 obtain ⟨V,hV⟩:∃ V,V=((W.alloc (.cells #[.slice p0 n c0,.slice p1 n c1,.slice p2 n c2] 29)).alloc (.cells #[.int .u8 kz,.slice sp sln sc,.slice (some ⟨g,0,none⟩) 1 kc,.int .i64 mn,.int .i64 mx] 48)).alloc (.cells #[.slice none 0 0,.slice none 0 0,.slice none 0 0] 29):=⟨_,rfl⟩
 have L0:Lw W O B nd V #[.slice p0 n c0,.slice p1 n c1,.slice p2 n c2] m:=Lw.start h hob (by rw [hV,hnd])
 have HL0:=Lib.hid L0
 have HOB:=Lib.hid hob
 have HKV:=Lib.hid hxv
 have HRM:=Lib.hid hr
 have HIL:=Lib.hid hi
 have HND:=Lib.hid hnd
 have HMN:=Lib.hid (And.intro hmnN (And.intro hmn hmx))
 have HTS:=Lib.hid (fun r=>times_stp (laid_stp x) r (m,i) hi)
 have HKC:=Lib.hid (fun (X:World) (bx:Array Value) (m':Mc) (hL:Lw W O B nd X bx m')=>(⟨(hL.old hob hBg 0).trans r0,(hL.old hob hBg 1).trans r1,(hL.old hob hBg 2).trans r2,(hL.old hob hBg 3).trans r3,(hL.old hob hBg 4).trans r4⟩:X.cell? ⟨g,0,none⟩=some a∧X.cell? ⟨g,1,none⟩=some b∧X.cell? ⟨g,2,none⟩=some c∧X.cell? ⟨g,3,none⟩=some d∧X.cell? ⟨g,4,none⟩=some e))
 have HNC:=Lib.hid (fun (X:World) (bx:Array Value) (m':Mc) (hL:Lw W O B nd X bx m')=>cells5 (by have:=hL.b1;rw [hnd] at this;exact this))
 clear hn L0 h hp hob hi hr hk hkid hxv r0 r1 r2 r3 r4 hnd hmnN hmn hmx hN0 hsln hkn hBg hgW hkz
 go_enter Tryz.func83,Tryz.ntmps83
 go_upto_region 1 with fail
 rw [← hV]
 clear hV
 go_wp2_with fail
 go_loopg [2,8] N0 (fun gk s2 s8 wx=>∃ (r:Nat) (q0:Option Addr) (d0:Nat) (q1:Option Addr) (d1:Nat) (q2:Option Addr) (d2 l:Nat),r+gk=N0∧s8=.int .i64 r∧s2=.int .i64 ((timesB (laidF x) r (m,i)).2:Nat)∧Hid (Lw W O B nd wx #[.slice q0 l d0,.slice q1 l d1,.slice q2 l d2] (timesB (laidF x) r (m,i)).1))
 case atStart=>exact ⟨0,_,_,_,_,_,_,_,by omega,rfl,rfl,HL0⟩
 case round =>
  obtain ⟨r,q0,d0,q1,d1,q2,d2,l,hrg,rfl,rfl,HL⟩:=hrel
  obtain ⟨e0,e1,e2,e3,e4⟩:=HNC.out _ _ _ HL.out
  cases gk with
  | zero =>
   obtain rfl:r=N0:=by omega
   have hlt:¬ (r:Int) < mn:=by have:=HMN.out.1;omega
   obtain ⟨⟨a0,a1,a2⟩,_⟩:=cells3 HL.out.b0
   have HT:=Lib.hid (HTS.out r)
   have HRT:Hid (Room (timesB (laidF x) r (m,i)).1 ((cntS x+1)*(if mx < 0 then 1 else (mx - mn).toNat)+1)):=Lib.hid (HRM.out.stp HT.out (by
    have h1:=HMN.out.1
    unfold timesN
    rw [show mn.toNat=r by omega,Nat.mul_add]
    omega))
   have HAG:Hid (againB (laidF x) mn mx m i=(if mx < 0 then (frF (forkB (laidF x) (frF (stF (timesB (laidF x) r (m,i)).1) (timesB (laidF x) r (m,i)).2 (timesB (laidF x) r (m,i)).1.len) (timesB (laidF x) r (m,i)).1.len).1 (forkB (laidF x) (frF (stF (timesB (laidF x) r (m,i)).1) (timesB (laidF x) r (m,i)).2 (timesB (laidF x) r (m,i)).1.len) (timesB (laidF x) r (m,i)).1.len).2 (timesB (laidF x) r (m,i)).1.len,(timesB (laidF x) r (m,i)).1.len) else ((maybeB (laidF x) (timesB (laidF x) r (m,i)).1.len (mx - mn).toNat (frF (stF (timesB (laidF x) r (m,i)).1) (timesB (laidF x) r (m,i)).2 (timesB (laidF x) r (m,i)).1.len,(timesB (laidF x) r (m,i)).2)).1,(timesB (laidF x) r (m,i)).1.len))):=Lib.hid (by
    unfold againB
    rw [show mn.toNat=r by have h1:=HMN.out.1;omega])
   obtain ⟨p,hp⟩:∃ p,p=timesB (laidF x) r (m,i):=⟨_,rfl⟩
   rw [← hp] at HL HT HRT HAG
   obtain ⟨ml,hml⟩:∃ ml,ml=p.1.len:=⟨_,rfl⟩
   obtain ⟨pj,hpj⟩:∃ pj,pj=p.2:=⟨_,rfl⟩
   rw [← hp,← hpj]
   rw [← hml,← hpj] at HAG
   have hml8:ml≤100000:=by have:=HRT.out.2.2;omega
   have HPJ:Hid (pj < ml):=Lib.hid (by rw [hml,hpj];exact HT.out.lt)
   have hll:l=ml:=by
    obtain ⟨R,hR,hv,_⟩:=HL.out.ws.mv
    obtain ⟨y0,z0,y1,z1,y2,z2,hf⟩:=HL.out.ws.mv.form
    injection hf with hf
    injection hf with hf
    simp at hf
    rw [hml]
    exact hf.1.2.1
   subst hll
   have HML:=Lib.hid hml
   have HST:=Lib.hid (state_at HL.out.ws HOB.out (by omega) (by rw [← hml];omega))
   rw [← hml] at HST
   clear hp hml hpj HT HTS
   go_wp2_with fail
   refine HST.out.mono ?_
   rintro ee w3 ⟨u0,t0,u1,t1,u2,t2,rfl,hw3,hk3⟩
   obtain ⟨⟨g0,g1,g2⟩,f0,f1,f2⟩:=cells3 (HL.out.mid hk3).1
   have hLN:=HL.out.next HOB.out hw3 hk3
   clear hk3 hw3 HST a0 a1 a2 e0 e1 e2 e3 e4
   go_upto_region 6 with fail
   obtain ⟨Y,hY⟩:∃ Y,Y=put3 w3 W.heap.size (.slice u0 (l+1) t0) (.slice u1 (l+1) t1) (.slice u2 (l+1) t2):=⟨_,rfl⟩
   rw [← hY] at hLN
   unfold put3 at hY
   rw [← hY]
   clear hY g0 g1 g2 f0 f1 f2
   have HLN:=Lib.hid hLN
   obtain ⟨⟨a0,a1,a2⟩,_⟩:=cells3 hLN.b0
   clear hLN
   have hwn:wrap64 (((l+1:Nat):Int) - 1)=(l:Int):=by rw [IntWalk.wrap64_in _ (by omega)];omega
   have hl1:(stF p.1).len=l+1:=by rw [len_st,HML.out]
   have HFR:=Lib.hid (free_at (i:=pj) (t:=(l:Int)) HLN.out.ws HOB.out (by omega) (by rw [hl1];have:=HPJ.out;omega) (by rw [hl1];omega) (by
    have a:=row_le (stF p.1).fr pj
    have b:=frs_st p.1
    have c:=HRT.out.1
    have d:=HRT.out.2.2
    unfold frs at b c
    omega))
   rw [hl1] at HFR
   go_wp2_with fail
   refine HFR.out.mono ?_
   rintro ee w4 ⟨r0,s0,r1,s1,r2,s2,rfl,hw4,hk4⟩
   obtain ⟨⟨g0,g1,g2⟩,f0,f1,f2⟩:=cells3 (HLN.out.mid hk4).1
   have hLM:=HLN.out.next HOB.out hw4 hk4
   clear hk4 hw4 HFR a0 a1 a2 HL HLN
   go_upto_region 8 with fail
   obtain ⟨Z,hZ⟩:∃ Z,Z=put3 w4 W.heap.size (.slice r0 (l+1) s0) (.slice r1 (l+1) s1) (.slice r2 (l+1) s2):=⟨_,rfl⟩
   rw [← hZ] at hLM
   unfold put3 at hZ
   rw [← hZ]
   clear hZ g0 g1 g2 f0 f1 f2
   have HLM:=Lib.hid hLM
   obtain ⟨⟨a0,a1,a2⟩,_⟩:=cells3 hLM.b0
   obtain ⟨e0,e1,e2,e3,e4⟩:=HNC.out _ _ _ hLM
   clear hLM
   obtain ⟨m1,hm1⟩:∃ m1,m1=frF (stF p.1) pj l:=⟨_,rfl⟩
   rw [← hm1] at HLM HAG
   have hm1l:m1.len=l+1:=by rw [hm1];exact hl1
   have HR1:Hid (Room m1 ((cntS x+1)*(if mx < 0 then 1 else (mx - mn).toNat))):=Lib.hid (by
    have a:=frs_fr (stF p.1) pj l
    have b:=frs_st p.1
    have c:=eds_fr (stF p.1) pj l
    have d:=eds_st p.1
    have e:=HRT.out
    have f:=HML.out
    rw [← hm1] at a c
    unfold Room at e ⊢
    rw [hm1l]
    omega)
   have HM1:=Lib.hid hm1l
   have hll1:l < m1.len:=by omega
   clear hm1 HRT hwn hl1
   obtain ⟨b0,b1,b2,b3,b4⟩:=HKC.out _ _ _ HLM.out
   by_cases hneg:mx < 0
   ·rw [if_pos hneg] at HAG HR1
    have HFK:=Lib.hid (hx.at HLM.out.drew.ws HOB.out (by omega) HKV.out hll1 (by
     have:=HR1.out;rw [Nat.mul_one] at this;exact this))
    have HSF:=Lib.hid (fork_stp (laid_stp x) m1 l)
    have HRF:Hid (Room (forkB (laidF x) m1 l).1 0):=Lib.hid (HR1.out.stp HSF.out.to (by omega))
    go_wp2_with fail
    go_cut [2] (fun s2 wc=>∃ (u0:Option Addr) (t0:Nat) (u1:Option Addr) (t1:Nat) (u2:Option Addr) (t2 l4:Nat),s2=.int .i64 ((forkB (laidF x) m1 l).2:Nat)∧Hid (Lw W O B nd wc #[.slice u0 l4 t0,.slice u1 l4 t1,.slice u2 l4 t2] (forkB (laidF x) m1 l).1))
    case first =>
     go_region_with (first
      | (go_at_call 29;refine HFK.out.mono ?_;rintro ee w5 ⟨u0,t0,u1,t1,u2,t2,l4,rfl,hw5,hk5⟩;obtain ⟨⟨g0,g1,g2⟩,f0,f1,f2⟩:=cells3 (HLM.out.drew.mid hk5).1;have HLQ:=Lib.hid (HLM.out.drew.next HOB.out hw5 hk5);clear hw5 hk5))
     all_goals
      clear g0 g1 g2 f0 f1 f2 a0 a1 a2 b0 b1 b2 b3 b4 e0 e1 e2 e3 e4 HFK
      go_wp2
      go_meet
      exact ⟨_,_,_,_,_,_,_,rfl,HLQ⟩
    case rest =>
     obtain ⟨u0,t0,u1,t1,u2,t2,l4,rfl,HLQ⟩:=hcut
     clear a0 a1 a2 b0 b1 b2 b3 b4 e0 e1 e2 e3 e4 HFK
     obtain ⟨⟨a0,a1,a2⟩,_⟩:=cells3 HLQ.out.b0
     have HFR:=Lib.hid (free_at (i:=(forkB (laidF x) m1 l).2) (t:=(l:Int)) HLQ.out.ws HOB.out (by omega) HSF.out.lt (by have:=HRF.out.2.2;omega) (HRF.out.row _))
     go_wp2_with fail
     refine HFR.out.mono ?_
     rintro ee w6 ⟨r0,s0,r1,s1,r2,s2,rfl,hw6,hk6⟩
     have hX:=(HLQ.out.mid hk6).2.2
     have HE:=Lib.hid ((hw6.put3 HOB.out (by omega) (b:=W.heap.size+1+1) (by omega) (by omega) (.slice r0 (forkB (laidF x) m1 l).1.len s0) (.slice r1 (forkB (laidF x) m1 l).1.len s1) (.slice r2 (forkB (laidF x) m1 l).1.len s2)).fin (by omega))
     obtain ⟨_,f0,f1,f2⟩:=cells3 hX
     obtain ⟨x0,x1,x2⟩:=(cells3 hX).1
     have HX:=Lib.hid hX
     clear hk6 hw6 HFR hX a0 a1 a2
     go_wp2
     refine ret_again rfl rfl HX.out ?_
     rw [HAG.out]
     exact ⟨_,rfl,HE.out⟩
   ·rw [if_neg hneg] at HAG HR1
    obtain ⟨N1,hN1⟩:∃ k,k=(mx - mn).toNat:=⟨_,rfl⟩
    have HN1:Hid (mx=mn+(N1:Int)):=Lib.hid (by have:=HMN.out.2.2;omega)
    rw [← hN1] at HAG HR1
    have HPJ1:Hid (pj < m1.len):=Lib.hid (by have:=HPJ.out;omega)
    have HTM:=Lib.hid (fun r=>maybe_stp (laid_stp x) l r (m1,pj) HPJ1.out)
    clear hN1 b0 b1 b2 b3 b4 a0 a1 a2
    go_wp2_with fail
    go_loopg [2,10] N1 (fun gk s2 s10 wx=>∃ (r:Nat) (q0:Option Addr) (d0:Nat) (q1:Option Addr) (d1:Nat) (q2:Option Addr) (d2 lr:Nat),r+gk=N1∧s10=.int .i64 (mn+(r:Int))∧s2=.int .i64 ((maybeB (laidF x) l r (m1,pj)).2:Nat)∧Hid (Lw W O B nd wx #[.slice q0 lr d0,.slice q1 lr d1,.slice q2 lr d2] (maybeB (laidF x) l r (m1,pj)).1))
    case atStart=>exact ⟨0,_,_,_,_,_,_,_,by omega,by simp,rfl,HLM⟩
    case round =>
     obtain ⟨r,q0,d0,q1,d1,q2,d2,lr,hrg,rfl,rfl,HL⟩:=hrel
     clear e0 e1 e2 e3 e4
     obtain ⟨e0,e1,e2,e3,e4⟩:=HNC.out _ _ _ HL.out
     obtain ⟨⟨a0,a1,a2⟩,_⟩:=cells3 HL.out.b0
     cases gk with
     | zero =>
      obtain rfl:r=N1:=by omega
      have hlt:¬ (mn+(r:Int)) < mx:=by have:=HN1.out;omega
      have HE:=Lib.hid ((HL.out.ws.put3 HOB.out (by omega) (b:=W.heap.size+1+1) (by omega) (by omega) (.slice q0 lr d0) (.slice q1 lr d1) (.slice q2 lr d2)).fin (by omega))
      obtain ⟨_,f0,f1,f2⟩:=cells3 HL.out.b2
      obtain ⟨x0,x1,x2⟩:=(cells3 HL.out.b2).1
      go_wp2
      refine ret_again rfl rfl HL.out.b2 ?_
      rw [HAG.out]
      exact ⟨_,rfl,HE.out⟩
     | succ gk =>
      have hlt:(mn+(r:Int)) < mx:=by have:=HN1.out;omega
      have hwr:wrap64 (mn+(r:Int)+1)=mn+((r+1:Nat):Int):=by rw [IntWalk.wrap64_in _ (by have:=HMN.out.2;have:=HN1.out;omega)];omega
      obtain ⟨b0,b1,b2,b3,b4⟩:=HKC.out _ _ _ HL.out
      have HTR:=Lib.hid (HTM.out r)
      have HRR:Hid (Room (maybeB (laidF x) l r (m1,pj)).1 (cntS x+1)):=Lib.hid (HR1.out.stp HTR.out (by
       have h2:(cntS x+1)*(r+1)≤(cntS x+1)*N1:=Nat.mul_le_mul_left _ (by omega)
       rw [Nat.mul_succ] at h2
       omega))
      have HMS:=Lib.hid (maybe_succ (laidF x) l r (m1,pj))
      obtain ⟨mr,hmr⟩:∃ mr,mr=maybeB (laidF x) l r (m1,pj):=⟨_,rfl⟩
      rw [← hmr] at HMS HRR HTR HL ⊢
      have HFK:=Lib.hid (hx.at HL.out.drew.ws HOB.out (by omega) HKV.out HTR.out.lt HRR.out)
      have HSF:=Lib.hid (fork_stp (laid_stp x) mr.1 mr.2)
      have HRF:Hid (Room (forkB (laidF x) mr.1 mr.2).1 0):=Lib.hid (HRR.out.stp HSF.out.to (by omega))
      clear hmr
      go_wp2_with fail
      go_region_with (first
       | (go_at_call 29;refine HFK.out.mono ?_;rintro ee w4 ⟨u0,t0,u1,t1,u2,t2,l4,rfl,hw4,hk4⟩;obtain ⟨⟨g0,g1,g2⟩,f0,f1,f2⟩:=cells3 (HL.out.drew.mid hk4).1;have HLN:=Lib.hid (HL.out.drew.next HOB.out hw4 hk4);clear hw4 hk4))
      all_goals
       obtain ⟨Y,hY⟩:∃ Y,Y=put3 w4 W.heap.size (.slice u0 l4 t0) (.slice u1 l4 t1) (.slice u2 l4 t2):=⟨_,rfl⟩
       rw [← hY] at HLN
       unfold put3 at hY
       rw [← hY]
       clear hY g0 g1 g2 f0 f1 f2 a0 a1 a2 b0 b1 b2 b3 b4 e0 e1 e2 e3 e4 HFK
       obtain ⟨⟨a0,a1,a2⟩,_⟩:=cells3 HLN.out.b0
       have HFR:=Lib.hid (free_at (i:=(forkB (laidF x) mr.1 mr.2).2) (t:=(l:Int)) HLN.out.ws HOB.out (by omega) HSF.out.lt (by have:=HRF.out.2.2;omega) (HRF.out.row _))
       go_wp2_with fail
       refine HFR.out.mono ?_
       rintro ee w6 ⟨r0,s0,r1,s1,r2,s2,rfl,hw6,hk6⟩
       obtain ⟨⟨g0,g1,g2⟩,f0,f1,f2⟩:=cells3 (HLN.out.mid hk6).1
       have HLP:=Lib.hid (HLN.out.next HOB.out hw6 hk6)
       clear hk6 hw6 HFR a0 a1 a2
       go_wp2
       go_roundg gk
       case measure=>omega
       case rel=>exact ⟨r+1,_,_,_,_,_,_,_,by omega,by rw [hwr],by rw [HMS.out],by rw [HMS.out];exact HLP⟩
  | succ gk =>
   have hlt:(r:Int) < mn:=by have:=HMN.out.1;omega
   have hwr:wrap64 ((r:Int)+1)=((r+1:Nat):Int):=by rw [IntWalk.wrap64_in _ (by have:=HMN.out.2.1;omega)];omega
   obtain ⟨b0,b1,b2,b3,b4⟩:=HKC.out _ _ _ HL.out
   obtain ⟨⟨a0,a1,a2⟩,_⟩:=cells3 HL.out.b0
   have HFK:=Lib.hid (hx.at HL.out.drew.ws HOB.out (by omega) HKV.out (HTS.out r).lt (HRM.out.stp (HTS.out r) (by
    have h1:=HMN.out
    have h2:(cntS x+1)*(r+1)≤(cntS x+1)*(mn.toNat+(if mx < 0 then 1 else (mx - mn).toNat)):=Nat.mul_le_mul_left _ (by omega)
    rw [Nat.mul_succ] at h2
    unfold timesN
    omega)))
   rw [← times_succ] at HFK
   go_wp2_with fail
   go_region_with (first
    | (go_at_call 29;refine HFK.out.mono ?_;rintro ee w4 ⟨u0,t0,u1,t1,u2,t2,l4,rfl,hw4,hk4⟩;obtain ⟨⟨g0,g1,g2⟩,f0,f1,f2⟩:=cells3 (HL.out.drew.mid hk4).1;have HLN:=Lib.hid (HL.out.drew.next HOB.out hw4 hk4);clear hw4 hk4))
   all_goals
    clear g0 g1 g2 f0 f1 f2 a0 a1 a2 b0 b1 b2 b3 b4 e0 e1 e2 e3 e4 HFK
    go_wp2
    go_roundg gk
    case measure=>omega
    case rel=>exact ⟨r+1,_,_,_,_,_,_,_,by omega,by rw [hwr],rfl,HLN⟩
end Go.Proofs.YtioahgklplbinaaGreatDoor

/- NLaid0, NLaidC, NLaidO, NLaid1, NLaid, in one text. -/
namespace Go.Proofs.YtioahgklplbinaaGreatDoor
open Go.RowKit Go.Shelf Go.Maps SetM PropsM RxM WrM NfaM
theorem results_laid {tmps : Array Value} {w : World} {B : Nat} {a b c : Value} {z : Int} (h1 : tmps.getD 6 undef = .pointer (some ⟨B, 0, none⟩)) (h2 : tmps.getD 7 undef = .int .i64 z)
  (b1:w.heap[B]? = some (.cells #[a,b,c] 29 (0,0))) :
  (results Tryz.f55 tmps).run Tryz.prog w=.ok (.tuple #[.agg #[a,b,c],.int .i64 z]) w:=by
 have h1':tmps[6]?.getD undef=.pointer (some ⟨B,0,none⟩):=by simpa using h1
 have h2':tmps[7]?.getD undef=.int .i64 z:=by simpa using h2
 have q0:w.cell? ⟨B,0,none⟩=some a:=cell_of_row w _ 0 _ _ _ b1
 have q1:w.cell? ⟨B,1,none⟩=some b:=cell_of_row w _ 1 _ _ _ b1
 have q2:w.cell? ⟨B,2,none⟩=some c:=cell_of_row w _ 2 _ _ _ b1
 simp [results,Tryz.results55,h1',h2',go_sem,q0,q1,q2]
theorem ret_laid {Q : Ending → World → Prop} {tmps : Array Value} {w1 : World} {B : Nat} {x y z a b c : Value} {n : Int} (h1 : tmps.getD 6 undef = .pointer (some ⟨B, 0, none⟩)) (h2 : tmps.getD 7 undef = .int .i64 n)
  (h3:w1.heap[B]? = some (.cells #[x,y,z] 29 (0,0))) (hQ:Q (.returned (.tuple #[.agg #[a,b,c],.int .i64 n])) (put3 w1 B a b c)) :
  bodyPost Tryz.prog Tryz.f55 Q .ret { tmps:=tmps,defers:=[] } (((w1.setCell ⟨B,0,none⟩ a).setCell ⟨B,1,none⟩ b).setCell ⟨B,2,none⟩ c) :=
 bodyPost_ret (results_laid h1 h2 (put3_heap a b c h3)) rfl hQ
set_option maxRecDepth 100000 in
set_option maxHeartbeats 16000000 in
theorem laid_empty {mn mx:Int}:LaidC (.mk 0 [] [] mn mx):=by
 intro W O B v pv m i h hp hob hi hr
 have hpv:=hp
 obtain ⟨p0,c0,p1,c1,p2,c2,rfl⟩:=h.form
 obtain ⟨sp,sc,kp,kc,rfl,hlens,hsl,hspn,hspB,hk⟩:=hp.read
 obtain ⟨n,hn⟩:∃ n,n=m.tg.length:=⟨_,rfl⟩
 rw [← hn] at h ⊢
 have hnl:m.len=n:=by rw [hn];rfl
 obtain ⟨sln,hsln⟩:∃ k,k=List.length ([]:List Sp):=⟨_,rfl⟩
 rw [← hsln] at hpv ⊢
 obtain ⟨kn,hkn⟩:∃ k,k=List.length ([]:List Ns):=⟨_,rfl⟩
 rw [← hkn] at hpv ⊢
 obtain ⟨kz,hkz⟩:∃ z:Int,z=((0:Nat):Int):=⟨_,rfl⟩
 rw [← hkz] at hpv ⊢
 obtain ⟨nd,hnd⟩:∃ nd:Array Value,nd = #[.int .u8 kz,.slice sp sln sc,.slice kp kn kc,.int .i64 mn,.int .i64 mx]:=⟨_,rfl⟩
 obtain ⟨V,hV⟩:∃ V,V=((W.alloc (.cells #[.slice p0 n c0,.slice p1 n c1,.slice p2 n c2] 29)).alloc (.cells #[.int .u8 kz,.slice sp sln sc,.slice kp kn kc,.int .i64 mn,.int .i64 mx] 48)).alloc (.cells #[.slice none 0 0,.slice none 0 0,.slice none 0 0] 29):=⟨_,rfl⟩
 have L0:Lw W O B nd V #[.slice p0 n c0,.slice p1 n c1,.slice p2 n c2] m:=Lw.start h hob (by rw [hV,hnd])
 have HL0:=Lib.hid L0
 have HOB:=Lib.hid hob
 have HPV:=Lib.hid hpv
 have HRM:=Lib.hid hr
 have HIL:=Lib.hid hi
 have HNL:=Lib.hid hnl
 have HSLN:=Lib.hid hsln
 have HKN:=Lib.hid hkn
 have HSET:=Lib.hid (And.intro hsl (And.intro hspn hspB))
 have HNC:=Lib.hid (fun (X:World) (bx:Array Value) (m':Mc) (hL:Lw W O B nd X bx m')=>cells5 (by have:=hL.b1;rw [hnd] at this;exact this))
 have hn8:n≤100000:=by have:=hr.2.2;omega
 have hkn8:kn≤1000:=by rw [hkn];exact hlens.2
 obtain rfl:kz=0:=by rw [hkz];rfl
 obtain ⟨e0,e1,e2,e3,e4⟩:=HNC.out _ _ _ L0
 obtain ⟨⟨a0,a1,a2⟩,_⟩:=cells3 L0.b0
 clear hn hnl L0 h hp hpv hob hi hr hk hnd hsln hkn hkz hlens hsl hspn hspB
 go_enter Tryz.func55,Tryz.ntmps55
 go_upto_region 1 with fail
 rw [← hV]
 clear hV
 have HE:=Lib.hid ((HL0.out.ws.put3 HOB.out (by omega) (b:=W.heap.size+1+1) (by omega) (by omega) (.slice p0 n c0) (.slice p1 n c1) (.slice p2 n c2)).fin (by omega))
 have HLF:Hid (laidF (.mk 0 [] [] mn mx) m i=(m,i)):=Lib.hid (by rw [laidF];rfl)
 obtain ⟨_,f0,f1,f2⟩:=cells3 HL0.out.b2
 obtain ⟨x0,x1,x2⟩:=(cells3 HL0.out.b2).1
 go_wp2
 refine ret_laid rfl rfl HL0.out.b2 ?_
 rw [HLF.out]
 exact ⟨_,rfl,HE.out⟩
set_option maxRecDepth 100000 in
set_option maxHeartbeats 16000000 in
theorem laid_rep {x:Ns} (hx:ForkC x) {mn mx:Int} (hmn:0≤mn∧mn≤20) (hmx:mx = -1∨(mn≤mx∧mx≤20)):LaidC (.mk 4 [] [x] mn mx):=by
 intro W O B v pv m i h hp hob hi hr
 have hpv:=hp
 obtain ⟨p0,c0,p1,c1,p2,c2,rfl⟩:=h.form
 obtain ⟨sp,sc,kp,kc,rfl,hlens,hsl,hspn,hspB,hk⟩:=hp.read
 obtain ⟨n,hn⟩:∃ n,n=m.tg.length:=⟨_,rfl⟩
 rw [← hn] at h ⊢
 have hnl:m.len=n:=by rw [hn];rfl
 obtain ⟨sln,hsln⟩:∃ k,k=List.length ([]:List Sp):=⟨_,rfl⟩
 rw [← hsln] at hpv ⊢
 obtain ⟨kn,hkn⟩:∃ k,k=List.length [x]:=⟨_,rfl⟩
 rw [← hkn] at hpv ⊢
 obtain ⟨kz,hkz⟩:∃ z:Int,z=((4:Nat):Int):=⟨_,rfl⟩
 rw [← hkz] at hpv ⊢
 obtain ⟨nd,hnd⟩:∃ nd:Array Value,nd = #[.int .u8 kz,.slice sp sln sc,.slice kp kn kc,.int .i64 mn,.int .i64 mx]:=⟨_,rfl⟩
 obtain ⟨V,hV⟩:∃ V,V=((W.alloc (.cells #[.slice p0 n c0,.slice p1 n c1,.slice p2 n c2] 29)).alloc (.cells #[.int .u8 kz,.slice sp sln sc,.slice kp kn kc,.int .i64 mn,.int .i64 mx] 48)).alloc (.cells #[.slice none 0 0,.slice none 0 0,.slice none 0 0] 29):=⟨_,rfl⟩
 have L0:Lw W O B nd V #[.slice p0 n c0,.slice p1 n c1,.slice p2 n c2] m:=Lw.start h hob (by rw [hV,hnd])
 have HL0:=Lib.hid L0
 have HOB:=Lib.hid hob
 have HPV:=Lib.hid hpv
 have HRM:=Lib.hid hr
 have HIL:=Lib.hid hi
 have HNL:=Lib.hid hnl
 have HSLN:=Lib.hid hsln
 have HKN:=Lib.hid hkn
 have HSET:=Lib.hid (And.intro hsl (And.intro hspn hspB))
 have HNC:=Lib.hid (fun (X:World) (bx:Array Value) (m':Mc) (hL:Lw W O B nd X bx m')=>cells5 (by have:=hL.b1;rw [hnd] at this;exact this))
 have hn8:n≤100000:=by have:=hr.2.2;omega
 have hkn8:kn≤1000:=by rw [hkn];exact hlens.2
 obtain rfl:kz=4:=by rw [hkz];rfl
 obtain ⟨e0,e1,e2,e3,e4⟩:=HNC.out _ _ _ L0
 obtain ⟨⟨a0,a1,a2⟩,_⟩:=cells3 L0.b0
 clear hn hnl L0 h hp hpv hob hi hr hk hnd hsln hkn hkz hlens hsl hspn hspB
 go_enter Tryz.func55,Tryz.ntmps55
 go_upto_region 1 with fail
 rw [← hV]
 clear hV
 have HLF:Hid (laidF (.mk 4 [] [x] mn mx) m i=againB (laidF x) mn mx m i):=Lib.hid (by rw [laidF,NfaM.repF];rfl)
 have HAG:=Lib.hid (again_c hx hmn hmx V _ B _ _ m i HL0.out.ws.mv.real (HL0.out.ws.node HOB.out (by omega) HPV.out) (HL0.out.ws.ob HOB.out (by omega)) HIL.out (by have:=HRM.out;rw [cntS,cntR] at this;exact this))
 go_wp2_with fail
 refine HAG.out.mono ?_
 rintro ee w6 ⟨v6,rfl,hm6,hf6⟩
 have hq:=HL0.out.ws.call HOB.out (by omega) (hm6.imp (fun k hk=>hk.imp (fun h=>h.1) id)) (hf6.mono (fun k hk=>hk.1))
 obtain ⟨r0,s0,r1,s1,r2,s2,hf⟩:=hm6.form
 obtain ⟨l6,hl6⟩:∃ l,l=(againB (laidF x) mn mx m i).1.tg.length:=⟨_,rfl⟩
 rw [← hl6] at hf
 subst hf
 have hX:=(HL0.out.mid hq.2).2.2
 have HE:=Lib.hid ((hq.1.put3 HOB.out (by omega) (b:=W.heap.size+1+1) (by omega) (by omega) (.slice r0 l6 s0) (.slice r1 l6 s1) (.slice r2 l6 s2)).fin (by omega))
 obtain ⟨_,f0,f1,f2⟩:=cells3 hX
 obtain ⟨x0,x1,x2⟩:=(cells3 hX).1
 have HX:=Lib.hid hX
 clear hm6 hf6 hq hX a0 a1 a2 e0 e1 e2 e3 e4 HAG hl6
 go_wp2
 refine ret_laid rfl rfl HX.out ?_
 rw [HLF.out]
 exact ⟨_,rfl,HE.out⟩
end Go.Proofs.YtioahgklplbinaaGreatDoor
namespace Go.Proofs.YtioahgklplbinaaGreatDoor
open Go.RowKit Go.Shelf Go.Maps SetM PropsM RxM WrM NfaM
theorem cat_snoc : ∀ (l : List Ns) (x : Ns) (m : Mc) (i : Nat), NfaM.catF (l ++ [x]) m i = laidF x (NfaM.catF l m i).1 (NfaM.catF l m i).2
 | [],x,m,i=>by rw [List.nil_append,NfaM.catF,NfaM.catF,NfaM.catF]
 | y::l,x,m,i=>by rw [List.cons_append,NfaM.catF,NfaM.catF,cat_snoc l x]
theorem cnt_snoc : ∀ (l : List Ns) (x : Ns), cntC (l ++ [x]) = cntC l + cntS x
 | [],x=>by rw [List.nil_append,cntC,cntC,cntC];omega
 | y::l,x=>by rw [List.cons_append,cntC,cntC,cnt_snoc l x];omega
theorem cnt_take (l:List Ns) (r:Nat) (h:r < l.length):cntC (l.take r)+cntS l[r]≤cntC l:=by
 have h1:∀ (a b:List Ns),cntC a≤cntC (a++b):=fun a b=>by
  induction a with
  | nil=>rw [cntC];exact Nat.zero_le _
  | cons y a ih=>rw [List.cons_append,cntC,cntC];omega
 rw [← cnt_snoc,← List.take_succ_eq_append_getElem h]
 have:=h1 (l.take (r+1)) (l.drop (r+1))
 rw [List.take_append_drop] at this
 exact this
set_option maxRecDepth 100000 in
set_option maxHeartbeats 16000000 in
theorem laid_cat {kids:List Ns} (ih:∀ x∈kids,LaidC x) {mn mx:Int}:LaidC (.mk 2 [] kids mn mx):=by
 intro W O B v pv m i h hp hob hi hr
 have hpv:=hp
 obtain ⟨p0,c0,p1,c1,p2,c2,rfl⟩:=h.form
 obtain ⟨sp,sc,kp,kc,rfl,hlens,hsl,hspn,hspB,hk⟩:=hp.read
 obtain ⟨n,hn⟩:∃ n,n=m.tg.length:=⟨_,rfl⟩
 rw [← hn] at h ⊢
 have hnl:m.len=n:=by rw [hn];rfl
 obtain ⟨sln,hsln⟩:∃ k,k=List.length ([]:List Sp):=⟨_,rfl⟩
 rw [← hsln] at hpv ⊢
 obtain ⟨kn,hkn⟩:∃ k,k=List.length kids:=⟨_,rfl⟩
 rw [← hkn] at hpv ⊢
 obtain ⟨kz,hkz⟩:∃ z:Int,z=((2:Nat):Int):=⟨_,rfl⟩
 rw [← hkz] at hpv ⊢
 obtain ⟨nd,hnd⟩:∃ nd:Array Value,nd = #[.int .u8 kz,.slice sp sln sc,.slice kp kn kc,.int .i64 mn,.int .i64 mx]:=⟨_,rfl⟩
 obtain ⟨V,hV⟩:∃ V,V=((W.alloc (.cells #[.slice p0 n c0,.slice p1 n c1,.slice p2 n c2] 29)).alloc (.cells #[.int .u8 kz,.slice sp sln sc,.slice kp kn kc,.int .i64 mn,.int .i64 mx] 48)).alloc (.cells #[.slice none 0 0,.slice none 0 0,.slice none 0 0] 29):=⟨_,rfl⟩
 have L0:Lw W O B nd V #[.slice p0 n c0,.slice p1 n c1,.slice p2 n c2] m:=Lw.start h hob (by rw [hV,hnd])
 have HL0:=Lib.hid L0
 have HOB:=Lib.hid hob
 have HPV:=Lib.hid hpv
 have HRM:=Lib.hid hr
 have HIL:=Lib.hid hi
 have HNL:=Lib.hid hnl
 have HSLN:=Lib.hid hsln
 have HKN:=Lib.hid hkn
 have HSET:=Lib.hid (And.intro hsl (And.intro hspn hspB))
 have HNC:=Lib.hid (fun (X:World) (bx:Array Value) (m':Mc) (hL:Lw W O B nd X bx m')=>cells5 (by have:=hL.b1;rw [hnd] at this;exact this))
 have hn8:n≤100000:=by have:=hr.2.2;omega
 have hkn8:kn≤1000:=by rw [hkn];exact hlens.2
 obtain rfl:kz=2:=by rw [hkz];rfl
 have HKID:Hid (∀ r (hr:r < kids.length),∃ g a b c d e,kp=some ⟨g,0,none⟩∧RVB W B (.agg #[a,b,c,d,e]) kids[r]∧∀ (X:World) (bx:Array Value) (m':Mc),Lw W O B nd X bx m'→(X.cell? ⟨g,r*5,none⟩=some a∧X.cell? ⟨g,r*5+1,none⟩=some b∧X.cell? ⟨g,r*5+2,none⟩=some c∧X.cell? ⟨g,r*5+3,none⟩=some d∧X.cell? ⟨g,r*5+4,none⟩=some e)):=Lib.hid (fun r hr=>by
  obtain ⟨g,e1,hB,hgW,hkid⟩:=hk (by intro e;rw [e] at hr;cases hr)
  obtain ⟨a,b,c,d,e,hv,r0,r1,r2,r3,r4⟩:=hkid r hr
  exact ⟨g,a,b,c,d,e,e1,hv,fun X bx m' hL=>⟨(hL.old hob hB _).trans r0,(hL.old hob hB _).trans r1,(hL.old hob hB _).trans r2,(hL.old hob hB _).trans r3,(hL.old hob hB _).trans r4⟩⟩)
 have HSTP:=Lib.hid (fun r=>cat_stp (kids.take r) m i hi)
 obtain ⟨e0,e1,e2,e3,e4⟩:=HNC.out _ _ _ L0
 obtain ⟨⟨a0,a1,a2⟩,_⟩:=cells3 L0.b0
 clear hn hnl L0 h hp hpv hob hi hr hk hnd hsln hkn hkz hlens hsl hspn hspB
 go_enter Tryz.func55,Tryz.ntmps55
 go_upto_region 1 with fail
 rw [← hV]
 clear hV
 have HLF:Hid (laidF (.mk 2 [] kids mn mx) m i=NfaM.catF kids m i):=Lib.hid (by rw [laidF];rfl)
 have HRC:Hid (Room m (cntC kids)):=Lib.hid (by have:=HRM.out;rw [cntS] at this;exact this)
 go_wp2_with fail
 go_loopg [2,9] kn (fun gk s2 s9 wx=>∃ (r:Nat) (q0:Option Addr) (d0:Nat) (q1:Option Addr) (d1:Nat) (q2:Option Addr) (d2 l:Nat),r+gk=kn∧s9=.int .i64 r∧s2=.int .i64 ((NfaM.catF (kids.take r) m i).2:Nat)∧Hid (Lw W O B nd wx #[.slice q0 l d0,.slice q1 l d1,.slice q2 l d2] (NfaM.catF (kids.take r) m i).1))
 case atStart=>exact ⟨0,_,_,_,_,_,_,_,by omega,rfl,by rw [List.take_zero,NfaM.catF],by rw [List.take_zero,NfaM.catF];exact HL0⟩
 case round =>
  obtain ⟨r,q0,d0,q1,d1,q2,d2,l,hrg,rfl,rfl,HL⟩:=hrel
  clear e0 e1 e2 e3 e4 a0 a1 a2
  obtain ⟨e0,e1,e2,e3,e4⟩:=HNC.out _ _ _ HL.out
  obtain ⟨⟨a0,a1,a2⟩,_⟩:=cells3 HL.out.b0
  cases gk with
  | zero =>
   obtain rfl:r=kn:=by omega
   have hlt:¬ (r:Int) < (r:Int):=by omega
   have HE:=Lib.hid ((HL.out.ws.put3 HOB.out (by omega) (b:=W.heap.size+1+1) (by omega) (by omega) (.slice q0 l d0) (.slice q1 l d1) (.slice q2 l d2)).fin (by omega))
   have HTK:Hid (NfaM.catF (kids.take r) m i=NfaM.catF kids m i):=Lib.hid (by rw [List.take_of_length_le (by have:=HKN.out;omega)])
   rw [HTK.out] at HE ⊢
   obtain ⟨_,f0,f1,f2⟩:=cells3 HL.out.b2
   obtain ⟨x0,x1,x2⟩:=(cells3 HL.out.b2).1
   go_wp2
   refine ret_laid rfl rfl HL.out.b2 ?_
   rw [HLF.out]
   exact ⟨_,rfl,HE.out⟩
  | succ gk =>
   have hlt:(r:Int) < (kn:Int):=by omega
   have hrl:r < kids.length:=by have:=HKN.out;omega
   have h0:(0:Int)≤(r:Int):=by omega
   have hwr:wrap64 ((r:Int)+1)=((r+1:Nat):Int):=by rw [IntWalk.wrap64_in _ (by omega)];omega
   obtain ⟨g,a,b,c,d,e,rfl,hv,hcell⟩:=HKID.out r hrl
   obtain ⟨b0,b1,b2,b3,b4⟩:=hcell _ _ _ HL.out
   have HFK:=Lib.hid ((ih kids[r] (List.getElem_mem hrl)).at HL.out.drew.ws HOB.out (by omega) hv (HSTP.out r).lt (HRC.out.stp (HSTP.out r) (cnt_take kids r hrl)))
   have HSN:Hid (laidF kids[r] (NfaM.catF (kids.take r) m i).1 (NfaM.catF (kids.take r) m i).2=NfaM.catF (kids.take (r+1)) m i):=Lib.hid (by rw [List.take_succ_eq_append_getElem hrl,cat_snoc])
   rw [HSN.out] at HFK
   clear hv hcell HSN
   go_wp2_with fail
   go_region_with (first
    | (go_at_call 55;refine HFK.out.mono ?_;rintro ee w4 ⟨u0,t0,u1,t1,u2,t2,l4,rfl,hw4,hk4⟩;obtain ⟨⟨g0,g1,g2⟩,f0,f1,f2⟩:=cells3 (HL.out.drew.mid hk4).1;have HLN:=Lib.hid (HL.out.drew.next HOB.out hw4 hk4);clear hw4 hk4))
   all_goals
    clear g0 g1 g2 f0 f1 f2 a0 a1 a2 b0 b1 b2 b3 b4 e0 e1 e2 e3 e4 HFK
    go_wp2
    go_roundg gk
    case measure=>omega
    case rel=>exact ⟨r+1,_,_,_,_,_,_,_,by omega,by first | rw [hwr] | rfl | simp,rfl,HLN⟩
end Go.Proofs.YtioahgklplbinaaGreatDoor
namespace Go.Proofs.YtioahgklplbinaaGreatDoor
open Go.RowKit Go.Shelf Go.Maps SetM PropsM RxM WrM NfaM
theorem or_snoc : ∀ (l : List Ns) (x : Ns) (m : Mc) (i e : Nat), orF (l ++ [x]) m i e = frF (forkB (laidF x) (orF l m i e) i).1 (forkB (laidF x) (orF l m i e) i).2 e
 | [],x,m,i,e=>by rw [List.nil_append,orF,orF,orF]
 | y::l,x,m,i,e=>by rw [List.cons_append,orF,orF,or_snoc l x]
theorem cnto_snoc : ∀ (l : List Ns) (x : Ns), cntO (l ++ [x]) = cntO l + (cntS x + 1)
 | [],x=>by rw [List.nil_append,cntO,cntO,cntO];omega
 | y::l,x=>by rw [List.cons_append,cntO,cntO,cnto_snoc l x];omega
theorem cnto_take (l:List Ns) (r:Nat) (h:r < l.length):cntO (l.take r)+(cntS l[r]+1)≤cntO l:=by
 have h1:∀ (a b:List Ns),cntO a≤cntO (a++b):=fun a b=>by
  induction a with
  | nil=>rw [cntO];exact Nat.zero_le _
  | cons y a ih=>rw [List.cons_append,cntO,cntO];omega
 rw [← cnto_snoc,← List.take_succ_eq_append_getElem h]
 have:=h1 (l.take (r+1)) (l.drop (r+1))
 rw [List.take_append_drop] at this
 exact this
set_option maxRecDepth 100000 in
set_option maxHeartbeats 16000000 in
theorem laid_or {kids:List Ns} (ih:∀ x∈kids,ForkC x) {mn mx:Int}:LaidC (.mk 3 [] kids mn mx):=by
 intro W O B v pv m i h hp hob hi hr
 have hpv:=hp
 obtain ⟨p0,c0,p1,c1,p2,c2,rfl⟩:=h.form
 obtain ⟨sp,sc,kp,kc,rfl,hlens,hsl,hspn,hspB,hk⟩:=hp.read
 obtain ⟨n,hn⟩:∃ n,n=m.tg.length:=⟨_,rfl⟩
 rw [← hn] at h ⊢
 have hnl:m.len=n:=by rw [hn];rfl
 obtain ⟨sln,hsln⟩:∃ k,k=List.length ([]:List Sp):=⟨_,rfl⟩
 rw [← hsln] at hpv ⊢
 obtain ⟨kn,hkn⟩:∃ k,k=List.length kids:=⟨_,rfl⟩
 rw [← hkn] at hpv ⊢
 obtain ⟨kz,hkz⟩:∃ z:Int,z=((3:Nat):Int):=⟨_,rfl⟩
 rw [← hkz] at hpv ⊢
 obtain ⟨nd,hnd⟩:∃ nd:Array Value,nd = #[.int .u8 kz,.slice sp sln sc,.slice kp kn kc,.int .i64 mn,.int .i64 mx]:=⟨_,rfl⟩
 obtain ⟨V,hV⟩:∃ V,V=((W.alloc (.cells #[.slice p0 n c0,.slice p1 n c1,.slice p2 n c2] 29)).alloc (.cells #[.int .u8 kz,.slice sp sln sc,.slice kp kn kc,.int .i64 mn,.int .i64 mx] 48)).alloc (.cells #[.slice none 0 0,.slice none 0 0,.slice none 0 0] 29):=⟨_,rfl⟩
 have L0:Lw W O B nd V #[.slice p0 n c0,.slice p1 n c1,.slice p2 n c2] m:=Lw.start h hob (by rw [hV,hnd])
 have HL0:=Lib.hid L0
 have HOB:=Lib.hid hob
 have HPV:=Lib.hid hpv
 have HRM:=Lib.hid hr
 have HIL:=Lib.hid hi
 have HNL:=Lib.hid hnl
 have HSLN:=Lib.hid hsln
 have HKN:=Lib.hid hkn
 have HSET:=Lib.hid (And.intro hsl (And.intro hspn hspB))
 have HNC:=Lib.hid (fun (X:World) (bx:Array Value) (m':Mc) (hL:Lw W O B nd X bx m')=>cells5 (by have:=hL.b1;rw [hnd] at this;exact this))
 have hn8:n≤100000:=by have:=hr.2.2;omega
 have hkn8:kn≤1000:=by rw [hkn];exact hlens.2
 obtain rfl:kz=3:=by rw [hkz];rfl
 have HKID:Hid (∀ r (hr:r < kids.length),∃ g a b c d e,kp=some ⟨g,0,none⟩∧RVB W B (.agg #[a,b,c,d,e]) kids[r]∧∀ (X:World) (bx:Array Value) (m':Mc),Lw W O B nd X bx m'→(X.cell? ⟨g,r*5,none⟩=some a∧X.cell? ⟨g,r*5+1,none⟩=some b∧X.cell? ⟨g,r*5+2,none⟩=some c∧X.cell? ⟨g,r*5+3,none⟩=some d∧X.cell? ⟨g,r*5+4,none⟩=some e)):=Lib.hid (fun r hr=>by
  obtain ⟨g,e1,hB,hgW,hkid⟩:=hk (by intro e;rw [e] at hr;cases hr)
  obtain ⟨a,b,c,d,e,hv,r0,r1,r2,r3,r4⟩:=hkid r hr
  exact ⟨g,a,b,c,d,e,e1,hv,fun X bx m' hL=>⟨(hL.old hob hB _).trans r0,(hL.old hob hB _).trans r1,(hL.old hob hB _).trans r2,(hL.old hob hB _).trans r3,(hL.old hob hB _).trans r4⟩⟩)
 obtain ⟨e0,e1,e2,e3,e4⟩:=HNC.out _ _ _ L0
 obtain ⟨⟨a0,a1,a2⟩,_⟩:=cells3 L0.b0
 clear hn hnl L0 h hp hpv hob hi hr hk hnd hsln hkn hkz hlens hsl hspn hspB
 go_enter Tryz.func55,Tryz.ntmps55
 go_upto_region 1 with fail
 rw [← hV]
 clear hV
 have HLF:Hid (laidF (.mk 3 [] kids mn mx) m i=(orF kids (stF m) i n,n)):=Lib.hid (by rw [laidF,HNL.out];rfl)
 have HRC:Hid (Room m (cntO kids+1)):=Lib.hid (by have:=HRM.out;rw [cntS] at this;exact this)
 have HST:=Lib.hid (state_at HL0.out.ws HOB.out (by omega) (by rw [HNL.out];omega))
 rw [HNL.out] at HST
 go_wp2_with fail
 refine HST.out.mono ?_
 rintro ee w3 ⟨u0,t0,u1,t1,u2,t2,rfl,hw3,hk3⟩
 obtain ⟨⟨g0,g1,g2⟩,f0,f1,f2⟩:=cells3 (HL0.out.mid hk3).1
 have hLN:=HL0.out.next HOB.out hw3 hk3
 clear hk3 hw3 HST a0 a1 a2 e0 e1 e2 e3 e4
 go_upto_region 14 with fail
 obtain ⟨Y,hY⟩:∃ Y,Y=put3 w3 W.heap.size (.slice u0 (n+1) t0) (.slice u1 (n+1) t1) (.slice u2 (n+1) t2):=⟨_,rfl⟩
 rw [← hY] at hLN
 unfold put3 at hY
 rw [← hY]
 clear hY g0 g1 g2 f0 f1 f2
 have HLN:=Lib.hid hLN
 obtain ⟨⟨a0,a1,a2⟩,_⟩:=cells3 hLN.b0
 clear hLN
 have hwn:wrap64 (((n+1:Nat):Int) - 1)=(n:Int):=by rw [IntWalk.wrap64_in _ (by omega)];omega
 obtain ⟨m1,hm1⟩:∃ m1,m1=stF m:=⟨_,rfl⟩
 have hm1l:m1.len=n+1:=by rw [hm1,len_st,HNL.out]
 rw [← hm1] at HLN HLF
 have HM1:Hid (m1.len=n+1∧frs m1=frs m∧eds m1=eds m∧i < m1.len):=Lib.hid ⟨hm1l,by rw [hm1,frs_st],by rw [hm1,eds_st],by have:=HIL.out;have:=HNL.out;omega⟩
 have HSTP:=Lib.hid (fun r=>or_stp (kids.take r) m1 i n (by omega))
 clear hm1 hm1l
 go_wp2_with fail
 go_loopg [11] kn (fun gk s11 wx=>∃ (r:Nat) (q0:Option Addr) (d0:Nat) (q1:Option Addr) (d1:Nat) (q2:Option Addr) (d2 l:Nat),r+gk=kn∧s11=.int .i64 r∧Hid (Lw W O B nd wx #[.slice q0 l d0,.slice q1 l d1,.slice q2 l d2] (orF (kids.take r) m1 i n)))
 case atStart=>exact ⟨0,_,_,_,_,_,_,_,by omega,rfl,by rw [List.take_zero,orF];exact HLN⟩
 case round =>
  obtain ⟨r,q0,d0,q1,d1,q2,d2,l,hrg,rfl,HL⟩:=hrel
  clear a0 a1 a2
  obtain ⟨e0,e1,e2,e3,e4⟩:=HNC.out _ _ _ HL.out
  obtain ⟨⟨a0,a1,a2⟩,_⟩:=cells3 HL.out.b0
  cases gk with
  | zero =>
   obtain rfl:r=kn:=by omega
   have hlt:¬ (r:Int) < (r:Int):=by omega
   have HE:=Lib.hid ((HL.out.ws.put3 HOB.out (by omega) (b:=W.heap.size+1+1) (by omega) (by omega) (.slice q0 l d0) (.slice q1 l d1) (.slice q2 l d2)).fin (by omega))
   have HTK:Hid (orF (kids.take r) m1 i n=orF kids m1 i n):=Lib.hid (by rw [List.take_of_length_le (by have:=HKN.out;omega)])
   rw [HTK.out] at HE
   obtain ⟨_,f0,f1,f2⟩:=cells3 HL.out.b2
   obtain ⟨x0,x1,x2⟩:=(cells3 HL.out.b2).1
   go_wp2
   refine ret_laid rfl rfl HL.out.b2 ?_
   rw [HLF.out]
   exact ⟨_,rfl,HE.out⟩
  | succ gk =>
   have hlt:(r:Int) < (kn:Int):=by omega
   have hrl:r < kids.length:=by have:=HKN.out;omega
   have h0:(0:Int)≤(r:Int):=by omega
   have hwr:wrap64 ((r:Int)+1)=((r+1:Nat):Int):=by rw [IntWalk.wrap64_in _ (by omega)];omega
   obtain ⟨g,a,b,c,d,e,rfl,hv,hcell⟩:=HKID.out r hrl
   obtain ⟨b0,b1,b2,b3,b4⟩:=hcell _ _ _ HL.out
   have HRR:Hid (Room (orF (kids.take r) m1 i n) (cntS kids[r]+1)):=Lib.hid (by
    have a:=HSTP.out r
    have b:=cnto_take kids r hrl
    have c:=HRC.out
    have d:=HM1.out
    have e:=HNL.out
    unfold Room at c ⊢
    omega)
   have HSN:Hid (orF (kids.take (r+1)) m1 i n=frF (forkB (laidF kids[r]) (orF (kids.take r) m1 i n) i).1 (forkB (laidF kids[r]) (orF (kids.take r) m1 i n) i).2 n):=Lib.hid (by rw [List.take_succ_eq_append_getElem hrl,or_snoc])
   have HIX:Hid (i < (orF (kids.take r) m1 i n).len):=Lib.hid (by have a:=HSTP.out r;have d:=HM1.out;omega)
   obtain ⟨mr,hmr⟩:∃ mr,mr=orF (kids.take r) m1 i n:=⟨_,rfl⟩
   rw [← hmr] at HSN HRR HL HIX
   have HFK:=Lib.hid ((ih kids[r] (List.getElem_mem hrl)).at HL.out.drew.ws HOB.out (by omega) hv HIX.out HRR.out)
   have HSF:=Lib.hid (fork_stp (laid_stp kids[r]) mr i)
   have HRF:Hid (Room (forkB (laidF kids[r]) mr i).1 0):=Lib.hid (HRR.out.stp HSF.out.to (by omega))
   generalize forkB (laidF kids[r]) mr i=fk at HFK HSF HRF HSN
   clear hv hcell hmr
   go_wp2_with fail
   go_region_with (first
    | (go_at_call 29;refine HFK.out.mono ?_;rintro ee w4 ⟨u0,t0,u1,t1,u2,t2,l4,rfl,hw4,hk4⟩;obtain ⟨⟨g0,g1,g2⟩,f0,f1,f2⟩:=cells3 (HL.out.drew.mid hk4).1;have HLQ:=Lib.hid (HL.out.drew.next HOB.out hw4 hk4);clear hw4 hk4))
   all_goals
    obtain ⟨Z,hZ⟩:∃ Z,Z=put3 w4 W.heap.size (.slice u0 l4 t0) (.slice u1 l4 t1) (.slice u2 l4 t2):=⟨_,rfl⟩
    rw [← hZ] at HLQ
    unfold put3 at hZ
    rw [← hZ]
    clear hZ g0 g1 g2 f0 f1 f2 a0 a1 a2 b0 b1 b2 b3 b4 e0 e1 e2 e3 e4 HFK
    obtain ⟨⟨a0,a1,a2⟩,_⟩:=cells3 HLQ.out.b0
    have HFR:=Lib.hid (free_at (i:=fk.2) (t:=(n:Int)) HLQ.out.ws HOB.out (by omega) HSF.out.lt (by have:=HRF.out.2.2;omega) (HRF.out.row _))
    go_wp2_with fail
    refine HFR.out.mono ?_
    rintro ee w6 ⟨r0,s0,r1,s1,r2,s2,rfl,hw6,hk6⟩
    obtain ⟨⟨g0,g1,g2⟩,f0,f1,f2⟩:=cells3 (HLQ.out.mid hk6).1
    have HLP:=Lib.hid (HLQ.out.next HOB.out hw6 hk6)
    rw [← HSN.out] at HLP
    clear hk6 hw6 HFR a0 a1 a2
    go_wp2
    go_roundg gk
    case measure=>omega
    case rel=>exact ⟨r+1,_,_,_,_,_,_,_,by omega,by first | rw [hwr] | rfl | simp,HLP⟩
end Go.Proofs.YtioahgklplbinaaGreatDoor
namespace Go.Proofs.YtioahgklplbinaaGreatDoor
open Go.RowKit Go.Shelf Go.Maps SetM PropsM RxM WrM NfaM
theorem Lw.edge {W Z X V2 : World} {O B : Nat → Prop} {nd : Array Value} {a b c : Value} {m1 m2 : Mc} {R R2 : Nat → Rw} (hL : Lw W O B nd Z #[a, b, c] m1) (hob : OB W O B) (hO : ∀ k, Has (3 + 2 * m1.tg.length) R k → O k ∨ W.heap.size + 3 ≤ k) (hX : Below Z.heap.size Z X)
  (h2:MVx V2 B R2 m2) (hl:m2.tg.length=m1.tg.length) (hh:∀ k,Has (3+2*m1.tg.length) R2 k→Has (3+2*m1.tg.length) R k∨k=X.heap.size) (ho:∀ k,k < X.heap.size→¬ Has (3+2*m1.tg.length) R k→V2.heap[k]? = X.heap[k]?) (hw:X.heap.size≤V2.heap.size∧V2.os=X.os∧V2.tape=X.tape∧V2.output=X.output)
  (e0:a=(R2 0).v) (e1:b=(R2 1).v) (e2:c=(R2 2).v):Lw W O B nd V2 #[a,b,c] m2:=by
 have hz:=hL.ws.size
 have hzx:=hX.size
 have hbox:∀ k,W.heap.size≤k→k < W.heap.size+3→V2.heap[k]? = Z.heap[k]?:=fun k h1 h2=>by
  rw [ho k (by omega) (fun hk=>by
   rcases hO k hk with h3 | h3
   ·have:=(hob.o k h3).1;omega
   ·omega),hX.block k (by omega)]
 refine ⟨(hbox _ (by omega) (by omega)).trans hL.b0,(hbox _ (by omega) (by omega)).trans hL.b1,(hbox _ (by omega) (by omega)).trans hL.b2,⟨⟨R2,h2,by rw [e0,e1,e2],fun k hk=>?_⟩,hw.2.1.trans (hX.os.trans hL.ws.os),hw.2.2.1.trans (hX.tape.trans hL.ws.tape),hw.2.2.2.trans (hX.output.trans hL.ws.output),by omega,fun k hk hn=>?_⟩⟩
 ·rw [hl] at hk
  rcases hh k hk with hk | hk
  ·exact hO k hk
  ·right;omega
 ·rw [ho k (by omega) (fun hk2=>by
   rcases hO k hk2 with h3 | h3
   ·exact hn h3
   ·omega),hX.block k (by omega)]
  exact hL.ws.old k hk hn
set_option maxRecDepth 100000 in
set_option maxHeartbeats 16000000 in
theorem laid_chars {sl:List Sp} {mn mx:Int}:LaidC (.mk 1 sl [] mn mx):=by
 intro W O B v pv m i h hp hob hi hr
 have hpv:=hp
 obtain ⟨p0,c0,p1,c1,p2,c2,rfl⟩:=h.form
 obtain ⟨sp,sc,kp,kc,rfl,hlens,hsl,hspn,hspB,hk⟩:=hp.read
 obtain ⟨n,hn⟩:∃ n,n=m.tg.length:=⟨_,rfl⟩
 rw [← hn] at h ⊢
 have hnl:m.len=n:=by rw [hn];rfl
 obtain ⟨sln,hsln⟩:∃ k,k=List.length sl:=⟨_,rfl⟩
 rw [← hsln] at hpv ⊢
 obtain ⟨kn,hkn⟩:∃ k,k=List.length ([]:List Ns):=⟨_,rfl⟩
 rw [← hkn] at hpv ⊢
 obtain ⟨kz,hkz⟩:∃ z:Int,z=((1:Nat):Int):=⟨_,rfl⟩
 rw [← hkz] at hpv ⊢
 obtain ⟨nd,hnd⟩:∃ nd:Array Value,nd = #[.int .u8 kz,.slice sp sln sc,.slice kp kn kc,.int .i64 mn,.int .i64 mx]:=⟨_,rfl⟩
 obtain ⟨V,hV⟩:∃ V,V=((W.alloc (.cells #[.slice p0 n c0,.slice p1 n c1,.slice p2 n c2] 29)).alloc (.cells #[.int .u8 kz,.slice sp sln sc,.slice kp kn kc,.int .i64 mn,.int .i64 mx] 48)).alloc (.cells #[.slice none 0 0,.slice none 0 0,.slice none 0 0] 29):=⟨_,rfl⟩
 have L0:Lw W O B nd V #[.slice p0 n c0,.slice p1 n c1,.slice p2 n c2] m:=Lw.start h hob (by rw [hV,hnd])
 have HL0:=Lib.hid L0
 have HOB:=Lib.hid hob
 have HPV:=Lib.hid hpv
 have HRM:=Lib.hid hr
 have HIL:=Lib.hid hi
 have HNL:=Lib.hid hnl
 have HSLN:=Lib.hid hsln
 have HKN:=Lib.hid hkn
 have HSET:=Lib.hid (And.intro hsl (And.intro hspn hspB))
 have HLEN:=Lib.hid hlens
 have HNC:=Lib.hid (fun (X:World) (bx:Array Value) (m':Mc) (hL:Lw W O B nd X bx m')=>cells5 (by have:=hL.b1;rw [hnd] at this;exact this))
 have hn8:n≤100000:=by have:=hr.2.2;omega
 have hkn8:kn≤1000:=by rw [hkn];exact hlens.2
 obtain rfl:kz=1:=by rw [hkz];rfl
 obtain ⟨e0,e1,e2,e3,e4⟩:=HNC.out _ _ _ L0
 obtain ⟨⟨a0,a1,a2⟩,_⟩:=cells3 L0.b0
 clear hn hnl L0 h hp hpv hob hi hr hk hnd hsln hkn hkz hlens hsl hspn hspB
 go_enter Tryz.func55,Tryz.ntmps55
 go_upto_region 1 with fail
 rw [← hV]
 clear hV
 have HLF:Hid (laidF (.mk 1 sl [] mn mx) m i=(edF (stF m) i (n:Int) sl,n)):=Lib.hid (by rw [laidF,HNL.out];rfl)
 have HRC:Hid (Room m 1):=Lib.hid (by have:=HRM.out;rw [cntS] at this;exact this)
 have HST:=Lib.hid (state_at HL0.out.ws HOB.out (by omega) (by rw [HNL.out];omega))
 rw [HNL.out] at HST
 go_wp2_with fail
 refine HST.out.mono ?_
 rintro ee w3 ⟨u0,t0,u1,t1,u2,t2,rfl,hw3,hk3⟩
 obtain ⟨⟨g0,g1,g2⟩,f0,f1,f2⟩:=cells3 (HL0.out.mid hk3).1
 have hLN:=HL0.out.next HOB.out hw3 hk3
 clear hk3 hw3 HST a0 a1 a2 e0 e1 e2 e3 e4
 go_upto_region 4 with fail
 obtain ⟨Y,hY⟩:∃ Y,Y=put3 w3 W.heap.size (.slice u0 (n+1) t0) (.slice u1 (n+1) t1) (.slice u2 (n+1) t2):=⟨_,rfl⟩
 rw [← hY] at hLN
 unfold put3 at hY
 rw [← hY]
 clear hY g0 g1 g2 f0 f1 f2
 have hwn:wrap64 (((n+1:Nat):Int) - 1)=(n:Int):=by rw [IntWalk.wrap64_in _ (by omega)];omega
 obtain ⟨m1,hm1⟩:∃ m1,m1=stF m:=⟨_,rfl⟩
 rw [← hm1] at hLN HLF
 have hm1l:m1.tg.length=n+1:=by rw [hm1];have:=len_st m;rw [HNL.out] at this;exact this
 have him:i < m1.tg.length:=by have:=HIL.out;have:=HNL.out;omega
 obtain ⟨R,hR,hbx,hO⟩:=hLN.ws.mv
 have hre:=hR.re i him
 have q0:=rw_eta hR.r0
 have qr:=rw_eta hre
 have hx0:=hR.r0.2.2.2
 obtain ⟨le,hle⟩:∃ le,le=(m1.ed.getD i []).length:=⟨_,rfl⟩
 have h9:le≤1000000:=by
  have a:=row_le m1.ed i
  have b:=eds_st m
  have c:=HRC.out
  rw [← hm1] at b
  unfold eds at b
  unfold Room eds at c
  omega
 rw [← hle] at qr
 rw [hm1l] at q0 hx0
 injection hbx with hbx
 injection hbx with hbx
 simp only [List.cons.injEq,and_true] at hbx
 obtain ⟨hv0,hv1,hv2⟩:=hbx
 obtain ⟨vr,hvr⟩:∃ v,v=(R (3+2*i)).v:=⟨_,rfl⟩
 obtain ⟨xr,hxr⟩:∃ x,x=(R (3+2*i)).xs:=⟨_,rfl⟩
 obtain ⟨x0,hxx0⟩:∃ x,x=(R 0).xs:=⟨_,rfl⟩
 rw [← hvr,← hxr] at qr
 rw [← hv0,← hxx0] at q0
 rw [← hxx0] at hx0
 have hxi:x0[i]? = some vr:=by rw [hx0,hvr];simp [show i < n+1 by omega]
 have hokY:(⟨40,1,.slice u0 (n+1) t0,n+1,x0⟩:Rw).ok Y:=by rw [← q0];exact hR.fam.own 0 (by omega)
 obtain ⟨gE,cE,hvE,hgE⟩:=hokY.form (by omega)
 obtain ⟨rfl,rfl⟩:u0=some ⟨gE,0,none⟩∧t0=cE:=by injection hvE with h1 h2 h3;exact ⟨h1,h3⟩
 have hF:=(hokY.at (i:=i) (by omega)).1.trans hxi
 have hFf:=(hokY.at (i:=i) (by omega)).2
 obtain ⟨X,hX⟩:∃ X,X=(Y.alloc (.cells #[.int .i64 (n:Int),.slice sp sln sc] 43)).drew:=⟨_,rfl⟩
 have hbX:Below Y.heap.size Y X:=by rw [hX];exact ((Below.refl _ _).alloc (Nat.le_refl _) _).drew
 have hRX:MVx X B R m1:=hR.kept hbX.size (fun k hk=>hbX.block k (hk.elim (fun h=>hR.fam.lt h) (fun h=>hR.bl k h)))
 have hokX:(⟨40,1,.slice (some ⟨gE,0,none⟩) (n+1) t0,n+1,x0⟩:Rw).ok X:=by rw [← q0];exact hRX.fam.own 0 (by omega)
 have hFX:=(hokX.at (i:=i) (by omega)).1.trans hxi
 have hFfX:=(hokX.at (i:=i) (by omega)).2
 have hokr:(⟨43,2,vr,le,xr⟩:Rw).ok X:=by rw [← qr];exact hRX.fam.own (3+2*i) (by omega)
 have hE2:EdC X B [.int .i64 (n:Int),.slice sp sln sc] [((n:Int),sl)]:=by
  refine EdC.kept (W:=W) (by have:=hLN.ws.size;have:=hbX.size;omega) (fun k hk=>?_) ⟨⟨sp,sc,rfl,by rw [HSLN.out],HLEN.out.1,HSET.out.1,HSET.out.2.1,HSET.out.2.2⟩,trivial⟩
  have:=HOB.out.b k hk
  rw [hbX.block k (by have:=hLN.ws.size;omega)]
  exact hLN.ws.old k this (fun ho=>(HOB.out.o k ho).2 hk)
 have HEA:Hid (∀ (g p:Nat) (w1 V2:World),((⟨43,2,vr,le,xr⟩:Rw).more g p [.int .i64 (n:Int),.slice sp sln sc]).ok w1→X.grownBy w1 vr.ownBlock→(vr.ownBlock=some g∨g=X.heap.size)→V2=w1.setCell ⟨gE,i,none⟩ (.slice (some ⟨g,0,none⟩) (le+1) p)→Lw W O B nd V2 #[.slice (some ⟨gE,0,none⟩) (n+1) t0,.slice u1 (n+1) t1,.slice u2 (n+1) t2] (edF m1 i (n:Int) sl)):=Lib.hid (by
  intro g p w1 V2 k1 k2 k3 hV2
  have hm:=hRX.edge (i:=i) (t:=(n:Int)) (sl:=sl) him (r:=(⟨43,2,vr,le,xr⟩:Rw).more g p [.int .i64 (n:Int),.slice sp sln sc]) (g:=g) (W1:=w1) (by rw [qr];exact k2) k1 rfl (by rw [qr];exact k3) ⟨rfl,rfl,by rw [← hle];rfl,by rw [qr];rfl⟩ hE2 (by rw [← hv0,hm1l])
  have hz:=k2.size
  rw [hV2]
  exact Lw.edge (X:=X) (m1:=m1) (R:=R) hLN HOB.out hO hbX hm.1 rfl hm.2.1 hm.2.2 ⟨by rw [World.size_setCell];exact hz,k2.os,k2.tape,k2.output⟩ (by rw [upd_same];exact hv0) (by rw [upd_other _ _ (by omega),upd_other _ _ (by omega)];exact hv1) (by rw [upd_other _ _ (by omega),upd_other _ _ (by omega)];exact hv2))
 have HW1:Hid (∀ (g p:Nat) (w1:World),((⟨43,2,vr,le,xr⟩:Rw).more g p [.int .i64 (n:Int),.slice sp sln sc]).ok w1→X.grownBy w1 vr.ownBlock→(vr.ownBlock=some g∨g=X.heap.size)→(w1.cell? ⟨gE,i,none⟩=some vr∧w1.frozen? ⟨gE,i,none⟩=false)∧(w1.cell? ⟨W.heap.size,0,none⟩=some (.slice (some ⟨gE,0,none⟩) (n+1) t0))):=Lib.hid (by
  intro g p w1 k1 k2 k3
  have hgr:=(hRX.fam.grow (i:=3+2*i) (by omega) (g:=g) (by rw [qr];exact k2) k1 rfl (by rw [qr];exact k3)).1.own 0 (by omega)
  rw [upd_other _ _ (by omega),q0] at hgr
  refine ⟨⟨(hgr.at (i:=i) (by omega)).1.trans hxi,(hgr.at (i:=i) (by omega)).2⟩,?_⟩
  have hbx:w1.heap[W.heap.size]? = X.heap[W.heap.size]?:=k2.block _ (by have:=hLN.ws.size;have:=hbX.size;omega) (fun e=>by
   have:Has (3+2*m1.tg.length) R W.heap.size:=⟨3+2*i,by omega,by rw [qr];exact e.symm⟩
   rcases hO _ this with h3 | h3
   ·have:=(HOB.out.o _ h3).1;omega
   ·omega)
  exact (cells3 (hbx.trans ((hbX.block _ (by have:=hLN.ws.size;omega)).trans hLN.b0))).1.1)
 obtain ⟨⟨a0,a1,a2⟩,_⟩:=cells3 hLN.b0
 obtain ⟨e0,e1,e2,e3,e4⟩:=HNC.out _ _ _ hLN
 obtain ⟨⟨y0,y1,y2⟩,_⟩:=cells3 ((hbX.block W.heap.size (by have:=hLN.ws.size;omega)).trans hLN.b0)
 have hsY:=hLN.ws.size
 have hLX:Lw W O B nd X #[.slice (some ⟨gE,0,none⟩) (n+1) t0,.slice u1 (n+1) t1,.slice u2 (n+1) t2] m1:=⟨(hbX.block _ (by omega)).trans hLN.b0,(hbX.block _ (by omega)).trans hLN.b1,(hbX.block _ (by omega)).trans hLN.b2,hLN.ws.other HOB.out (by omega) hbX.size hbX.os hbX.tape hbX.output (fun k hk _=>hbX.block k hk)⟩
 obtain ⟨z0,z1,z2,z3,z4⟩:=HNC.out _ _ _ hLX
 have HB0:=Lib.hid (fun (V2:World) (m2:Mc) (h:Lw W O B nd V2 #[.slice (some ⟨gE,0,none⟩) (n+1) t0,.slice u1 (n+1) t1,.slice u2 (n+1) t2] m2)=>h)
 have hnew:=heap_alloc_new Y (.cells #[.int .i64 (n:Int),.slice sp sln sc] 43)
 have h0:(0:Int)≤(i:Int):=by omega
 have hlt:(i:Int) < ((n+1:Nat):Int):=by omega
 have hlt2:(i:Int) < (n:Int)+1:=by omega
 have HLFE:=Lib.hid HLF.out
 subst hX
 clear hsY hLX hE2 hbX hRX hokX hokY hLN hR hO hre q0 qr hx0 hle hv0 hv1 hv2 hvr hxr hxx0 hxi hvE hgE hm1 hm1l him HB0
 go_upto_region 5 with fail
 go_cut [] (fun wc=>Hid (Lw W O B nd wc #[.slice (some ⟨gE,0,none⟩) (n+1) t0,.slice u1 (n+1) t1,.slice u2 (n+1) t2] (edF m1 i (n:Int) sl)))
 case first =>
  go_region_law (first
   | (refine step_fam (by rfl) _ _ 40 (by rfl) ⟨43,2,vr,le,xr⟩ Tryz.underlying40 infoE8 rfl Nat.zero_lt_two (by decide) hokr (by rfl) Y.heap.size (by rfl) [.int .i64 (n:Int),.slice sp sln sc] hnew rfl (by simp [Value.oneCell']) h9 ?_;intro g p w1 k1 k2 k3;obtain ⟨⟨d0,d1⟩,d2⟩:=HW1.out g p w1 k1 k2 k3))
  all_goals
   have he:=Lib.hid (HEA.out g p w1 _ k1 k2 k3 rfl)
   clear k1 k2 k3 d0 d1 d2 a0 a1 a2 e0 e1 e2 e3 e4 y0 y1 y2 z0 z1 z2 z3 z4 hF hFf hFX hFfX hokr hnew HEA HW1
   go_wp2
   go_meet
   exact he
 case rest =>
  clear a0 a1 a2 e0 e1 e2 e3 e4 y0 y1 y2 z0 z1 z2 z3 z4 hF hFf hFX hFfX hokr hnew HEA HW1
  obtain ⟨⟨a0,a1,a2⟩,_⟩:=cells3 hcut.out.b0
  have HE:=Lib.hid ((hcut.out.ws.put3 HOB.out (by omega) (b:=W.heap.size+1+1) (by omega) (by omega) (.slice (some ⟨gE,0,none⟩) (n+1) t0) (.slice u1 (n+1) t1) (.slice u2 (n+1) t2)).fin (by omega))
  obtain ⟨_,f0,f1,f2⟩:=cells3 hcut.out.b2
  obtain ⟨x0,x1,x2⟩:=(cells3 hcut.out.b2).1
  go_wp2
  refine ret_laid rfl rfl hcut.out.b2 ?_
  rw [HLFE.out]
  exact ⟨_,rfl,HE.out⟩
end Go.Proofs.YtioahgklplbinaaGreatDoor
namespace Go.Proofs.YtioahgklplbinaaGreatDoor
open Go.RowKit Go.Shelf Go.Maps SetM PropsM RxM WrM NfaM
theorem laid_all : ∀ (u : Ns), Shp u → LaidC u
 | .mk k sl kids mn mx,h=>by
  rw [shp_mk,shpL_iff] at h
  obtain ⟨hs,hk⟩:=h
  have ih:∀ x∈kids,LaidC x:=fun x _hx=>laid_all x (hk x _hx)
  rcases hs with ⟨rfl,rfl,h0,rfl,rfl⟩ | ⟨rfl,h0,rfl,rfl,_⟩ | ⟨h23,_,rfl,rfl,rfl⟩ | ⟨rfl,h1,rfl,hmn,hmx⟩
  ·obtain rfl := List.length_eq_zero_iff.1 h0
   exact laid_empty
  ·obtain rfl := List.length_eq_zero_iff.1 h0
   exact laid_chars
  ·rcases h23 with rfl | rfl
   ·exact laid_cat ih
   ·exact laid_or (fun x hx=>fork_c (ih x hx))
  ·obtain ⟨x, rfl⟩ := List.length_eq_one_iff.1 h1
   exact laid_rep (fork_c (ih x (by simp))) hmn hmx
termination_by u=>SizeOf.sizeOf u
decreasing_by
 have:=List.sizeOf_lt_of_mem (show x∈kids from _hx)
 simp only [Ns.mk.sizeOf_spec]
 omega
theorem fork_all (u:Ns) (h:Shp u):ForkC u:=fork_c (laid_all u h)
end Go.Proofs.YtioahgklplbinaaGreatDoor
