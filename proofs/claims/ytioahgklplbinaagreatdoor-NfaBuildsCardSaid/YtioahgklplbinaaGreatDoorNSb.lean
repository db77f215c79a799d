/- NSm, NRBuild, NRs, NBuilds, in one text. -/
import Derived.Test.YtioahgklplbinaaGreatDoorNSo
import Derived.Test.YtioahgklplbinaaGreatDoorNLM
import Derived.Test.YtioahgklplbinaaGreatDoorNPa
import Derived.Test.YtioahgklplbinaaGreatDoorNBa
import Derived.Deep.RegionWith
import Derived.Deep.DeepCutAuto
import Derived.Deep.CutRange
/- The document's Same of machines, at what reads as one machine. -/
namespace Go.Proofs.YtioahgklplbinaaGreatDoor
open Go.RowKit Go.Shelf Go.Maps SetM PropsM RxM WrM NfaM
set_option maxRecDepth 100000 in
set_option maxHeartbeats 8000000 in
theorem same_c {W:World} {P Q:Option Addr} {n c d:Nat} {l:List Int} (hn:n=l.length) (h8:n≤9223372036854775807) (hp:InR W P l) (hq:InR W Q l):Calls Tryz.prog 31 #[.slice P n c,.slice Q n d] W fun e W'=>e=.returned (.bool true)∧Below W.heap.size W W':=by
 have HP:=Lib.hid hp
 have HQ:=Lib.hid hq
 have HN:=Lib.hid hn
 have hnn:((n:Int) != (n:Int))=false:=by rw [bne_eq_false_iff_eq]
 clear hn hp hq
 go_enter Tryz.func31,Tryz.ntmps31
 go_wp2_with fail
 go_loopg [5] n (fun gk s5 wx=>∃ r:Nat,r+gk=n∧s5=.int .i64 r∧Hid (Below W.heap.size W wx))
 case atStart=>exact ⟨0,by omega,rfl,Lib.hid (Below.refl _ _)⟩
 case round =>
  obtain ⟨r,hrg,rfl,HB⟩:=hrel
  clear hnn
  cases gk with
  | zero =>
   obtain rfl:r=n:=by omega
   have hlt:¬ (r:Int) < (r:Int):=by omega
   go_wp2
   go_ret
   exact ⟨rfl,HB.out⟩
  | succ gk =>
   have hlt:(r:Int) < (n:Int):=by omega
   have hrl:r < l.length:=by have:=HN.out;omega
   have h0:(0:Int)≤(r:Int):=by omega
   have hwr:wrap64 ((r:Int)+1)=((r+1:Nat):Int):=by rw [IntWalk.wrap64_in _ (by omega)];omega
   have hb:=HB.out.drew
   obtain ⟨g,o,rfl,hg,c1⟩:=(HP.out.step hb) r hrl
   obtain ⟨g',o',rfl,hg',c2⟩:=(HQ.out.step hb) r hrl
   generalize l[r]=x at c1 c2
   have hxx:(x != x)=false:=by rw [bne_eq_false_iff_eq]
   have HBD:=Lib.hid hb
   clear hb hg hg'
   go_wp2_with fail
   go_region
   all_goals
    clear c1 c2
    go_wp2
    go_roundg gk
    case measure=>omega
    case rel=>exact ⟨r+1,by omega,by first | rw [hwr] | rfl | simp,HBD⟩
set_option maxRecDepth 100000 in
set_option maxHeartbeats 16000000 in
theorem sameM_c {W : World} {p0 p1 p2 q0 q1 q2 : Option Addr} {n0 n1 n2 c0 c1 c2 d0 d1 d2 : Nat} {m : Mc} (h : MR W p0 p1 p2 m) (h' : MR W q0 q1 q2 m) (e0 : n0 = m.ed.length) (e1 : n1 = m.fr.length) (e2 : n2 = m.tg.length) (e01 : n0 = n1) (hl : n0 ≤ 1000000 ∧ n2 ≤ 1000000) (hed : ∀ i < m.ed.length, (m.ed.getD i []).length ≤ 1000000 ∧ ∀ e ∈ m.ed.getD i [], e.2.length ≤ 1000000) (hfr : ∀ i < m.fr.length, (m.fr.getD i []).length ≤ 1000000) :
  Calls Tryz.prog 11 #[.agg #[.slice p0 n0 c0,.slice p1 n1 c1,.slice p2 n2 c2],.agg #[.slice q0 n0 d0,.slice q1 n1 d1,.slice q2 n2 d2]] W fun e W'=>e=.returned (.bool true)∧Below W.heap.size W W':=by
 subst e01
 obtain ⟨V0,hV0⟩:∃ V,V=W.alloc (.cells #[.slice p0 n0 c0,.slice p1 n0 c1,.slice p2 n2 c2] 29):=⟨_,rfl⟩
 obtain ⟨V,hV⟩:∃ V,V=V0.alloc (.cells #[.slice q0 n0 d0,.slice q1 n0 d1,.slice q2 n2 d2] 29):=⟨_,rfl⟩
 have z0:V0.heap.size=W.heap.size+1:=by rw [hV0,World.size_alloc]
 have z1:V.heap.size=W.heap.size+2:=by rw [hV,World.size_alloc,z0]
 have hb0:Below W.heap.size W V0:=by rw [hV0];exact (Below.refl _ _).alloc (Nat.le_refl _) _
 have hb:Below W.heap.size W V:=by rw [hV];exact hb0.alloc (by omega) _
 have x0:V.heap[W.heap.size]? = some (.cells #[.slice p0 n0 c0,.slice p1 n0 c1,.slice p2 n2 c2] 29 (0,0)):=by rw [hV,Lib.alloc_old _ _ _ (by omega),hV0];exact heap_alloc_new W _
 have x1:V.heap[W.heap.size+1]? = some (.cells #[.slice q0 n0 d0,.slice q1 n0 d1,.slice q2 n2 d2] 29 (0,0)):=by rw [hV,← z0];exact heap_alloc_new V0 _
 have HBX:=Lib.hid (fun (U:World) (hU:Below V.heap.size V U)=>(⟨(cells3 ((hU.block _ (by omega)).trans x0)).1,(cells3 ((hU.block _ (by omega)).trans x1)).1⟩:(U.cell? ⟨W.heap.size,0,none⟩=some (.slice p0 n0 c0)∧U.cell? ⟨W.heap.size,1,none⟩=some (.slice p1 n0 c1)∧U.cell? ⟨W.heap.size,2,none⟩=some (.slice p2 n2 c2))∧(U.cell? ⟨W.heap.size+1,0,none⟩=some (.slice q0 n0 d0)∧U.cell? ⟨W.heap.size+1,1,none⟩=some (.slice q1 n0 d1)∧U.cell? ⟨W.heap.size+1,2,none⟩=some (.slice q2 n2 d2))))
 have HM:=Lib.hid (h.step hb)
 have HM':=Lib.hid (h'.step hb)
 have HST:=Lib.hid (same_c (c:=c2) (d:=d2) e2 (by omega) (h.step hb).tg (h'.step hb).tg)
 have HE:=Lib.hid (And.intro e0 e1)
 have HED:=Lib.hid hed
 have HFR:=Lib.hid hfr
 have HB0:=Lib.hid hb
 obtain ⟨hl1,hl2⟩:=hl
 have hnn:((n0:Int) != (n0:Int))=false:=by rw [bne_eq_false_iff_eq]
 obtain ⟨⟨a0,a1,a2⟩,b0,b1,b2⟩:=HBX.out V (Below.refl _ _)
 clear h h' e0 e1 e2 hed hfr hb hb0 x0 x1 z1
 go_enter Tryz.func11,Tryz.ntmps11
 go_upto_region 1 with fail
 rw [← hV0,← hV]
 clear hV hV0 z0
 go_wp2_with fail
 refine HST.out.mono ?_
 rintro e w0 ⟨rfl,bb⟩
 have HB1:=Lib.hid bb
 clear bb HST a0 a1 a2 b0 b1 b2
 obtain ⟨⟨a0,a1,a2⟩,b0,b1,b2⟩:=HBX.out w0 HB1.out
 go_wp2_with fail
 go_loopg [5] n0 (fun gk s5 wx=>∃ r:Nat,r+gk=n0∧s5=.int .i64 r∧Hid (Below V.heap.size V wx))
 case atStart=>exact ⟨0,by omega,rfl,HB1⟩
 case round =>
  obtain ⟨r,hrg,rfl,HB⟩:=hrel
  obtain ⟨w1,hw1⟩:∃ w1,w1=wr:=⟨_,rfl⟩
  subst hw1
  clear a0 a1 a2 b0 b1 b2 hnn
  obtain ⟨⟨a0,a1,a2⟩,b0,b1,b2⟩:=HBX.out w1 HB.out
  cases gk with
  | zero =>
   obtain rfl:r=n0:=by omega
   have hlt:¬ (r:Int) < (r:Int):=by omega
   have HBE:=Lib.hid (HB0.out.trans (HB.out.mono HB0.out.size))
   go_wp2
   go_ret
   exact ⟨rfl,HBE.out⟩
  | succ gko =>
   have hlt:(r:Int) < (n0:Int):=by omega
   have h0:(0:Int)≤(r:Int):=by omega
   have hwr:wrap64 ((r:Int)+1)=((r+1:Nat):Int):=by rw [IntWalk.wrap64_in _ (by omega)];omega
   have hre:r < m.ed.length:=by have:=HE.out;omega
   have hrf:r < m.fr.length:=by have:=HE.out;omega
   have hM:=HM.out.step HB.out
   have hM':=HM'.out.step HB.out
   obtain ⟨g0,o0,Pe,ce,rfl,hg0,hc0,hed⟩:=hM.ed r hre
   obtain ⟨g1,o1,Pf,cf,rfl,hg1,hc1,hfr⟩:=hM.fr r hrf
   obtain ⟨g2,o2,Qe,de,rfl,hg2,hc2,hed'⟩:=hM'.ed r hre
   obtain ⟨g3,o3,Qf,df,rfl,hg3,hc3,hfr'⟩:=hM'.fr r hrf
   obtain ⟨es,hes⟩:∃ es,es=m.ed[r]:=⟨_,rfl⟩
   rw [← hes] at hc0 hed hc2 hed'
   obtain ⟨fs,hfs⟩:∃ fs,fs=m.fr[r]:=⟨_,rfl⟩
   rw [← hfs] at hc1 hfr hc3 hfr'
   obtain ⟨le,hle⟩:∃ le,le=es.length:=⟨_,rfl⟩
   rw [← hle] at hc0 hc2
   obtain ⟨lf,hlf⟩:∃ lf,lf=fs.length:=⟨_,rfl⟩
   rw [← hlf] at hc1 hc3
   have hE8:=HED.out r hre
   rw [getD_of hre,← hes,← hle] at hE8
   have hF8:=HFR.out r hrf
   rw [getD_of hrf,← hfs,← hlf] at hF8
   have le8:=hE8.1
   have HE8:=Lib.hid hE8.2
   have hee:((le:Int) != (le:Int))=false:=by rw [bne_eq_false_iff_eq]
   have HSF:=Lib.hid (fun (U:World) (hU:Below w1.heap.size w1 U)=>same_c (c:=cf) (d:=df) hlf (by omega) (hfr.step hU) (hfr'.step hU))
   have HCL:=Lib.hid (fun (U:World) (hU:Below w1.heap.size w1 U)=>(⟨HBX.out U (HB.out.trans (hU.mono HB.out.size)),(hU.cell (p:=⟨g0,o0+r,none⟩) hg0).trans hc0,(hU.cell (p:=⟨g1,o1+r,none⟩) hg1).trans hc1,(hU.cell (p:=⟨g2,o2+r,none⟩) hg2).trans hc2,(hU.cell (p:=⟨g3,o3+r,none⟩) hg3).trans hc3⟩:((U.cell? ⟨W.heap.size,0,none⟩=some (.slice (some ⟨g0,o0,none⟩) n0 c0)∧U.cell? ⟨W.heap.size,1,none⟩=some (.slice (some ⟨g1,o1,none⟩) n0 c1)∧U.cell? ⟨W.heap.size,2,none⟩=some (.slice p2 n2 c2))∧(U.cell? ⟨W.heap.size+1,0,none⟩=some (.slice (some ⟨g2,o2,none⟩) n0 d0)∧U.cell? ⟨W.heap.size+1,1,none⟩=some (.slice (some ⟨g3,o3,none⟩) n0 d1)∧U.cell? ⟨W.heap.size+1,2,none⟩=some (.slice q2 n2 d2)))∧U.cell? ⟨g0,o0+r,none⟩=some (.slice Pe le ce)∧U.cell? ⟨g1,o1+r,none⟩=some (.slice Pf lf cf)∧U.cell? ⟨g2,o2+r,none⟩=some (.slice Qe le de)∧U.cell? ⟨g3,o3+r,none⟩=some (.slice Qf lf df)))
   have HEDR:=Lib.hid (And.intro hed hed')
   have HLE:=Lib.hid hle
   clear hM hM' hed hed' hfr hfr' hes hfs hle hlf hE8 hc0 hc1 hc2 hc3 hg0 hg1 hg2 hg3 hre hrf
   go_upto_region 6 with fail
   clear a0 a1 a2 b0 b1 b2
   have hr:Below w1.heap.size w1 w1.drew:=(Below.refl _ _).drew
   go_region_held3 (fun U => ((U.cell? ⟨W.heap.size, 0, none⟩ = some (.slice (some ⟨g0, o0, none⟩) n0 c0) ∧ U.cell? ⟨W.heap.size, 1, none⟩ = some (.slice (some ⟨g1, o1, none⟩) n0 c1) ∧ U.cell? ⟨W.heap.size, 2, none⟩ = some (.slice p2 n2 c2)) ∧ (U.cell? ⟨W.heap.size + 1, 0, none⟩ = some (.slice (some ⟨g2, o2, none⟩) n0 d0) ∧ U.cell? ⟨W.heap.size + 1, 1, none⟩ = some (.slice (some ⟨g3, o3, none⟩) n0 d1) ∧ U.cell? ⟨W.heap.size + 1, 2, none⟩ = some (.slice q2 n2 d2))) ∧ U.cell? ⟨g0, o0 + r, none⟩ = some (.slice Pe le ce) ∧ U.cell? ⟨g1, o1 + r, none⟩ = some (.slice Pf lf cf) ∧ U.cell? ⟨g2, o2 + r, none⟩ = some (.slice Qe le de) ∧ U.cell? ⟨g3, o3 + r, none⟩ = some (.slice Qf lf df))
    (exact HCL.out _ hr)
    (first
     | (go_at_call 31;(refine (HSF.out _ hr).mono ?_);rintro ee w4 ⟨rfl,b4⟩;have hr:=hr.trans (b4.mono hr.size)))
   have HB4:=Lib.hid hr
   clear hr b4 hee
   go_wp2_with fail
   go_loopg [6] le (fun g2k s6 wx=>∃ j:Nat,j+g2k=le∧s6=.int .i64 j∧Hid (Below w1.heap.size w1 wx))
   case atStart=>exact ⟨0,by omega,rfl,HB4⟩
   case round =>
    obtain ⟨j,hjg,rfl,HB2⟩:=hrel
    obtain ⟨⟨⟨a0,a1,a2⟩,b0,b1,b2⟩,y0,y1,y2,y3⟩:=HCL.out wr HB2.out
    cases gk with
    | zero =>
     obtain rfl:j=le:=by omega
     have hlt2:¬ (j:Int) < (j:Int):=by omega
     have HBV:=Lib.hid (HB.out.trans (HB2.out.mono HB.out.size))
     go_wp2
     go_roundg gko
     case measure=>omega
     case rel=>exact ⟨r+1,by omega,by first | rw [hwr] | rfl | simp,HBV⟩
    | succ gki =>
     have hlt2:(j:Int) < (le:Int):=by omega
     have hjl:j < es.length:=by have:=HLE.out;omega
     have hj0:(0:Int)≤(j:Int):=by omega
     have hwj:wrap64 ((j:Int)+1)=((j+1:Nat):Int):=by rw [IntWalk.wrap64_in _ (by omega)];omega
     obtain ⟨g,o,sp,sc,rfl,hg,q1,q2,hsl⟩:=(HEDR.out.1.step HB2.out) j hjl
     obtain ⟨g',o',sp',sc',rfl,hg',q3,q4,hsl'⟩:=(HEDR.out.2.step HB2.out) j hjl
     have hmem:=HE8.out _ (List.getElem_mem hjl)
     generalize es[j]=e at q1 q2 q3 q4 hsl hsl' hmem
     obtain ⟨te,se⟩:=e
     dsimp only at q1 q2 q3 q4 hsl hsl' hmem
     obtain ⟨ln,hln⟩:∃ ln,ln=se.length:=⟨_,rfl⟩
     rw [← hln] at q2 q4
     have htt:(te != te)=false:=by rw [bne_eq_false_iff_eq]
     have HAK:=Lib.hid (fun (U:World) (hU:Below wr.heap.size wr U)=>(alike_n (c:=sc) (d:=sc') hln hln (hsl.step hU) (hsl'.step hU) (by omega) (by omega)))
     have HC2:=Lib.hid (fun (U:World) (hU:Below wr.heap.size wr U)=>(⟨⟨(HCL.out U (HB2.out.trans (hU.mono HB2.out.size))).1.1.1,(HCL.out U (HB2.out.trans (hU.mono HB2.out.size))).1.2.1⟩,⟨(HCL.out U (HB2.out.trans (hU.mono HB2.out.size))).2.1,(HCL.out U (HB2.out.trans (hU.mono HB2.out.size))).2.2.2.1⟩,⟨(hU.cell (p:=⟨g,o+j*2,none⟩) hg).trans q1,(hU.cell (p:=⟨g,o+j*2+1,none⟩) hg).trans q2⟩,⟨(hU.cell (p:=⟨g',o'+j*2,none⟩) hg').trans q3,(hU.cell (p:=⟨g',o'+j*2+1,none⟩) hg').trans q4⟩⟩:(U.cell? ⟨W.heap.size,0,none⟩=some (.slice (some ⟨g0,o0,none⟩) n0 c0)∧U.cell? ⟨W.heap.size+1,0,none⟩=some (.slice (some ⟨g2,o2,none⟩) n0 d0))∧(U.cell? ⟨g0,o0+r,none⟩=some (.slice (some ⟨g,o,none⟩) le ce)∧U.cell? ⟨g2,o2+r,none⟩=some (.slice (some ⟨g',o',none⟩) le de))∧(U.cell? ⟨g,o+j*2,none⟩=some (.int .i64 te)∧U.cell? ⟨g,o+j*2+1,none⟩=some (.slice sp ln sc))∧(U.cell? ⟨g',o'+j*2,none⟩=some (.int .i64 te)∧U.cell? ⟨g',o'+j*2+1,none⟩=some (.slice sp' ln sc'))))
     clear hsl hsl' hmem hln hg hg' q1 q2 q3 q4
     go_upto_region 11 with fail
     clear a0 a1 a2 b0 b1 b2 y0 y1 y2 y3
     have hr:Below wr.heap.size wr wr.drew:=(Below.refl _ _).drew
     go_region_held3 (fun U => (U.cell? ⟨W.heap.size, 0, none⟩ = some (.slice (some ⟨g0, o0, none⟩) n0 c0) ∧ U.cell? ⟨W.heap.size + 1, 0, none⟩ = some (.slice (some ⟨g2, o2, none⟩) n0 d0)) ∧ (U.cell? ⟨g0, o0 + r, none⟩ = some (.slice (some ⟨g, o, none⟩) le ce) ∧ U.cell? ⟨g2, o2 + r, none⟩ = some (.slice (some ⟨g', o', none⟩) le de)) ∧ (U.cell? ⟨g, o + j * 2, none⟩ = some (.int .i64 te) ∧ U.cell? ⟨g, o + j * 2 + 1, none⟩ = some (.slice sp ln sc)) ∧ (U.cell? ⟨g', o' + j * 2, none⟩ = some (.int .i64 te) ∧ U.cell? ⟨g', o' + j * 2 + 1, none⟩ = some (.slice sp' ln sc')))
      (exact HC2.out _ hr)
      (first
       | (go_at_call 32;(refine (HAK.out _ hr).mono ?_);rintro ee w5 ⟨rfl,b5⟩;have hr:=hr.trans (b5.mono hr.size)))
     have HB5:=Lib.hid (HB2.out.trans (hr.mono HB2.out.size))
     clear hr b5 htt HAK HC2
     have hse:decide (se=se)=true:=decide_eq_true rfl
     go_wp2
     go_roundg gki
     case measure=>omega
     case rel=>exact ⟨j+1,by omega,by first | rw [hwj] | rfl | simp,HB5⟩
end Go.Proofs.YtioahgklplbinaaGreatDoor

/- The document's Build. -/
namespace Go.Proofs.YtioahgklplbinaaGreatDoor
open Go.RowKit Go.Shelf Go.Maps SetM PropsM RxM WrM NfaM
theorem WS.tag {W X : World} {N : Nat} {O B : Nat → Prop} {v : Value} {m : Mc} (h : WS W N O B X v m) (hN : W.heap.size ≤ N) {i : Nat} (hi : i < m.len) (t : Int) :
  ∃ p0 c0 p1 c1 g c,v=.agg #[.slice p0 m.len c0,.slice p1 m.len c1,.slice (some ⟨g,0,none⟩) m.len c]∧X.frozen? ⟨g,i,none⟩=false∧(∃ x,X.cell? ⟨g,i,none⟩=some x)∧(O g∨N≤g)∧WS W N O B (X.setCell ⟨g,i,none⟩ (.int .i64 t)) v (tgF m i t):=by
 obtain ⟨R,h1,h2,h3⟩:=h.mv
 obtain ⟨p0,c0,p1,c1,p2,c2,hv⟩:=h.mv.form
 have hr2:=h1.fam.own 2 (by omega)
 have hv2:(R 2).v=.slice p2 m.tg.length c2:=by
  rw [hv] at h2
  injection h2 with h2
  injection h2 with h2
  simp only [List.cons.injEq] at h2
  exact h2.2.2.1.symm
 have hne:p2≠none:=fun e=>by
  rcases hr2.2 with ⟨a,b⟩ | ⟨g,cap,cur,a,_⟩
  ·have hn : (R 2).n = 0 := b
   rw [h1.r2.2.2.1] at hn
   have hi':i < m.tg.length:=hi
   omega
  ·have a' : (R 2).v = .slice (some ⟨g, 0, none⟩) (R 2).n cap := a
   rw [hv2,e] at a'
   cases a'
 have hown:(R 2).ok X:=hr2
 unfold Rw.ok at hown
 rcases hr2.2 with ⟨a,b⟩ | ⟨g,cap,cur,a,_⟩
 ·have hn : (R 2).n = 0 := b
  rw [h1.r2.2.2.1] at hn
  have hi':i < m.tg.length:=hi
  omega
 ·have a' : (R 2).v = .slice (some ⟨g, 0, none⟩) (R 2).n cap := a
  rw [hv2] at a'
  injection a' with e1 e2 e3
  subst e1
  subst e3
  obtain ⟨t1,t2,t3⟩:=h1.tag (i:=i) (t:=t) hv2
  rw [hv2,h1.r2.1,h1.r2.2.1,h1.r2.2.2.1] at hown
  have hat:=World.ownsRow.frozenAt hown i
  have hcl:=World.ownsRow.cellAt hown i (by have:i < m.tg.length:=hi;omega)
  have hg:=h3 g t3
  have hx:(R 2).xs[i]? = some ((R 2).xs[i]'(by rw [h1.r2.2.2.2];simpa [Mc.len] using hi)):=List.getElem?_eq_getElem _
  refine ⟨p0,c0,p1,c1,g,c2,hv,hat,⟨_,hcl.trans hx⟩,hg,⟨⟨_,t1,?_,fun k hk=>h3 k (t2 k (by have e:(tgF m i t).tg.length=m.tg.length:=len_tg m i t;rw [e] at hk;exact hk))⟩,h.os,h.tape,h.output,by rw [World.size_setCell];exact h.size,fun k hk hO=>?_⟩⟩
  ·rw [h2,upd_other _ _ (by omega),upd_other _ _ (by omega),upd_same]
  ·rw [heap_setCell_other X ⟨g,i,none⟩ k _ (fun e=>by
    have e:k=g:=e
    rcases hg with hg | hg
    ·exact hO (e ▸ hg)
    ·omega)]
   exact h.old k hk hO
structure BW (Z : World) (O B : Nat → Prop) (X : World) (bx : Array Value) (m : Mc) : Prop where
 box:X.heap[Z.heap.size]? = some (.cells bx 29 (0,0))
 ws:WS Z (Z.heap.size+1) O B X (.agg bx) m
theorem BW.next {Z X X':World} {O B:Nat→Prop} {x y z a b c:Value} {m m':Mc} (h:BW Z O B X #[x,y,z] m) (hob:OB Z O B) (hw:WS Z (Z.heap.size+1) O B X' (.agg #[a,b,c]) m') (hk:∀ k,Z.heap.size≤k→k < Z.heap.size+1→X'.heap[k]? = X.heap[k]?):BW Z O B (put3 X' Z.heap.size a b c) #[a,b,c] m' :=
 ⟨put3_heap a b c ((hk _ (by omega) (by omega)).trans h.box),hw.put3 hob (by omega) (by omega) (by omega) a b c⟩
theorem results_rbuild {tmps : Array Value} {w : World} {B : Nat} {a b c : Value} {z : Int} (h1 : tmps.getD 2 undef = .pointer (some ⟨B, 0, none⟩)) (h2 : tmps.getD 3 undef = .int .i64 z)
  (b1:w.heap[B]? = some (.cells #[a,b,c] 29 (0,0))) :
  (results Tryz.f9 tmps).run Tryz.prog w=.ok (.tuple #[.agg #[a,b,c],.int .i64 z]) w:=by
 have h1':tmps[2]?.getD undef=.pointer (some ⟨B,0,none⟩):=by simpa using h1
 have h2':tmps[3]?.getD undef=.int .i64 z:=by simpa using h2
 have q0:w.cell? ⟨B,0,none⟩=some a:=cell_of_row w _ 0 _ _ _ b1
 have q1:w.cell? ⟨B,1,none⟩=some b:=cell_of_row w _ 1 _ _ _ b1
 have q2:w.cell? ⟨B,2,none⟩=some c:=cell_of_row w _ 2 _ _ _ b1
 simp [results,Tryz.results9,h1',h2',go_sem,q0,q1,q2]
theorem ret_rbuild {Q : Ending → World → Prop} {tmps : Array Value} {w1 : World} {B : Nat} {x y z a b c : Value} {n : Int} (h1 : tmps.getD 2 undef = .pointer (some ⟨B, 0, none⟩)) (h2 : tmps.getD 3 undef = .int .i64 n)
  (h3:w1.heap[B]? = some (.cells #[x,y,z] 29 (0,0))) (hQ:Q (.returned (.tuple #[.agg #[a,b,c],.int .i64 n])) (put3 w1 B a b c)) :
  bodyPost Tryz.prog Tryz.f9 Q .ret { tmps:=tmps,defers:=[] } (((w1.setCell ⟨B,0,none⟩ a).setCell ⟨B,1,none⟩ b).setCell ⟨B,2,none⟩ c) :=
 bodyPost_ret (results_rbuild h1 h2 (put3_heap a b c h3)) rfl hQ
def RBP (W:World) (B:Nat→Prop) (us:List Ns) (e:Ending) (W':World):Prop:=∃ v,e=.returned (.tuple #[v,.int .i64 (whyF us:Nat)])∧(whyF us=0→MV W' (fun k=>W.heap.size≤k) B v (buildF us 0 (stF NfaM.none0)))∧(whyF us≠0→v=.agg #[.slice none 0 0,.slice none 0 0,.slice none 0 0])∧Below W.heap.size W W'
set_option maxRecDepth 100000 in
set_option maxHeartbeats 16000000 in
theorem rbuild_c {WOK : Ns → Prop} (HSD : Hid (∀ (W : World) (v : Value) (u : Ns), RV W v u → WOK u → Calls Tryz.prog 53 #[v] W fun e W' => e = .returned (.bool (sndB u 0)) ∧ Below W.heap.size W W'))
  {W:World} {B:Nat→Prop} {P:Option Addr} {us:List Ns} {pc:Nat} (h:NsB W B P us) (hB:∀ k,B k→k < W.heap.size) (hw:∀ u∈us,WOK u) (hl:us.length≤1000000):Calls Tryz.prog 9 #[.slice P us.length pc] W (RBP W B us):=by
 obtain ⟨V,hV⟩:∃ V,V=W.alloc (.cells #[.slice none 0 0,.slice none 0 0,.slice none 0 0] 29):=⟨_,rfl⟩
 have hbV:Below W.heap.size W V:=by rw [hV];exact (Below.refl _ _).alloc (Nat.le_refl _) _
 have zV:V.heap.size=W.heap.size+1:=by rw [hV,World.size_alloc]
 have xV:V.heap[W.heap.size]? = some (.cells #[.slice none 0 0,.slice none 0 0,.slice none 0 0] 29 (0,0)):=by rw [hV];exact heap_alloc_new W _
 have HWY:=Lib.hid (why_c HSD (pc:=pc) (h.step hbV).toL hw hl)
 have HBV:=Lib.hid hbV
 have HXV:=Lib.hid xV
 have HZV:=Lib.hid zV
 have HB:=Lib.hid hB
 have HNB:=Lib.hid (h.step hbV)
 obtain ⟨n,hn⟩:∃ n,n=us.length:=⟨_,rfl⟩
 rw [← hn] at HWY hl ⊢
 have HN:=Lib.hid hn
 obtain ⟨y,hy⟩:∃ y,y=whyF us:=⟨_,rfl⟩
 rw [← hy] at HWY
 have HY:=Lib.hid hy
 have hy63:y≤63:=by rw [hy];exact why_le us
 clear hbV zV xV h hB hw hn hy
 go_enter Tryz.func9,Tryz.ntmps9
 go_upto_region 1 with fail
 rw [← hV]
 clear hV
 go_wp2_with fail
 refine HWY.out.mono ?_
 rintro e w1 ⟨rfl,b1⟩
 have HB1:=Lib.hid b1
 have x1:=(b1.block _ (by have:=HZV.out;omega)).trans HXV.out
 clear b1 HWY
 by_cases hy0:y=0
 ·subst hy0
  have hne:((0:Nat):Int)=0:=rfl
  have m1:MV w1 (fun _=>False) B (.agg #[.slice none 0 0,.slice none 0 0,.slice none 0 0]) NfaM.none0:=mv_none (fun k hk=>by have a:=HB.out k hk;have b:=HBV.out.size;have c:=HB1.out.size;omega)
  have HST:=Lib.hid (state_c m1 (by decide))
  have HX1:=Lib.hid x1
  clear x1 m1
  go_wp2_with fail
  refine HST.out.mono ?_
  rintro e w2 ⟨v',rfl,hm2,hf2⟩
  have hb2:Below w1.heap.size w1 w2:=hf2.below (fun k hk=>hk.elim) (Nat.le_refl _)
  obtain ⟨p0,c0,p1,c1,p2,c2,rfl⟩:=hm2.form
  have e1:(stF NfaM.none0).tg.length=1:=rfl
  rw [e1] at hm2 ⊢
  obtain ⟨X,hX⟩:∃ X,X=w2.alloc (.cells #[.slice p0 1 c0,.slice p1 1 c1,.slice p2 1 c2] 29):=⟨_,rfl⟩
  have hbX:Below w2.heap.size w2 X:=by rw [hX];exact (Below.refl _ _).alloc (Nat.le_refl _) _
  have zX:X.heap.size=w2.heap.size+1:=by rw [hX,World.size_alloc]
  have xX:X.heap[w2.heap.size]? = some (.cells #[.slice p0 1 c0,.slice p1 1 c1,.slice p2 1 c2] 29 (0,0)):=by rw [hX];exact heap_alloc_new w2 _
  have hob:OB w2 (fun k=>w1.heap.size≤k∧k < w2.heap.size) B:=⟨fun k hk=>⟨hk.2,fun hB=>by have a:=HB.out k hB;have b:=HBV.out.size;have c:=HB1.out.size;omega⟩,fun k hk=>by have a:=HB.out k hk;have b:=HBV.out.size;have c:=HB1.out.size;have d:=hb2.size;omega⟩
  have hm3:MV w2 (fun k=>w1.heap.size≤k∧k < w2.heap.size) B (.agg #[.slice p0 1 c0,.slice p1 1 c1,.slice p2 1 c2]) (stF NfaM.none0):=hm2.real.imp (fun k hk=>⟨by rcases hk.1 with h | h;exact h.elim;exact h,hk.2⟩)
  have hbw:BW w2 (fun k=>w1.heap.size≤k∧k < w2.heap.size) B X #[.slice p0 1 c0,.slice p1 1 c1,.slice p2 1 c2] (stF NfaM.none0):=⟨xX,WS.start hm3 hob hbX (by omega)⟩
  have HOB:=Lib.hid hob
  have HBW:=Lib.hid hbw
  have HB2:=Lib.hid (HB1.out.trans (hb2.mono HB1.out.size))
  have HX2:=Lib.hid ((hb2.block _ (by have:=HB1.out.size;have:=HZV.out;omega)).trans HX1.out)
  have HNB2:=Lib.hid (HNB.out.step HB2.out)
  have HZ2:Hid (W.heap.size < w1.heap.size∧w1.heap.size≤w2.heap.size):=Lib.hid ⟨by have:=HB1.out.size;have:=HZV.out;omega,hb2.size⟩
  have HWF:=Lib.hid HY.out.symm
  have HCB:Hid (1+cntB us≤2000):=Lib.hid (by
   have h0:=HY.out.symm
   have h1:¬ (us.length < 1∨30 < us.length):=fun h=>by rw [why_long h] at h0;cases h0
   have h2:SndL us:=by
    refine Classical.byContradiction (fun h=>?_)
    rw [why_bad h] at h0
    cases h0
   rw [why_ok h1 h2] at h0
   have h3:sumF us≤2000:=by
    refine Nat.le_of_not_lt (fun h=>?_)
    rw [if_pos h] at h0
    cases h0
   rw [sum_big h3]
   exact h3)
  have HSH:Hid (∀ u∈us,Shp u):=Lib.hid (by
   have h0:=HY.out.symm
   refine Classical.byContradiction (fun h=>?_)
   rw [why_bad (fun h2=>h (fun u hu=>(h2 u hu).1))] at h0
   cases h0)
  obtain ⟨O,hO⟩:∃ O:Nat→Prop,O=fun k=>w1.heap.size≤k∧k < w2.heap.size:=⟨_,rfl⟩
  rw [← hO] at HOB HBW
  have HO:=Lib.hid hO
  obtain ⟨⟨a0,a1,a2⟩,_⟩:=cells3 xX
  clear hbX zX xX hob hm2 hm3 hbw hb2 hf2 HST HX1 hO hne HY
  go_upto_region 5 with fail
  rw [← hX]
  clear hX
  have HSTP:=Lib.hid (fun r=>build_stp (us.take r) (stF NfaM.none0) (by decide) (by decide) (by decide) 0)
  go_wp2_with fail
  go_loopg [6] n (fun gk s6 wx=>∃ (r:Nat) (q0:Option Addr) (d0:Nat) (q1:Option Addr) (d1:Nat) (q2:Option Addr) (d2 l:Nat),r+gk=n∧s6=.int .i64 r∧Hid (BW w2 O B wx #[.slice q0 l d0,.slice q1 l d1,.slice q2 l d2] (buildF (us.take r) 0 (stF NfaM.none0))))
  case atStart=>exact ⟨0,_,_,_,_,_,_,_,by omega,rfl,by rw [List.take_zero,buildF];exact HBW⟩
  case round =>
   obtain ⟨r,q0,d0,q1,d1,q2,d2,l,hrg,rfl,HL⟩:=hrel
   clear a0 a1 a2
   obtain ⟨⟨a0,a1,a2⟩,_⟩:=cells3 HL.out.box
   cases gk with
   | zero =>
    obtain rfl:r=n:=by omega
    have hlt:¬ (r:Int) < (r:Int):=by omega
    have HTK:Hid (us.take r=us):=Lib.hid (List.take_of_length_le (by have:=HN.out;omega))
    have HRS:Hid (wr.heap[W.heap.size]? = some (.cells #[.slice none 0 0,.slice none 0 0,.slice none 0 0] 29 (0,0))):=Lib.hid ((HL.out.ws.old _ (by have:=HZ2.out;omega) (by rw [HO.out];intro h;have:=HZ2.out;omega)).trans HX2.out)
    have HE:Hid (RBP W B us (.returned (.tuple #[.agg #[.slice q0 l d0,.slice q1 l d1,.slice q2 l d2],.int .i64 0])) (put3 wr W.heap.size (.slice q0 l d0) (.slice q1 l d1) (.slice q2 l d2))):=Lib.hid (by
     have hws:=HL.out.ws
     rw [HTK.out] at hws
     have hsz:=hws.size
     have hz:=HZ2.out
     refine ⟨_,by rw [HWF.out];rfl,fun _=>?_,fun h=>absurd HWF.out h,⟨?_,?_,?_,?_,?_⟩⟩
     ·have hm:=hws.mv.kept (W':=put3 wr W.heap.size (.slice q0 l d0) (.slice q1 l d1) (.slice q2 l d2)) (by rw [put3_size];exact Nat.le_refl _) (fun k hk=>put3_other _ _ _ _ _ _ (by
       rcases hk with (hk | hk) | hk
       ·rw [HO.out] at hk;omega
       ·omega
       ·have:=HB.out k hk;omega))
      exact hm.imp (fun k hk=>by
       rcases hk with hk | hk
       ·rw [HO.out] at hk;show W.heap.size≤k;omega
       ·show W.heap.size≤k;omega)
     ·exact hws.os.trans (HB2.out.os.trans HBV.out.os)
     ·exact hws.tape.trans (HB2.out.tape.trans HBV.out.tape)
     ·exact hws.output.trans (HB2.out.output.trans HBV.out.output)
     ·rw [put3_size];omega
     ·intro k hk
      rw [put3_other _ _ _ _ _ _ (by omega),hws.old k (by omega) (by rw [HO.out];intro h;omega),HB2.out.block k (by have:=HZV.out;omega)]
      exact HBV.out.block k hk)
    obtain ⟨⟨x0,x1,x2⟩,f0,f1,f2⟩:=cells3 HRS.out
    go_wp2
    exact ret_rbuild rfl rfl HRS.out HE.out
   | succ gk =>
    have hlt:(r:Int) < (n:Int):=by omega
    have hrl:r < us.length:=by have:=HN.out;omega
    have h0:(0:Int)≤(r:Int):=by omega
    have hwr:wrap64 ((r:Int)+1)=((r+1:Nat):Int):=by rw [IntWalk.wrap64_in _ (by omega)];omega
    obtain ⟨g,a,b,c,d,e,rfl,hBg,hgl,hv,r0,r1,r2,r3,r4⟩:=HNB2.out r hrl
    have hblk:=HL.out.ws.old g hgl (fun hO=>(HOB.out.o g hO).2 hBg)
    have b0:=(World.cell?_of_block (a:=⟨g,r*5,none⟩) hblk).trans r0
    have b1:=(World.cell?_of_block (a:=⟨g,r*5+1,none⟩) hblk).trans r1
    have b2:=(World.cell?_of_block (a:=⟨g,r*5+2,none⟩) hblk).trans r2
    have b3:=(World.cell?_of_block (a:=⟨g,r*5+3,none⟩) hblk).trans r3
    have b4:=(World.cell?_of_block (a:=⟨g,r*5+4,none⟩) hblk).trans r4
    have HSTR:=Lib.hid (HSTP.out r)
    have HRR:Hid (Room (buildF (us.take r) 0 (stF NfaM.none0)) (cntS us[r]+1)∧0 < (buildF (us.take r) 0 (stF NfaM.none0)).len):=Lib.hid (by
     have a:=HSTR.out
     have b:=cntb_take us r hrl
     have c:=HCB.out
     have d:(stF NfaM.none0).len=1:=rfl
     unfold Room
     omega)
    have HSN:Hid (buildF (us.take (r+1)) 0 (stF NfaM.none0)=tgF (forkB (laidF us[r]) (buildF (us.take r) 0 (stF NfaM.none0)) 0).1 (forkB (laidF us[r]) (buildF (us.take r) 0 (stF NfaM.none0)) 0).2 (r:Int)):=Lib.hid (by
     rw [List.take_succ_eq_append_getElem hrl,build_snoc]
     congr 1
     rw [List.length_take]
     have:min r us.length=r:=by omega
     rw [this]
     simp)
    obtain ⟨mr,hmr⟩:∃ mr,mr=buildF (us.take r) 0 (stF NfaM.none0):=⟨_,rfl⟩
    rw [← hmr] at HSN HRR HL HSTR
    have HFK:=Lib.hid ((fork_all us[r] (HSH.out _ (List.getElem_mem hrl))).at (i:=0) HL.out.ws.drew HOB.out (by omega) hv HRR.out.2 HRR.out.1)
    have HSF:=Lib.hid (fork_stp (laid_stp us[r]) mr 0)
    generalize forkB (laidF us[r]) mr 0=fk at HFK HSF HSN
    have hk0:(((0:Nat):Int))=0:=rfl
    rw [hk0] at HFK
    clear hv hblk r0 r1 r2 r3 r4 hmr hk0
    go_wp2_with fail
    go_region_with (first
     | (go_at_call 29;refine HFK.out.mono ?_;rintro ee w4 ⟨u0,t0,u1,t1,u2,t2,l4,rfl,hw4,hk4⟩;obtain ⟨⟨g0,g1,g2⟩,f0,f1,f2⟩:=cells3 ((hk4 _ (by omega) (by omega)).trans HL.out.box);have HLQ:=Lib.hid (HL.out.next HOB.out hw4 hk4);clear hw4 hk4))
    all_goals
     obtain ⟨Z,hZ⟩:∃ Z,Z=put3 w4 w2.heap.size (.slice u0 l4 t0) (.slice u1 l4 t1) (.slice u2 l4 t2):=⟨_,rfl⟩
     rw [← hZ] at HLQ
     unfold put3 at hZ
     rw [← hZ]
     clear hZ g0 g1 g2 f0 f1 f2 a0 a1 a2 b0 b1 b2 b3 b4 HFK
     obtain ⟨y0,z0,y1,z1,gt,zt,hvt,hft,⟨xo,hxo⟩,hOg,hwt⟩:=HLQ.out.ws.tag (by omega) HSF.out.lt (r:Int)
     simp only [Value.agg.injEq,Array.mk.injEq,List.cons.injEq,and_true] at hvt
     obtain ⟨hv0,hv1,hv2⟩:=hvt
     cases hv0
     cases hv1
     cases hv2
     have HLP:=Lib.hid (BW.mk (by rw [heap_setCell_other _ ⟨gt,fk.2,none⟩ _ _ (by intro e;have e:w2.heap.size=gt:=e;rcases hOg with h | h;(have:=HOB.out.o _ h;omega);omega)];exact HLQ.out.box) hwt)
     rw [← HSN.out] at HLP
     have hfl:(fk.2:Int) < (fk.1.len:Int):=by have:=HSF.out.lt;omega
     have hf0:(0:Int)≤(fk.2:Int):=by omega
     obtain ⟨⟨a0,a1,a2⟩,_⟩:=cells3 HLQ.out.box
     clear hwt hOg
     go_wp2
     go_roundg gk
     case measure=>omega
     case rel=>exact ⟨r+1,_,_,_,_,_,_,_,by omega,by first | rw [hwr] | rfl | simp,HLP⟩
 ·have hyi : ((y : Int) == 0) = false := by rw [beq_eq_false_iff_ne]; omega
  have HE:Hid (RBP W B us (.returned (.tuple #[.agg #[.slice none 0 0,.slice none 0 0,.slice none 0 0],.int .i64 (y:Nat)])) (put3 w1 W.heap.size (.slice none 0 0) (.slice none 0 0) (.slice none 0 0))):=Lib.hid (by
   refine ⟨_,by rw [← HY.out],fun h=>absurd (HY.out.trans h) hy0,fun _=>rfl,?_⟩
   have hb:=HBV.out.trans (HB1.out.mono HBV.out.size)
   exact ⟨hb.os,hb.tape,hb.output,by rw [put3_size];exact hb.size,fun k hk=>by rw [put3_other _ _ _ _ _ _ (by omega)];exact hb.block k hk⟩)
  obtain ⟨⟨a0,a1,a2⟩,f0,f1,f2⟩:=cells3 x1
  go_wp2
  exact ret_rbuild rfl rfl x1 HE.out
end Go.Proofs.YtioahgklplbinaaGreatDoor

/- The document's Sound of nodes, from its beginning; nodes of nothing; at any such machine the document's Sound. -/
namespace Go.Proofs.YtioahgklplbinaaGreatDoor
open Go.RowKit Go.Shelf Go.Maps SetM PropsM RxM WrM NfaM
set_option maxRecDepth 100000 in
set_option maxHeartbeats 4000000 in
theorem rsound_c {W:World} {v:Value} {t:Ns} (hv:RV W v t) (hw:WdT t):Calls Tryz.prog 53 #[v] W fun e W'=>e=.returned (.bool (sndB t 0))∧Below W.heap.size W W':=by
 obtain ⟨k,sp,sn,sc,kp,kn,kc,mn,mx,rfl⟩:=hv.form5
 obtain ⟨V,hV⟩:∃ V,V=W.alloc (.cells #[.int .u8 k,.slice sp sn sc,.slice kp kn kc,.int .i64 mn,.int .i64 mx] 48):=⟨_,rfl⟩
 have n1:V.heap[W.heap.size]? = some (.cells #[.int .u8 k,.slice sp sn sc,.slice kp kn kc,.int .i64 mn,.int .i64 mx] 48 (0,0)):=by rw [hV];exact heap_alloc_new W _
 have hb:Below W.heap.size W V:=by rw [hV];exact (Below.refl _ _).alloc (Nat.le_refl _) _
 have hlt:=(Array.getElem?_eq_some_iff.1 n1).1
 have HC:=Lib.hid (rsnd_all t V _ 0 (by omega) (by omega) (hv.step hb) hw)
 have k0:V.cell? ⟨W.heap.size,0,none⟩=some (.int .u8 k):=by rw [cell_of_row V _ 0 _ _ _ n1];rfl
 have k1:V.cell? ⟨W.heap.size,1,none⟩=some (.slice sp sn sc):=by rw [cell_of_row V _ 1 _ _ _ n1];rfl
 have k2:V.cell? ⟨W.heap.size,2,none⟩=some (.slice kp kn kc):=by rw [cell_of_row V _ 2 _ _ _ n1];rfl
 have k3:V.cell? ⟨W.heap.size,3,none⟩=some (.int .i64 mn):=by rw [cell_of_row V _ 3 _ _ _ n1];rfl
 have k4:V.cell? ⟨W.heap.size,4,none⟩=some (.int .i64 mx):=by rw [cell_of_row V _ 4 _ _ _ n1];rfl
 have HB:=Lib.hid hb
 clear hv hw hb hlt n1
 rw [hV] at k0 k1 k2 k3 k4
 go_enter Tryz.func53,Tryz.ntmps53
 go_wp2_with fail
 rw [← hV]
 clear k0 k1 k2 k3 k4 hV
 refine HC.out.mono ?_
 rintro e w1 ⟨⟨q,rfl,hq⟩,b1⟩
 have HQ:Hid (q=sndB t 0):=Lib.hid (by
  rw [Bool.eq_iff_iff,hq,sndB_true]
  unfold SndAt
  constructor
  ·rintro ⟨h1,h2⟩;exact ⟨h1,by omega⟩
  ·rintro ⟨h1,h2⟩;exact ⟨h1,by omega⟩)
 have HB1:=Lib.hid (HB.out.trans (b1.mono HB.out.size))
 clear hq b1
 go_wp2
 go_ret
 exact ⟨by rw [← HQ.out];rfl,HB1.out⟩
def u0:Ns:= .mk 0 [] [] 0 0
theorem rvb_zero (W:World) (B:Nat→Prop):RVB W B (.agg #[.int .u8 0,.slice none 0 0,.slice none 0 0,.int .i64 0,.int .i64 0]) u0 :=
 ⟨1,none,0,none,0,rfl,by simp,fun h=>absurd rfl h,fun _=>rfl,fun h=>absurd rfl h,fun h=>absurd rfl h⟩
theorem wd_zero:WdT u0:=by
 unfold u0
 rw [wd_mk]
 exact ⟨fun s hs=>(by cases hs),(wdL_iff _).2 (fun x hx=>(by cases hx))⟩
theorem made5 (n i j:Nat) (a b c d e:Value) (hi:i < n) (hj:j < 5):((madeCells #[a,b,c,d,e] (n*5)).toList)[i*5+j]? = [a,b,c,d,e][j]?:=by
 unfold madeCells
 rw [Array.toList_map,List.getElem?_map,Array.toList_range,List.getElem?_range (by omega)]
 have e1:(i*5+j) % (#[a,b,c,d,e]:Array Value).size=j:=by
  show (i*5+j) % 5=j
  omega
 simp only [Option.map_some,e1]
 match j,hj with
 | 0,_=>rfl
 | 1,_=>rfl
 | 2,_=>rfl
 | 3,_=>rfl
 | 4,_=>rfl
theorem make_nodes (W:World) (n:Nat) (h0:0 < n) (hn:n≤1000):∃ W1,(Instr.makeSlice 23 (.int .i64 n) (.int .i64 n)).run Tryz.prog W=.ok (.slice (some ⟨W.heap.size,0,none⟩) n n) W1∧Below W.heap.size W W1∧Alive W1 W.heap.size∧NsB W1 (fun k=>W.heap.size≤k∧k < W1.heap.size) (some ⟨W.heap.size,0,none⟩) (List.replicate n u0):=by
 obtain ⟨i0,hi,hz0,hz1,hz2⟩:=info_parts infoN
 obtain ⟨W1,h1,h2,h3⟩:=run_makeSlice_full (P:=Tryz.prog) (w:=W) 0 23 48 i0 _ 5 Tryz.underlying23 hi hz0 hz1 .i64 .i64 n (by omega) (by rw [hz2];omega) (by unfold maxLen;omega) (Nat.zero_le _)
 have hlt:W.heap.size < W1.heap.size:=(World.ownsRow.lt h2 _ rfl).2
 have hal:Alive W1 W.heap.size:=by
  rcases h2.2 with ⟨a,_⟩ | ⟨g',cap,cur,a,_,hc,_⟩
  ·cases a
  ·simp only [Value.slice.injEq, Option.some.injEq, Addr.mk.injEq, and_true, true_and] at a
   rw [a.1]
   exact ⟨cur,hc⟩
 refine ⟨W1,h1,⟨h3.os,h3.tape,h3.output,h3.size,fun k hk=>h3.block k hk (fun e=>by cases e)⟩,hal,fun i hi=>?_⟩
 have hin:i < n:=by simpa using hi
 have hc:∀ j,j < 5→W1.cell? ⟨W.heap.size,i*5+j,none⟩=[Value.int .u8 0,.slice none 0 0,.slice none 0 0,.int .i64 0,.int .i64 0][j]?:=fun j hj=>by
  rw [World.ownsRow.cellAt h2 (i*5+j) (by omega)]
  exact made5 n i j _ _ _ _ _ hin hj
 rw [List.getElem_replicate]
 exact ⟨W.heap.size,_,_,_,_,_,rfl,⟨Nat.le_refl _,hlt⟩,hlt,rvb_zero _ _,hc 0 (by omega),hc 1 (by omega),hc 2 (by omega),hc 3 (by omega),hc 4 (by omega)⟩
end Go.Proofs.YtioahgklplbinaaGreatDoor

/- The walk of NfaBuilds. -/
namespace Go.Proofs.YtioahgklplbinaaGreatDoor
open Go.RowKit Go.Shelf Go.Maps SetM PropsM RxM WrM NfaM
noncomputable def resM (us:List Ns):Mc:=if whyF us=0 then buildF us 0 (stF NfaM.none0) else NfaM.none0
structure ResV (W : World) (us : List Ns) (p0 p1 p2 : Option Addr) : Prop where
 mr:MR W p0 p1 p2 (resM us)
 sets:∀ i < (resM us).ed.length,∀ e∈(resM us).ed.getD i [],e.2.length≤100000
theorem resM_wf (us:List Ns):(resM us).ed.length=(resM us).tg.length∧(resM us).fr.length=(resM us).tg.length∧(resM us).tg.length≤2000∧frs (resM us)≤4000∧eds (resM us)≤2000:=by
 unfold resM
 split
 ·rename_i h
  obtain ⟨hi,_,h2,h3,h4⟩:=built_ok h
  exact ⟨hi.wf.1,hi.wf.2,h2,h3,h4⟩
 ·exact ⟨rfl,rfl,by decide,by decide,by decide⟩
theorem res_of {W:World} {us:List Ns} {v:Value} (h0:whyF us=0→BltM W us v) (h1:whyF us≠0→v=.agg #[.slice none 0 0,.slice none 0 0,.slice none 0 0]):∃ p0 c0 p1 c1 p2 c2,v=.agg #[.slice p0 (resM us).tg.length c0,.slice p1 (resM us).tg.length c1,.slice p2 (resM us).tg.length c2]∧ResV W us p0 p1 p2:=by
 by_cases h:whyF us=0
 ·obtain ⟨p0, c0, p1, c1, p2, c2, e, hm⟩ := (h0 h).form
  have er:resM us=buildF us 0 (stF NfaM.none0):=by unfold resM;rw [if_pos h]
  exact ⟨p0,c0,p1,c1,p2,c2,by rw [er];exact e,by rw [er];exact hm,by rw [er];exact (h0 h).sets⟩
 ·have er : resM us = NfaM.none0 := by unfold resM; rw [if_neg h]
  refine ⟨none,0,none,0,none,0,by rw [er];exact h1 h,?_,?_⟩
  ·rw [er]
   exact ⟨fun i hi=>absurd hi (Nat.not_lt_zero i),fun i hi=>absurd hi (Nat.not_lt_zero i),fun i hi=>absurd hi (Nat.not_lt_zero i)⟩
  ·rw [er]
   exact fun i hi=>absurd hi (Nat.not_lt_zero i)
theorem MV.blt {W:World} {O B:Nat→Prop} {us:List Ns} {v:Value} (h:MV W O B v (buildF us 0 (stF NfaM.none0))):BltM W us v:=by
 obtain ⟨R,h1,rfl,_⟩:=h
 exact h1.blt
theorem ResV.step {W W':World} {us:List Ns} {p0 p1 p2:Option Addr} (h:ResV W us p0 p1 p2) (hb:Below W.heap.size W W'):ResV W' us p0 p1 p2:=⟨h.mr.step hb,h.sets⟩
theorem res_same {W:World} {us:List Ns} {p0 p1 p2 q0 q1 q2:Option Addr} {n c0 c1 c2 d0 d1 d2:Nat} (hn:n=(resM us).tg.length) (h:ResV W us p0 p1 p2) (h':ResV W us q0 q1 q2):Calls Tryz.prog 11 #[.agg #[.slice p0 n c0,.slice p1 n c1,.slice p2 n c2],.agg #[.slice q0 n d0,.slice q1 n d1,.slice q2 n d2]] W fun e W'=>e=.returned (.bool true)∧Below W.heap.size W W':=by
 obtain ⟨a,b,c,d,e⟩:=resM_wf us
 exact sameM_c h.mr h'.mr (by omega) (by omega) hn rfl (by omega) (fun i hi=>⟨by have:=row_le (resM us).ed i;unfold eds at e;omega,fun x hx=>by have:=h.sets i hi x hx;omega⟩) (fun i hi=>by have:=row_le (resM us).fr i;unfold frs at d;omega)
theorem res_sound {W:World} {us:List Ns} {p0 p1 p2:Option Addr} {n c0 c1 c2:Nat} (hn:n=(resM us).tg.length) (h:ResV W us p0 p1 p2) (hy:whyF us=0):(Calls Tryz.prog 12 #[.agg #[.slice p0 n c0,.slice p1 n c1,.slice p2 n c2]] W fun e W'=>e=.returned (.bool true)∧Below W.heap.size W W')∧Calls Tryz.prog 13 #[.agg #[.slice p0 n c0,.slice p1 n c1,.slice p2 n c2]] W fun e W'=>e=.returned (.bool true)∧Below W.heap.size W W':=by
 have er:resM us=buildF us 0 (stF NfaM.none0):=by unfold resM;rw [if_pos hy]
 obtain ⟨hm,hs⟩:=h
 rw [er] at hm hs hn
 obtain ⟨hi,h1,h2,h3,h4⟩:=built_ok hy
 have hr:∀ i < (buildF us 0 (stF NfaM.none0)).ed.length,(((buildF us 0 (stF NfaM.none0)).ed.getD i []).length:Nat)≤9223372036854775807:=fun i hlt=>by have:=row_le (buildF us 0 (stF NfaM.none0)).ed i;unfold eds at h4;omega
 have hf:∀ i < (buildF us 0 (stF NfaM.none0)).fr.length,(((buildF us 0 (stF NfaM.none0)).fr.getD i []).length:Nat)≤9223372036854775807:=fun i hlt=>by have:=row_le (buildF us 0 (stF NfaM.none0)).fr i;unfold frs at h3;omega
 have a:=psound_c (n0:=n) (n1:=n) (k:=n) (c0:=c0) (c1:=c1) (c2:=c2) hm (by rw [hn];exact hi.wf.1.symm) (by rw [hn];exact hi.wf.2.symm) hn (fun i hlt=>⟨hr i hlt,fun e he=>by have:=hs i hlt e he;omega⟩) hf
 have b:=rsoundM_c (n0:=n) (n1:=n) (k:=n) (c0:=c0) (c1:=c1) (c2:=c2) hm (by rw [hn];exact hi.wf.1.symm) (by rw [hn];exact hi.wf.2.symm) hn (fun i hlt=>⟨hr i hlt,fun e he=>⟨hs i hlt e he,fun s hs'=>by
  obtain ⟨row,h5,h6⟩:=mem_getD he
  have:=norml_wide (hi.ed row h5 e h6).2.2 s hs'
  omega⟩⟩) hf
 rw [hi.snd h1 h2] at a b
 exact ⟨a,b⟩
set_option maxRecDepth 100000 in
set_option maxHeartbeats 16000000 in
theorem nfaBuilds_any {W : World} {A : Option Addr} {n ca : Nat} {rows : List (List Int)} {many : Int} (hU : UssR W A rows) (hn : n = rows.length) (h8 : n ≤ 9223372036854775807) (hmy : 0 ≤ many ∧ many ≤ 255) (hA : Ar W) :
  Calls Tryz.prog 3 #[.slice A n ca,.int .u8 many] W fun e W'=>e=.returned (.bool true)∧Below W.heap.size W W':=by
 have HLS:=Lib.hid (list_f (ca:=ca) hU hn h8)
 have HA:=Lib.hid hA
 clear hU hn hA
 go_enter Tryz.func3,Tryz.ntmps3
 go_wp2_with fail
 refine HLS.out.mono ?_
 rintro e w1 ⟨v,rfl,hrow,b1⟩
 obtain ⟨P1,d1,us1,rfl,hxl,_,_⟩:=list_x hrow b1
 have HXL1:=Lib.hid hxl
 obtain ⟨l1,hl1⟩:∃ l1,l1=us1.length:=⟨_,rfl⟩
 rw [← hl1]
 have HX0:Hid (∃ us,l1=us.length∧XL W w1 P1 us):=Lib.hid ⟨us1,hl1,hxl⟩
 have HBW1:=Lib.hid b1
 clear hrow b1 hxl HLS hl1
 go_upto_if 13 with fail
 go_cut [5] from 14 to 17 (fun s5 wc=>∃ (P:Option Addr) (l c:Nat),s5=.slice P l c∧Hid (∃ us,l=us.length∧XL W wc P us))
 case first =>
  by_cases hm:(250:Int) < many
  ·obtain ⟨kN, hkN⟩ : ∃ k : Nat, many - 220 = (k : Int) := ⟨(many - 220).toNat, by omega⟩
   obtain ⟨X,hmk,hbX,hal,hnb⟩:=make_nodes w1 kN (by omega) (by omega)
   rw [← hkN] at hmk
   have HX1:Hid (∃ us,kN=us.length∧XL W X (some ⟨w1.heap.size,0,none⟩) us):=Lib.hid ⟨List.replicate kN u0,by simp,⟨hnb.imp (fun k hk _=>⟨Nat.le_trans HBW1.out.size hk.1,hk.2⟩),fun _=>⟨_,rfl,hal⟩,fun u hu=>by rw [List.eq_of_mem_replicate hu];exact wd_zero,by simp;omega,HBW1.out.trans (hbX.mono HBW1.out.size)⟩⟩
   have hws:wrap64 (many - 220)=many - 220:=IntWalk.wrap64_in _ (by omega)
   clear hal hnb hbX hkN
   go_wp2
   go_meet
   exact ⟨_,_,_,rfl,HX1⟩
  ·go_wp2
   go_meet
   exact ⟨_,_,_,rfl,HX0⟩
 case rest =>
  obtain ⟨P,l,c,rfl,HXL⟩:=hcut
  obtain ⟨us,hl,hx⟩:=HXL.out
  have HPB:=Lib.hid (pbuild_c (pc:=c) hx.nb.toL hx.al (HA.out.step hx.below) hl (by have:=hx.l8;omega))
  have HX:=Lib.hid hx
  have HL:=Lib.hid hl
  clear hx hl HXL HX0 HXL1 HBW1
  go_wp2_with fail
  refine HPB.out.mono ?_
  rintro e w2 ⟨v,rfl,h0,h1,b2⟩
  obtain ⟨p0,c0,p1,c1,p2,c2,rfl,hres⟩:=res_of (us:=us) (fun h=>by
   obtain ⟨R,B,hm,rfl,_,_⟩:=h0 h
   exact hm.blt) h1
  obtain ⟨n2,hn2⟩:∃ k,k=(resM us).tg.length:=⟨_,rfl⟩
  obtain ⟨y,hy⟩:∃ k,k=whyF us:=⟨_,rfl⟩
  rw [← hn2,← hy]
  obtain ⟨V2,hV2⟩:∃ V,V=w2.alloc (.cells #[.slice p0 n2 c0,.slice p1 n2 c1,.slice p2 n2 c2] 29):=⟨_,rfl⟩
  have al2:Below w2.heap.size w2 V2:=by rw [hV2];exact (Below.refl _ _).alloc (Nat.le_refl _) _
  have hx2:V2.heap[w2.heap.size]? = some (.cells #[.slice p0 n2 c0,.slice p1 n2 c1,.slice p2 n2 c2] 29 (0,0)):=by rw [hV2];exact heap_alloc_new w2 _
  have hb2:=b2.trans (al2.mono b2.size)
  have HB2:=Lib.hid (HX.out.below.trans (hb2.mono HX.out.below.size))
  have HR2:=Lib.hid (hres.step al2)
  have HN2:=Lib.hid hn2
  have HY:=Lib.hid hy
  have HX2:=Lib.hid hx2
  have hrb:=rbuild_c (WOK:=WdT) (Lib.hid (fun W v u hv hw=>rsound_c hv hw)) (pc:=c) (HX.out.nb.step hb2) (fun k hk=>Nat.lt_of_lt_of_le hk.2 hb2.size) HX.out.wd (by have:=HX.out.l8;omega)
  rw [← HL.out] at hrb
  have HRB:=Lib.hid hrb
  clear hrb hn2 hx2 hres al2 b2 hb2 h0 h1 hy HPB
  go_upto_region 5 with fail
  rw [← hV2]
  clear hV2
  go_wp2_with fail
  refine HRB.out.mono ?_
  rintro e w3 ⟨v,rfl,h0,h1,b3⟩
  obtain ⟨q0,d0,q1,d1,q2,d2,rfl,hres⟩:=res_of (us:=us) (fun h=>(h0 h).blt) h1
  rw [← HN2.out,← HY.out]
  obtain ⟨V3,hV3⟩:∃ V,V=w3.alloc (.cells #[.slice q0 n2 d0,.slice q1 n2 d1,.slice q2 n2 d2] 29):=⟨_,rfl⟩
  have al3:Below w3.heap.size w3 V3:=by rw [hV3];exact (Below.refl _ _).alloc (Nat.le_refl _) _
  have hx3:V3.heap[w3.heap.size]? = some (.cells #[.slice q0 n2 d0,.slice q1 n2 d1,.slice q2 n2 d2] 29 (0,0)):=by rw [hV3];exact heap_alloc_new w3 _
  have hb3:=b3.trans (al3.mono b3.size)
  have HB3:=Lib.hid (HB2.out.trans (hb3.mono HB2.out.size))
  have HS3:=Lib.hid (hres.step al3)
  have HR3:=Lib.hid (HR2.out.step hb3)
  have HX3:=Lib.hid hx3
  have HX23:=Lib.hid ((hb3.block _ (Array.getElem?_eq_some_iff.1 HX2.out).1).trans HX2.out)
  have HKN:=Lib.hid (known8 (HA.out.step HB3.out))
  clear hx3 hres al3 b3 hb3 h0 h1 HRB HX2 HR2
  go_upto_region 6 with fail
  rw [← hV3]
  clear hV3
  have hyl:y≤63:=by rw [HY.out];exact why_le us
  have hwy:wrap64 (y:Int)=(y:Int):=IntWalk.wrap64_in _ (by omega)
  go_wp2_with fail
  refine HKN.out.mono ?_
  rintro e w4 ⟨rfl,b4⟩
  have HB4:=Lib.hid (HB3.out.trans (b4.mono HB3.out.size))
  obtain ⟨⟨a0,a1,a2⟩,_⟩:=cells3 ((b4.block _ (Array.getElem?_eq_some_iff.1 HX3.out).1).trans HX3.out)
  obtain ⟨e0,e1,e2⟩:=(cells3 ((b4.block _ (Array.getElem?_eq_some_iff.1 HX23.out).1).trans HX23.out)).1
  have HSM:=Lib.hid (res_same (c0:=c0) (c1:=c1) (c2:=c2) (d0:=d0) (d1:=d1) (d2:=d2) HN2.out (HR3.out.step b4) (HS3.out.step b4))
  have HR4:=Lib.hid (HR3.out.step b4)
  have HX4:=Lib.hid ((b4.block _ (Array.getElem?_eq_some_iff.1 HX23.out).1).trans HX23.out)
  clear b4
  go_wp2_with fail
  refine HSM.out.mono ?_
  rintro e w5 ⟨rfl,b5⟩
  have HB5:=Lib.hid (HB4.out.trans (b5.mono HB4.out.size))
  have HR5:=Lib.hid (HR4.out.step b5)
  have HX5:=Lib.hid ((b5.block _ (Array.getElem?_eq_some_iff.1 HX4.out).1).trans HX4.out)
  obtain ⟨e0,e1,e2⟩:=(cells3 HX5.out).1
  clear b5 a0 a1 a2 HSM HR4 HX4 hwy hyl
  by_cases hy0:y=0
  ·subst hy0
   have hs:=res_sound (c0:=c0) (c1:=c1) (c2:=c2) HN2.out HR5.out HY.out.symm
   have HSP:=Lib.hid hs.1
   clear hs
   go_wp2_with fail
   refine HSP.out.mono ?_
   rintro e w6 ⟨rfl,b6⟩
   have HB6:=Lib.hid (HB5.out.trans (b6.mono HB5.out.size))
   have hs:=res_sound (c0:=c0) (c1:=c1) (c2:=c2) HN2.out (HR5.out.step b6) HY.out.symm
   have HSP2:=Lib.hid hs.2
   obtain ⟨e0,e1,e2⟩:=(cells3 ((b6.block _ (Array.getElem?_eq_some_iff.1 HX5.out).1).trans HX5.out)).1
   clear hs b6 HSP
   go_wp2_with fail
   refine HSP2.out.mono ?_
   rintro e w7 ⟨rfl,b7⟩
   have HB7:=Lib.hid (HB6.out.trans (b7.mono HB6.out.size))
   clear b7 e0 e1 e2
   go_wp2
   go_ret
   exact ⟨rfl,HB7.out⟩
  ·have hy1 : ¬ ((y : Int) = 0) := by omega
   clear hy0 e0 e1 e2
   go_wp2
   go_ret
   exact ⟨rfl,HB5.out⟩
end Go.Proofs.YtioahgklplbinaaGreatDoor
