/- VBare, VRSnd, in one text. -/
import Derived.Test.YtioahgklplbinaaGreatDoorVSH
import Derived.Test.YtioahgklplbinaaGreatDoorRR
import Derived.Deep.RegionWith
namespace Go.Proofs.YtioahgklplbinaaGreatDoor
open Go.RowKit Go.Shelf Go.Maps SetM PropsM RxM WrM
def BareP (a b c:Bool) (sl:List Sp) (kn:Nat) (mn mx:Int):Prop:=(a=true∨sl=[])∧(b=true∨kn=0)∧(c=true∨(mn=0∧mx=0))
theorem bare_iff {a b c p1 p2 p3 p4:Bool} {sl:List Sp} {kn:Nat} {mn mx:Int} (h1:p1=true↔sl=[]) (h2:p2=true↔kn=0) (h3:p3=true↔mn=0) (h4:p4=true↔mx=0):((a || p1) && ((b || p2) && (c || (p3 && p4))))=true↔BareP a b c sl kn mn mx:=by
 unfold BareP
 rw [← h1,← h2,← h3,← h4]
 cases a <;> cases b <;> cases c <;> cases p1 <;> cases p2 <;> cases p3 <;> cases p4 <;> decide
set_option maxHeartbeats 4000000 in
set_option maxRecDepth 100000 in
theorem bare_fff {w : World} {sp kp : Option Addr} {sc kc n kn kd : Nat} {sl : List Sp} {mn mx : Int} (hn : n = sl.length) :
  Calls Tryz.prog 98 #[.agg #[.int .u8 kd,.slice sp n sc,.slice kp kn kc,.int .i64 mn,.int .i64 mx],.bool false,.bool false,.bool false] w fun e w'=>BP (BareP false false false sl kn mn mx) e∧Below w.heap.size w w':=by
 obtain ⟨p1,hp1⟩:∃ p,((n:Int) == 0)=p:=⟨_,rfl⟩
 obtain ⟨p2,hp2⟩:∃ p,((kn:Int) == 0)=p:=⟨_,rfl⟩
 obtain ⟨p3,hp3⟩:∃ p,(mn == 0)=p:=⟨_,rfl⟩
 obtain ⟨p4,hp4⟩:∃ p,(mx == 0)=p:=⟨_,rfl⟩
 have HE1:Hid (p1=true↔sl=[]):=Lib.hid (by rw [← hp1,beq_iff_eq];exact ⟨fun h=>List.length_eq_zero_iff.1 (by omega),fun h=>by subst h;simp at hn;omega⟩)
 have HE2:Hid (p2=true↔kn=0):=Lib.hid (by rw [← hp2,beq_iff_eq];omega)
 have HE3:Hid (p3=true↔mn=0):=Lib.hid (by rw [← hp3,beq_iff_eq])
 have HE4:Hid (p4=true↔mx=0):=Lib.hid (by rw [← hp4,beq_iff_eq])
 have HQ:=Lib.hid (bare_iff (a:=false) (b:=false) (c:=false) HE1.out HE2.out HE3.out HE4.out)
 clear hn HE1 HE2 HE3 HE4
 cases p1 <;> cases p2 <;> cases p3
 all_goals
  go_enter Tryz.func98,Tryz.ntmps98
  go_wp2
  go_ret
  exact ⟨bp_var HQ.out,(Below.refl _ _).alloc (Nat.le_refl _) _⟩
set_option maxHeartbeats 4000000 in
set_option maxRecDepth 100000 in
theorem bare_tff {w : World} {sp kp : Option Addr} {sc kc n kn kd : Nat} {sl : List Sp} {mn mx : Int} (hn : n = sl.length) :
  Calls Tryz.prog 98 #[.agg #[.int .u8 kd,.slice sp n sc,.slice kp kn kc,.int .i64 mn,.int .i64 mx],.bool true,.bool false,.bool false] w fun e w'=>BP (BareP true false false sl kn mn mx) e∧Below w.heap.size w w':=by
 obtain ⟨p1,hp1⟩:∃ p,((n:Int) == 0)=p:=⟨_,rfl⟩
 obtain ⟨p2,hp2⟩:∃ p,((kn:Int) == 0)=p:=⟨_,rfl⟩
 obtain ⟨p3,hp3⟩:∃ p,(mn == 0)=p:=⟨_,rfl⟩
 obtain ⟨p4,hp4⟩:∃ p,(mx == 0)=p:=⟨_,rfl⟩
 have HE1:Hid (p1=true↔sl=[]):=Lib.hid (by rw [← hp1,beq_iff_eq];exact ⟨fun h=>List.length_eq_zero_iff.1 (by omega),fun h=>by subst h;simp at hn;omega⟩)
 have HE2:Hid (p2=true↔kn=0):=Lib.hid (by rw [← hp2,beq_iff_eq];omega)
 have HE3:Hid (p3=true↔mn=0):=Lib.hid (by rw [← hp3,beq_iff_eq])
 have HE4:Hid (p4=true↔mx=0):=Lib.hid (by rw [← hp4,beq_iff_eq])
 have HQ:=Lib.hid (bare_iff (a:=true) (b:=false) (c:=false) HE1.out HE2.out HE3.out HE4.out)
 clear hn HE1 HE2 HE3 HE4
 cases p2 <;> cases p3
 all_goals
  go_enter Tryz.func98,Tryz.ntmps98
  go_wp2
  go_ret
  exact ⟨bp_var HQ.out,(Below.refl _ _).alloc (Nat.le_refl _) _⟩
set_option maxHeartbeats 4000000 in
set_option maxRecDepth 100000 in
theorem bare_ftf {w : World} {sp kp : Option Addr} {sc kc n kn kd : Nat} {sl : List Sp} {mn mx : Int} (hn : n = sl.length) :
  Calls Tryz.prog 98 #[.agg #[.int .u8 kd,.slice sp n sc,.slice kp kn kc,.int .i64 mn,.int .i64 mx],.bool false,.bool true,.bool false] w fun e w'=>BP (BareP false true false sl kn mn mx) e∧Below w.heap.size w w':=by
 obtain ⟨p1,hp1⟩:∃ p,((n:Int) == 0)=p:=⟨_,rfl⟩
 obtain ⟨p2,hp2⟩:∃ p,((kn:Int) == 0)=p:=⟨_,rfl⟩
 obtain ⟨p3,hp3⟩:∃ p,(mn == 0)=p:=⟨_,rfl⟩
 obtain ⟨p4,hp4⟩:∃ p,(mx == 0)=p:=⟨_,rfl⟩
 have HE1:Hid (p1=true↔sl=[]):=Lib.hid (by rw [← hp1,beq_iff_eq];exact ⟨fun h=>List.length_eq_zero_iff.1 (by omega),fun h=>by subst h;simp at hn;omega⟩)
 have HE2:Hid (p2=true↔kn=0):=Lib.hid (by rw [← hp2,beq_iff_eq];omega)
 have HE3:Hid (p3=true↔mn=0):=Lib.hid (by rw [← hp3,beq_iff_eq])
 have HE4:Hid (p4=true↔mx=0):=Lib.hid (by rw [← hp4,beq_iff_eq])
 have HQ:=Lib.hid (bare_iff (a:=false) (b:=true) (c:=false) HE1.out HE2.out HE3.out HE4.out)
 clear hn HE1 HE2 HE3 HE4
 cases p1 <;> cases p3
 all_goals
  go_enter Tryz.func98,Tryz.ntmps98
  go_wp2
  go_ret
  exact ⟨bp_var HQ.out,(Below.refl _ _).alloc (Nat.le_refl _) _⟩
set_option maxHeartbeats 4000000 in
set_option maxRecDepth 100000 in
theorem bare_ftt {w : World} {sp kp : Option Addr} {sc kc n kn kd : Nat} {sl : List Sp} {mn mx : Int} (hn : n = sl.length) :
  Calls Tryz.prog 98 #[.agg #[.int .u8 kd,.slice sp n sc,.slice kp kn kc,.int .i64 mn,.int .i64 mx],.bool false,.bool true,.bool true] w fun e w'=>BP (BareP false true true sl kn mn mx) e∧Below w.heap.size w w':=by
 obtain ⟨p1,hp1⟩:∃ p,((n:Int) == 0)=p:=⟨_,rfl⟩
 obtain ⟨p2,hp2⟩:∃ p,((kn:Int) == 0)=p:=⟨_,rfl⟩
 obtain ⟨p3,hp3⟩:∃ p,(mn == 0)=p:=⟨_,rfl⟩
 obtain ⟨p4,hp4⟩:∃ p,(mx == 0)=p:=⟨_,rfl⟩
 have HE1:Hid (p1=true↔sl=[]):=Lib.hid (by rw [← hp1,beq_iff_eq];exact ⟨fun h=>List.length_eq_zero_iff.1 (by omega),fun h=>by subst h;simp at hn;omega⟩)
 have HE2:Hid (p2=true↔kn=0):=Lib.hid (by rw [← hp2,beq_iff_eq];omega)
 have HE3:Hid (p3=true↔mn=0):=Lib.hid (by rw [← hp3,beq_iff_eq])
 have HE4:Hid (p4=true↔mx=0):=Lib.hid (by rw [← hp4,beq_iff_eq])
 have HQ:=Lib.hid (bare_iff (a:=false) (b:=true) (c:=true) HE1.out HE2.out HE3.out HE4.out)
 clear hn HE1 HE2 HE3 HE4
 cases p1
 all_goals
  go_enter Tryz.func98,Tryz.ntmps98
  go_wp2
  go_ret
  exact ⟨bp_var HQ.out,(Below.refl _ _).alloc (Nat.le_refl _) _⟩
end Go.Proofs.YtioahgklplbinaaGreatDoor
namespace Go.Proofs.YtioahgklplbinaaGreatDoor
open Go.RowKit Go.Shelf Go.Maps SetM PropsM RxM WrM
mutual
def WdT : Ns → Prop
 | .mk _ sl kids _ _=>Wide sl∧WdL kids
def WdL : List Ns → Prop
 | []=>True
 | x::l=>WdT x∧WdL l
end
theorem wd_mk (k:Nat) (sl:List Sp) (kids:List Ns) (mn mx:Int):WdT (.mk k sl kids mn mx)↔Wide sl∧WdL kids:=by rw [WdT]
theorem wdL_iff : ∀ (l : List Ns), WdL l ↔ ∀ x ∈ l, WdT x
 | []=>by rw [WdL];simp
 | x::l=>by rw [WdL,wdL_iff l];simp
theorem BP.yes {P:Prop} {e:Ending} (h:BP P e) (hP:P):e=.returned (.bool true):=by
 obtain ⟨q,rfl,hq⟩:=h
 rw [hq.2 hP]
theorem BP.no {P:Prop} {e:Ending} (h:BP P e) (hP:¬ P):e=.returned (.bool false):=by
 obtain ⟨q,rfl,hq⟩:=h
 cases q with
 | true=>exact absurd (hq.1 rfl) hP
 | false=>rfl
theorem rnormal_c {W:World} {P:Option Addr} {sc n:Nat} {sl:List Sp} (hn:n=sl.length) (h8:n≤100000) (hw:Wide sl) (hs:Sl W P sl):Calls Tryz.prog 38 #[.slice P n sc] W fun e W'=>∃ Q m c out,e=.returned (.slice Q m c)∧m=out.length∧m≤400000∧(out=sl↔Norml sl)∧Sl W' Q out∧Below W.heap.size W W':=by
 subst hn
 refine (rnorm_n (c:=sc) hs h8 hw).mono ?_
 rintro e W' ⟨Q,c,out,rfl,h2,h3,h4,h5,h6,h7⟩
 refine ⟨Q,out.length,c,out,rfl,rfl,by omega,⟨fun e=>?_,fun hN=>?_⟩,h4,h7⟩
 ·subst e
  exact ⟨h2.1,fun r hr=>((h2.2 r).1 hr).1⟩
 ·exact nf_unique _ _ h2.1 hN.1 (fun r=>(h2.2 r).trans ⟨fun h=>h.2,fun h=>⟨hN.2 r h,h⟩⟩)
def RSndC (t:Ns):Prop:=∀ (W:World) (v:Value) (deep:Int),0≤deep→deep≤21→RV W v t→WdT t →
 Calls Tryz.prog 82 #[v,.int .i64 deep] W fun e W'=>BP (Shp t∧deep+dep t≤20) e∧Below W.heap.size W W'
set_option maxHeartbeats 8000000 in
set_option maxRecDepth 100000 in
theorem rsnd_k (t:Ns) (ih:∀ u∈t.kids,RSndC u):RSndC t:=by
 intro W v deep ha0 ha21 hv hwd
 obtain ⟨kd,sl,kids,mn,mx⟩:=t
 have hv0:=hv
 obtain ⟨sp,sc,kp,kc,rfl,⟨hsl,hkl⟩,hsp,_,hk⟩:=hv.read
 rw [wd_mk,wdL_iff] at hwd
 obtain ⟨n,hn⟩:∃ n,n=sl.length:=⟨_,rfl⟩
 obtain ⟨kn,hkn⟩:∃ kn,kn=kids.length:=⟨_,rfl⟩
 obtain ⟨z,hz⟩:∃ z:Int,z=(kd:Int):=⟨_,rfl⟩
 rw [← hn,← hkn,← hz]
 rw [← hn] at hsl
 rw [← hkn] at hkl
 obtain ⟨V,hV⟩:∃ V,V=W.alloc (.cells #[.int .u8 z,.slice sp n sc,.slice kp kn kc,.int .i64 mn,.int .i64 mx] 48):=⟨_,rfl⟩
 have n1:V.heap[W.heap.size]? = some (.cells #[.int .u8 z,.slice sp n sc,.slice kp kn kc,.int .i64 mn,.int .i64 mx] 48 (0,0)):=by rw [hV];exact heap_alloc_new W _
 have hb:Below W.heap.size W V:=by rw [hV];exact (Below.refl _ _).alloc (Nat.le_refl _) _
 have hlt:=(Array.getElem?_eq_some_iff.1 n1).1
 have HX:=Lib.hid (fun (U:World) (hU:Below V.heap.size V U)=>(⟨(hU.cell (p:=⟨W.heap.size,0,none⟩) hlt).trans (by rw [cell_of_row V _ 0 _ _ _ n1];rfl),(hU.cell (p:=⟨W.heap.size,1,none⟩) hlt).trans (by rw [cell_of_row V _ 1 _ _ _ n1];rfl),(hU.cell (p:=⟨W.heap.size,2,none⟩) hlt).trans (by rw [cell_of_row V _ 2 _ _ _ n1];rfl),(hU.cell (p:=⟨W.heap.size,3,none⟩) hlt).trans (by rw [cell_of_row V _ 3 _ _ _ n1];rfl),(hU.cell (p:=⟨W.heap.size,4,none⟩) hlt).trans (by rw [cell_of_row V _ 4 _ _ _ n1];rfl)⟩:U.cell? ⟨W.heap.size,0,none⟩=some (.int .u8 z)∧U.cell? ⟨W.heap.size,1,none⟩=some (.slice sp n sc)∧U.cell? ⟨W.heap.size,2,none⟩=some (.slice kp kn kc)∧U.cell? ⟨W.heap.size,3,none⟩=some (.int .i64 mn)∧U.cell? ⟨W.heap.size,4,none⟩=some (.int .i64 mx)))
 have HB:=Lib.hid hb
 have HN:=Lib.hid hn
 have HKN:=Lib.hid hkn
 have HKZ:=Lib.hid hz
 have HI:Hid (∀ u∈kids,RSndC u):=Lib.hid ih
 have HWD:=Lib.hid hwd.2
 have HK:=Lib.hid hk
 have HNO:=Lib.hid (fun (U:World) (hU:Below V.heap.size V U)=>rnormal_c (sc:=sc) hn hsl hwd.1 ((hsp.step hb).step hU))
 have HAK:=Lib.hid (fun (U:World) (hU:Below V.heap.size V U) (Q:Option Addr) (m c:Nat) (out:List Sp) (hm:m=out.length) (hml:m≤400000) (hQ:Sl U Q out)=>(by subst hn hm;exact alike_any Q sp c sc out sl (by omega) (by omega) U hQ ((hsp.step hb).step hU):Calls Tryz.prog 32 #[.slice Q m c,.slice sp n sc] U fun e U'=>e=.returned (.bool (decide (out=sl)))∧Below U.heap.size U U'))
 have HXV:=Lib.hid (HX.out V (Below.refl _ _))
 clear hv hv0 hwd hk hn hkn hz ih hsp n1 hb hlt
 by_cases h20:deep > 20
 ·have HQ : Hid (BP (Shp (.mk kd sl kids mn mx) ∧ deep + dep (.mk kd sl kids mn mx) ≤ 20) (.returned (.bool false))) := Lib.hid (bp_false (fun h => by omega))
  go_enter Tryz.func82,Tryz.ntmps82
  go_wp2
  rw [← hV]
  go_ret
  exact ⟨HQ.out,HB.out⟩
 have h20':¬ 20 < deep:=h20
 go_enter Tryz.func82,Tryz.ntmps82
 go_wp2_with fail
 rw [← hV]
 clear hV
 go_loopg [5,6] kn (fun r s5 s6 wx=>∃ (k:Nat),k+r=kn∧s5=.int .i64 k∧Hid (∀ x∈kids.take k,Shp x∧deep+1+dep x≤20)∧Hid (Below V.heap.size V wx))
 case atStart=>exact ⟨0,by omega,rfl,Lib.hid (fun x hx=>by simp at hx),Lib.hid (Below.refl _ _)⟩
 case round =>
  obtain ⟨k,hkr,rfl,HS,HBr⟩:=hrel
  obtain ⟨c0,c1,c2,c3,c4⟩:=HX.out wr HBr.out
  cases gk with
  | succ gk =>
   have hl:(k:Int) < (kn:Int):=by omega
   have h0:(0:Int)≤(k:Int):=by omega
   have hkl:k < kids.length:=by have:=HKN.out;omega
   obtain ⟨g,rfl,⟨cs,hcs⟩,hrow⟩:=HK.out (fun e=>by rw [e] at hkl;cases hkl)
   have hgl:=(Array.getElem?_eq_some_iff.1 hcs).1
   obtain ⟨u,hu,hc⟩:=hrow k hkl
   have hBw:Below W.heap.size W wr:=HB.out.trans (HBr.out.mono HB.out.size)
   obtain ⟨t,ht⟩:∃ t,t=kids[k]:=⟨_,rfl⟩
   rw [← ht] at hu
   obtain ⟨tkd,tsl,tk,tmn,tmx⟩:=t
   obtain ⟨tsp,tsc,tkp,tkc,rfl,hu8,_⟩:=hu.read
   have d0:=(hBw.cell (p:=⟨g,k*5+0,none⟩) hgl).trans (hc 0 (by omega))
   have d1:=(hBw.cell (p:=⟨g,k*5+1,none⟩) hgl).trans (hc 1 (by omega))
   have d2:=(hBw.cell (p:=⟨g,k*5+2,none⟩) hgl).trans (hc 2 (by omega))
   have d3:=(hBw.cell (p:=⟨g,k*5+3,none⟩) hgl).trans (hc 3 (by omega))
   have d4:=(hBw.cell (p:=⟨g,k*5+4,none⟩) hgl).trans (hc 4 (by omega))
   simp only [kidParts,Nat.add_zero] at d0 d1 d2 d3 d4
   simp at d0 d1 d2 d3 d4
   obtain ⟨tn,htn⟩:∃ tn,tn=tsl.length:=⟨_,rfl⟩
   obtain ⟨tkn,htkn⟩:∃ tkn,tkn=tk.length:=⟨_,rfl⟩
   rw [← htn] at d1 hu
   rw [← htkn] at d2 hu
   have hm:Ns.mk tkd tsl tk tmn tmx∈kids:=by rw [ht];exact List.getElem_mem hkl
   have HC:=Lib.hid (HI.out _ hm wr _ (deep+1) (by omega) (by omega) (hu.step hBw) (HWD.out _ hm))
   have HTK:Hid (kids.take (k+1)=kids.take k++[Ns.mk tkd tsl tk tmn tmx]):=Lib.hid (by rw [ht];exact List.take_succ_eq_append_getElem hkl)
   have HMEM:=Lib.hid hm
   clear hu hc hBw ht hm htn htkn hu8 hcs hrow
   go_wp2_with fail
   refine HC.out.mono ?_
   rintro e w5 ⟨⟨q5,rfl,hq5⟩,b5⟩
   have HB5:=Lib.hid (HBr.out.trans (b5.mono HBr.out.size))
   cases q5 with
   | false =>
    have HQ:Hid (BP (Shp (.mk kd sl kids mn mx)∧deep+dep (.mk kd sl kids mn mx)≤20) (.returned (.bool false))):=Lib.hid (bp_false (fun h=>by
     rw [shp_mk,dep_mk] at h
     have h1:=(shpL_iff _).1 h.1.2 _ HMEM.out
     have h2:=depL_mem _ _ HMEM.out
     have:=hq5.2 ⟨h1,by omega⟩
     cases this))
    clear hq5 b5
    go_wp2
    go_ret
    exact ⟨HQ.out,HB.out.trans (HB5.out.mono HB.out.size)⟩
   | true =>
    have hs5:=hq5.1 rfl
    have HS2:Hid (∀ x∈kids.take (k+1),Shp x∧deep+1+dep x≤20):=Lib.hid (fun x hx=>by
     rw [HTK.out] at hx
     rcases List.mem_append.1 hx with h | h
     ·exact HS.out x h
     ·simp at h;subst h;exact hs5)
    clear hq5 b5 hs5
    go_wp2
    go_roundg gk
    case measure=>omega
    case rel=>exact ⟨k+1,by omega,rfl,HS2,HB5⟩
  | zero =>
   have hl:¬ ((k:Int) < (kn:Int)):=by omega
   have HFIN:Hid (∀ q:Bool,(q=true↔Shape kd sl kn mn mx)→BP (Shp (.mk kd sl kids mn mx)∧deep+dep (.mk kd sl kids mn mx)≤20) (.returned (.bool q))):=Lib.hid (fun q hq=>bp_var (by
    have e:kids.take k=kids:=List.take_of_length_le (by have:=HKN.out;omega)
    have h3:=HS.out
    rw [e] at h3
    rw [hq,shp_mk,dep_mk,← HKN.out,shpL_iff]
    refine ⟨fun h=>⟨⟨h,fun x hx=>(h3 x hx).1⟩,?_⟩,fun h=>h.1.1⟩
    have:=depL_le kids (20 - deep).toNat (fun x hx=>by have:=(h3 x hx).2;omega)
    omega))
   have HBW:Hid (Below W.heap.size W wr):=Lib.hid (HB.out.trans (HBr.out.mono HB.out.size))
   clear HS hkr
   by_cases h0:kd=0
   ·obtain rfl := h0
    obtain rfl:z=0:=HKZ.out
    go_wp2_with fail
    refine (bare_fff HN.out).mono ?_
    rintro e w2 ⟨⟨q,rfl,hq⟩,b2⟩
    have HQ:=Lib.hid (HFIN.out q (by rw [hq];unfold BareP Shape;constructor <;> (intro h;simp at h ⊢;omega)))
    have HB2:=Lib.hid (HBW.out.trans (b2.mono HBW.out.size))
    clear hq b2
    go_wp2
    go_ret
    exact ⟨HQ.out,HB2.out⟩
   by_cases h1:kd=1
   ·obtain rfl := h1
    obtain rfl:z=1:=HKZ.out
    clear h0
    by_cases hP:BareP true false false sl kn mn mx
    ·have HP := Lib.hid hP
     have HXL:Hid (∀ U,Below wr.heap.size wr U→U.cell? ⟨W.heap.size,0,none⟩=some (.int .u8 1)∧U.cell? ⟨W.heap.size,1,none⟩=some (.slice sp n sc)∧U.cell? ⟨W.heap.size,2,none⟩=some (.slice kp kn kc)∧U.cell? ⟨W.heap.size,3,none⟩=some (.int .i64 mn)∧U.cell? ⟨W.heap.size,4,none⟩=some (.int .i64 mx)):=Lib.hid (fun U hU=>HX.out U (HBr.out.trans (hU.mono HBr.out.size)))
     clear hP
     go_wp2_with fail
     have hr:Below wr.heap.size wr wr.drew:=(Below.refl _ _).drew
     go_region_held3 (fun U => U.cell? ⟨W.heap.size, 0, none⟩ = some (.int .u8 1) ∧ U.cell? ⟨W.heap.size, 1, none⟩ = some (.slice sp n sc) ∧ U.cell? ⟨W.heap.size, 2, none⟩ = some (.slice kp kn kc) ∧ U.cell? ⟨W.heap.size, 3, none⟩ = some (.int .i64 mn) ∧ U.cell? ⟨W.heap.size, 4, none⟩ = some (.int .i64 mx))
      (exact HXL.out _ hr)
      (first
       | (go_at_call 98;(refine (bare_tff HN.out).mono ?_);rintro e w2 ⟨hq2,b2⟩;obtain rfl:=hq2.yes HP.out;have hr:=hr.trans (b2.mono hr.size);clear hq2 b2)
       | (go_at_call 38;(refine (HNO.out _ (HBr.out.trans (hr.mono HBr.out.size))).mono ?_);rintro e w3 ⟨Q,m,c,out,rfl,hm,hml,ho,hQ,b3⟩;have HM:=Lib.hid hm;have HML:=Lib.hid hml;have HO:=Lib.hid ho;have HQS:=Lib.hid hQ;have hr:=hr.trans (b3.mono hr.size);clear hm hml ho hQ b3)
       | (go_at_call 32;(refine (HAK.out _ (HBr.out.trans (hr.mono HBr.out.size)) Q m c out HM.out HML.out HQS.out).mono ?_);rintro e w4 ⟨rfl,b4⟩;have hr:=hr.trans (b4.mono hr.size);clear b4))
     have HQ:=Lib.hid (HFIN.out (decide (out=sl)) (by
      have hp:=HP.out
      unfold BareP at hp
      simp at hp
      rw [decide_eq_true_iff,HO.out]
      unfold Shape
      constructor
      ·intro h;exact .inr (.inl ⟨rfl,hp.1,hp.2.1,hp.2.2,h⟩)
      ·intro h
       rcases h with h | h | h | h
       ·omega
       ·exact h.2.2.2.2
       ·omega
       ·omega))
     have HB2:=Lib.hid (HBW.out.trans (hr.mono HBW.out.size))
     clear hr
     go_wp2
     go_ret
     exact ⟨HQ.out,HB2.out⟩
    ·have HP := Lib.hid hP
     clear hP
     have HXL:Hid (∀ U,Below wr.heap.size wr U→U.cell? ⟨W.heap.size,0,none⟩=some (.int .u8 1)∧U.cell? ⟨W.heap.size,1,none⟩=some (.slice sp n sc)∧U.cell? ⟨W.heap.size,2,none⟩=some (.slice kp kn kc)∧U.cell? ⟨W.heap.size,3,none⟩=some (.int .i64 mn)∧U.cell? ⟨W.heap.size,4,none⟩=some (.int .i64 mx)):=Lib.hid (fun U hU=>HX.out U (HBr.out.trans (hU.mono HBr.out.size)))
     go_wp2_with fail
     have hr:Below wr.heap.size wr wr.drew:=(Below.refl _ _).drew
     obtain ⟨x0,x1,x2,x3,x4⟩:=HXL.out _ hr
     first | (go_region_with ((go_at_call 98;(refine (bare_tff HN.out).mono ?_);rintro e w2 ⟨hq2,b2⟩;obtain rfl:=hq2.no HP.out;have hr:=hr.trans (b2.mono hr.size);obtain ⟨x0,x1,x2,x3,x4⟩:=HXL.out _ hr;clear hq2 b2))) | fail
     all_goals
      have HQ:=Lib.hid (HFIN.out false (by
       have hp:=HP.out
       unfold BareP at hp
       unfold Shape
       constructor
       ·intro h;cases h
       ·intro h
        refine absurd ?_ hp
        rcases h with h | h | h | h
        ·omega
        ·exact ⟨.inl rfl,.inr h.2.1,.inr ⟨h.2.2.1,h.2.2.2.1⟩⟩
        ·omega
        ·omega))
      have HB2:=Lib.hid (HBW.out.trans (hr.mono HBW.out.size))
      clear hr
      go_wp2
      go_ret
      exact ⟨HQ.out,HB2.out⟩
   by_cases h2:kd=2
   ·obtain rfl := h2
    obtain rfl:z=2:=HKZ.out
    clear h0 h1
    go_wp2_with fail
    refine (bare_ftf HN.out).mono ?_
    rintro e w2 ⟨⟨q,rfl,hq⟩,b2⟩
    obtain ⟨c0,c1,c2,c3,c4⟩:=HX.out w2 (HBr.out.trans (b2.mono HBr.out.size))
    have HB2:=Lib.hid (HBW.out.trans (b2.mono HBW.out.size))
    have HQ1:=Lib.hid hq
    clear hq b2
    cases q with
    | false =>
     have HQ:=Lib.hid (HFIN.out false (by have h:=HQ1.out;unfold BareP at h;unfold Shape;simp at h ⊢;intro h1 h2 h3 h4;exact h h2 h3 h4))
     go_wp2
     go_ret
     exact ⟨HQ.out,HB2.out⟩
    | true =>
     have HQ:=Lib.hid (HFIN.out (decide ((kn:Int) ≥ 2)) (by have h:=HQ1.out;unfold BareP at h;unfold Shape;simp at h ⊢;exact ⟨fun h2=>⟨by omega,h.1,h.2.1,h.2.2⟩,fun h2=>by omega⟩))
     go_wp2
     go_ret
     exact ⟨HQ.out,HB2.out⟩
   by_cases h3:kd=3
   ·obtain rfl := h3
    obtain rfl:z=3:=HKZ.out
    clear h0 h1 h2
    go_wp2_with fail
    refine (bare_ftf HN.out).mono ?_
    rintro e w2 ⟨⟨q,rfl,hq⟩,b2⟩
    obtain ⟨c0,c1,c2,c3,c4⟩:=HX.out w2 (HBr.out.trans (b2.mono HBr.out.size))
    have HB2:=Lib.hid (HBW.out.trans (b2.mono HBW.out.size))
    have HQ1:=Lib.hid hq
    clear hq b2
    cases q with
    | false =>
     have HQ:=Lib.hid (HFIN.out false (by have h:=HQ1.out;unfold BareP at h;unfold Shape;simp at h ⊢;intro h1 h2 h3 h4;exact h h2 h3 h4))
     go_wp2
     go_ret
     exact ⟨HQ.out,HB2.out⟩
    | true =>
     have HQ:=Lib.hid (HFIN.out (decide ((kn:Int) ≥ 2)) (by have h:=HQ1.out;unfold BareP at h;unfold Shape;simp at h ⊢;exact ⟨fun h2=>⟨by omega,h.1,h.2.1,h.2.2⟩,fun h2=>by omega⟩))
     go_wp2
     go_ret
     exact ⟨HQ.out,HB2.out⟩
   by_cases h4:kd=4
   ·obtain rfl := h4
    obtain rfl:z=4:=HKZ.out
    clear h0 h1 h2 h3
    go_wp2_with fail
    refine (bare_ftt HN.out).mono ?_
    rintro e w2 ⟨⟨q,rfl,hq⟩,b2⟩
    obtain ⟨c0,c1,c2,c3,c4⟩:=HX.out w2 (HBr.out.trans (b2.mono HBr.out.size))
    have HB2:=Lib.hid (HBW.out.trans (b2.mono HBW.out.size))
    have HQ1:=Lib.hid hq
    clear hq b2
    cases q with
    | false =>
     have HQ:=Lib.hid (HFIN.out false (by
      have h:=HQ1.out
      unfold BareP at h
      unfold Shape
      simp at h ⊢
      intro h1 h2;exact absurd h2 h
      ))
     go_wp2
     go_ret
     exact ⟨HQ.out,HB2.out⟩
    | true =>
     by_cases g1:kn=1
     ·have g1' : ((kn : Int) == 1) = true := by rw [beq_iff_eq]; omega
      have G1:=Lib.hid g1
      clear g1
      by_cases g2:mn ≥ 0
      ·by_cases g3 : mn ≤ 20
       ·by_cases g4 : mx = -1
        ·subst g4
         have HQ:=Lib.hid (HFIN.out true (by
          have h:=HQ1.out
          unfold BareP at h
          unfold Shape
          simp at h ⊢
          exact ⟨G1.out,h,by omega⟩
          ))
         go_wp2
         go_ret
         exact ⟨HQ.out,HB2.out⟩
        ·have g4' : (mx == -1) = false := by rw [beq_eq_false_iff_ne]; exact g4
         have G4:=Lib.hid g4
         clear g4
         by_cases g5:mx ≥ mn
         ·by_cases g6 : mx ≤ 20
          ·have HQ:=Lib.hid (HFIN.out true (by
            have h:=HQ1.out
            unfold BareP at h
            unfold Shape
            simp at h ⊢
            exact ⟨G1.out,h,by omega⟩
            ))
           go_wp2
           go_ret
           exact ⟨HQ.out,HB2.out⟩
          ·have g6' : decide (mx ≤ 20) = false := decide_eq_false g6
           have HQ:=Lib.hid (HFIN.out false (by
            have h:=HQ1.out
            unfold BareP at h
            unfold Shape
            simp at h ⊢
            intro _ _ _ _;have:=G4.out;omega
            ))
           go_wp2
           go_ret
           exact ⟨HQ.out,HB2.out⟩
         ·have HQ:=Lib.hid (HFIN.out false (by
           have h:=HQ1.out
           unfold BareP at h
           unfold Shape
           simp at h ⊢
           intro _ _ _ _;have:=G4.out;omega
           ))
          go_wp2
          go_ret
          exact ⟨HQ.out,HB2.out⟩
       ·have HQ:=Lib.hid (HFIN.out false (by
         have h:=HQ1.out
         unfold BareP at h
         unfold Shape
         simp at h ⊢
         omega
         ))
        go_wp2
        go_ret
        exact ⟨HQ.out,HB2.out⟩
      ·have HQ:=Lib.hid (HFIN.out false (by
        have h:=HQ1.out
        unfold BareP at h
        unfold Shape
        simp at h ⊢
        omega
        ))
       go_wp2
       go_ret
       exact ⟨HQ.out,HB2.out⟩
     ·have g1' : ((kn : Int) == 1) = false := by rw [beq_eq_false_iff_ne]; omega
      have G1:=Lib.hid g1
      clear g1
      have HQ:=Lib.hid (HFIN.out false (by
       have h:=HQ1.out
       unfold BareP at h
       unfold Shape
       simp at h ⊢
       intro h1;exact absurd h1 G1.out
       ))
      go_wp2
      go_ret
      exact ⟨HQ.out,HB2.out⟩
   have hz:=HKZ.out
   have z0:(z == 0)=false:=by rw [beq_eq_false_iff_ne];omega
   have z1:(z == 1)=false:=by rw [beq_eq_false_iff_ne];omega
   have z2:(z == 2)=false:=by rw [beq_eq_false_iff_ne];omega
   have z3:(z == 3)=false:=by rw [beq_eq_false_iff_ne];omega
   have z4:(z == 4)=false:=by rw [beq_eq_false_iff_ne];omega
   have HQ:=Lib.hid (HFIN.out false (by unfold Shape;simp;omega))
   clear h0 h1 h2 h3 h4 hz
   go_wp2
   go_ret
   exact ⟨HQ.out,HBW.out⟩
theorem rsnd_all : ∀ (t : Ns), RSndC t
 | .mk k sl kids mn mx=>rsnd_k _ (fun u _hu=>rsnd_all u)
termination_by t=>SizeOf.sizeOf t
decreasing_by
 have:=List.sizeOf_lt_of_mem (show u∈kids from _hu)
 simp only [Ns.mk.sizeOf_spec]
 omega
end Go.Proofs.YtioahgklplbinaaGreatDoor
