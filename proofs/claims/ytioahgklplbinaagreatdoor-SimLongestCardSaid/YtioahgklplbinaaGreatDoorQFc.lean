/- QCat, QAlt, in one text. -/
import Derived.Test.YtioahgklplbinaaGreatDoorQRep
import Derived.Test.YtioahgklplbinaaGreatDoorRR
import Derived.Test.YtioahgklplbinaaGreatDoorRN
/- The document's reader: one behind the other. -/
namespace Go.Proofs.YtioahgklplbinaaGreatDoor
open Go.RowKit Go.Shelf Go.Maps SetM PropsM RxM
section
variable {R:Nat} {W W' W0:World} {s:ByteArray} {dv:Value} {rest r:List Int} {N:Nat×Nat} {d f n:Nat} {z c:Int} {σ:Out Unit}
def bindS {α:Type} (σ:Out Unit) (F:List Int→Out α):Out α:=match σ with
 | .ok _ r=>F r
 | .err n x=>.err n x
def FQs (g:FuncId) (N:Nat×Nat) (R:Nat) (s:ByteArray) (dv:Value) (d f:Nat) (W0:World) (F:List Int→Out Nd):Prop :=
 ∀ (W:World) (σ:Out Unit),Gr R W0 W→Rs R W s dv d f σ→Calls Tryz.prog g #[.pointer (some ⟨R,0,none⟩)] W (NodeQ N R s dv d f (bindS σ F) W)
def Beg2 (r:List Int):Prop:=r≠[]∧at1 124 r=false∧at1 41 r=false
def catLQ (rep : List Int → Out Nd) : Nat → List Nd → List Int → Out (List Nd)
 | 0,_,r=>.err 0 r
 | f+1,acc,r=>if r=[]∨at1 124 r=true∨at1 41 r=true then .ok acc r else match rep r with
  | .err e x=>.err e x
  | .ok y r2=>catLQ rep f (acc++[y]) r2
def joinO (k : Nat) : Out (List Nd) → Out Nd
 | .err e x=>.err e x
 | .ok l r1=>.ok (joinF k l) r1
def catQ (rep:List Int→Out Nd) (r:List Int):Out Nd:=match catLQ rep 201 [] r with
 | .err e x=>.err e x
 | .ok l r1=>.ok (joinF 2 l) r1
theorem catLQ_succ (rep:List Int→Out Nd) (f:Nat) (acc:List Nd) (r:List Int):catLQ rep (f+1) acc r=if r=[]∨at1 124 r=true∨at1 41 r=true then .ok acc r else match rep r with
  | .err e x=>.err e x
  | .ok y r2=>catLQ rep f (acc++[y]) r2:=rfl
def CaSt (rep:List Int→Out Nd) (o1:Out (List Nd)) (g:Nat) (ts:List Nd) (σ:Out Unit):Prop :=
 (∃ r fu,σ=.ok () r∧o1=catLQ rep fu ts r∧r.length < fu∧r.length≤g∧ts.length+r.length≤200)∨(∃ n y,σ=.err n y∧o1=.err n y∧ts.length≤200)
theorem row_many {base : Nat} {A : Nat → Prop} {v : Value} {ts : List Nd} (k : Nat) (hown : RowN W base A v ts) (hl : ts.length ≤ 1000) (h2 : 2 ≤ ts.length) (hA : ∀ b, base ≤ b → A b) :
  ∃ g cap,v=.slice (some ⟨g,0,none⟩) ts.length cap∧NV W A (.agg #[.int .u8 k,.slice none 0 0,.slice (some ⟨g,0,none⟩) ts.length cap,.int .i64 0,.int .i64 0]) (joinF k ts):=by
 obtain ⟨us,h1,hh⟩:=hown
 obtain ⟨m,hm,hi⟩:=hh
 match ts,us,hm with
 | [],_,_=>simp at h2
 | [t],_,_=>simp at h2
 | t1::t2::tl,u1::u2::ul,hm =>
  obtain ⟨g,cap,rfl,hbg,hg⟩:=h1.form (by simp)
  refine ⟨g,cap,rfl,?_⟩
  rcases h1.2 with h | ⟨g',cap',cur,e1,e2,e3,e4,e5,e6,e7⟩
  ·cases h.1
  ·cases e1
   refine ⟨m+1,none,[],0,some ⟨g,0,none⟩,cap,rfl,none_set,⟨by simp,hl⟩,fun h=>absurd rfl h,fun _=>rfl,fun a h=>(by cases h),fun h=>(by cases h),fun _=>⟨g,cur,u1::u2::ul,rfl,hA g hbg,e3,hm,by rw [hm];exact e7,fun i hlt u hu=>?_⟩⟩
   exact (hi i hlt u hu).imp (fun x hx hlt=>⟨hx.1,rfl⟩) (Nat.le_refl _)
theorem row_none {base:Nat} {A:Nat→Prop} {v:Value} {ts:List Nd} (hown:RowN W base A v ts) (h0:ts.length=0):∃ P cap,v=.slice P 0 cap:=by
 obtain ⟨us,h1,_⟩:=hown
 rcases h1.2 with h | ⟨g,cap,cur,e1,_⟩
 ·exact ⟨none,0,h.1⟩
 ·exact ⟨some ⟨g,0,none⟩,cap,by rw [e1,h0]⟩
set_option maxRecDepth 100000 in
set_option maxHeartbeats 8000000 in
theorem cat_q (hN:N.2≤R) {rep:List Int→Out Nd} (hL:∀ r x r',rep r=.ok x r'→r'.length < r.length) (HA:FQ 101 N R s dv d f W0 Beg2 rep):FQs 85 N R s dv d f W0 (catQ rep):=by
 intro W σ hC h
 have hRW:=h.lt
 have hsm:=h.small
 obtain ⟨o,ho⟩:∃ o,o=bindS σ (catQ rep):=⟨_,rfl⟩
 rw [← ho]
 obtain ⟨o1,ho1⟩:∃ o1,o1=bindS σ (catLQ rep 201 []):=⟨_,rfl⟩
 have HO:Hid (o=joinO 2 o1):=Lib.hid (by
  rw [ho,ho1]
  cases σ with
  | ok u r=>rfl
  | err n x=>rfl)
 have HST:Hid (CaSt rep o1 200 [] σ):=Lib.hid (by
  rw [ho1]
  cases σ with
  | ok u r =>
   have hf:r.length≤200:=Rr.few (show Rr R W s dv r d f from h)
   exact .inl ⟨r,201,rfl,rfl,by omega,hf,by simp;omega⟩
  | err n x=>exact .inr ⟨n,x,rfl,rfl,by simp⟩)
 obtain ⟨V,hV⟩:∃ V,V=W.alloc (.cells #[.int .u8 0,.slice none 0 0,.slice none 0 0,.int .i64 0,.int .i64 0] 48):=⟨_,rfl⟩
 have hb0:Below W.heap.size W V:=by rw [hV];exact (Below.refl W.heap.size W).alloc (Nat.le_refl _) _
 have HZ:Hid (V.heap.size=W.heap.size+1):=Lib.hid (by rw [hV];exact World.size_alloc _ _)
 have HB5:Hid (B5 V W.heap.size):=Lib.hid (by rw [hV];exact B5.new W _ _ _ _ _)
 have HR:=Lib.hid (h.kept hb0)
 have HB0:=Lib.hid hb0
 have HC0:=Lib.hid (hC.trans (Gr.of hb0))
 have HA0:=Lib.hid HA
 have HL:=Lib.hid hL
 have hzv:=HZ.out
 clear h ho ho1 hb0 hC HA hL
 go_enter Tryz.func85,Tryz.ntmps85
 go_wp2_with fail
 rw [← hV]
 clear hV
 go_loopg [3] 200 (fun g s3 wx=>∃ ts σ,RowN wx V.heap.size (Old N (W.heap.size+1)) s3 ts∧Hid (Rs R wx s dv d f σ)∧Hid (Gr R V wx)∧Hid (CaSt rep o1 g ts σ))
 case atStart=>exact ⟨[],σ,RowN.nil,HR,Lib.hid (Gr.refl _ _),HST⟩
 case round =>
  clear HST HR
  obtain ⟨ts,σ,hrow,HR,HG,HST⟩:=hrel
  have hts:ts.length≤200:=by
   rcases HST.out with ⟨_,_,_,_,_,_,h⟩ | ⟨_,_,_,_,h⟩ <;> omega
  obtain ⟨z,hz⟩:∃ z,z=lookS σ:=⟨_,rfl⟩
  have HSEE:=Lib.hid (see_all (R:=R) (s:=s) (dv:=dv) (d:=d) (f:=f) z hz)
  by_cases hstop:z < 0∨z=124∨z=41
  ·have HEND:Hid ((∀ y r,o=.ok y r→joinF 2 ts=y)∧Out.u o=σ):=Lib.hid (by
    rw [HO.out]
    rcases HST.out with ⟨r,fu,rfl,hc,hlf,_,_⟩ | ⟨n,x,rfl,hc,_⟩
    ·obtain ⟨fu, rfl⟩ : ∃ f', fu = f' + 1 := ⟨fu - 1, by omega⟩
     have hlk:=lookq_c (show Rr R wr s dv r d f from HR.out)
     rw [← hz] at hlk
     rw [catLQ_succ,if_pos (by
      rcases hlk with ⟨h1,h2⟩ | ⟨c,t,rfl,⟨h1,h2,h3⟩ | ⟨h1,h2,h3⟩⟩
      ·exact .inl h1
      ·rcases hstop with h | h | h
       ·omega
       ·exact .inr (.inl (decide_eq_true (by omega)))
       ·exact .inr (.inr (decide_eq_true (by omega)))
      ·omega)] at hc
     rw [hc]
     exact ⟨fun y r h=>(by cases h;rfl),rfl⟩
    ·rw [hc]
     exact ⟨fun y r h=>(by cases h),rfl⟩)
   clear hz HST
   by_cases hz0:z ≥ 0
   ·by_cases hz1 : z = 124
    ·subst hz1
     clear hstop
     go_wp2_with fail
     refine (HSEE.out _ HR.out).mono ?_
     rintro e w1 ⟨rfl,b1⟩
     have HR:=Lib.hid (HR.out.kept b1)
     have hrow:=hrow.gr (Gr.of (R:=R) b1) (by omega) (by omega)
     have HG:=Lib.hid (HG.out.trans (Gr.of b1))
     clear b1
     go_wp2_with fail
     refine (HSEE.out _ HR.out).mono ?_
     rintro e w1 ⟨rfl,b1⟩
     have HR:=Lib.hid (HR.out.kept b1)
     have hrow:=hrow.gr (Gr.of (R:=R) b1) (by omega) (by omega)
     have HG:=Lib.hid (HG.out.trans (Gr.of b1))
     clear b1
     rcases (by omega:ts.length=0∨ts.length=1∨2≤ts.length) with h0 | h0 | h0
     ·obtain ⟨P, cap, rfl⟩ := row_none hrow h0
      obtain rfl:=List.length_eq_zero_iff.1 h0
      have hv:NV w1 (Old N (W.heap.size+1)) (.agg #[.int .u8 0,.slice none 0 0,.slice none 0 0,.int .i64 0,.int .i64 0]) (joinF 2 []):=empty_nv
      have h5:=HB5.out.gr HG.out (by omega)
      obtain ⟨⟨x0,x1,x2,x3,x4,k0,k1,k2,k3,k4⟩,f0,f1,f2,f3,f4⟩:=h5.cells
      have H5:=Lib.hid h5
      have HV:=Lib.hid hv
      clear hv h5 hrow HSEE
      go_wp2
      exact ret_node rfl rfl H5.out ⟨_,_,rfl,put5_nv (R:=R) _ _ _ _ _ HV.out (by omega) hRW (by omega),HEND.out.1,by rw [HEND.out.2];exact Rs.put5 HR.out (by omega) _ _ _ _ _,put5_grR _ _ _ _ _ ((Gr.of HB0.out).trans HG.out) (Nat.le_refl _)⟩
     ·obtain ⟨t, rfl⟩ := List.length_eq_one_iff.1 h0
      obtain ⟨g,cap,kk,sp,sn,sc,kp,kn,kc,mn,mx,rfl,hv,q0,q1,q2,q3,q4⟩:=row_one hrow
      have h5:=HB5.out.gr HG.out (by omega)
      obtain ⟨⟨x0,x1,x2,x3,x4,k0,k1,k2,k3,k4⟩,f0,f1,f2,f3,f4⟩:=h5.cells
      have H5:=Lib.hid h5
      have HV:=Lib.hid hv
      clear hv h5 hrow HSEE
      go_wp2
      exact ret_node rfl rfl H5.out ⟨_,_,rfl,put5_nv (R:=R) _ _ _ _ _ HV.out (by omega) hRW (by omega),HEND.out.1,by rw [HEND.out.2];exact Rs.put5 HR.out (by omega) _ _ _ _ _,put5_grR _ _ _ _ _ ((Gr.of HB0.out).trans HG.out) (Nat.le_refl _)⟩
     ·obtain ⟨g, cap, rfl, hv⟩ := row_many 2 hrow (by omega) h0 (fun b hb => .inr (by omega))
      obtain ⟨n,hn⟩:∃ n,n=ts.length:=⟨_,rfl⟩
      rw [← hn] at h0 hv hts ⊢
      have d0:((n:Int) == 0)=false:=by rw [beq_eq_false_iff_ne];omega
      have d1:((n:Int) == 1)=false:=by rw [beq_eq_false_iff_ne];omega
      have d2:¬ (n:Int)=0:=by omega
      have d3:¬ (n:Int)=1:=by omega
      clear hn
      have h5:=HB5.out.gr HG.out (by omega)
      obtain ⟨⟨x0,x1,x2,x3,x4,k0,k1,k2,k3,k4⟩,f0,f1,f2,f3,f4⟩:=h5.cells
      have H5:=Lib.hid h5
      have HV:=Lib.hid hv
      clear hv h5 hrow HSEE
      go_wp2
      exact ret_node rfl rfl H5.out ⟨_,_,rfl,put5_nv (R:=R) _ _ _ _ _ HV.out (by omega) hRW (by omega),HEND.out.1,by rw [HEND.out.2];exact Rs.put5 HR.out (by omega) _ _ _ _ _,put5_grR _ _ _ _ _ ((Gr.of HB0.out).trans HG.out) (Nat.le_refl _)⟩
    ·obtain rfl : z = 41 := by omega
     clear hstop hz1
     go_wp2_with fail
     refine (HSEE.out _ HR.out).mono ?_
     rintro e w1 ⟨rfl,b1⟩
     have HR:=Lib.hid (HR.out.kept b1)
     have hrow:=hrow.gr (Gr.of (R:=R) b1) (by omega) (by omega)
     have HG:=Lib.hid (HG.out.trans (Gr.of b1))
     clear b1
     go_wp2_with fail
     refine (HSEE.out _ HR.out).mono ?_
     rintro e w1 ⟨rfl,b1⟩
     have HR:=Lib.hid (HR.out.kept b1)
     have hrow:=hrow.gr (Gr.of (R:=R) b1) (by omega) (by omega)
     have HG:=Lib.hid (HG.out.trans (Gr.of b1))
     clear b1
     go_wp2_with fail
     refine (HSEE.out _ HR.out).mono ?_
     rintro e w1 ⟨rfl,b1⟩
     have HR:=Lib.hid (HR.out.kept b1)
     have hrow:=hrow.gr (Gr.of (R:=R) b1) (by omega) (by omega)
     have HG:=Lib.hid (HG.out.trans (Gr.of b1))
     clear b1
     rcases (by omega:ts.length=0∨ts.length=1∨2≤ts.length) with h0 | h0 | h0
     ·obtain ⟨P, cap, rfl⟩ := row_none hrow h0
      obtain rfl:=List.length_eq_zero_iff.1 h0
      have hv:NV w1 (Old N (W.heap.size+1)) (.agg #[.int .u8 0,.slice none 0 0,.slice none 0 0,.int .i64 0,.int .i64 0]) (joinF 2 []):=empty_nv
      have h5:=HB5.out.gr HG.out (by omega)
      obtain ⟨⟨x0,x1,x2,x3,x4,k0,k1,k2,k3,k4⟩,f0,f1,f2,f3,f4⟩:=h5.cells
      have H5:=Lib.hid h5
      have HV:=Lib.hid hv
      clear hv h5 hrow HSEE
      go_wp2
      exact ret_node rfl rfl H5.out ⟨_,_,rfl,put5_nv (R:=R) _ _ _ _ _ HV.out (by omega) hRW (by omega),HEND.out.1,by rw [HEND.out.2];exact Rs.put5 HR.out (by omega) _ _ _ _ _,put5_grR _ _ _ _ _ ((Gr.of HB0.out).trans HG.out) (Nat.le_refl _)⟩
     ·obtain ⟨t, rfl⟩ := List.length_eq_one_iff.1 h0
      obtain ⟨g,cap,kk,sp,sn,sc,kp,kn,kc,mn,mx,rfl,hv,q0,q1,q2,q3,q4⟩:=row_one hrow
      have h5:=HB5.out.gr HG.out (by omega)
      obtain ⟨⟨x0,x1,x2,x3,x4,k0,k1,k2,k3,k4⟩,f0,f1,f2,f3,f4⟩:=h5.cells
      have H5:=Lib.hid h5
      have HV:=Lib.hid hv
      clear hv h5 hrow HSEE
      go_wp2
      exact ret_node rfl rfl H5.out ⟨_,_,rfl,put5_nv (R:=R) _ _ _ _ _ HV.out (by omega) hRW (by omega),HEND.out.1,by rw [HEND.out.2];exact Rs.put5 HR.out (by omega) _ _ _ _ _,put5_grR _ _ _ _ _ ((Gr.of HB0.out).trans HG.out) (Nat.le_refl _)⟩
     ·obtain ⟨g, cap, rfl, hv⟩ := row_many 2 hrow (by omega) h0 (fun b hb => .inr (by omega))
      obtain ⟨n,hn⟩:∃ n,n=ts.length:=⟨_,rfl⟩
      rw [← hn] at h0 hv hts ⊢
      have d0:((n:Int) == 0)=false:=by rw [beq_eq_false_iff_ne];omega
      have d1:((n:Int) == 1)=false:=by rw [beq_eq_false_iff_ne];omega
      have d2:¬ (n:Int)=0:=by omega
      have d3:¬ (n:Int)=1:=by omega
      clear hn
      have h5:=HB5.out.gr HG.out (by omega)
      obtain ⟨⟨x0,x1,x2,x3,x4,k0,k1,k2,k3,k4⟩,f0,f1,f2,f3,f4⟩:=h5.cells
      have H5:=Lib.hid h5
      have HV:=Lib.hid hv
      clear hv h5 hrow HSEE
      go_wp2
      exact ret_node rfl rfl H5.out ⟨_,_,rfl,put5_nv (R:=R) _ _ _ _ _ HV.out (by omega) hRW (by omega),HEND.out.1,by rw [HEND.out.2];exact Rs.put5 HR.out (by omega) _ _ _ _ _,put5_grR _ _ _ _ _ ((Gr.of HB0.out).trans HG.out) (Nat.le_refl _)⟩
   ·have hz1 : ¬ 0 ≤ z := hz0
    clear hstop
    go_wp2_with fail
    refine (HSEE.out _ HR.out).mono ?_
    rintro e w1 ⟨rfl,b1⟩
    have HR:=Lib.hid (HR.out.kept b1)
    have hrow:=hrow.gr (Gr.of (R:=R) b1) (by omega) (by omega)
    have HG:=Lib.hid (HG.out.trans (Gr.of b1))
    clear b1
    rcases (by omega:ts.length=0∨ts.length=1∨2≤ts.length) with h0 | h0 | h0
    ·obtain ⟨P, cap, rfl⟩ := row_none hrow h0
     obtain rfl:=List.length_eq_zero_iff.1 h0
     have hv:NV w1 (Old N (W.heap.size+1)) (.agg #[.int .u8 0,.slice none 0 0,.slice none 0 0,.int .i64 0,.int .i64 0]) (joinF 2 []):=empty_nv
     have h5:=HB5.out.gr HG.out (by omega)
     obtain ⟨⟨x0,x1,x2,x3,x4,k0,k1,k2,k3,k4⟩,f0,f1,f2,f3,f4⟩:=h5.cells
     have H5:=Lib.hid h5
     have HV:=Lib.hid hv
     clear hv h5 hrow HSEE
     go_wp2
     exact ret_node rfl rfl H5.out ⟨_,_,rfl,put5_nv (R:=R) _ _ _ _ _ HV.out (by omega) hRW (by omega),HEND.out.1,by rw [HEND.out.2];exact Rs.put5 HR.out (by omega) _ _ _ _ _,put5_grR _ _ _ _ _ ((Gr.of HB0.out).trans HG.out) (Nat.le_refl _)⟩
    ·obtain ⟨t, rfl⟩ := List.length_eq_one_iff.1 h0
     obtain ⟨g,cap,kk,sp,sn,sc,kp,kn,kc,mn,mx,rfl,hv,q0,q1,q2,q3,q4⟩:=row_one hrow
     have h5:=HB5.out.gr HG.out (by omega)
     obtain ⟨⟨x0,x1,x2,x3,x4,k0,k1,k2,k3,k4⟩,f0,f1,f2,f3,f4⟩:=h5.cells
     have H5:=Lib.hid h5
     have HV:=Lib.hid hv
     clear hv h5 hrow HSEE
     go_wp2
     exact ret_node rfl rfl H5.out ⟨_,_,rfl,put5_nv (R:=R) _ _ _ _ _ HV.out (by omega) hRW (by omega),HEND.out.1,by rw [HEND.out.2];exact Rs.put5 HR.out (by omega) _ _ _ _ _,put5_grR _ _ _ _ _ ((Gr.of HB0.out).trans HG.out) (Nat.le_refl _)⟩
    ·obtain ⟨g, cap, rfl, hv⟩ := row_many 2 hrow (by omega) h0 (fun b hb => .inr (by omega))
     obtain ⟨n,hn⟩:∃ n,n=ts.length:=⟨_,rfl⟩
     rw [← hn] at h0 hv hts ⊢
     have d0:((n:Int) == 0)=false:=by rw [beq_eq_false_iff_ne];omega
     have d1:((n:Int) == 1)=false:=by rw [beq_eq_false_iff_ne];omega
     have d2:¬ (n:Int)=0:=by omega
     have d3:¬ (n:Int)=1:=by omega
     clear hn
     have h5:=HB5.out.gr HG.out (by omega)
     obtain ⟨⟨x0,x1,x2,x3,x4,k0,k1,k2,k3,k4⟩,f0,f1,f2,f3,f4⟩:=h5.cells
     have H5:=Lib.hid h5
     have HV:=Lib.hid hv
     clear hv h5 hrow HSEE
     go_wp2
     exact ret_node rfl rfl H5.out ⟨_,_,rfl,put5_nv (R:=R) _ _ _ _ _ HV.out (by omega) hRW (by omega),HEND.out.1,by rw [HEND.out.2];exact Rs.put5 HR.out (by omega) _ _ _ _ _,put5_grR _ _ _ _ _ ((Gr.of HB0.out).trans HG.out) (Nat.le_refl _)⟩
  ·obtain ⟨r,fu,rfl,hc,hlf,hlg,hlen⟩:∃ r fu,σ=.ok () r∧o1=catLQ rep fu ts r∧r.length < fu∧r.length≤gk∧ts.length+r.length≤200:=by
    rcases HST.out with h | ⟨n,x,rfl,_,_⟩
    ·exact h
    ·exact absurd (show z < 0 by rw [hz];exact (by decide:(-1:Int) < 0)) (fun e=>hstop (.inl e))
   obtain ⟨fu,rfl⟩:∃ f',fu=f'+1:=⟨fu - 1,by omega⟩
   have HR:Hid (Rr R wr s dv r d f):=HR
   have hlk:=lookq_c HR.out
   rw [← hz] at hlk
   have hbeg:Beg2 r:=by
    rcases hlk with ⟨h1,h2⟩ | ⟨c,t,rfl,⟨h1,h2,h3⟩ | ⟨h1,h2,h3⟩⟩
    ·omega
    ·exact ⟨by simp,decide_eq_false (by omega),decide_eq_false (by omega)⟩
    ·exact ⟨by simp,decide_eq_false (by omega),decide_eq_false (by omega)⟩
   have hrne:0 < r.length:=List.length_pos_iff.2 hbeg.1
   rw [catLQ_succ,if_neg (by rw [hbeg.2.1,hbeg.2.2];simp;exact hbeg.1)] at hc
   have HC2:=Lib.hid hc
   have HBG:=Lib.hid hbeg
   have hz0:z ≥ 0:=by omega
   have hz1:(z == 124)=false:=by simp;omega
   have hz2:(z == 41)=false:=by simp;omega
   have hz3:(z != 124)=true:=by simp;omega
   have hz4:(z != 41)=true:=by simp;omega
   clear hlk hc hstop hz HST hbeg
   go_wp2_with fail
   refine (HSEE.out _ HR.out).mono ?_
   rintro e w1 ⟨rfl,b1⟩
   have HR:=Lib.hid (Rr.kept HR.out b1)
   have hrow:=hrow.gr (Gr.of (R:=R) b1) (by omega) (by omega)
   have HG:=Lib.hid (HG.out.trans (Gr.of b1))
   clear b1
   go_wp2_with fail
   refine (HSEE.out _ HR.out).mono ?_
   rintro e w1 ⟨rfl,b1⟩
   have HR:=Lib.hid (Rr.kept HR.out b1)
   have hrow:=hrow.gr (Gr.of (R:=R) b1) (by omega) (by omega)
   have HG:=Lib.hid (HG.out.trans (Gr.of b1))
   clear b1
   go_wp2_with fail
   refine (HSEE.out _ HR.out).mono ?_
   rintro e w1 ⟨rfl,b1⟩
   have HR:=Lib.hid (Rr.kept HR.out b1)
   have hrow:=hrow.gr (Gr.of (R:=R) b1) (by omega) (by omega)
   have HG:=Lib.hid (HG.out.trans (Gr.of b1))
   clear b1
   have HRP:=Lib.hid (HA0.out w1 r HBG.out (HC0.out.trans HG.out) HR.out)
   have hz1s:=HG.out.size
   go_wp2_with fail
   refine HRP.out.mono ?_
   rintro e w5 ⟨v,x,rfl,hv,hx,hr,g5⟩
   have G5:=Lib.hid (HG.out.trans g5)
   have hrow5:=hrow.gr g5 (by omega) (by omega)
   have h45:=g5.size
   have hNV:=fresh_nv (R:=R) (n:=W.heap.size+1) hrow (by omega) hv (by omega) rfl
   obtain ⟨kk,sp,sn,sc,kp,kn,kc,mn,mx,rfl⟩:=NV.form5 hv
   have hal:=(Below.refl w5.heap.size w5).alloc (Nat.le_refl _) (.cells #[.int .u8 kk,.slice sp sn sc,.slice kp kn kc,.int .i64 mn,.int .i64 mx] 48)
   have hrow6:=hrow5.gr (Gr.of (R:=R) hal) (by omega) (by omega)
   have hNV6:=NV.imp hNV (fun b hA hlt=>⟨hA,hal.block b hlt⟩) hal.size
   have HR6:=Lib.hid (hr.kept hal)
   have G6:=Lib.hid (G5.out.trans (Gr.of hal))
   have hnew:=heap_alloc_new w5 (.cells #[.int .u8 kk,.slice sp sn sc,.slice kp kn kc,.int .i64 mn,.int .i64 mx] 48)
   have hsz6:=World.size_alloc w5 (.cells #[.int .u8 kk,.slice sp sn sc,.slice kp kn kc,.int .i64 mn,.int .i64 mx] 48)
   have HST:Hid (∃ m,m < gk∧CaSt rep o1 m (ts++[x]) (Out.u (rep r))):=Lib.hid (by
    cases hrr:rep r with
    | err e y=>exact ⟨0,by omega,.inr ⟨e,y,rfl,by rw [HC2.out,hrr],by simp;omega⟩⟩
    | ok y r2 =>
     have hlt:=HL.out _ _ _ hrr
     have hxy:=hx y r2 hrr
     subst hxy
     exact ⟨r2.length,by omega,.inl ⟨r2,fu,rfl,by rw [HC2.out,hrr],by omega,Nat.le_refl _,by simp;omega⟩⟩)
   obtain ⟨m,hm,hst⟩:=HST.out
   have HST:=Lib.hid hst
   generalize Out.u (rep r)=σ8 at *
   clear hv hr hal hrow5 hNV hrow g5 HRP hst hx
   go_wp2_with (at_builtin;refine wpList_push rfl _ _ rfl V.heap.size (Old N (W.heap.size+1)) _ _ rfl hrow6 w5.heap.size _ x rfl hNV6 hnew (by omega) (by omega) ?_;intro v7 w7 hrow7 hg7)
   have G7:=Lib.hid (G6.out.rowN (by omega) hrow6 hg7)
   have HR7:Hid (Rs R w7 s dv d f σ8):=Lib.hid (by obtain ⟨us,h1,_⟩:=hrow6;exact HR6.out.row (by omega) h1 hg7)
   clear hrow6 hg7 hNV6 hnew
   go_roundg m
   case measure=>omega
   case rel=>exact ⟨ts++[x],σ8,hrow7,HR7,G7,HST⟩
end
end Go.Proofs.YtioahgklplbinaaGreatDoor

/- The document's reader: one of some. -/
namespace Go.Proofs.YtioahgklplbinaaGreatDoor
open Go.RowKit Go.Shelf Go.Maps SetM PropsM RxM
section
variable {R:Nat} {W W' W0:World} {s:ByteArray} {dv:Value} {rest r:List Int} {N:Nat×Nat} {d f n:Nat} {z c:Int} {σ:Out Unit}
def altO (F : List Int → Out Nd) : Out Nd → Out (List Nd)
 | .ok x r=>altL F 201 [x] r
 | .err e x=>.err e x
theorem altO_eq (F:List Int→Out Nd) (σ:Out Unit):bindS σ (altB F)=joinO 3 (altO F (bindS σ F)):=by
 cases σ with
 | err n x=>rfl
 | ok u r =>
  show altB F r=joinO 3 (altO F (F r))
  unfold altB
  cases F r with
  | err e x=>rfl
  | ok x r1 =>
   show _=joinO 3 (altL F 201 [x] r1)
   dsimp only
   cases altL F 201 [x] r1 <;> rfl
theorem altLq_succ (F:List Int→Out Nd) (f:Nat) (acc:List Nd) (r:List Int):altL F (f+1) acc r=if at1 124 r then (match F r.tail with
   | .err e x=>.err e x
   | .ok x r1=>altL F f (acc++[x]) r1)
  else .ok acc r:=rfl
def AlSt (F:List Int→Out Nd) (o1:Out (List Nd)) (g:Nat) (ts:List Nd) (σ:Out Unit):Prop :=
 (∃ r fu,σ=.ok () r∧o1=altL F fu ts r∧r.length < fu∧r.length≤g∧ts.length+r.length≤201)∨(∃ n y,σ=.err n y∧o1=.err n y∧ts.length≤201)
set_option maxRecDepth 100000 in
set_option maxHeartbeats 8000000 in
theorem alt_q (hN:N.2≤R) {F:List Int→Out Nd} (hL:∀ r x r',F r=.ok x r'→r'.length≤r.length) (HA:FQs 85 N R s dv d f W0 F):FQs 58 N R s dv d f W0 (altB F):=by
 intro W σ hC h
 have hRW:=h.lt
 have hsm:=h.small
 obtain ⟨o,ho⟩:∃ o,o=bindS σ (altB F):=⟨_,rfl⟩
 rw [← ho]
 rw [altO_eq] at ho
 have HO0:=Lib.hid ho
 obtain ⟨V,hV⟩:∃ V,V=W.alloc (.cells #[.int .u8 0,.slice none 0 0,.slice none 0 0,.int .i64 0,.int .i64 0] 48):=⟨_,rfl⟩
 have hb0:Below W.heap.size W V:=by rw [hV];exact (Below.refl W.heap.size W).alloc (Nat.le_refl _) _
 have HZ:Hid (V.heap.size=W.heap.size+1):=Lib.hid (by rw [hV];exact World.size_alloc _ _)
 have HB5:Hid (B5 V W.heap.size):=Lib.hid (by rw [hV];exact B5.new W _ _ _ _ _)
 have HCT:=Lib.hid (HA V σ (hC.trans (Gr.of hb0)) (h.kept hb0))
 have HB0:=Lib.hid hb0
 have HC0:=Lib.hid (hC.trans (Gr.of hb0))
 have HA0:=Lib.hid HA
 have HL:=Lib.hid hL
 have hzv:=HZ.out
 clear h ho hb0 hC HA hL
 go_enter Tryz.func58,Tryz.ntmps58
 go_wp2_with fail
 rw [← hV]
 refine HCT.out.mono ?_
 rintro e w1 ⟨v,x,rfl,hv,hx,hr,g1⟩
 have hV1:=g1.size
 obtain ⟨kk,sp,sn,sc,kp,kn,kc,mn,mx,rfl⟩:=NV.form5 hv
 rw [HZ.out] at hv
 obtain ⟨V2,hV2⟩:∃ V2,V2=w1.alloc (.cells #[.int .u8 kk,.slice sp sn sc,.slice kp kn kc,.int .i64 mn,.int .i64 mx] 48):=⟨_,rfl⟩
 have hal:Below w1.heap.size w1 V2:=by rw [hV2];exact (Below.refl w1.heap.size w1).alloc (Nat.le_refl _) _
 have HROW:Hid (RowN V2 w1.heap.size (Old N (W.heap.size+1)) (.slice (some ⟨w1.heap.size,0,none⟩) 1 1) [x]):=Lib.hid (by rw [hV2];exact RowN.one hv rfl)
 have HR2:=Lib.hid (hr.kept hal)
 have G2:=Lib.hid (g1.trans (Gr.of hal))
 have GA2:=Lib.hid (Gr.of (R:=R) hal)
 have hRw:R < w1.heap.size:=hr.lt
 obtain ⟨o1,ho1⟩:∃ o1,o1=altO F (bindS σ F):=⟨_,rfl⟩
 have HO:Hid (o=joinO 3 o1):=Lib.hid (by rw [ho1];exact HO0.out)
 have HST:Hid (AlSt F o1 200 [x] (Out.u (bindS σ F))):=Lib.hid (by
  rw [ho1]
  cases hb:bindS σ F with
  | err e y=>exact .inr ⟨e,y,rfl,rfl,by simp⟩
  | ok y r1 =>
   have hxy:=hx y r1 hb
   subst hxy
   rw [hb] at hr
   have hf:r1.length≤200:=Rr.few (show Rr R w1 s dv r1 d f from hr)
   exact .inl ⟨r1,201,rfl,rfl,by omega,hf,by simp;omega⟩)
 obtain ⟨σ0,hσ0⟩:∃ σ0,σ0=Out.u (bindS σ F):=⟨_,rfl⟩
 rw [← hσ0] at HR2 HST
 clear hv hr hal g1 hV HCT hx ho1 hσ0 HO0
 go_wp2_with fail
 rw [← hV2]
 clear hV2
 go_loopg [3] 200 (fun g s3 wx=>∃ ts σ,1≤ts.length∧RowN wx w1.heap.size (Old N (W.heap.size+1)) s3 ts∧Hid (Rs R wx s dv d f σ)∧Hid (Gr R V wx)∧Hid (Gr R w1 wx)∧Hid (AlSt F o1 g ts σ))
 case atStart=>exact ⟨[x],σ0,by simp,HROW.out,HR2,G2,GA2,HST⟩
 case round =>
  clear HST HR2 HROW
  obtain ⟨ts,σ,hts1,hrow,HR,HG,HGA,HST⟩:=hrel
  have hts:ts.length≤201:=by
   rcases HST.out with ⟨_,_,_,_,_,_,h⟩ | ⟨_,_,_,_,h⟩ <;> omega
  have hA:=HGA.out.size
  have hGv:=HG.out.size
  by_cases hgo:∃ r,σ=.ok () r∧at1 124 r=true
  ·obtain ⟨r, rfl, h124⟩ := hgo
   obtain ⟨fu,hc,hlf,hlg,hlen⟩:∃ fu,o1=altL F fu ts r∧r.length < fu∧r.length≤gk∧ts.length+r.length≤201:=by
    rcases HST.out with ⟨r',fu,h,h2⟩ | ⟨n,y,h,_⟩
    ·cases h;exact ⟨fu,h2⟩
    ·cases h
   obtain ⟨fu,rfl⟩:∃ f',fu=f'+1:=⟨fu - 1,by omega⟩
   rw [altLq_succ,if_pos h124] at hc
   have HC2:=Lib.hid hc
   have HR:Hid (Rr R wr s dv r d f):=HR
   have HT:=Lib.hid (tk_yes 124 (by decide) HR.out h124)
   have htl:=tail_lt h124
   clear hc h124 HST
   go_wp2_with fail
   refine HT.out.mono ?_
   rintro e w3 ⟨rfl,h3,g3⟩
   have HR3:Hid (Rs R w3 s dv d f (.ok () r.tail)):=Lib.hid h3
   have G3:=Lib.hid (HG.out.trans g3)
   have GA3:=Lib.hid (HGA.out.trans g3)
   have hrow3:=hrow.gr g3 (by omega) (by omega)
   clear g3 hrow h3 HT
   have HRP:=Lib.hid (HA0.out w3 (.ok () r.tail) (HC0.out.trans G3.out) HR3.out)
   go_wp2_with fail
   refine HRP.out.mono ?_
   rintro e w5 ⟨v,x,rfl,hv,hx,hr,g5⟩
   replace hx:∀ y r1,F r.tail=.ok y r1→x=y:=hx
   replace hr:Rs R w5 s dv d f (Out.u (F r.tail)):=hr
   have G5:=Lib.hid (G3.out.trans g5)
   have GA5:=Lib.hid (GA3.out.trans g5)
   have hrow5:=hrow3.gr g5 (by omega) (by omega)
   have h45:=g5.size
   have hVw:=G3.out.size
   have hA4:=GA3.out.size
   have hNV:=fresh_nv (R:=R) (n:=W.heap.size+1) hrow3 (by omega) hv (by omega) rfl
   obtain ⟨kk,sp,sn,sc,kp,kn,kc,mn,mx,rfl⟩:=NV.form5 hv
   have hal:=(Below.refl w5.heap.size w5).alloc (Nat.le_refl _) (.cells #[.int .u8 kk,.slice sp sn sc,.slice kp kn kc,.int .i64 mn,.int .i64 mx] 48)
   have hrow6:=hrow5.gr (Gr.of (R:=R) hal) (by omega) (by omega)
   have hNV6:=NV.imp hNV (fun b hA hlt=>⟨hA,hal.block b hlt⟩) hal.size
   have HR6:=Lib.hid (hr.kept hal)
   have G6:=Lib.hid (G5.out.trans (Gr.of hal))
   have GA6:=Lib.hid (GA5.out.trans (Gr.of hal))
   have hnew:=heap_alloc_new w5 (.cells #[.int .u8 kk,.slice sp sn sc,.slice kp kn kc,.int .i64 mn,.int .i64 mx] 48)
   have hsz6:=World.size_alloc w5 (.cells #[.int .u8 kk,.slice sp sn sc,.slice kp kn kc,.int .i64 mn,.int .i64 mx] 48)
   have HST:Hid (∃ m,m < gk∧AlSt F o1 m (ts++[x]) (Out.u (F r.tail))):=Lib.hid (by
    cases hrr:F r.tail with
    | err e y=>exact ⟨0,by omega,.inr ⟨e,y,rfl,by rw [HC2.out,hrr],by simp;omega⟩⟩
    | ok y r2 =>
     have hlt:=HL.out _ _ _ hrr
     have hxy:=hx y r2 hrr
     subst hxy
     exact ⟨r2.length,by omega,.inl ⟨r2,fu,rfl,by rw [HC2.out,hrr],by omega,Nat.le_refl _,by simp;omega⟩⟩)
   obtain ⟨m,hm,hst⟩:=HST.out
   have HST:=Lib.hid hst
   generalize Out.u (F r.tail)=σ8 at *
   clear hv hr hal hrow5 hNV hrow3 g5 HRP hst hx
   go_wp2_with (at_builtin;refine wpList_push rfl _ _ rfl w1.heap.size (Old N (W.heap.size+1)) _ _ rfl hrow6 w5.heap.size _ x rfl hNV6 hnew (by omega) (by omega) ?_;intro v7 w7 hrow7 hg7)
   have G7:=Lib.hid (G6.out.rowN (by omega) hrow6 hg7)
   have GA7:Hid (Gr R w1 w7):=Lib.hid (GA6.out.rowN (Nat.le_refl _) hrow6 hg7)
   have HR7:Hid (Rs R w7 s dv d f σ8):=Lib.hid (by obtain ⟨us,h1,_⟩:=hrow6;exact HR6.out.row (by omega) h1 hg7)
   clear hrow6 hg7 hNV6 hnew
   go_roundg m
   case measure=>omega
   case rel=>exact ⟨ts++[x],σ8,by simp,hrow7,HR7,G7,GA7,HST⟩
  ·have HEND:Hid ((∀ y r,o=.ok y r→joinF 3 ts=y)∧Out.u o=σ):=Lib.hid (by
    rw [HO.out]
    rcases HST.out with ⟨r,fu,rfl,hc,hlf,_,_⟩ | ⟨n,x,rfl,hc,_⟩
    ·obtain ⟨fu, rfl⟩ : ∃ f', fu = f' + 1 := ⟨fu - 1, by omega⟩
     rw [altLq_succ,if_neg (fun h=>hgo ⟨r,rfl,h⟩)] at hc
     rw [hc]
     exact ⟨fun y r h=>(by cases h;rfl),rfl⟩
    ·rw [hc]
     exact ⟨fun y r h=>(by cases h),rfl⟩)
   have HT:Hid (Calls Tryz.prog 86 #[.pointer (some ⟨R,0,none⟩),.string ⟨#[124]⟩] wr fun e W'=>e=.returned (.bool false)∧Rs R W' s dv d f σ∧Gr R wr W'):=Lib.hid (by
    cases σ with
    | err n x=>exact tk_err ⟨#[124]⟩ (lowq1 124 (by decide)) (by decide) HR.out
    | ok u r =>
     have h124:at1 124 r=false:=by
      cases hh:at1 124 r with
      | true=>exact absurd ⟨r,rfl,hh⟩ hgo
      | false=>rfl
     exact tk_no 124 (by decide) HR.out h124)
   clear HST hgo
   go_wp2_with fail
   refine HT.out.mono ?_
   rintro e w2 ⟨rfl,h1,g1⟩
   have HR:=Lib.hid h1
   have hrow:=hrow.gr g1 (by omega) (by omega)
   have HG:=Lib.hid (HG.out.trans g1)
   clear h1 g1 HT
   rcases (by omega:ts.length=1∨2≤ts.length) with h0 | h0
   ·obtain ⟨t, rfl⟩ := List.length_eq_one_iff.1 h0
    obtain ⟨g,cap,kk,sp,sn,sc,kp,kn,kc,mn,mx,rfl,hv,q0,q1,q2,q3,q4⟩:=row_one hrow
    have h5:=HB5.out.gr HG.out (by omega)
    obtain ⟨⟨x0,x1,x2,x3,x4,k0,k1,k2,k3,k4⟩,f0,f1,f2,f3,f4⟩:=h5.cells
    have H5:=Lib.hid h5
    have HV:=Lib.hid hv
    clear hv h5 hrow
    go_wp2
    exact ret_node rfl rfl H5.out ⟨_,_,rfl,put5_nv (R:=R) _ _ _ _ _ HV.out (by omega) hRW (by omega),HEND.out.1,by rw [HEND.out.2];exact Rs.put5 HR.out (by omega) _ _ _ _ _,put5_grR _ _ _ _ _ ((Gr.of HB0.out).trans HG.out) (Nat.le_refl _)⟩
   ·obtain ⟨g, cap, rfl, hv⟩ := row_many 3 hrow (by omega) h0 (fun b hb => .inr (by omega))
    obtain ⟨n,hn⟩:∃ n,n=ts.length:=⟨_,rfl⟩
    rw [← hn] at h0 hv hts ⊢
    have d1:((n:Int) == 1)=false:=by rw [beq_eq_false_iff_ne];omega
    have d3:¬ (n:Int)=1:=by omega
    clear hn
    have h5:=HB5.out.gr HG.out (by omega)
    obtain ⟨⟨x0,x1,x2,x3,x4,k0,k1,k2,k3,k4⟩,f0,f1,f2,f3,f4⟩:=h5.cells
    have H5:=Lib.hid h5
    have HV:=Lib.hid hv
    clear hv h5 hrow
    go_wp2
    exact ret_node rfl rfl H5.out ⟨_,_,rfl,put5_nv (R:=R) _ _ _ _ _ HV.out (by omega) hRW (by omega),HEND.out.1,by rw [HEND.out.2];exact Rs.put5 HR.out (by omega) _ _ _ _ _,put5_grR _ _ _ _ _ ((Gr.of HB0.out).trans HG.out) (Nat.le_refl _)⟩
end
end Go.Proofs.YtioahgklplbinaaGreatDoor
