/- The document's reader: a class in brackets. -/
import Derived.Test.YtioahgklplbinaaGreatDoorQFa
import Derived.Test.YtioahgklplbinaaGreatDoorRR
namespace Go.Proofs.YtioahgklplbinaaGreatDoor
open Go.RowKit Go.Shelf Go.Maps SetM PropsM RxM
section
variable {R:Nat} {W W':World} {s:ByteArray} {dv:Value} {rest r:List Int} {d f n:Nat} {z c:Int} {σ:Out Unit}
def NodeQ (N:Nat×Nat) (R:Nat) (s:ByteArray) (dv:Value) (d f:Nat) (o:Out Nd) (W:World) (e:Ending) (W':World):Prop :=
 ∃ v x,e=.returned v∧NV W' (Old N W.heap.size) v x∧(∀ y r,o=.ok y r→x=y)∧Rs R W' s dv d f (Out.u o)∧Gr R W W'
def classQ (cl:Bool) (t:List Int):Out Nd:=match classF t with
 | .err e x=>.err e x
 | .ok K r=>.ok (chN cl K) r
theorem classQ_eq (cl:Bool) (t:List Int):classQ cl t=match classL 201 [] (if at1 94 t then t.tail else t) with
  | .err e x=>.err e x
  | .ok l r=>.ok (chN cl (if at1 94 t then notK (Tells l) else Tells l)) r:=by
 unfold classQ classF
 cases at1 94 t with
 | true =>
  simp only [if_true]
  cases classL 201 [] t.tail <;> rfl
 | false =>
  simp only [Bool.false_eq_true,if_false]
  cases classL 201 [] t <;> rfl
theorem grq_row {base:Nat} {U U':World} {v:Value} {n:Nat} {xs:List Value} {t:TypeId} {k:Nat} (hg:Gr R W U) (hb:W.heap.size≤base) (hown:U.ownsRow base t k v n xs) (h:U.grownBy U' v.ownBlock):Gr R W U' :=
 ⟨h.os.trans hg.os,h.tape.trans hg.tape,h.output.trans hg.output,Nat.le_trans hg.size h.size,fun i hi hr=>by
  refine (h.block i (Nat.lt_of_lt_of_le hi hg.size) (fun e=>?_)).trans (hg.block i hi hr)
  have:=(hown.lt i e.symm).1
  omega⟩
theorem Rs.row {base:Nat} {U':World} {v:Value} {n:Nat} {xs:List Value} {t:TypeId} {k:Nat} (h:Rs R W s dv d f σ) (hR:R < base) (hown:W.ownsRow base t k v n xs) (hg:W.grownBy U' v.ownBlock):Rs R U' s dv d f σ:=by
 have hl:=h.lt
 have hk:=hg.block R hl (fun e=>by have:=(hown.lt R e.symm).1;omega)
 cases σ with
 | ok u r=>exact ⟨hk.trans (Rr.blk h),Rr.tl h,Rr.sc h,Rr.small h⟩
 | err n r=>obtain ⟨i,hi,e⟩:=Re.blk h;exact ⟨⟨i,hi,hk.trans e⟩,Re.ne h,Re.small h⟩
theorem ownq_gr {base:Nat} {v:Value} {n:Nat} {xs:List Value} {t:TypeId} {k:Nat} (h:W.ownsRow base t k v n xs) (hR:R < base) (hg:Gr R W W'):W'.ownsRow base t k v n xs :=
 h.kept hg (by
  cases ho:v.ownBlock with
  | none=>exact .inl rfl
  | some i=>exact .inr (fun e=>by have:=(h.lt i ho).1;cases e;omega))
theorem classLq_succ (f:Nat) (acc:List Sp) (r:List Int):classL (f+1) acc r=if at1 93 r then .ok acc r.tail else match itemF r with
  | .err e x=>.err e x
  | .ok l r1=>classL f (acc++l) r1:=rfl
theorem wide_app {a b:List Sp} (ha:Wide a) (hb:Wide b):Wide (a++b):=fun s hs=>(List.mem_append.1 hs).elim (ha s) (hb s)
theorem tellsq_app {a b c d:List Sp} (h1:∀ z,Tells a z↔Tells b z) (h2:∀ z,Tells c z↔Tells d z) (z:Int):Tells (a++c) z↔Tells (b++d) z:=by
 rw [tells_app,tells_app,h1,h2]
theorem pc_tells {p:Pc} {l:List Sp} {k:Int} (h:PcIs p l k) (z:Int):Tells l z↔Tells (pcS p) z:=by
 cases p with
 | one x=>rw [h.2];rfl
 | cls i=>exact h.2 z
theorem slq_gr {P:Option Addr} {l:List Sp} (h:Sl W P l) (hg:Gr R W W') (hne:∀ a,P=some a→a.block≠R):Sl W' P l:=sl_gr h hg hne
def CSt (o1:Out (List Sp)) (g:Nat) (l:List Sp) (σ:Out Unit):Prop :=
 (∃ acc r fu,σ=.ok () r∧o1=classL fu acc r∧r.length < fu∧r.length≤g∧(∀ z,Tells l z↔Tells acc z)∧l.length+104*r.length≤20800)∨(∃ n x,σ=.err n x∧o1=.err n x∧l.length≤20800)
theorem Rs.put5 {B:Nat} (h:Rs R W s dv d f σ) (hne:R≠B) (a b c x e:Value):Rs R (put5 W B a b c x e) s dv d f σ:=by
 have hk:=put5_block W B a b c x e R hne
 cases σ with
 | ok u r=>exact ⟨hk.trans (Rr.blk h),Rr.tl h,Rr.sc h,Rr.small h⟩
 | err n r=>obtain ⟨i,hi,e⟩:=Re.blk h;exact ⟨⟨i,hi,hk.trans e⟩,Re.ne h,Re.small h⟩
theorem rnot_n {P:Option Addr} {c:Nat} {l:List Sp} (hs:Sl W P l) (hl:l.length≤100000) (hw:Wide l):Calls Tryz.prog 130 #[.slice P l.length c] W (SetNew W (fun r=>Sc r∧¬ Tells l r) (4+2*l.length)):=by
 obtain ⟨w,hwW⟩:∃ w,w=W:=⟨_,rfl⟩
 rw [← hwW] at hs ⊢
 clear hwW
 have hc:=rmake_any P none c 0 l [] 1 (by simp) hl (by simp) hw (fun s h=>by simp at h) w hs Spans.nil
 have HC:=Lib.hid hc
 clear hc hs hw
 go_enter Tryz.func130,Tryz.ntmps130
 go_wp2_with fail
 refine HC.out.mono ?_
 rintro e w' h
 obtain ⟨v,out,rfl,h2,h3,h4,h5,h6⟩:=h
 go_wp2
 go_ret
 exact SetPost.toNew ⟨v,out,rfl,h2,fun r=>(h3 r).trans (by rw [kf1];have h1:=tells_nil r;simp [h1]),by simpa using h4,h5,h6⟩
theorem item_err {r x:List Int} {n:Nat} (h:pieceF r=.err n x):itemF r=.err n x:=by unfold itemF;rw [h]
theorem item_one {r r1:List Int} {a:Pc} (h:pieceF r=.ok a r1) (h45:at1 45 r1=false):itemF r=.ok (pcS a) r1:=by unfold itemF;rw [h];dsimp only;rw [if_neg (by rw [h45];simp)]
theorem item_two {r r1:List Int} {a:Pc} (h:pieceF r=.ok a r1) (h45:at1 45 r1=true):itemF r=match pieceF r1.tail with
  | .err e x=>.err e x
  | .ok b r3=>RxM.pairF r a b r3:=by unfold itemF;rw [h];dsimp only;rw [if_pos h45];cases pieceF r1.tail <;> rfl
theorem pair_bad {r r3:List Int} {a b:Pc} {l4 l5:List Sp} {k4 k5:Int} (h4:PcIs a l4 k4) (h5:PcIs b l5 k5) (h:k4=1∨k5=1):RxM.pairF r a b r3=.err 60 r:=by
 cases a with
 | cls i=>rfl
 | one x=>cases b with
  | cls i=>rfl
  | one y=>have:=h4.1;have:=h5.1;omega
theorem pair_two {r r3:List Int} {a b:Pc} {l4 l5:List Sp} {k4 k5:Int} (h4:PcIs a l4 k4) (h5:PcIs b l5 k5) (hk4:k4=0) (hk5:k5=0):∃ x y,l4=[(x,x)]∧l5=[(y,y)]∧RxM.pairF r a b r3=if y < x then .err 60 r else .ok [(x,y)] r3:=by
 cases a with
 | cls i=>have:=h4.1;omega
 | one x=>cases b with
  | cls i=>have:=h5.1;omega
  | one y=>exact ⟨x,y,h4.2,h5.2,rfl⟩
set_option maxRecDepth 100000 in
set_option maxHeartbeats 8000000 in
theorem class_q (N:Nat×Nat) (hN:N.2≤R) (h:Rr R W s dv rest d f):Calls Tryz.prog 131 #[.pointer (some ⟨R,0,none⟩)] W (NodeQ N R s dv d f (classQ (decide (0 < f)) rest) W):=by
 have hRW:=h.lt
 have hsm:=h.small
 have hfew:=h.few
 obtain ⟨o,ho⟩:∃ o,o=classQ (decide (0 < f)) rest:=⟨_,rfl⟩
 rw [← ho]
 have HO:=Lib.hid ho
 rw [classQ_eq] at HO
 obtain ⟨V,hV⟩:∃ V,V=W.alloc (.cells #[.int .u8 0,.slice none 0 0,.slice none 0 0,.int .i64 0,.int .i64 0] 48):=⟨_,rfl⟩
 have hb0:Below W.heap.size W V:=by rw [hV];exact (Below.refl W.heap.size W).alloc (Nat.le_refl _) _
 have HZ:Hid (V.heap.size=W.heap.size+1):=Lib.hid (by rw [hV];exact World.size_alloc _ _)
 have HB5:Hid (B5 V W.heap.size):=Lib.hid (by rw [hV];exact B5.new W _ _ _ _ _)
 have HR:=Lib.hid (h.kept hb0)
 have HG:Hid (Gr R V V):=Lib.hid (Gr.refl _ _)
 have HB0:=Lib.hid hb0
 have hzv:=HZ.out
 have hRV:R < V.heap.size:=by omega
 clear h hb0 ho
 obtain ⟨q,hq⟩:∃ q,q=at1 94 rest:=⟨_,rfl⟩
 obtain ⟨r0,hr0⟩:∃ r0,r0=if at1 94 rest then rest.tail else rest:=⟨_,rfl⟩
 have HT:Hid (Calls Tryz.prog 86 #[.pointer (some ⟨R,0,none⟩),.string ⟨#[94]⟩] V fun e W'=>e=.returned (.bool q)∧Rr R W' s dv r0 d f∧Gr R V W'):=Lib.hid (by
  rw [hr0,hq]
  cases h94:at1 94 rest with
  | true=>simp only [if_true];exact tk_yes 94 (by decide) HR.out h94
  | false=>simp only [Bool.false_eq_true,if_false];exact tk_no 94 (by decide) HR.out h94)
 have hf0:r0.length≤200:=by
  rw [hr0]
  split
  ·have:=List.length_tail (l:=rest);omega
  ·exact hfew
 rw [← hr0,← hq] at HO
 clear hr0 hq HR
 obtain ⟨o1,ho1⟩:∃ o1,o1=classL 201 [] r0:=⟨_,rfl⟩
 rw [← ho1] at HO
 have HC0:Hid (CSt o1 200 [] (.ok () r0)):=Lib.hid (.inl ⟨[],r0,201,rfl,ho1,by omega,hf0,fun _=>Iff.rfl,by simp;omega⟩)
 clear ho1
 go_enter Tryz.func131,Tryz.ntmps131
 go_wp2_with fail
 rw [← hV]
 clear hV
 refine HT.out.mono ?_
 rintro e w1 ⟨rfl,h1,g1⟩
 have HR:Hid (Rs R w1 s dv d f (.ok () r0)):=Lib.hid h1
 have HG:=Lib.hid g1
 clear h1 g1 HT
 go_wp2_with fail
 go_loopg [4] 200 (fun g s4 wx=>∃ l σ,wx.ownsRow V.heap.size 45 2 s4 (List.length l) (cellsS l)∧Hid (Rs R wx s dv d f σ)∧Hid (Gr R V wx)∧Hid (Wide l)∧Hid (CSt o1 g l σ))
 case atStart=>exact ⟨[],.ok () r0,⟨rfl,.inl ⟨rfl,rfl⟩⟩,HR,HG,Lib.hid (fun s h=>by simp at h),HC0⟩
 case round =>
  obtain ⟨l,σ,hown,HR,HG,HW,HC⟩:=hrel
  clear HC0
  have hll:l.length≤20800:=by
   rcases HC.out with ⟨_,_,_,_,_,_,_,_,h⟩ | ⟨_,_,_,_,h⟩ <;> omega
  obtain ⟨z,hz⟩:∃ z,z=lookS σ:=⟨_,rfl⟩
  have HSEE:=Lib.hid (see_all (R:=R) (s:=s) (dv:=dv) (d:=d) (f:=f) z hz)
  by_cases hstop:z < 0∨z=93
  ·obtain ⟨σ9, hσ9⟩ : ∃ x, x = mustO 93 σ := ⟨_, rfl⟩
   have HEND:Hid (Out.u o1=σ9∧∀ a x,o1=.ok a x→∀ y,Tells l y↔Tells a y):=Lib.hid (by
    rw [hσ9]
    rcases HC.out with ⟨acc,r,fu,rfl,hc,hlf,_,htl,_⟩ | ⟨n,x,rfl,hc,_⟩
    ·obtain ⟨fu, rfl⟩ : ∃ f', fu = f' + 1 := ⟨fu - 1, by omega⟩
     rw [classLq_succ] at hc
     have hlk:=lookq_c (show Rr R wr s dv r d f from HR.out)
     rw [← hz] at hlk
     show Out.u o1=Out.u (needF 93 r)∧_
     rw [needq_at]
     cases h93:at1 93 r with
     | true =>
      rw [h93] at hc
      simp only [if_true] at hc ⊢
      rw [hc]
      exact ⟨rfl,fun a x h=>by cases h;exact htl⟩
     | false =>
      rw [h93] at hc
      simp only [Bool.false_eq_true,if_false] at hc ⊢
      have hr:r=[]:=by
       rcases hlk with ⟨h1,h2⟩ | ⟨c,t,rfl,⟨h1,h2,h3⟩ | ⟨h1,h2,h3⟩⟩
       ·exact h1
       ·have : ¬ c = 93 := fun e => by subst e; cases h93
        omega
       ·omega
      subst hr
      rw [hc,item_err (n:=60) (x:=[]) rfl]
      exact ⟨rfl,fun a x h=>by cases h⟩
    ·rw [hc]
     exact ⟨rfl,fun a x h=>by cases h⟩)
   have HMU:=Lib.hid (must1_all (R:=R) (s:=s) (dv:=dv) (d:=d) (f:=f) 93 (by decide) σ)
   rw [show ((93:UInt8).toNat:Int)=93 from rfl,← hσ9] at HMU
   clear hσ9 hz HC
   by_cases hz0:z ≥ 0
   ·obtain rfl : z = 93 := by omega
    clear hstop
    go_wp2_with fail
    refine (HSEE.out _ HR.out).mono ?_
    rintro e w1 ⟨rfl,b1⟩
    have HR:=Lib.hid (HR.out.kept b1)
    have hown:=ownq_gr hown hRV (Gr.of (R:=R) b1)
    have HG:=Lib.hid (HG.out.trans (Gr.of b1))
    clear b1
    go_wp2_with fail
    refine (HSEE.out _ HR.out).mono ?_
    rintro e w1 ⟨rfl,b1⟩
    have HR:=Lib.hid (HR.out.kept b1)
    have hown:=ownq_gr hown hRV (Gr.of (R:=R) b1)
    have HG:=Lib.hid (HG.out.trans (Gr.of b1))
    clear b1
    go_wp2_with fail
    refine (HMU.out _ HR.out).mono ?_
    rintro e w2 ⟨rfl,h2,g2⟩
    have HR:=Lib.hid h2
    have hown:=ownq_gr hown hRV g2
    have HG:=Lib.hid (HG.out.trans g2)
    clear h2 g2 HMU HSEE
    obtain ⟨P,cc,rfl,hs,hzc⟩:=spans_of0 hown
    have HS:=Lib.hid hs
    clear hs hzc hown
    cases q with
    | false =>
     have HCH:=Lib.hid (chars_q (c:=cc) N hN HR.out HS.out (by omega) (fun o1 h=>by have:=nf_len (l:=l) h.1 h.2;omega) HW.out (K:=Tells l) (fun _=>Iff.rfl))
     have hz2:=HG.out.size
     have HOK:Hid (Rs R w2 s dv d f (Out.u o)∧∀ y r,o=.ok y r→chN (decide (0 < f)) (Tells l)=y):=Lib.hid (by
      rw [HO.out]
      have h1:=HEND.out
      have h2:=HR.out
      rw [← h1.1] at h2
      cases o1 with
      | err e x=>exact ⟨h2,fun y r h=>by cases h⟩
      | ok a x =>
       refine ⟨h2,fun y r h=>?_⟩
       cases h
       rw [show Tells l=Tells a from funext fun y=>propext (h1.2 a x rfl y)]
       rfl)
     go_wp2_with fail
     refine HCH.out.mono ?_
     rintro e w3 ⟨v,rfl,hv,b3⟩
     have HG3:=Lib.hid (HG.out.trans (Gr.of b3))
     have HR3:=Lib.hid (HOK.out.1.kept b3)
     have HV:=Lib.hid hv
     have h5:=HB5.out.gr HG3.out (by omega)
     obtain ⟨⟨x0,x1,x2,x3,x4,k0,k1,k2,k3,k4⟩,f0,f1,f2,f3,f4⟩:=h5.cells
     have H5:=Lib.hid h5
     obtain ⟨k,sp,sn,sc,kp,kn,kc,mn,mx,rfl⟩:=NV.form5 hv
     clear hv b3 h5 HCH
     go_wp2
     exact ret_node rfl rfl H5.out ⟨_,_,rfl,put5_nv (R:=R) _ _ _ _ _ HV.out (by omega) hRW (by omega),HOK.out.2,Rs.put5 HR3.out (by omega) _ _ _ _ _,put5_grR _ _ _ _ _ ((Gr.of HB0.out).trans HG3.out) (Nat.le_refl _)⟩
    | true =>
     have HNT:=Lib.hid (rnot_n (c:=cc) HS.out (by omega) HW.out)
     go_wp2_with fail
     refine HNT.out.mono ?_
     rintro e w4 ⟨P4,c4,o4,rfl,i4,n4,s4,z4,a4,b4⟩
     have HR:=Lib.hid (HR.out.kept b4)
     have HG:=Lib.hid (HG.out.trans (Gr.of b4))
     have hw4:Wide o4:=wide_set i4 (fun _ h=>h.1)
     have HCH:=Lib.hid (chars_q (c:=c4) N hN HR.out s4 (by omega) (fun o1 h=>by
      have h2:=h.congr (i4.tells (fun _ h=>h.1))
      rw [h2.eq i4 (fun _=>Iff.rfl)]
      omega) hw4 (K:=notK (Tells l)) (fun y=>i4.tells (fun _ h=>h.1) y))
     have hz2:=HG.out.size
     have HOK:Hid (Rs R w4 s dv d f (Out.u o)∧∀ y r,o=.ok y r→chN (decide (0 < f)) (notK (Tells l))=y):=Lib.hid (by
      rw [HO.out]
      have h1:=HEND.out
      have h2:=HR.out
      rw [← h1.1] at h2
      cases o1 with
      | err e x=>exact ⟨h2,fun y r h=>by cases h⟩
      | ok a x =>
       refine ⟨h2,fun y r h=>?_⟩
       cases h
       rw [show Tells l=Tells a from funext fun y=>propext (h1.2 a x rfl y)]
       rfl)
     clear i4 s4 z4 a4 b4 n4 hw4
     go_wp2_with fail
     refine HCH.out.mono ?_
     rintro e w3 ⟨v,rfl,hv,b3⟩
     have HG3:=Lib.hid (HG.out.trans (Gr.of b3))
     have HR3:=Lib.hid (HOK.out.1.kept b3)
     have HV:=Lib.hid hv
     have h5:=HB5.out.gr HG3.out (by omega)
     obtain ⟨⟨x0,x1,x2,x3,x4,k0,k1,k2,k3,k4⟩,f0,f1,f2,f3,f4⟩:=h5.cells
     have H5:=Lib.hid h5
     obtain ⟨k,sp,sn,sc,kp,kn,kc,mn,mx,rfl⟩:=NV.form5 hv
     clear hv b3 h5 HCH
     go_wp2
     exact ret_node rfl rfl H5.out ⟨_,_,rfl,put5_nv (R:=R) _ _ _ _ _ HV.out (by omega) hRW (by omega),HOK.out.2,Rs.put5 HR3.out (by omega) _ _ _ _ _,put5_grR _ _ _ _ _ ((Gr.of HB0.out).trans HG3.out) (Nat.le_refl _)⟩
   ·have hz1 : ¬ 0 ≤ z := hz0
    clear hstop
    go_wp2_with fail
    refine (HSEE.out _ HR.out).mono ?_
    rintro e w1 ⟨rfl,b1⟩
    have HR:=Lib.hid (HR.out.kept b1)
    have hown:=ownq_gr hown hRV (Gr.of (R:=R) b1)
    have HG:=Lib.hid (HG.out.trans (Gr.of b1))
    clear b1
    go_wp2_with fail
    refine (HMU.out _ HR.out).mono ?_
    rintro e w2 ⟨rfl,h2,g2⟩
    have HR:=Lib.hid h2
    have hown:=ownq_gr hown hRV g2
    have HG:=Lib.hid (HG.out.trans g2)
    clear h2 g2 HMU HSEE
    obtain ⟨P,cc,rfl,hs,hzc⟩:=spans_of0 hown
    have HS:=Lib.hid hs
    clear hs hzc hown
    cases q with
    | false =>
     have HCH:=Lib.hid (chars_q (c:=cc) N hN HR.out HS.out (by omega) (fun o1 h=>by have:=nf_len (l:=l) h.1 h.2;omega) HW.out (K:=Tells l) (fun _=>Iff.rfl))
     have hz2:=HG.out.size
     have HOK:Hid (Rs R w2 s dv d f (Out.u o)∧∀ y r,o=.ok y r→chN (decide (0 < f)) (Tells l)=y):=Lib.hid (by
      rw [HO.out]
      have h1:=HEND.out
      have h2:=HR.out
      rw [← h1.1] at h2
      cases o1 with
      | err e x=>exact ⟨h2,fun y r h=>by cases h⟩
      | ok a x =>
       refine ⟨h2,fun y r h=>?_⟩
       cases h
       rw [show Tells l=Tells a from funext fun y=>propext (h1.2 a x rfl y)]
       rfl)
     go_wp2_with fail
     refine HCH.out.mono ?_
     rintro e w3 ⟨v,rfl,hv,b3⟩
     have HG3:=Lib.hid (HG.out.trans (Gr.of b3))
     have HR3:=Lib.hid (HOK.out.1.kept b3)
     have HV:=Lib.hid hv
     have h5:=HB5.out.gr HG3.out (by omega)
     obtain ⟨⟨x0,x1,x2,x3,x4,k0,k1,k2,k3,k4⟩,f0,f1,f2,f3,f4⟩:=h5.cells
     have H5:=Lib.hid h5
     obtain ⟨k,sp,sn,sc,kp,kn,kc,mn,mx,rfl⟩:=NV.form5 hv
     clear hv b3 h5 HCH
     go_wp2
     exact ret_node rfl rfl H5.out ⟨_,_,rfl,put5_nv (R:=R) _ _ _ _ _ HV.out (by omega) hRW (by omega),HOK.out.2,Rs.put5 HR3.out (by omega) _ _ _ _ _,put5_grR _ _ _ _ _ ((Gr.of HB0.out).trans HG3.out) (Nat.le_refl _)⟩
    | true =>
     have HNT:=Lib.hid (rnot_n (c:=cc) HS.out (by omega) HW.out)
     go_wp2_with fail
     refine HNT.out.mono ?_
     rintro e w4 ⟨P4,c4,o4,rfl,i4,n4,s4,z4,a4,b4⟩
     have HR:=Lib.hid (HR.out.kept b4)
     have HG:=Lib.hid (HG.out.trans (Gr.of b4))
     have hw4:Wide o4:=wide_set i4 (fun _ h=>h.1)
     have HCH:=Lib.hid (chars_q (c:=c4) N hN HR.out s4 (by omega) (fun o1 h=>by
      have h2:=h.congr (i4.tells (fun _ h=>h.1))
      rw [h2.eq i4 (fun _=>Iff.rfl)]
      omega) hw4 (K:=notK (Tells l)) (fun y=>i4.tells (fun _ h=>h.1) y))
     have hz2:=HG.out.size
     have HOK:Hid (Rs R w4 s dv d f (Out.u o)∧∀ y r,o=.ok y r→chN (decide (0 < f)) (notK (Tells l))=y):=Lib.hid (by
      rw [HO.out]
      have h1:=HEND.out
      have h2:=HR.out
      rw [← h1.1] at h2
      cases o1 with
      | err e x=>exact ⟨h2,fun y r h=>by cases h⟩
      | ok a x =>
       refine ⟨h2,fun y r h=>?_⟩
       cases h
       rw [show Tells l=Tells a from funext fun y=>propext (h1.2 a x rfl y)]
       rfl)
     clear i4 s4 z4 a4 b4 n4 hw4
     go_wp2_with fail
     refine HCH.out.mono ?_
     rintro e w3 ⟨v,rfl,hv,b3⟩
     have HG3:=Lib.hid (HG.out.trans (Gr.of b3))
     have HR3:=Lib.hid (HOK.out.1.kept b3)
     have HV:=Lib.hid hv
     have h5:=HB5.out.gr HG3.out (by omega)
     obtain ⟨⟨x0,x1,x2,x3,x4,k0,k1,k2,k3,k4⟩,f0,f1,f2,f3,f4⟩:=h5.cells
     have H5:=Lib.hid h5
     obtain ⟨k,sp,sn,sc,kp,kn,kc,mn,mx,rfl⟩:=NV.form5 hv
     clear hv b3 h5 HCH
     go_wp2
     exact ret_node rfl rfl H5.out ⟨_,_,rfl,put5_nv (R:=R) _ _ _ _ _ HV.out (by omega) hRW (by omega),HOK.out.2,Rs.put5 HR3.out (by omega) _ _ _ _ _,put5_grR _ _ _ _ _ ((Gr.of HB0.out).trans HG3.out) (Nat.le_refl _)⟩
  ·obtain ⟨acc,r,fu,rfl,hc,hlf,hlg,htl,hlen⟩:∃ acc r fu,σ=.ok () r∧o1=classL fu acc r∧r.length < fu∧r.length≤gk∧(∀ z,Tells l z↔Tells acc z)∧l.length+104*r.length≤20800:=by
    rcases HC.out with h | ⟨n,x,rfl,_,_⟩
    ·exact h
    ·exact absurd (show z < 0 by rw [hz];exact (by decide:(-1:Int) < 0)) (fun e=>hstop (.inl e))
   obtain ⟨fu,rfl⟩:∃ f',fu=f'+1:=⟨fu - 1,by omega⟩
   have HR:Hid (Rr R wr s dv r d f):=HR
   have hlk:=lookq_c HR.out
   rw [← hz] at hlk
   have hrne:0 < r.length:=by
    rcases hlk with ⟨h1,h2⟩ | ⟨c,t,rfl,_⟩
    ·omega
    ·simp
   have h93:at1 93 r=false:=by
    rcases hlk with ⟨h1,h2⟩ | ⟨c,t,rfl,⟨h1,h2,h3⟩ | ⟨h1,h2,h3⟩⟩
    ·rw [h1];rfl
    ·exact decide_eq_false (by omega)
    ·exact decide_eq_false (by omega)
   rw [classLq_succ,h93] at hc
   simp only [Bool.false_eq_true,if_false] at hc
   have HC2:=Lib.hid hc
   have HTL:=Lib.hid htl
   have hz0:z ≥ 0:=by omega
   have hz93:(z == 93)=false:=by simp;omega
   have hz93n:(z != 93)=true:=by simp;omega
   have hz93e:¬ z=93:=by omega
   clear hlk hc htl hstop hz HC h93
   go_wp2_with fail
   refine (HSEE.out _ HR.out).mono ?_
   rintro e w1 ⟨rfl,b1⟩
   have HR:=Lib.hid (HR.out.kept b1)
   have hown:=ownq_gr hown hRV (Gr.of (R:=R) b1)
   have HG:=Lib.hid (HG.out.trans (Gr.of b1))
   clear b1
   go_wp2_with fail
   refine (HSEE.out _ HR.out).mono ?_
   rintro e w1 ⟨rfl,b1⟩
   have HR:=Lib.hid (HR.out.kept b1)
   have hown:=ownq_gr hown hRV (Gr.of (R:=R) b1)
   have HG:=Lib.hid (HG.out.trans (Gr.of b1))
   clear b1
   have c1:=HR.out.c1
   have HX:=Lib.hid (one_q HR.out)
   go_wp2_with fail
   refine HX.out.mono ?_
   have hs1:=HG.out.size
   rintro e w2 ⟨P4,c4,l4,k4,rfl,n4,wd4,s4,z4,f4,q4,k01,pc4,h1,g1⟩
   have hown:=ownq_gr hown hRV g1
   have HG:=Lib.hid (HG.out.trans g1)
   have HWD4:=Lib.hid wd4
   have HZ4:=Lib.hid z4
   have HF4:Hid (∀ a,P4=some a→V.heap.size≤a.block):=Lib.hid (fun a h=>by have:=f4 a h;omega)
   clear c1 HX g1 wd4 z4 f4
   cases hp:pieceF r with
   | err n x =>
    rw [hp] at h1
    have HR:Hid (Rs R w2 s dv d f (.err n x)):=Lib.hid h1
    have HS4:=Lib.hid s4
    have HCE:Hid (o1=.err n x):=Lib.hid (by rw [HC2.out,item_err hp])
    have HT:=Lib.hid (tk_err ⟨#[45]⟩ (lowq1 45 (by decide)) (by decide) HR.out)
    clear hp h1 pc4 s4 q4 k01
    go_wp2_with fail
    refine HT.out.mono ?_
    rintro e w3 ⟨rfl,h1,g1⟩
    have hown:=ownq_gr hown hRV g1
    have HG:=Lib.hid (HG.out.trans g1)
    have HR:=Lib.hid h1
    have HS4:=Lib.hid (slq_gr HS4.out g1 (fun a h=>by have:=HF4.out a h;omega))
    clear h1 g1 HT
    have hsz:=HG.out.size
    have hl5:l4.length≤104:=by first | omega | simp
    go_wp2_with (at_builtin;refine wpList_append_spans rfl _ _ rfl V.heap.size _ _ _ rfl hown P4 c4 l4 rfl HS4.out HZ4.out (by omega) hsz ?_;intro v9 w9 hown9 hg9)
    have G9:=Lib.hid (grq_row HG.out (Nat.le_refl _) hown hg9)
    have HR9:=Lib.hid (HR.out.row hRV hown hg9)
    clear hown hg9
    go_roundg 0
    case measure=>omega
    case rel=>exact ⟨l++l4,.err n x,by rw [List.length_append,cellsS_append];exact hown9,HR9,G9,Lib.hid (wide_app HW.out HWD4.out),Lib.hid (.inr ⟨n,x,rfl,HCE.out,by rw [List.length_append];omega⟩)⟩
   | ok pa r1 =>
    rw [hp] at h1 pc4
    have HR:Hid (Rr R w2 s dv r1 d f):=Lib.hid h1
    have HPA:=Lib.hid (pc4 pa r1 rfl)
    have HP:=Lib.hid hp
    have hlt:=piece_len hp
    have HS4:=Lib.hid s4
    have HQ4:=Lib.hid q4
    clear hp h1 pc4 s4 q4
    cases h45:at1 45 r1 with
    | false =>
     have HIT:Hid (o1=classL fu (acc++pcS pa) r1):=Lib.hid (by rw [HC2.out,item_one HP.out h45])
     have HT:=Lib.hid (tk_no 45 (by decide) HR.out h45)
     clear h45 k01
     go_wp2_with fail
     refine HT.out.mono ?_
     rintro e w3 ⟨rfl,h1,g1⟩
     have hown:=ownq_gr hown hRV g1
     have HG:=Lib.hid (HG.out.trans g1)
     have HR:Hid (Rs R w3 s dv d f (.ok () r1)):=Lib.hid h1
     have HS4:=Lib.hid (slq_gr HS4.out g1 (fun a h=>by have:=HF4.out a h;omega))
     have HTT:Hid (∀ y,Tells l4 y↔Tells (pcS pa) y):=Lib.hid (pc_tells HPA.out)
     clear h1 g1 HT
     have hsz:=HG.out.size
     have hl5:l4.length≤104:=by first | omega | simp
     go_wp2_with (at_builtin;refine wpList_append_spans rfl _ _ rfl V.heap.size _ _ _ rfl hown P4 c4 l4 rfl HS4.out HZ4.out (by omega) hsz ?_;intro v9 w9 hown9 hg9)
     have G9:=Lib.hid (grq_row HG.out (Nat.le_refl _) hown hg9)
     have HR9:=Lib.hid (HR.out.row hRV hown hg9)
     clear hown hg9
     go_roundg r1.length
     case measure=>omega
     case rel=>exact ⟨l++l4,.ok () r1,by rw [List.length_append,cellsS_append];exact hown9,HR9,G9,Lib.hid (wide_app HW.out HWD4.out),Lib.hid (.inl ⟨acc++(pcS pa),r1,fu,rfl,HIT.out,by omega,Nat.le_refl _,tellsq_app HTL.out HTT.out,by rw [List.length_append];omega⟩)⟩
    | true =>
     have HIT:=Lib.hid (item_two HP.out h45)
     have HT:=Lib.hid (tk_yes 45 (by decide) HR.out h45)
     have htl1:=tail_lt h45
     clear h45
     go_wp2_with fail
     refine HT.out.mono ?_
     rintro e w3 ⟨rfl,h1,g1⟩
     have hown:=ownq_gr hown hRV g1
     have HG:=Lib.hid (HG.out.trans g1)
     have HR:Hid (Rr R w3 s dv r1.tail d f):=Lib.hid h1
     have HS4:=Lib.hid (slq_gr HS4.out g1 (fun a h=>by have:=HF4.out a h;omega))
     clear h1 g1 HT
     have HX:=Lib.hid (one_q HR.out)
     have hs3:=HG.out.size
     go_wp2_with fail
     refine HX.out.mono ?_
     rintro e w5 ⟨P5,c5,l5,k5,rfl,n5,wd5,s5,z5,f5,q5,k501,pc5,h1,g1⟩
     have hown:=ownq_gr hown hRV g1
     have HG:=Lib.hid (HG.out.trans g1)
     have HS4:=Lib.hid (slq_gr HS4.out g1 (fun a h=>by have:=HF4.out a h;omega))
     have HF5:Hid (∀ a,P5=some a→V.heap.size≤a.block):=Lib.hid (fun a h=>by have:=f5 a h;omega)
     clear HX g1 f5 z5 hs3
     cases hp2:pieceF r1.tail with
     | err n x =>
      rw [hp2] at h1
      have HR:Hid (Rs R w5 s dv d f (.err n x)):=Lib.hid h1
      have HCE:Hid (o1=.err n x):=Lib.hid (by rw [HC2.out,HIT.out,hp2])
      obtain ⟨i,en,zz,_,_,hcells,_,herr⟩:=Rs.cells h1
      obtain ⟨hen,hne,_⟩:=herr n x rfl
      have g5:∀ m,(w5.drewN m).cell? ⟨R,5,none⟩=some (.int .i64 (en:Int)):=fun m=>(hcells _ (drewN_below m)).2.2.2.2.2.1
      have gc5:=g5 0
      have g6:((en:Int) == 0)=false:=by simp;omega
      have g7:¬ (en:Int)=0:=by omega
      have gc5:w5.cell? ⟨R,5,none⟩=some (.int .i64 (en:Int)):=(hcells w5 (Below.refl _ _)).2.2.2.2.2.1
      clear hp2 h1 pc5 s5 q5 k501 k01 hcells herr hen hne wd5
      go_wp2_with fail
      go_quiet (fail)
      have gc5:=g5 nq
      have hown:=ownq_gr hown hRV (Gr.of (R:=R) (drewN_below nq))
      have HG:=Lib.hid (HG.out.trans (Gr.of (drewN_below nq)))
      have HR:=Lib.hid (HR.out.kept (drewN_below nq))
      have HS4:=Lib.hid (slq_gr HS4.out (Gr.of (R:=R) (drewN_below nq)) (fun a h=>by have:=HF4.out a h;omega))
      clear g5
      generalize w5.drewN nq=w6 at *
      have hsz:=HG.out.size
      have hl5:l4.length≤104:=by first | omega | simp
      go_wp2_with (at_builtin;refine wpList_append_spans rfl _ _ rfl V.heap.size _ _ _ rfl hown P4 c4 l4 rfl HS4.out HZ4.out (by omega) hsz ?_;intro v9 w9 hown9 hg9)
      have G9:=Lib.hid (grq_row HG.out (Nat.le_refl _) hown hg9)
      have HR9:=Lib.hid (HR.out.row hRV hown hg9)
      clear hown hg9
      go_roundg 0
      case measure=>omega
      case rel=>exact ⟨l++l4,.err n x,by rw [List.length_append,cellsS_append];exact hown9,HR9,G9,Lib.hid (wide_app HW.out HWD4.out),Lib.hid (.inr ⟨n,x,rfl,HCE.out,by rw [List.length_append];omega⟩)⟩
     | ok pb r3 =>
      rw [hp2] at h1 pc5
      have HR:Hid (Rr R w5 s dv r3 d f):=Lib.hid h1
      have HPB:=Lib.hid (pc5 pb r3 rfl)
      have hlt2:=piece_len hp2
      rw [hp2] at HIT
      dsimp only at HIT
      have g5:∀ m,(w5.drewN m).cell? ⟨R,5,none⟩=some (.int .i64 0):=fun m=>(Rr.kept HR.out (drewN_below m)).c5
      have gc5:=HR.out.c5
      clear hp2 h1 pc5 wd5
      by_cases hk4:k4=1
      ·have HCE : Hid (o1 = .err 60 r) := Lib.hid (by rw [HC2.out, HIT.out, pair_bad HPA.out HPB.out (.inl hk4)])
       subst hk4
       clear s5 q5 k501 k01 HIT
       go_wp2_with fail
       go_quiet (fail)
       have hown:=ownq_gr hown hRV (Gr.of (R:=R) (drewN_below nq))
       have HG:=Lib.hid (HG.out.trans (Gr.of (drewN_below nq)))
       have HR:Hid (Rs R (w5.drewN nq) s dv d f (.ok () r3)):=Lib.hid (Rr.kept HR.out (drewN_below nq))
       have HS4:=Lib.hid (slq_gr HS4.out (Gr.of (R:=R) (drewN_below nq)) (fun a h=>by have:=HF4.out a h;omega))
       clear g5 gc5
       generalize w5.drewN nq=w6 at *
       have HF:=Lib.hid (fail_c 60 ((s.size:Int) - ((U.UtfM.wr r).length:Nat)) r (by omega) (fun _ _ _=>rfl) HR.out)
       go_wp2_with fail
       refine HF.out.mono ?_
       rintro e w8 ⟨rfl,h1,g1⟩
       have hown:=ownq_gr hown hRV g1
       have HG:=Lib.hid (HG.out.trans g1)
       have HR:Hid (Rs R w8 s dv d f (.err 60 r)):=Lib.hid h1
       have HS4:=Lib.hid (slq_gr HS4.out g1 (fun a h=>by have:=HF4.out a h;omega))
       have gc5:w8.cell? ⟨R,5,none⟩=some (.int .i64 60):=by
        obtain ⟨i,en,zz,_,_,hcells,_,herr⟩:=Rs.cells HR.out
        have:=(herr 60 r rfl).1
        subst this
        exact (hcells w8 (Below.refl _ _)).2.2.2.2.2.1
       clear h1 g1 HF
       have hsz:=HG.out.size
       have hl5:l4.length≤104:=by first | omega | simp
       go_wp2_with (at_builtin;refine wpList_append_spans rfl _ _ rfl V.heap.size _ _ _ rfl hown P4 c4 l4 rfl HS4.out HZ4.out (by omega) hsz ?_;intro v9 w9 hown9 hg9)
       have G9:=Lib.hid (grq_row HG.out (Nat.le_refl _) hown hg9)
       have HR9:=Lib.hid (HR.out.row hRV hown hg9)
       clear hown hg9
       go_roundg 0
       case measure=>omega
       case rel=>exact ⟨l++l4,.err 60 r,by rw [List.length_append,cellsS_append];exact hown9,HR9,G9,Lib.hid (wide_app HW.out HWD4.out),Lib.hid (.inr ⟨60,r,rfl,HCE.out,by rw [List.length_append];omega⟩)⟩
      ·have hk40 : k4 = 0 := by omega
       by_cases hk5:k5=1
       ·have HCE : Hid (o1 = .err 60 r) := Lib.hid (by rw [HC2.out, HIT.out, pair_bad HPA.out HPB.out (.inr hk5)])
        subst hk5 hk40
        clear s5 q5 k501 k01 HIT hk4
        go_wp2_with fail
        go_quiet (fail)
        have hown:=ownq_gr hown hRV (Gr.of (R:=R) (drewN_below nq))
        have HG:=Lib.hid (HG.out.trans (Gr.of (drewN_below nq)))
        have HR:Hid (Rs R (w5.drewN nq) s dv d f (.ok () r3)):=Lib.hid (Rr.kept HR.out (drewN_below nq))
        have HS4:=Lib.hid (slq_gr HS4.out (Gr.of (R:=R) (drewN_below nq)) (fun a h=>by have:=HF4.out a h;omega))
        clear g5 gc5
        generalize w5.drewN nq=w6 at *
        have HF:=Lib.hid (fail_c 60 ((s.size:Int) - ((U.UtfM.wr r).length:Nat)) r (by omega) (fun _ _ _=>rfl) HR.out)
        go_wp2_with fail
        refine HF.out.mono ?_
        rintro e w8 ⟨rfl,h1,g1⟩
        have hown:=ownq_gr hown hRV g1
        have HG:=Lib.hid (HG.out.trans g1)
        have HR:Hid (Rs R w8 s dv d f (.err 60 r)):=Lib.hid h1
        have HS4:=Lib.hid (slq_gr HS4.out g1 (fun a h=>by have:=HF4.out a h;omega))
        have gc5:w8.cell? ⟨R,5,none⟩=some (.int .i64 60):=by
         obtain ⟨i,en,zz,_,_,hcells,_,herr⟩:=Rs.cells HR.out
         have:=(herr 60 r rfl).1
         subst this
         exact (hcells w8 (Below.refl _ _)).2.2.2.2.2.1
        clear h1 g1 HF
        have hsz:=HG.out.size
        have hl5:l4.length≤104:=by first | omega | simp
        go_wp2_with (at_builtin;refine wpList_append_spans rfl _ _ rfl V.heap.size _ _ _ rfl hown P4 c4 l4 rfl HS4.out HZ4.out (by omega) hsz ?_;intro v9 w9 hown9 hg9)
        have G9:=Lib.hid (grq_row HG.out (Nat.le_refl _) hown hg9)
        have HR9:=Lib.hid (HR.out.row hRV hown hg9)
        clear hown hg9
        go_roundg 0
        case measure=>omega
        case rel=>exact ⟨l++l4,.err 60 r,by rw [List.length_append,cellsS_append];exact hown9,HR9,G9,Lib.hid (wide_app HW.out HWD4.out),Lib.hid (.inr ⟨60,r,rfl,HCE.out,by rw [List.length_append];omega⟩)⟩
       ·have hk50 : k5 = 0 := by omega
        obtain ⟨x,y,hl4,hl5,hpr⟩:=pair_two (r:=r) (r3:=r3) HPA.out HPB.out hk40 hk50
        have HPR:=Lib.hid hpr
        subst hl4 hl5
        obtain ⟨ga,hga⟩:∃ g,P4=some ⟨g,0,none⟩:=(HQ4.out hk40).resolve_left (by simp)
        obtain ⟨gb,hgb⟩:∃ g,P5=some ⟨g,0,none⟩:=(q5 hk50).resolve_left (by simp)
        subst hga hgb
        subst hk40 hk50
        obtain ⟨hqa,a0,a1⟩:=sl_cells HS4.out
        obtain ⟨hqb,b0,b1⟩:=sl_cells s5
        have a0n:∀ m,(w5.drewN m).cell? ⟨ga,0,none⟩=some (.int .i64 x):=fun m=>a0
        have b0n:∀ m,(w5.drewN m).cell? ⟨gb,0,none⟩=some (.int .i64 y):=fun m=>b0
        have b1n:∀ m,(w5.drewN m).cell? ⟨gb,1,none⟩=some (.int .i64 y):=fun m=>b1
        clear s5 q5 k501 k01 hk4 hk5 hpr a1
        by_cases hyx:y < x
        ·have HCE : Hid (o1 = .err 60 r) := Lib.hid (by rw [HC2.out, HIT.out, HPR.out, if_pos hyx])
         clear HIT HPR
         go_wp2_with fail
         go_quiet (fail)
         have hown:=ownq_gr hown hRV (Gr.of (R:=R) (drewN_below nq))
         have HG:=Lib.hid (HG.out.trans (Gr.of (drewN_below nq)))
         have HR:Hid (Rs R (w5.drewN nq) s dv d f (.ok () r3)):=Lib.hid (Rr.kept HR.out (drewN_below nq))
         have HS4:=Lib.hid (slq_gr HS4.out (Gr.of (R:=R) (drewN_below nq)) (fun a h=>by have:=HF4.out a h;omega))
         clear g5 gc5
         generalize w5.drewN nq=w6 at *
         have HF:=Lib.hid (fail_c 60 ((s.size:Int) - ((U.UtfM.wr r).length:Nat)) r (by omega) (fun _ _ _=>rfl) HR.out)
         go_wp2_with fail
         refine HF.out.mono ?_
         rintro e w8 ⟨rfl,h1,g1⟩
         have hown:=ownq_gr hown hRV g1
         have HG:=Lib.hid (HG.out.trans g1)
         have HR:Hid (Rs R w8 s dv d f (.err 60 r)):=Lib.hid h1
         have HS4:=Lib.hid (slq_gr HS4.out g1 (fun a h=>by have:=HF4.out a h;omega))
         have gc5:w8.cell? ⟨R,5,none⟩=some (.int .i64 60):=by
          obtain ⟨i,en,zz,_,_,hcells,_,herr⟩:=Rs.cells HR.out
          have:=(herr 60 r rfl).1
          subst this
          exact (hcells w8 (Below.refl _ _)).2.2.2.2.2.1
         clear h1 g1 HF
         have hsz:=HG.out.size
         have hl5:[(x,x)].length≤104:=by first | omega | simp
         go_wp2_with (at_builtin;refine wpList_append_spans rfl _ _ rfl V.heap.size _ _ _ rfl hown (some ⟨ga,0,none⟩) c4 [(x,x)] rfl HS4.out HZ4.out (by omega) hsz ?_;intro v9 w9 hown9 hg9)
         have G9:=Lib.hid (grq_row HG.out (Nat.le_refl _) hown hg9)
         have HR9:=Lib.hid (HR.out.row hRV hown hg9)
         clear hown hg9
         go_roundg 0
         case measure=>omega
         case rel=>exact ⟨l++[(x,x)],.err 60 r,by rw [List.length_append,cellsS_append];exact hown9,HR9,G9,Lib.hid (wide_app HW.out HWD4.out),Lib.hid (.inr ⟨60,r,rfl,HCE.out,by rw [List.length_append];omega⟩)⟩
        ·have HIT : Hid (o1 = classL fu (acc ++ [(x, y)]) r3) := Lib.hid (by rw [HC2.out, HIT.out, HPR.out, if_neg hyx])
         have HXY:Hid (Wide [(x,y)]):=Lib.hid (fun s hs=>by
          simp at hs
          subst hs
          have:=HWD4.out (x,x) (by simp)
          show -9223372036854775808≤y
          have h2:-9223372036854775808≤x:=this
          omega)
         clear HPR
         go_wp2_with fail
         go_quiet (fail)
         have hown:=ownq_gr hown hRV (Gr.of (R:=R) (drewN_below nq))
         have HG:=Lib.hid (HG.out.trans (Gr.of (drewN_below nq)))
         have HR:=Lib.hid (HR.out.kept (drewN_below nq))
         have a0:=a0n nq
         have b1:=b1n nq
         have gc5:=g5 nq
         clear a0n b0n b1n g5 b0 HS4
         generalize w5.drewN nq=w6 at *
         go_wp2_with fail
         go_region
         have hal:=((Below.refl w6.heap.size w6).alloc (Nat.le_refl _) (.cells #[.int .i64 x,.int .i64 y] 45)).drew
         have HS6:Hid (Sl (w6.alloc (.cells #[.int .i64 x,.int .i64 y] 45)).drew (some ⟨w6.heap.size,0,none⟩) [(x,y)]):=Lib.hid (sl_new w6 x y)
         have hown:=ownq_gr hown hRV (Gr.of (R:=R) hal)
         have HR:Hid (Rs R (w6.alloc (.cells #[.int .i64 x,.int .i64 y] 45)).drew s dv d f (.ok () r3)):=Lib.hid (Rr.kept HR.out hal)
         have HG:=Lib.hid (HG.out.trans (Gr.of hal))
         have HZ6:Hid ((some ⟨w6.heap.size,0,none⟩:Option Addr)=none→1=0):=Lib.hid (fun h=>by cases h)
         generalize (w6.alloc (.cells #[.int .i64 x,.int .i64 y] 45)).drew=w7 at *
         clear a0 b1 gc5 hal
         have hsz:=HG.out.size
         have hl5:[(x,y)].length≤104:=by first | omega | simp
         go_wp2_with (at_builtin;refine wpList_append_spans rfl _ _ rfl V.heap.size _ _ _ rfl hown (some ⟨w6.heap.size,0,none⟩) 1 [(x,y)] rfl HS6.out HZ6.out (by omega) hsz ?_;intro v9 w9 hown9 hg9)
         have G9:=Lib.hid (grq_row HG.out (Nat.le_refl _) hown hg9)
         have HR9:=Lib.hid (HR.out.row hRV hown hg9)
         clear hown hg9
         go_roundg r3.length
         case measure=>omega
         case rel=>exact ⟨l++[(x,y)],.ok () r3,by rw [List.length_append,cellsS_append];exact hown9,HR9,G9,Lib.hid (wide_app HW.out HXY.out),Lib.hid (.inl ⟨acc++[(x,y)],r3,fu,rfl,HIT.out,by omega,Nat.le_refl _,tellsq_app HTL.out (fun _=>Iff.rfl),by rw [List.length_append];omega⟩)⟩
end
end Go.Proofs.YtioahgklplbinaaGreatDoor
