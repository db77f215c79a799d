/- The document's reader: a definition by its name. -/
import Derived.Test.YtioahgklplbinaaGreatDoorQT
import Derived.Test.YtioahgklplbinaaGreatDoorQClosed
import Derived.Deep.CutRange
import Derived.Deep.CutBlock
namespace Go.Proofs.YtioahgklplbinaaGreatDoor
open Go.RowKit Go.Shelf Go.Maps SetM PropsM RxM
section
variable {R:Nat} {W W' W0:World} {s:ByteArray} {dv:Value} {rest r:List Int} {N:Nat×Nat} {d f n:Nat} {z c:Int} {σ:Out Unit} {D:List Df}
def bl (l:Bs):List Int:=l.map fun b=>(b.toNat:Int)
theorem bl_inj : ∀ (a b : Bs), bl a = bl b → a = b
 | [],[],_=>rfl
 | [],y::b,h=>by simp [bl] at h
 | x::a,[],h=>by simp [bl] at h
 | x::a,y::b,h=>by
  simp only [bl,List.map_cons,List.cons.injEq] at h
  have h1:x=y:=UInt8.toNat_inj.1 (by have:=h.1;omega)
  rw [bl_inj a b h.2,h1]
theorem bs_bl (a:Bs):bs ⟨a.toArray⟩=bl a:=by simp [bs,bl]
theorem bs_of_bl {a:ByteArray} {b:Bs} (h:bs a=bl b):a=⟨b.toArray⟩:=by
 have h1:a.data.toList=b:=bl_inj _ _ h
 cases a with
 | mk x=>simp at h1;rw [← h1]
def DefQ (N:Nat×Nat) (W0:World) (dv:Value) (D:List Df):Prop :=
 D.length≤100∧N.2≤W0.heap.size∧∃ P c,dv=.slice P D.length c∧∀ i (hi:i < D.length),∃ g nm x0 x1 x2 x3 x4,P=some ⟨g,0,none⟩∧(N.1≤g∧g < N.2)∧bs nm=D[i].1∧Def6 W0 g (i*6) nm x0 x1 x2 x3 x4 ∧
  NV W0 (fun b=>N.1≤b∧b < N.2) (.agg #[x0,x1,x2,x3,x4]) D[i].2.1∧D[i].2.2=clF D[i].2.1∧Few D[i].2.1
def NmI (rest:List Int) (acc:Bs) (r:List Int):Prop:=rest=bl acc++r∧(∀ c∈bl acc,isLD c=true)∧(∀ c,(bl acc).head? = some c→isL c=true)∧acc.length≤200
def NmE (acc:Bs) (r:List Int):Prop:=(acc=[]→∀ c t,r=c::t→isL c=false)∧(acc≠[]→∀ c t,r=c::t→isLD c=false)
theorem NmI.push {acc:Bs} {r:List Int} {x:UInt8} (h:NmI rest acc ((x.toNat:Int)::r)) (hx:isL (x.toNat:Int)=true∨(isD (x.toNat:Int)=true∧acc≠[])) (hl:acc.length < 200):NmI rest (acc++[x]) r:=by
 obtain ⟨h1,h2,h3,h4⟩:=h
 refine ⟨by rw [h1];simp [bl],fun c hc=>?_,fun c hc=>?_,by simp;omega⟩
 ·rw [show bl (acc ++ [x]) = bl acc ++ [(x.toNat : Int)] by simp [bl]] at hc
  rcases List.mem_append.1 hc with h | h
  ·exact h2 c h
  ·rw [List.mem_singleton.1 h]
   unfold isLD
   rcases hx with h | h
   ·rw [h];rfl
   ·rw [h.1];simp
 ·cases acc with
  | nil =>
   simp [bl] at hc
   subst hc
   rcases hx with h | h
   ·exact h
   ·exact absurd rfl h.2
  | cons y l=>exact h3 c (by simpa [bl] using hc)
theorem tw_split (P : Int → Bool) : ∀ (a b : List Int), (∀ c ∈ a, P c = true) → (∀ c t, b = c :: t → P c = false) → (a ++ b).takeWhile P = a ∧ (a ++ b).dropWhile P = b
 | [],[],_,_=>⟨rfl,rfl⟩
 | [],c::t,_,h=>by have:=h c t rfl;simp [this]
 | x::a,b,ha,h=>by
  have h1:=ha x (by simp)
  obtain ⟨h2,h3⟩:=tw_split P a b (fun c hc=>ha c (by simp [hc])) h
  simp [h1,h2,h3]
theorem named_nil {cl:Bool} {r0:List Int} (h:NmI rest [] r) (he:NmE [] r):namedF D cl r0 rest=.err 60 rest∧rest=r:=by
 have h1:rest=r:=by simpa [bl] using h.1
 subst h1
 refine ⟨?_,rfl⟩
 cases rest with
 | nil=>rfl
 | cons c t=>simp only [namedF,he.1 rfl c t rfl];rfl
theorem named_at {cl:Bool} {r0:List Int} {acc:Bs} (h:NmI rest acc r) (he:NmE acc r) (hn:acc≠[]):namedF D cl r0 rest=match needF 125 r with
  | .err e x=>.err e x
  | .ok _ r2=>match findF D cl (bl acc) with
   | none=>.err 62 r0
   | some x=>.ok x r2:=by
 obtain ⟨h1,h2,h3,_⟩:=h
 cases acc with
 | nil=>exact absurd rfl hn
 | cons x l =>
  have hb:bl (x::l)=(x.toNat:Int)::bl l:=rfl
  rw [hb] at h1 h2 h3
  have hL:=h3 _ rfl
  obtain ⟨ht,hd⟩:=tw_split isLD (bl l) r (fun c hc=>h2 c (by simp [hc])) (he.2 hn)
  rw [h1,List.cons_append]
  simp only [namedF,hL,if_true,ht,hd]
  rfl
theorem find_at {cl:Bool} {nm:List Int} {i:Nat} (hi:i < D.length) (hno:∀ j (hj:j < i),D[j].1≠nm) (hy:D[i].1=nm):findF D cl nm=some (if cl then D[i].2.2 else D[i].2.1):=by
 unfold findF
 have:D.find? (fun d=>d.1 == nm)=some D[i]:=by
  rw [List.find?_eq_some_iff_getElem]
  exact ⟨by simp [hy],i,hi,rfl,fun j hj=>by simp;exact hno j hj⟩
 rw [this]
theorem find_no {cl:Bool} {nm:List Int} (hno:∀ j (hj:j < D.length),D[j].1≠nm):findF D cl nm=none:=by
 unfold findF
 have:D.find? (fun d=>d.1 == nm)=none:=by
  rw [List.find?_eq_none]
  intro x hx
  obtain ⟨j,hj,rfl⟩:=List.mem_iff_getElem.1 hx
  simp
  exact hno j hj
 rw [this]
set_option maxRecDepth 100000 in
set_option maxHeartbeats 4000000 in
theorem named_q (hN:N.2≤R) (hDQ:DefQ N W0 dv D):NamedQ N R s dv W0 (fun cl=>namedF D cl):=by
 intro W rest r0 d f hG0 h
 obtain ⟨hD100,hN0,P,c,rfl,hdefs⟩:=hDQ
 have hRW:=h.lt
 have hsm:=h.small
 have hfew:=Rr.few h
 obtain ⟨zp,hzp⟩:∃ zp,zp=(s.size:Int) - ((U.UtfM.wr r0).length:Nat):=⟨_,rfl⟩
 rw [← hzp]
 have HZP:=Lib.hid hzp
 obtain ⟨o,ho⟩:∃ o,o=namedF D (decide (0 < f)) r0 rest:=⟨_,rfl⟩
 show Calls _ _ _ _ (NodeQ N R s (.slice P D.length c) d f (namedF D (decide (0 < f)) r0 rest) W)
 rw [← ho]
 have HO:=Lib.hid ho
 obtain ⟨V,hV⟩:∃ V,V=W.alloc (.cells #[.int .u8 0,.slice none 0 0,.slice none 0 0,.int .i64 0,.int .i64 0] 48):=⟨_,rfl⟩
 have hb0:Below W.heap.size W V:=by rw [hV];exact (Below.refl W.heap.size W).alloc (Nat.le_refl _) _
 have HZ:Hid (V.heap.size=W.heap.size+1):=Lib.hid (by rw [hV];exact World.size_alloc _ _)
 have HB5:Hid (B5 V W.heap.size):=Lib.hid (by rw [hV];exact B5.new W _ _ _ _ _)
 have HR0:=Lib.hid (h.kept hb0)
 have HB0:=Lib.hid hb0
 have HG0:=Lib.hid (hG0.trans (Gr.of hb0))
 have HDEF:=Lib.hid hdefs
 have hzv:=HZ.out
 clear h ho hzp hb0 hdefs hG0
 go_enter Tryz.func128,Tryz.ntmps128
 go_upto_block 0 with fail
 rw [← hV]
 clear hV
 go_cut [5] from 6 to 51 (fun s5 wc=>∃ (acc:Bs) (r:List Int),s5=.string ⟨acc.toArray⟩∧Hid (NmI rest acc r∧NmE acc r)∧Hid (Rr R wc s (.slice P D.length c) r d f)∧Hid (Gr R V wc))
 case first =>
  have HI0:Hid (NmI rest [] rest):=Lib.hid ⟨by simp [bl],by simp [bl],by simp [bl],by simp⟩
  have HGV:Hid (Gr R V V):=Lib.hid (Gr.refl _ _)
  go_wp2_with fail
  go_loopg [5,6,7] rest.length (fun g s5 s6 s7 wx=>∃ (acc:Bs) (r:List Int),r.length=g∧s5=.string ⟨acc.toArray⟩∧Hid (NmI rest acc r)∧Hid (Rr R wx s (.slice P D.length c) r d f)∧Hid (Gr R V wx))
  case atStart=>exact ⟨[],rest,rfl,rfl,HI0,HR0,HGV⟩
  case round =>
   clear HI0 HGV HR0
   obtain ⟨acc,r,hrg,rfl,HI,HR,HG⟩:=hrel
   obtain ⟨z,hz⟩:∃ z,z=lookS (.ok () r):=⟨_,rfl⟩
   have hlk:=lookq_c HR.out
   rw [← hz] at hlk
   have HSEE:=Lib.hid (see_all (R:=R) (s:=s) (dv:= .slice P D.length c) (d:=d) (f:=f) z hz)
   clear hz
   have hcase:((isL z=true∨(isD z=true∧acc≠[]))∧∃ t,r=z::t)∨(¬ (isL z=true∨(isD z=true∧acc≠[]))∧NmE acc r):=by
    have hbig:∀ x:Int,123≤x→isL x=false∧isD x=false:=fun x hx=>by
     constructor
     ·unfold isL;simp;omega
     ·unfold isD;simp;omega
    rcases hlk with ⟨h1,h2⟩ | ⟨c,t,rfl,⟨h1,h2,h3⟩ | ⟨h1,h2,h3⟩⟩
    ·subst h1 h2
     exact .inr ⟨by rintro (h | h) <;> simp [isL,isD] at h,⟨fun _ c t e=>(by cases e),fun _ c t e=>(by cases e)⟩⟩
    ·subst h1
     by_cases hh:isL z=true∨(isD z=true∧acc≠[])
     ·exact .inl ⟨hh,t,rfl⟩
     ·refine .inr ⟨hh, ⟨fun _ c t e => ?_, fun hne c t e => ?_⟩⟩
      ·cases e
       rw [Bool.eq_false_iff]
       exact fun h=>hh (.inl h)
      ·cases e
       unfold isLD
       rw [Bool.or_eq_false_iff,Bool.eq_false_iff,Bool.eq_false_iff]
       exact ⟨fun h=>hh (.inl h),fun h=>hh (.inr ⟨h,hne⟩)⟩
    ·refine .inr ⟨?_, ⟨fun _ x y e => ?_, fun _ x y e => ?_⟩⟩
     ·rw [(hbig z (by omega)).1,(hbig z (by omega)).2];simp
     ·cases e;exact (hbig c (by omega)).1
     ·cases e;unfold isLD;rw [(hbig c (by omega)).1,(hbig c (by omega)).2];rfl
   clear hlk
   go_wp2_with fail
   refine (HSEE.out _ HR.out).mono ?_
   rintro e w1 ⟨rfl,b1⟩
   have HR:=Lib.hid (HR.out.kept b1)
   have HG:=Lib.hid (HG.out.trans (Gr.of b1))
   clear b1
   rcases hcase with ⟨hgo,t,rfl⟩ | ⟨hst,hend⟩
   ·have hz0:0≤z∧z < 128:=by
     rcases hgo with h | ⟨h,_⟩
     ·unfold isL at h;simp at h;omega
     ·unfold isD at h;simp at h;omega
    have hlen:=HR.out.len
    have hmv:(U.UtfM.wr (z::t)).length=(U.UtfM.wr t).length+1:=by rw [wr_head_low (HR.out.sc z (by simp)) (by omega)];simp
    have hal:acc.length < 200:=by
     have h1:=congrArg List.length HI.out.1
     simp [bl] at h1
     omega
    obtain ⟨x,rfl⟩:∃ x:UInt8,z=((x.toNat:Nat):Int):=⟨UInt8.ofNat z.toNat,by simp;omega⟩
    have HI2:Hid (NmI rest (acc++[x]) t):=Lib.hid (HI.out.push hgo hal)
    have hq:(((x.toNat:Nat):Int) ≥ 97∧((x.toNat:Nat):Int)≤122)∨(¬ ((x.toNat:Nat):Int) ≥ 97∧((x.toNat:Nat):Int) ≥ 65∧((x.toNat:Nat):Int)≤90)∨(¬ ((x.toNat:Nat):Int) ≥ 97∧¬ ((x.toNat:Nat):Int) ≥ 65∧¬ ((x.toNat:Nat):Int) < 48∧¬ ((x.toNat:Nat):Int) > 57∧acc≠[]):=by
     rcases hgo with h | ⟨h,hne⟩
     ·unfold isL at h;simp at h;omega
     ·unfold isD at h; simp at h
      exact .inr (.inr ⟨by omega,by omega,by omega,by omega,hne⟩)
    have hcv:=one_conv w1 x
    have had:=str_add acc [x] (by omega) (by simp)
    have hal6:=(Below.refl w1.heap.size w1).alloc (Nat.le_refl _) (.cells #[.int .u8 ((x.toNat:Nat):Int)] 5)
    have HR2:=Lib.hid (HR.out.kept hal6)
    have HG2:=Lib.hid (HG.out.trans (Gr.of hal6))
    have c1:=HR2.out.c1
    have kz1:=HR2.out.fz 1
    have ew:IntKind.i64.wrap ((s.size:Int) - ((U.UtfM.wr (((x.toNat:Nat):Int)::t)).length:Nat)+1)=(s.size:Int) - ((U.UtfM.wr (((x.toNat:Nat):Int)::t)).length:Nat)+1:=IntWalk.i64_in _ (by omega)
    have HM:Hid (Rr R ((w1.alloc (.cells #[.int .u8 ((x.toNat:Nat):Int)] 5)).setCell ⟨R,1,none⟩ (.int .i64 ((s.size:Int) - ((U.UtfM.wr (((x.toNat:Nat):Int)::t)).length:Nat)+1))) s (.slice P D.length c) t d f):=Lib.hid (HR2.out.move (p:=[((x.toNat:Nat):Int)]) (rest':=t) rfl (by omega))
    have HX8:=Lib.hid x.toNat_lt
    have e8:IntKind.u8.wrap ((x.toNat:Nat):Int)=((x.toNat:Nat):Int):=IntWalk.u8_in _ (by omega)
    clear hgo hmv hlen hal6 HSEE
    rcases hq with ⟨q1,q2⟩ | ⟨q1,q2,q3⟩ | ⟨q1,q2,q3,q4,q5⟩
    all_goals
     try have g0:decide (((x.toNat:Nat):Int)≤122)=false:=decide_eq_false (by omega)
     try have g1:decide (((x.toNat:Nat):Int)≤90)=false:=decide_eq_false (by omega)
     try have g2:decide (((x.toNat:Nat):Int) < 48)=false:=decide_eq_false (by omega)
     try have g3:decide (((x.toNat:Nat):Int) ≥ 97)=false:=decide_eq_false (by omega)
     try have g4:decide (((x.toNat:Nat):Int) ≥ 65)=false:=decide_eq_false (by omega)
     try have g5:decide (((x.toNat:Nat):Int) > 57)=false:=decide_eq_false (by omega)
     try have g7:List.isEmpty acc=false:=List.isEmpty_eq_false_iff.2 ‹acc≠[]›
     go_wp2
     go_roundg t.length
     case measure=>simp at hrg;omega
     case rel=>exact ⟨acc++[x],t,rfl,congrArg Value.string (ByteArray.mk_append_mk acc [_]),HI2,HM,Lib.hid (HG2.out.trans (Gr.set _ _ _))⟩
   ·have HE := Lib.hid (And.intro HI.out hend)
    have hq:((z ≥ 97∧¬ z≤122∧z ≥ 65∧¬ z≤90)∧(acc=[]∨(acc≠[]∧¬ z < 48∧z > 57)))∨((¬ z ≥ 97∧z≤122∧z ≥ 65∧¬ z≤90)∧(acc=[]∨(acc≠[]∧¬ z < 48∧z > 57)))∨((¬ z ≥ 97∧z≤122∧¬ z ≥ 65∧z≤90)∧(acc=[]∨(acc≠[]∧z < 48)∨(acc≠[]∧¬ z < 48∧z > 57))):=by
     have h1:¬ (97≤z∧z≤122∨65≤z∧z≤90):=fun h=>hst (.inl (by unfold isL;simpa using h))
     by_cases he:acc=[]
     ·have : (z ≥ 97 ∧ ¬ z ≤ 122 ∧ z ≥ 65 ∧ ¬ z ≤ 90) ∨ (¬ z ≥ 97 ∧ z ≤ 122 ∧ z ≥ 65 ∧ ¬ z ≤ 90) ∨ (¬ z ≥ 97 ∧ z ≤ 122 ∧ ¬ z ≥ 65 ∧ z ≤ 90) := by omega
      rcases this with h | h | h
      ·exact .inl ⟨h,.inl he⟩
      ·exact .inr (.inl ⟨h,.inl he⟩)
      ·exact .inr (.inr ⟨h,.inl he⟩)
     ·have h2 : ¬ (48 ≤ z ∧ z ≤ 57) := fun h => hst (.inr ⟨by unfold isD; simpa using h, he⟩)
      have:(z ≥ 97∧¬ z≤122∧z ≥ 65∧¬ z≤90)∨(¬ z ≥ 97∧z≤122∧z ≥ 65∧¬ z≤90)∨(¬ z ≥ 97∧z≤122∧¬ z ≥ 65∧z≤90):=by omega
      rcases this with h | h | h
      ·exact .inl ⟨h,.inr ⟨he,by omega,by omega⟩⟩
      ·exact .inr (.inl ⟨h,.inr ⟨he,by omega,by omega⟩⟩)
      ·refine .inr (.inr ⟨h, ?_⟩)
       by_cases h3:z < 48
       ·exact .inr (.inl ⟨he,h3⟩)
       ·exact .inr (.inr ⟨he,h3,by omega⟩)
    clear hst hend HSEE HI
    rcases hq with ⟨⟨q1,q2,q3,q4⟩,rfl | ⟨q5,q6,q7⟩⟩ | ⟨⟨q1,q2,q3,q4⟩,rfl | ⟨q5,q6,q7⟩⟩ | ⟨⟨q1,q2,q3,q4⟩,rfl | ⟨q5,q6⟩ | ⟨q5,q6,q7⟩⟩
    all_goals
     try have g0:decide (z≤122)=false:=decide_eq_false (by omega)
     try have g1:decide (z≤90)=false:=decide_eq_false (by omega)
     try have g2:decide (z < 48)=false:=decide_eq_false (by omega)
     try have g3:decide (z ≥ 97)=false:=decide_eq_false (by omega)
     try have g4:decide (z ≥ 65)=false:=decide_eq_false (by omega)
     try have g5:decide (z > 57)=false:=decide_eq_false (by omega)
     try have g7:List.isEmpty acc=false:=List.isEmpty_eq_false_iff.2 ‹acc≠[]›
     go_wp2
     go_meet
     case rel=>exact ⟨_,r,rfl,HE,HR,HG⟩
 case rest =>
  obtain ⟨acc,r,rfl,HNI,HR,HG⟩:=hcut
  by_cases hne:acc=[]
  ·subst hne
   have hq:=named_nil (D:=D) (cl:=decide (0 < f)) (r0:=r0) HNI.out.1 HNI.out.2
   have HOE:Hid (o=.err 60 rest):=Lib.hid (HO.out.trans hq.1)
   have hrr:=hq.2
   have c1:=HR.out.c1
   have HF:=Lib.hid (fail_c (σ:= .ok () r) 60 ((s.size:Int) - ((U.UtfM.wr r).length:Nat)) rest (by omega) (fun _ _ _=>by rw [hrr]) HR.out)
   clear hq hrr
   go_wp2_with fail
   refine HF.out.mono ?_
   rintro e w5 ⟨rfl,h5,g5⟩
   have H5':Hid (Rs R w5 s (.slice P D.length c) d f (.err 60 rest)):=Lib.hid h5
   have G5:=Lib.hid (HG.out.trans g5)
   have HMU:=Lib.hid (mu_err ⟨#[125]⟩ (lowq1 125 (by decide)) (by decide) H5'.out)
   clear h5 g5 HF c1
   go_wp2_with fail
   refine HMU.out.mono ?_
   rintro e w6 ⟨rfl,h6,g6⟩
   have H6:=Lib.hid h6
   have G6:=Lib.hid (G5.out.trans g6)
   clear h6 g6 HMU
   obtain ⟨e,he⟩:∃ e,e=60:=⟨_,rfl⟩
   obtain ⟨x,hx⟩:∃ x,x=rest:=⟨_,rfl⟩
   rw [← he,← hx] at H6 HOE
   clear he hx
   obtain ⟨ix,nx,zx,hix,hnx,hcx,_,herr⟩:=H6.out.cells
   obtain ⟨c0,c1,c2,c3,c4,c5,c6,cz⟩:=hcx w6 (Below.refl _ _)
   have hnn:=(herr _ _ rfl).2.1
   have g5:((nx:Int) == 0)=false:=by simp;omega
   have HF:=Lib.hid (fail_c 62 zp r0 (by omega) (fun _ _ e=>by cases e) H6.out)
   clear hcx cz herr
   by_cases hDl:(0:Int) < (D.length:Int)
   ·go_wp2_with fail
    go_loopg [8] 0 (fun g s8 wx=>s8=.int .i64 0∧wx=w6)
    case atStart=>exact ⟨rfl,rfl⟩
    case round =>
     obtain ⟨rfl,rfl⟩:=hrel
     go_wp2_with fail
     refine HF.out.mono ?_
     rintro e9 w9 ⟨rfl,h9,g9⟩
     have HRE:Hid (Rs R w9 s (.slice P D.length c) d f (.err e x)):=Lib.hid h9
     have HGE:=Lib.hid (G6.out.trans g9)
     have HX:Hid (∀ y r,o=.ok y r→(Nd.mk 0 none0 [] 0 0)=y):=Lib.hid (fun y r h=>by rw [HOE.out] at h;cases h)
     have HU:Hid (Out.u o=.err e x):=Lib.hid (by rw [HOE.out];rfl)
     clear h9 g9 HF c0 c1 c2 c3 c4 c5 c6
     have hv:NV w9 (Old N (W.heap.size+1)) (.agg #[.int .u8 0,.slice none 0 0,.slice none 0 0,.int .i64 0,.int .i64 0]) (.mk 0 none0 [] 0 0):=empty_nv
     have h5:=HB5.out.gr HGE.out (by omega)
     obtain ⟨⟨x0,x1,x2,x3,x4,k0,k1,k2,k3,k4⟩,f0,f1,f2,f3,f4⟩:=h5.cells
     have H5:=Lib.hid h5
     have HV:=Lib.hid hv
     have hszE:=HGE.out.size
     clear hv h5
     go_wp2
     exact ret_node rfl rfl H5.out ⟨_,_,rfl,put5_nv (R:=R) _ _ _ _ _ HV.out (by omega) hRW (by omega),HX.out,by rw [HU.out];exact Rs.put5 HRE.out (by omega) _ _ _ _ _,put5_grR _ _ _ _ _ ((Gr.of HB0.out).trans HGE.out) (Nat.le_refl _)⟩
   ·go_wp2_with fail
    go_loopg [8] 0 (fun g s8 wx=>s8=.int .i64 0∧wx=w6)
    case atStart=>exact ⟨rfl,rfl⟩
    case round =>
     obtain ⟨rfl,rfl⟩:=hrel
     go_wp2_with fail
     refine HF.out.mono ?_
     rintro e9 w9 ⟨rfl,h9,g9⟩
     have HRE:Hid (Rs R w9 s (.slice P D.length c) d f (.err e x)):=Lib.hid h9
     have HGE:=Lib.hid (G6.out.trans g9)
     have HX:Hid (∀ y r,o=.ok y r→(Nd.mk 0 none0 [] 0 0)=y):=Lib.hid (fun y r h=>by rw [HOE.out] at h;cases h)
     have HU:Hid (Out.u o=.err e x):=Lib.hid (by rw [HOE.out];rfl)
     clear h9 g9 HF c0 c1 c2 c3 c4 c5 c6
     have hv:NV w9 (Old N (W.heap.size+1)) (.agg #[.int .u8 0,.slice none 0 0,.slice none 0 0,.int .i64 0,.int .i64 0]) (.mk 0 none0 [] 0 0):=empty_nv
     have h5:=HB5.out.gr HGE.out (by omega)
     obtain ⟨⟨x0,x1,x2,x3,x4,k0,k1,k2,k3,k4⟩,f0,f1,f2,f3,f4⟩:=h5.cells
     have H5:=Lib.hid h5
     have HV:=Lib.hid hv
     have hszE:=HGE.out.size
     clear hv h5
     go_wp2
     exact ret_node rfl rfl H5.out ⟨_,_,rfl,put5_nv (R:=R) _ _ _ _ _ HV.out (by omega) hRW (by omega),HX.out,by rw [HU.out];exact Rs.put5 HRE.out (by omega) _ _ _ _ _,put5_grR _ _ _ _ _ ((Gr.of HB0.out).trans HGE.out) (Nat.le_refl _)⟩
  ·have g7 : List.isEmpty acc = false := List.isEmpty_eq_false_iff.2 hne
   have HQ:=Lib.hid (HO.out.trans (named_at (D:=D) (cl:=decide (0 < f)) (r0:=r0) HNI.out.1 HNI.out.2 hne))
   have HMU:=Lib.hid (mu_c 125 (by decide) HR.out)
   clear HNI
   go_wp2_with fail
   refine HMU.out.mono ?_
   rintro e w6 ⟨rfl,h6,g6⟩
   replace h6:Rs R w6 s (.slice P D.length c) d f (Out.u (needF 125 r)):=h6
   have G6:=Lib.hid (HG.out.trans g6)
   clear g6 HMU
   cases hnd:needF 125 r with
   | err e x =>
    rw [hnd] at h6
    have H6:Hid (Rs R w6 s (.slice P D.length c) d f (.err e x)):=Lib.hid h6
    have HOE:Hid (o=.err e x):=Lib.hid (by rw [HQ.out,hnd])
    clear h6 hnd
    obtain ⟨ix,nx,zx,hix,hnx,hcx,_,herr⟩:=H6.out.cells
    obtain ⟨c0,c1,c2,c3,c4,c5,c6,cz⟩:=hcx w6 (Below.refl _ _)
    have hnn:=(herr _ _ rfl).2.1
    have g5:((nx:Int) == 0)=false:=by simp;omega
    have HF:=Lib.hid (fail_c 62 zp r0 (by omega) (fun _ _ e=>by cases e) H6.out)
    clear hcx cz herr
    by_cases hDl:(0:Int) < (D.length:Int)
    ·go_wp2_with fail
     go_loopg [8] 0 (fun g s8 wx=>s8=.int .i64 0∧wx=w6)
     case atStart=>exact ⟨rfl,rfl⟩
     case round =>
      obtain ⟨rfl,rfl⟩:=hrel
      go_wp2_with fail
      refine HF.out.mono ?_
      rintro e9 w9 ⟨rfl,h9,g9⟩
      have HRE:Hid (Rs R w9 s (.slice P D.length c) d f (.err e x)):=Lib.hid h9
      have HGE:=Lib.hid (G6.out.trans g9)
      have HX:Hid (∀ y r,o=.ok y r→(Nd.mk 0 none0 [] 0 0)=y):=Lib.hid (fun y r h=>by rw [HOE.out] at h;cases h)
      have HU:Hid (Out.u o=.err e x):=Lib.hid (by rw [HOE.out];rfl)
      clear h9 g9 HF c0 c1 c2 c3 c4 c5 c6
      have hv:NV w9 (Old N (W.heap.size+1)) (.agg #[.int .u8 0,.slice none 0 0,.slice none 0 0,.int .i64 0,.int .i64 0]) (.mk 0 none0 [] 0 0):=empty_nv
      have h5:=HB5.out.gr HGE.out (by omega)
      obtain ⟨⟨x0,x1,x2,x3,x4,k0,k1,k2,k3,k4⟩,f0,f1,f2,f3,f4⟩:=h5.cells
      have H5:=Lib.hid h5
      have HV:=Lib.hid hv
      have hszE:=HGE.out.size
      clear hv h5
      go_wp2
      exact ret_node rfl rfl H5.out ⟨_,_,rfl,put5_nv (R:=R) _ _ _ _ _ HV.out (by omega) hRW (by omega),HX.out,by rw [HU.out];exact Rs.put5 HRE.out (by omega) _ _ _ _ _,put5_grR _ _ _ _ _ ((Gr.of HB0.out).trans HGE.out) (Nat.le_refl _)⟩
    ·go_wp2_with fail
     go_loopg [8] 0 (fun g s8 wx=>s8=.int .i64 0∧wx=w6)
     case atStart=>exact ⟨rfl,rfl⟩
     case round =>
      obtain ⟨rfl,rfl⟩:=hrel
      go_wp2_with fail
      refine HF.out.mono ?_
      rintro e9 w9 ⟨rfl,h9,g9⟩
      have HRE:Hid (Rs R w9 s (.slice P D.length c) d f (.err e x)):=Lib.hid h9
      have HGE:=Lib.hid (G6.out.trans g9)
      have HX:Hid (∀ y r,o=.ok y r→(Nd.mk 0 none0 [] 0 0)=y):=Lib.hid (fun y r h=>by rw [HOE.out] at h;cases h)
      have HU:Hid (Out.u o=.err e x):=Lib.hid (by rw [HOE.out];rfl)
      clear h9 g9 HF c0 c1 c2 c3 c4 c5 c6
      have hv:NV w9 (Old N (W.heap.size+1)) (.agg #[.int .u8 0,.slice none 0 0,.slice none 0 0,.int .i64 0,.int .i64 0]) (.mk 0 none0 [] 0 0):=empty_nv
      have h5:=HB5.out.gr HGE.out (by omega)
      obtain ⟨⟨x0,x1,x2,x3,x4,k0,k1,k2,k3,k4⟩,f0,f1,f2,f3,f4⟩:=h5.cells
      have H5:=Lib.hid h5
      have HV:=Lib.hid hv
      have hszE:=HGE.out.size
      clear hv h5
      go_wp2
      exact ret_node rfl rfl H5.out ⟨_,_,rfl,put5_nv (R:=R) _ _ _ _ _ HV.out (by omega) hRW (by omega),HX.out,by rw [HU.out];exact Rs.put5 HRE.out (by omega) _ _ _ _ _,put5_grR _ _ _ _ _ ((Gr.of HB0.out).trans HGE.out) (Nat.le_refl _)⟩
   | ok u r2 =>
    rw [hnd] at h6
    have H6:Hid (Rr R w6 s (.slice P D.length c) r2 d f):=Lib.hid h6
    have HOE:Hid (o=match findF D (decide (0 < f)) (bl acc) with
     | none=>.err 62 r0
     | some x=>.ok x r2):=Lib.hid (by rw [HQ.out,hnd])
    clear h6 hnd HQ
    have c2:=H6.out.c2
    have c4:=H6.out.c4
    have c5:=H6.out.c5
    go_wp2_with fail
    go_loopg [8] D.length (fun g s8 wx=>∃ i:Nat,i+g=D.length∧s8=.int .i64 i∧wx=w6∧Hid (∀ j (hj:j < D.length),j < i→D[j].1≠bl acc))
    case atStart=>exact ⟨0,by omega,rfl,rfl,Lib.hid (fun j hj h=>by omega)⟩
    case round =>
     obtain ⟨i,hig,rfl,rfl,HNO⟩:=hrel
     cases gk with
     | zero =>
      have hl:¬ ((i:Int) < (D.length:Int)):=by omega
      have hoe:o=.err 62 r0:=by
       rw [HOE.out,find_no (fun j hj=>HNO.out j hj (by omega))]
      have HF:=Lib.hid (fail_c (σ:= .ok () r2) 62 zp r0 (by omega) (fun _ _ _=>HZP.out) H6.out)
      have HX:Hid (∀ y r,o=.ok y r→(Nd.mk 0 none0 [] 0 0)=y):=Lib.hid (fun y r h=>by rw [hoe] at h;cases h)
      have HU:Hid (Out.u o=.err 62 r0):=Lib.hid (by rw [hoe];rfl)
      clear hoe
      go_wp2_with fail
      refine HF.out.mono ?_
      rintro e9 w9 ⟨rfl,h9,g9⟩
      have HRE:Hid (Rs R w9 s (.slice P D.length c) d f (.err 62 r0)):=Lib.hid h9
      have HGE:=Lib.hid (G6.out.trans g9)
      clear h9 g9 HF c2 c4 c5
      have hv:NV w9 (Old N (W.heap.size+1)) (.agg #[.int .u8 0,.slice none 0 0,.slice none 0 0,.int .i64 0,.int .i64 0]) (.mk 0 none0 [] 0 0):=empty_nv
      have h5:=HB5.out.gr HGE.out (by omega)
      obtain ⟨⟨x0,x1,x2,x3,x4,k0,k1,k2,k3,k4⟩,f0,f1,f2,f3,f4⟩:=h5.cells
      have H5:=Lib.hid h5
      have HV:=Lib.hid hv
      have hszE:=HGE.out.size
      clear hv h5
      go_wp2
      exact ret_node rfl rfl H5.out ⟨_,_,rfl,put5_nv (R:=R) _ _ _ _ _ HV.out (by omega) hRW (by omega),HX.out,by rw [HU.out];exact Rs.put5 HRE.out (by omega) _ _ _ _ _,put5_grR _ _ _ _ _ ((Gr.of HB0.out).trans HGE.out) (Nat.le_refl _)⟩
     | succ gk =>
      have hl:(i:Int) < (D.length:Int):=by omega
      have hlN:i < D.length:=by omega
      have h0:(0:Int)≤(i:Int):=by omega
      obtain ⟨g,nm,y0,y1,y2,y3,y4,rfl,hgN,hnm,⟨q0,q1,q2,q3,q4,q5⟩,hnv,hcl,hfewN⟩:=HDEF.out i hlN
      have hGA:=HG0.out.trans G6.out
      have q0:=(hGA.cellAt (g:=g) (by omega) (by omega)).trans q0
      have q1:=(hGA.cellAt (g:=g) (by omega) (by omega)).trans q1
      have q2:=(hGA.cellAt (g:=g) (by omega) (by omega)).trans q2
      have q3:=(hGA.cellAt (g:=g) (by omega) (by omega)).trans q3
      have q4:=(hGA.cellAt (g:=g) (by omega) (by omega)).trans q4
      have q5:=(hGA.cellAt (g:=g) (by omega) (by omega)).trans q5
      by_cases hy:D[i].1=bl acc
      ·obtain rfl := bs_of_bl (hnm.trans hy)
       have hfd:∀ cl,findF D cl (bl acc)=some (if cl then D[i].2.2 else D[i].2.1):=fun cl=>find_at hlN (fun j hj=>HNO.out j (by omega) hj) hy
       by_cases hf:0 < f
       ·have hfz : (f : Int) > 0 := by omega
        have hdt:decide (0 < f)=true:=decide_eq_true hf
        have hoe:o=.ok (clF D[i].2.1) r2:=by rw [HOE.out,hfd,hdt];simp [hcl]
        have hnv6:NV wr (fun b=>N.1≤b∧b < N.2) (.agg #[y0,y1,y2,y3,y4]) D[i].2.1:=hnv.imp (fun b hA hlt=>⟨hA,hGA.block b hlt (fun e=>by have:=Option.some.inj e;omega)⟩) hGA.size
        have HCL:Hid (Calls Tryz.prog 141 #[.agg #[y0,y1,y2,y3,y4]] wr fun e W'=>∃ v,e=.returned v∧NV W' (fun b=>wr.heap.size≤b) v (clF D[i].2.1)∧Below wr.heap.size wr W'):=Lib.hid (closed_any _ _ wr hnv6 hfewN)
        have HX:Hid (∀ y r,o=.ok y r→clF D[i].2.1=y):=Lib.hid (fun y r h=>by rw [hoe] at h;cases h;rfl)
        have HU:Hid (Out.u o=.ok () r2):=Lib.hid (by rw [hoe];rfl)
        clear hoe hdt hnv6 hfd hnm hnv hcl hfewN hGA hne
        generalize clF D[i].2.1=y at *
        go_wp2_with fail
        refine HCL.out.mono ?_
        rintro e9 w9 ⟨v9,rfl,hv9,b9⟩
        have HRE:Hid (Rs R w9 s (.slice (some ⟨g,0,none⟩) D.length c) d f (.ok () r2)):=Lib.hid (H6.out.kept b9)
        have HGE:=Lib.hid (G6.out.trans (Gr.of b9))
        obtain ⟨kk,sp3,sn3,sc3,kp3,kn3,kc3,mn3,mx3,rfl⟩:=NV.form5 hv9
        have HV:Hid (NV w9 (Old N (W.heap.size+1)) (.agg #[.int .u8 kk,.slice sp3 sn3 sc3,.slice kp3 kn3 kc3,.int .i64 mn3,.int .i64 mx3]) y):=Lib.hid (hv9.imp (B:=Old N (W.heap.size+1)) (fun b hA _=>⟨Or.inr (by have:=G6.out.size;have hA':wr.heap.size≤b:=hA;omega),rfl⟩) (Nat.le_refl _))
        have h5:=HB5.out.gr HGE.out (by omega)
        obtain ⟨⟨x0,x1,x2,x3,x4,k0,k1,k2,k3,k4⟩,f0,f1,f2,f3,f4⟩:=h5.cells
        have H5:=Lib.hid h5
        have hszE:=HGE.out.size
        clear h5 hv9 b9 HCL
        go_wp2
        refine ret_node rfl rfl H5.out ⟨_,y,rfl,?_,HX.out,?_,?_⟩
        ·exact put5_nv (R:=R) _ _ _ _ _ HV.out (by omega) hRW (by omega)
        ·rw [HU.out];exact Rs.put5 HRE.out (by omega) _ _ _ _ _
        ·exact put5_grR _ _ _ _ _ ((Gr.of HB0.out).trans HGE.out) (Nat.le_refl _)
       ·have hfz : ¬ (f : Int) > 0 := by omega
        have hdt:decide (0 < f)=false:=decide_eq_false hf
        have hoe:o=.ok D[i].2.1 r2:=by rw [HOE.out,hfd,hdt];simp
        have HX:Hid (∀ y r,o=.ok y r→D[i].2.1=y):=Lib.hid (fun y r h=>by rw [hoe] at h;cases h;rfl)
        have HU:Hid (Out.u o=.ok () r2):=Lib.hid (by rw [hoe];rfl)
        have HV:Hid (NV wr (Old N (W.heap.size+1)) (.agg #[y0,y1,y2,y3,y4]) D[i].2.1):=Lib.hid (hnv.imp (fun b hA hlt=>⟨.inl hA,hGA.block b hlt (fun e=>by have:=Option.some.inj e;omega)⟩) hGA.size)
        obtain ⟨kk,sp3,sn3,sc3,kp3,kn3,kc3,mn3,mx3,he5⟩:=NV.form5 HV.out
        cases he5
        have HRE:Hid (Rs R wr s (.slice (some ⟨g,0,none⟩) D.length c) d f (.ok () r2)):=H6
        have HGE:=G6
        have h5:=HB5.out.gr HGE.out (by omega)
        obtain ⟨⟨x0,x1,x2,x3,x4,k0,k1,k2,k3,k4⟩,f0,f1,f2,f3,f4⟩:=h5.cells
        have H5:=Lib.hid h5
        have hszE:=HGE.out.size
        clear h5 hoe hdt hfd hnm hnv hcl hfewN hGA hne
        generalize D[i].2.1=y at *
        go_wp2
        refine ret_node rfl rfl H5.out ⟨_,y,rfl,?_,HX.out,?_,?_⟩
        ·exact put5_nv (R:=R) _ _ _ _ _ HV.out (by omega) hRW (by omega)
        ·rw [HU.out];exact Rs.put5 HRE.out (by omega) _ _ _ _ _
        ·exact put5_grR _ _ _ _ _ ((Gr.of HB0.out).trans HGE.out) (Nat.le_refl _)
      ·have hnb : nm ≠ ⟨acc.toArray⟩ := fun e => hy (by rw [← hnm, e, bs_bl])
       have htl:(⟨acc.toArray⟩:ByteArray).toList=acc:=by simp
       have hnb2:(nm.toList == acc)=false:=by
        rw [beq_eq_false_iff_ne]
        intro e
        rw [Lib.toList_data] at e
        exact hnb (ByteArray.ext (by rw [← Array.toList_inj];simpa using e))
       have hnb3:(nm.toList == (⟨acc.toArray⟩:ByteArray).toList)=false:=by rw [htl];exact hnb2
       have HNO2:Hid (∀ j (hj:j < D.length),j < i+1→D[j].1≠bl acc):=Lib.hid (fun j hj h=>by
        by_cases e:j=i
        ·subst e;exact hy
        ·exact HNO.out j hj (by omega))
       clear hnm hnv hcl hfewN hGA hne hnb hy
       go_wp2
       go_roundg gk
       case measure=>omega
       case rel=>exact ⟨i+1,by omega,by go_num,rfl,HNO2⟩
end
end Go.Proofs.YtioahgklplbinaaGreatDoor
