/- Has, GStep, in one text. -/
import Derived.Test.YtioahgklplbinaaGreatDoorRE
import Derived.Test.YtioahgklplbinaaGreatDoorGA
/- set.Has: whether a number is told, by the iterator's contract. -/
namespace Go.Proofs.YtioahgklplbinaaGreatDoor
open Go.RowKit Go.Shelf SetM
attribute [local go_sem] Oper.semAt_some
theorem mem_endsE (xs:List Sp) (r:Int):(∃ x∈endsE xs,x.1.1≤r∧r≤x.1.2)↔Tells xs r:=by
 rw [← mem_endsL,← endsE_val]
 unfold Mem
 simp only [List.mem_map]
 constructor
 ·rintro ⟨x,hx,h⟩;exact ⟨x.1,⟨x,hx,rfl⟩,h⟩
 ·rintro ⟨s,⟨x,hx,rfl⟩,h⟩;exact ⟨x,hx,h⟩
def NoneIn (r:Int) (pre:List End):Prop:=∀ p∈pre,¬ (p.1.1≤r∧r≤p.1.2)
def SomeIn (r:Int) (pre:List End):Prop:=∃ p∈pre,p.1.1≤r∧r≤p.1.2
theorem NoneIn.snoc {r:Int} {pre:List End} {x:End} (h:NoneIn r pre) (hx:¬ (x.1.1≤r∧r≤x.1.2)):NoneIn r (pre++[x]):=fun p hp=>by
 rcases List.mem_append.1 hp with h1 | h1
 ·exact h p h1
 ·simp only [List.mem_cons,List.not_mem_nil,or_false] at h1;rw [h1];exact hx
theorem tells_of_some {xs:List Sp} {r:Int} {pre:List End} (h:SomeIn r pre) (hp:pre <+: endsE xs):Tells xs r:=by
 obtain ⟨p,hp1,h1⟩:=h
 exact (mem_endsE xs r).1 ⟨p,hp.subset hp1,h1⟩
theorem tells_of_none {xs:List Sp} {r:Int} (h:NoneIn r (endsE xs)):¬ Tells xs r:=fun ht=>by
 obtain ⟨p,hp,h1⟩:=(mem_endsE xs r).2 ht
 exact h p hp h1
def HasPost (w:World) (xs:List Sp) (r:Int) (e:Ending) (w':World):Prop:=e=.returned (.bool (decide (Tells xs r)))∧Below w.heap.size w w'
set_option maxRecDepth 100000 in
set_option maxHeartbeats 1000000 in
theorem has_in (A : Option Addr) (cap : Nat) (xs : List Sp) (r : Int) (hlen : xs.length ≤ 1073741824) (w : World) (h0 : 0 < w.heap.size) (hA : Areas w) (hS : Spans w.heap.size w A xs) :
  CallsIn Fence.wide 3 Tryz.prog 73 #[.slice A xs.length cap,.int .i64 r] w (HasPost w xs r):=by
 obtain ⟨F,hFw⟩:∃ F,F=Fence.wide:=⟨_,rfl⟩
 have hro:F.round=none:=by rw [hFw];rfl
 have hF:∀ f,F.fn f:=fun f=>by rw [hFw];trivial
 rw [← hFw]
 have h15:=hF 73
 have h35:=hF 90
 have h46:=hF 102
 have HF:=Lib.hid hF
 have HFw:=Lib.hid hFw
 clear hF hFw
 refine callsIn_of_wp_marks Tryz.func73 rfl h15 ?_ hro
 simp only [Tryz.ntmps73,List.size_toArray,List.length_cons,List.length_nil,Nat.reduceAdd,Nat.reduceSub,Array.replicate_succ,Array.replicate_zero,List.push_toArray,List.append_toArray,List.nil_append,List.cons_append]
 gi_wp2_with (gi_at_call 90;refine (toIn (n:=2) HFw (ends_any _ _ _ _)).mono ?_;rintro e w' ⟨rfl,rfl⟩)
 have bR:=Boxed.new w 3 (.int .i64 r)
 have bB:=Boxed.new (w.alloc (.cells #[.int .i64 r] 3)) 4 (.bool false)
 have bN:=Boxed.new ((w.alloc (.cells #[.int .i64 r] 3)).alloc (.cells #[.bool false] 4)) 41 (.slice A xs.length cap)
 rw [World.size_alloc] at bB
 rw [World.size_alloc,World.size_alloc] at bN
 have hB0:Below w.heap.size w (((w.alloc (.cells #[.int .i64 r] 3)).alloc (.cells #[.bool false] 4)).alloc (.cells #[.slice A xs.length cap] 41)):=(((Below.refl _ w).alloc (Nat.le_refl _) _).alloc (by simp) _).alloc (by simp;omega) _
 refine wpIn_rangeFunc_ownG (α := End) hro (by omega) (gf := 102) (lb := #[.pointer (some ⟨w.heap.size + 1 + 1, 0, none⟩)]) rfl h46 (enters_of Tryz.func102 (by kernel_rfl) rfl)
  (ends_stopsF HFw 2 (w.heap.size+1+1) w.heap.size h0 A cap xs hlen _ (by simp) (by simp only [World.size_alloc];omega) bN.cell (hA.below hB0 h0) (hS.below hB0)) Kp.trans (Kp.put (by simp only [World.size_alloc];omega)) (Below.refl _ _) (fun _=>rfl)
  (fun pre W=>(NoneIn r pre∧Boxed W w.heap.size 3 (.int .i64 r)∧Boxed W (w.heap.size+1) 4 (.bool false))∧Below w.heap.size w W)
  (fun c pre W=>(c=.ret∧SomeIn r pre∧Boxed W (w.heap.size+1) 4 (.bool true))∧Below w.heap.size w W)
  (OwnFrom.and (Own.from (fun s U V row hs hg hr=>⟨hs.1,boxed_kept hs.2.1 hg hr,boxed_kept hs.2.2 hg hr⟩) _) (ownFrom_below (Nat.le_refl _) (by simp;omega)))
  (fun c=>OwnFrom.and (Own.from (fun s U V row hs hg hr=>⟨hs.1,hs.2.1,boxed_kept hs.2.2 hg hr⟩) _) (ownFrom_below (Nat.le_refl _) (by simp;omega)))
  ⟨⟨fun p hp=>absurd hp (by simp),(bR.alloc _).alloc _,bB.alloc _⟩,hB0⟩
  (fun x=>{ tmps:=#[.slice A xs.length cap,.int .i64 r,undef,.pointer (some ⟨w.heap.size,0,none⟩),.pointer (some ⟨w.heap.size+1,0,none⟩),.int .i64 x.1.1,.int .i64 x.1.2,.slice A xs.length cap,.func (.func 102) #[] #[.pointer (some ⟨w.heap.size+1+1,0,none⟩)],.int .i64 x.1.1,.int .i64 x.1.2,undef,undef,undef,undef,undef,undef,undef,undef],defers:=[] }) ?assign ?body ?done ?stop
 case assign =>
  intro l x W K hK
  simp only [endE]
  gi_wp2
  exact hK
 case body =>
  rintro l pre x W ⟨⟨hp,bR,bB⟩,hB⟩ _
  have hcr:=bR.cell
  have hcb:=bB.cell
  have hfb:=bB.frozen
  by_cases h1:x.1.1≤r
  ·by_cases h2 : r ≤ x.1.2
   ·have HX : Hid (SomeIn r (pre ++ [x])) := Lib.hid ⟨x, by simp, h1, h2⟩
    gi_wp2
    exact ⟨(KeepsOthers.setCell _ _ _).from _,⟨rfl,HX.out,bB.set _⟩,hB.setCell (p:=⟨w.heap.size+1,0,none⟩) (by simp) _⟩
   ·have HX : Hid (NoneIn r (pre ++ [x])) := Lib.hid (hp.snoc (fun h => h2 h.2))
    have h3:¬ (r≤x.1.2):=h2
    gi_wp2
    exact ⟨KeepsFrom.refl _ _,Kp.refl _ _,⟨HX.out,bR,bB⟩,hB⟩
  ·have HX : Hid (NoneIn r (pre ++ [x])) := Lib.hid (hp.snoc (fun h => h1 h.1))
   gi_wp2
   exact ⟨KeepsFrom.refl _ _,Kp.refl _ _,⟨HX.out,bR,bB⟩,hB⟩
 case done =>
  rintro D ys W hD rfl ⟨⟨hne,bR,bB⟩,hB⟩ hK
  have hcb:=bB.cell
  have hfb:=bB.frozen
  have HT:Hid (decide (Tells xs r)=false):=Lib.hid (decide_eq_false (tells_of_none hne))
  gi_wp2
  have hK':=(KeepsOthers.setCell W ⟨w.heap.size+1,0,none⟩ (.bool false)).same D _ hK rfl
  refine ⟨by simp,.inl ⟨_,_,rfl,run_takeDeferred hK',?_⟩⟩
  have hc5:=cell_kept (World.cell?_setCell_same' W ⟨w.heap.size+1,0,none⟩ (.bool false) (by rw [hcb];rfl)) (grownBy_putObj' _ D (.deferred none)) (fun r e=>by cases e;exact ⟨_,hK',rfl⟩)
  refine ⟨.bool false,?_,by rw [HT.out],(hB.setCell (p:=⟨w.heap.size+1,0,none⟩) (by simp) _).trans (belowK_b (w:=w) (Nat.le_refl _) _ D _ _ (by simp at hD;omega) hK' rfl rfl)⟩
  simp [results,Tryz.f73,go_sem,hc5]
 case stop =>
  rintro D c pre W hD hpre ⟨⟨rfl,hex,bB⟩,hB⟩ hK
  have hcb:=bB.cell
  have HT:Hid (decide (Tells xs r)=true):=Lib.hid (decide_eq_true (tells_of_some hex hpre))
  clear hpre
  gi_wp2
  refine ⟨by simp,.inl ⟨_,_,rfl,run_takeDeferred hK,?_⟩⟩
  have hc5:=cell_kept hcb (grownBy_putObj' _ D (.deferred none)) (fun r e=>by cases e;exact ⟨_,hK,rfl⟩)
  refine ⟨.bool true,?_,by rw [HT.out],hB.trans (belowK_b (w:=w) (Nat.le_refl _) W D _ _ (by simp at hD;omega) hK rfl rfl)⟩
  simp [results,Tryz.f73,go_sem,hc5]
theorem has_any (A : Option Addr) (cap : Nat) (xs : List Sp) (r : Int) (hlen : xs.length ≤ 1073741824) (w : World) (h0 : 0 < w.heap.size) (hA : Areas w) (hS : Spans w.heap.size w A xs) :
  Calls Tryz.prog 73 #[.slice A xs.length cap,.int .i64 r] w (HasPost w xs r):=callsIn_wide.1 (has_in A cap xs r hlen w h0 hA hS)
end Go.Proofs.YtioahgklplbinaaGreatDoor

/- The program's start and step: where a sound machine is by nothing, and by a scalar more. -/
namespace SimM
open SetM NfaM
structure Gm (m : Mc) : Prop where
 k1:1≤m.tg.length
 k2:m.tg.length≤2000
 fr:(∀ row∈m.fr,∀ t∈row,0≤t∧t < (m.tg.length:Int))∧m.fr.length=m.tg.length∧∀ i < m.fr.length,(m.fr.getD i []).length≤9223372036854775807
 ed:m.ed.length=m.tg.length
 tow:∀ row∈m.ed,∀ e∈row,0≤e.1∧e.1 < (m.tg.length:Int)
 len:∀ i < m.ed.length,(m.ed.getD i []).length≤9223372036854775807∧∀ e∈m.ed.getD i [],e.2.length≤1000000
def MvE (es:List (Int×List Sp)) (r:Int) (k:Nat):Prop:=∃ e∈es,e.1=(k:Int)∧Tells e.2 r
def MvL (m:Mc) (L:List Int) (r:Int) (k:Nat):Prop:=∃ i:Nat,(i:Int)∈L∧MvE (m.ed.getD i []) r k
theorem mvl_nil (m:Mc) (r:Int) (k:Nat):MvL m [] r k↔False:=by unfold MvL;simp
theorem mve_nil (r:Int) (k:Nat):MvE [] r k↔False:=by unfold MvE;simp
theorem mvl_snoc (m:Mc) (L:List Int) (i:Nat) (r:Int) (k:Nat):MvL m (L++[(i:Int)]) r k↔MvL m L r k∨MvE (m.ed.getD i []) r k:=by
 unfold MvL
 constructor
 ·rintro ⟨j, hj, h⟩
  rcases List.mem_append.1 hj with hj | hj
  ·exact .inl ⟨j,hj,h⟩
  ·simp at hj
   obtain rfl:j=i:=by omega
   exact .inr h
 ·rintro (⟨j, hj, h⟩ | h)
  ·exact ⟨j,List.mem_append.2 (.inl hj),h⟩
  ·exact ⟨i,by simp,h⟩
theorem mve_snoc (es:List (Int×List Sp)) (e:Int×List Sp) (r:Int) (k:Nat):MvE (es++[e]) r k↔MvE es r k∨(e.1=(k:Int)∧Tells e.2 r):=by
 unfold MvE
 constructor
 ·rintro ⟨x, hx, h⟩
  rcases List.mem_append.1 hx with hx | hx
  ·exact .inl ⟨x,hx,h⟩
  ·simp at hx;subst hx;exact .inr h
 ·rintro (⟨x, hx, h⟩ | h)
  ·exact ⟨x,List.mem_append.2 (.inl hx),h⟩
  ·exact ⟨e,by simp,h⟩
theorem mvl_mv (m:Mc) (P:Nat→Prop) (n:Nat) (hP:∀ i,P i→i < n) (r:Int) (k:Nat):MvL m (stL n P) r k↔Mv m P r k:=by
 unfold MvL Mv MvE
 constructor
 ·rintro ⟨i, hi, h⟩
  obtain ⟨j,_,h2,h3⟩:=mem_stL.1 hi
  obtain rfl:i=j:=by omega
  exact ⟨i,h2,h⟩
 ·rintro ⟨i, hi, h⟩
  exact ⟨i,mem_stL.2 ⟨i,hP i hi,hi,rfl⟩,h⟩
theorem mvl_lt {m:Mc} (hg:Gm m) {L:List Int} {r:Int} {k:Nat} (h:MvL m L r k):k < m.tg.length:=by
 obtain ⟨i,_,e,he,h1,_⟩:=h
 obtain ⟨row,h2,h3⟩:=mem_row he
 have:=hg.tow row h2 e h3
 omega
end SimM
namespace Go.Proofs.YtioahgklplbinaaGreatDoor
open Go.RowKit Go.Shelf SetM NfaM SimM
structure Aw (W : World) : Prop where
 areas:Areas W
 pos:0 < W.heap.size
theorem Aw.step {W W':World} (h:Aw W) (hb:Below W.heap.size W W'):Aw W':=⟨h.areas.below hb h.pos,Nat.lt_of_lt_of_le h.pos hb.size⟩
theorem lit_ints (W:World) (x:Int):InR (W.alloc (.cells #[.int .i64 x] 3)) (some ⟨W.heap.size,0,none⟩) [x]:=fun k hk=>by
 match k,hk with
 | 0,_=>exact ⟨W.heap.size,0,rfl,by rw [World.size_alloc];omega,cell_of_row _ _ 0 _ _ _ (heap_alloc_new W _)⟩
set_option maxRecDepth 100000 in
set_option maxHeartbeats 8000000 in
theorem start_c {W : World} {p0 p1 p2 : Option Addr} {n0 n1 k c0 c1 c2 : Nat} {m : Mc} (hm : MR W p0 p1 p2 m) (hg : Gm m) (hk : k = m.tg.length) (hn1 : n1 = k) :
  Calls Tryz.prog 43 #[.agg #[.slice p0 n0 c0,.slice p1 n1 c1,.slice p2 k c2]] W fun e W'=>∃ v,e=.returned v∧OwI W' W.heap.size v (startF m)∧Below W.heap.size W W':=by
 subst hn1
 obtain ⟨V,hV⟩:∃ V,V=W.alloc (.cells #[.slice p0 n0 c0,.slice p1 n1 c1,.slice p2 n1 c2] 29):=⟨_,rfl⟩
 have hb:Below W.heap.size W V:=by rw [hV];exact (Below.refl _ _).alloc (Nat.le_refl _) _
 have zV:V.heap.size=W.heap.size+1:=by rw [hV,World.size_alloc]
 have x0:V.heap[W.heap.size]? = some (.cells #[.slice p0 n0 c0,.slice p1 n1 c1,.slice p2 n1 c2] 29 (0,0)):=by rw [hV];exact heap_alloc_new W _
 obtain ⟨⟨a0,a1,a2⟩,_⟩:=cells3 x0
 obtain ⟨U,hU⟩:∃ U,U=V.alloc (.cells #[.int .i64 0] 3):=⟨_,rfl⟩
 have hbU:Below V.heap.size V U:=by rw [hU];exact (Below.refl _ _).alloc (Nat.le_refl _) _
 have hk8:n1≤100000:=by have:=hg.k2;omega
 have HMK:=Lib.hid (marked_c (W:=U) (p0:=p0) (p1:=p1) (p2:=p2) (n0:=n0) (n1:=n1) (c0:=c0) (c1:=c1) (c2:=c2) (c:=1) (by rw [hU];exact lit_ints V 0) (show 1=List.length [(0:Int)] from rfl) (by decide) hk8)
 have hWU:=hb.trans (hbU.mono hb.size)
 have HMU:=Lib.hid (hm.step hWU)
 have HBU:=Lib.hid hWU
 have HX:=Lib.hid ((hbU.block _ (by omega)).trans x0)
 have HLT:=Lib.hid (Array.getElem?_eq_some_iff.1 HX.out).1
 have HG:=Lib.hid hg
 have HK:=Lib.hid hk
 clear hm hg hk hb x0 hbU hWU zV
 go_enter Tryz.func43,Tryz.ntmps43
 go_upto_region 1 with fail
 rw [← hV]
 clear hV
 go_wp2_with fail
 rw [← hU]
 clear hU a0 a1 a2
 refine HMK.out.mono ?_
 rintro e w1 ⟨g,rfl,hM,b1⟩
 have HM:=Lib.hid hM
 have hW1:=HBU.out.trans (b1.mono HBU.out.size)
 have hx1:=(b1.block _ HLT.out).trans HX.out
 have HFO:=Lib.hid (follow_c (c1:=c1) HMU.out b1 hM HK.out hk8 rfl HG.out.fr (fun j hj=>hj.1))
 have HB1:=Lib.hid hW1
 have HG1:=Lib.hid hM.lt
 obtain ⟨⟨a0,a1,a2⟩,_⟩:=cells3 hx1
 clear hM b1 hW1 hx1 HMK
 go_wp2_with fail
 refine HFO.out.mono ?_
 rintro e w2 ⟨rfl,hM2,hg2⟩
 have HB2:=Lib.hid (HB1.out.grown hg2 HB1.out.size (fun j hj=>by have:=Option.some.inj hj;have:=HG1.out;have:=HBU.out.size;omega))
 have HST:=Lib.hid (states_c hM2 hk8)
 clear hM2 hg2 HFO a0 a1 a2
 go_wp2_with fail
 refine HST.out.mono ?_
 rintro e w3 ⟨v,rfl,hO,b3⟩
 have HE:Hid (OwI w3 W.heap.size v (startF m)):=Lib.hid (by
  have h:=hO.low HB2.out.size
  have e1:stL n1 (Cl m (Inn n1 [0]))=startF m:=by
   unfold startF
   rw [HK.out]
   exact stL_congr (fun j _=>Cl.congr (fun i=>by
    unfold Inn
    have:=HG.out.k1
    have:=HK.out
    constructor
    ·rintro ⟨_,h2⟩;simp at h2;omega
    ·rintro rfl;exact ⟨by omega,by simp⟩) j)
  rw [e1] at h
  exact h)
 have HB3:=Lib.hid (HB2.out.trans (b3.mono HB2.out.size))
 clear hO b3
 go_wp2
 go_ret
 exact ⟨_,rfl,HE.out,HB3.out⟩
set_option maxRecDepth 100000 in
set_option maxHeartbeats 16000000 in
theorem step_c {W : World} {p0 p1 p2 P : Option Addr} {n0 n1 k c0 c1 c2 n c : Nat} {m : Mc} {l : List Int} {r : Int} (hA : Aw W) (hm : MR W p0 p1 p2 m) (hg : Gm m) (hk : k = m.tg.length) (hn0 : n0 = k) (hn1 : n1 = k) (hl : InR W P l) (hn : n = l.length) (h8 : n ≤ 9223372036854775807) :
  Calls Tryz.prog 44 #[.agg #[.slice p0 n0 c0,.slice p1 n1 c1,.slice p2 k c2],.slice P n c,.int .i64 r] W fun e W'=>∃ v,e=.returned v∧OwI W' W.heap.size v (stepF m l r)∧Below W.heap.size W W':=by
 subst hn0 hn1
 obtain ⟨V,hV⟩:∃ V,V=W.alloc (.cells #[.slice p0 n1 c0,.slice p1 n1 c1,.slice p2 n1 c2] 29):=⟨_,rfl⟩
 have hb:Below W.heap.size W V:=by rw [hV];exact (Below.refl _ _).alloc (Nat.le_refl _) _
 have x0:V.heap[W.heap.size]? = some (.cells #[.slice p0 n1 c0,.slice p1 n1 c1,.slice p2 n1 c2] 29 (0,0)):=by rw [hV];exact heap_alloc_new W _
 obtain ⟨⟨a0,a1,a2⟩,_⟩:=cells3 x0
 have hk8:n1≤100000:=by have:=hg.k2;omega
 have HUM:=Lib.hid (unmarked_c (W:=V) (p0:=p0) (p1:=p1) (p2:=p2) (n0:=n1) (n1:=n1) (c0:=c0) (c1:=c1) (c2:=c2) hk8)
 have HMV:=Lib.hid (hm.step hb)
 have HLV:=Lib.hid (InR.step hl hb)
 have HN:=Lib.hid (And.intro hn h8)
 have HBV:=Lib.hid hb
 have HX:=Lib.hid x0
 have HLT:=Lib.hid (Array.getElem?_eq_some_iff.1 x0).1
 have HG:=Lib.hid hg
 have HK:=Lib.hid hk
 have HAV:=Lib.hid (hA.step hb)
 clear hA hm hg hk hb x0 hl hn h8
 go_enter Tryz.func44,Tryz.ntmps44
 go_upto_region 1 with fail
 rw [← hV]
 clear hV
 go_wp2_with fail
 refine HUM.out.mono ?_
 rintro e w1 ⟨g,rfl,hM,b1⟩
 have HM:=Lib.hid hM
 have HGL:=Lib.hid hM.lt
 have HB1:=Lib.hid b1
 have HMK:=Lib.hid (marked_c (W:=w1) (p0:=p0) (p1:=p1) (p2:=p2) (n0:=n1) (n1:=n1) (c0:=c0) (c1:=c1) (c2:=c2) (c:=c) (InR.step HLV.out b1) HN.out.1 HN.out.2 hk8)
 obtain ⟨⟨d0,d1,d2⟩,_⟩:=cells3 ((b1.block _ HLT.out).trans HX.out)
 clear a0 a1 a2 hM b1 HUM
 go_wp2_with fail
 refine HMK.out.mono ?_
 rintro e w2 ⟨g2,rfl,hM2,b2⟩
 have HST:=Lib.hid (states_c hM2 hk8)
 have HB2:=Lib.hid b2
 clear d0 d1 d2 hM2 b2 HMK
 go_wp2_with fail
 refine HST.out.mono ?_
 rintro e w3 ⟨v,rfl,hO,b3⟩
 obtain ⟨Q,cq,rfl,hIn,hQ,_,_⟩:=hO.form
 have HQ:Hid (∀ j,j < (stL n1 (Inn n1 l)).length→∃ g',Q=some ⟨g',0,none⟩∧g < g'):=Lib.hid (fun j hj=>by
  obtain ⟨g',e1,e2⟩:=hQ j hj
  exact ⟨g',e1,by have:=HGL.out;have:=HB2.out.size;omega⟩)
 have hb13:Below w1.heap.size w1 w3:=HB2.out.trans (b3.mono HB2.out.size)
 have HIN:=Lib.hid hIn
 have HM3:=Lib.hid (HM.out.step hb13)
 have HB3:=Lib.hid (HB1.out.trans (hb13.mono HB1.out.size))
 obtain ⟨F,hF⟩:∃ F,F=stL n1 (Inn n1 l):=⟨_,rfl⟩
 rw [← hF] at HIN HQ
 rw [← hF]
 have hmm:∀ x∈F,0≤x∧x < (n1:Int):=by
  rw [hF]
  intro x hx
  obtain ⟨j,h2,_,h3⟩:=mem_stL.1 hx
  omega
 have HFL:Hid (∀ r (h:r < F.length),0≤F[r]∧F[r] < (n1:Int)):=Lib.hid (fun r h=>hmm _ (List.getElem_mem h))
 obtain ⟨fl,hfl⟩:∃ fl,fl=F.length:=⟨_,rfl⟩
 rw [← hfl]
 have HFN:=Lib.hid hfl
 have HF:=Lib.hid hF
 have hf8:fl≤100000:=by rw [hfl,hF];have:=stL_len n1 (Inn n1 l);omega
 have HG3:=Lib.hid (show w3.grownBy w3 (some g) from grown_refl' w3 (some g))
 clear hO b3 hIn hQ hb13 hfl hF HST hmm
 go_wp2_with fail
 go_loopg [19] fl (fun gk s19 wx=>∃ q:Nat,q+gk=fl∧s19=.int .i64 q∧Hid (MkG 4 (.bool true) (.bool false) wx V.heap.size g n1 (MvL m (F.take q) r))∧Hid (w3.grownBy wx (some g)))
 case atStart=>exact ⟨0,by omega,rfl,Lib.hid (HM3.out.congr (fun j _=>by rw [List.take_zero];exact (mvl_nil m r j).symm)),HG3⟩
 case round =>
  obtain ⟨q,hqg,rfl,HR,HGR⟩:=hrel
  have hbw:Below V.heap.size V wr:=HB3.out.trans (grown_below HGR.out HGL.out.1 HB3.out.size)
  obtain ⟨⟨a0,a1,a2⟩,_⟩:=cells3 ((hbw.block _ HLT.out).trans HX.out)
  cases gk with
  | zero =>
   obtain rfl:q=fl:=by omega
   have hlt:¬ (q:Int) < (q:Int):=by omega
   have HR2:Hid (MkG 4 (.bool true) (.bool false) wr V.heap.size g n1 (MvL m F r)):=Lib.hid (by have:=HR.out;rw [List.take_of_length_le (by have:=HFN.out;omega)] at this;exact this)
   have HFO:=Lib.hid (follow_c (c1:=c1) HMV.out hbw HR2.out HK.out hk8 rfl HG.out.fr (fun j hj=>by rw [HK.out];exact mvl_lt HG.out hj))
   have HBW:=Lib.hid (HBV.out.trans (hbw.mono HBV.out.size))
   clear hbw
   go_wp2_with fail
   refine HFO.out.mono ?_
   rintro e w4 ⟨rfl,hM4,hg4⟩
   have HB4:=Lib.hid (HBW.out.grown hg4 HBW.out.size (fun j hj=>by have:=Option.some.inj hj;have:=HGL.out;have:=HBV.out.size;omega))
   have HS4:=Lib.hid (states_c hM4 hk8)
   clear hM4 hg4 HFO a0 a1 a2
   go_wp2_with fail
   refine HS4.out.mono ?_
   rintro e w5 ⟨v,rfl,hO,b5⟩
   have HE:Hid (OwI w5 W.heap.size v (stepF m l r)):=Lib.hid (by
    have h:=hO.low HB4.out.size
    have e1:stL n1 (Cl m (MvL m F r))=stepF m l r:=by
     unfold stepF
     rw [HF.out,HK.out]
     exact stL_congr (fun j _=>Cl.congr (fun i=>mvl_mv m _ _ (fun i hi=>hi.1) r i) j)
    rw [e1] at h
    exact h)
   have HB5:=Lib.hid (HB4.out.trans (b5.mono HB4.out.size))
   clear hO b5
   go_wp2
   go_ret
   exact ⟨_,rfl,HE.out,HB5.out⟩
  | succ gko =>
   have hlt:(q:Int) < (fl:Int):=by omega
   have hql:q < F.length:=by have:=HFN.out;omega
   have h0:(0:Int)≤(q:Int):=by omega
   have hwr:wrap64 ((q:Int)+1)=((q+1:Nat):Int):=by rw [IntWalk.wrap64_in _ (by omega)];omega
   obtain ⟨g5,o5,rfl,hg5,hc5⟩:=HIN.out q hql
   have hne5:g5≠g:=fun e=>by
    obtain ⟨g',e1,e2⟩:=HQ.out q hql
    injection e1 with e1
    injection e1 with e1
    omega
   have hc6:=HGR.out.cell hc5 (fun e=>hne5 (Option.some.inj e))
   clear hc5
   have hxb:=HFL.out q hql
   obtain ⟨i,hi⟩:∃ i:Nat,F[q]=(i:Int):=⟨F[q].toNat,by omega⟩
   rw [hi] at hc6 hxb
   have hin:i < n1:=by omega
   have hie:i < m.ed.length:=by have:=HG.out.ed;have:=HK.out;omega
   obtain ⟨ge,oe,Pe,ce,rfl,hge,hce,hEd⟩:=HMV.out.ed i hie
   obtain ⟨es,hes⟩:∃ es,es=m.ed.getD i []:=⟨_,rfl⟩
   have hee:m.ed[i]=es:=by rw [hes,row_at hie]
   rw [hee] at hce hEd
   obtain ⟨ne,hne⟩:∃ ne,ne=es.length:=⟨_,rfl⟩
   rw [← hne] at hce
   have hcf:=(hbw.cell (p:=⟨ge,oe+i,none⟩) hge).trans hce
   clear hce
   have HES:Hid (ne=es.length∧ne≤9223372036854775807∧∀ e∈es,e.2.length≤1000000):=Lib.hid ⟨hne,by rw [hne,hes];exact (HG.out.len i hie).1,by rw [hes];exact (HG.out.len i hie).2⟩
   have HET:Hid (∀ j (h:j < es.length),0≤es[j].1∧es[j].1 < (n1:Int)):=Lib.hid (fun j h=>by
    have h1:es[j]∈m.ed.getD i []:=by rw [← hes];exact List.getElem_mem h
    obtain ⟨row,h2,h3⟩:=mem_row h1
    have:=HG.out.tow row h2 _ h3
    have:=HK.out
    omega)
   have HEV:=Lib.hid hEd
   have HSN:Hid (∀ k,MvL m (F.take (q+1)) r k↔MvL m (F.take q) r k∨MvE es r k):=Lib.hid (fun k=>by rw [List.take_succ_eq_append_getElem hql,hi,hes];exact mvl_snoc m _ i r k)
   have HRA:=Lib.hid (show MkG 4 (.bool true) (.bool false) wr V.heap.size g n1 (fun k=>MvL m (F.take q) r k∨MvE (es.take 0) r k) from HR.out.congr (fun j _=>by rw [List.take_zero];exact ⟨.inl,fun h=>h.elim id (fun h=>((mve_nil r j).1 h).elim)⟩))
   have hi0:(0:Int)≤(i:Int):=by omega
   have hi1:(i:Int) < (n1:Int):=by omega
   have hne8:ne≤9223372036854775807:=HES.out.2.1
   clear hne5 hxb hi hin hie hge hEd hes hee hne hg5 hql hbw HR
   go_wp2_with fail
   clear a0 a1 a2 hc6 hcf hi0 hi1
   go_loopg [29] ne (fun gk s29 wx=>∃ j:Nat,j+gk=ne∧s29=.int .i64 j∧Hid (MkG 4 (.bool true) (.bool false) wx V.heap.size g n1 (fun k=>MvL m (F.take q) r k∨MvE (es.take j) r k))∧Hid (w3.grownBy wx (some g)))
   case atStart=>exact ⟨0,by omega,rfl,HRA,HGR⟩
   case round =>
    obtain ⟨j,hjg,rfl,HRJ,HGJ⟩:=hrel
    cases gk with
    | zero =>
     obtain rfl:j=ne:=by omega
     have hlt2:¬ (j:Int) < (j:Int):=by omega
     have hte:es.take j=es:=List.take_of_length_le (by have:=HES.out;omega)
     have HR3:Hid (MkG 4 (.bool true) (.bool false) wr V.heap.size g n1 (MvL m (F.take (q+1)) r)):=Lib.hid (HRJ.out.congr (fun k _=>by rw [hte];exact (HSN.out k).symm))
     clear hte
     go_wp2
     go_roundg gko
     case measure=>omega
     case rel=>exact ⟨q+1,by omega,by first | rw [hwr] | rfl | simp,HR3,HGJ⟩
    | succ gk =>
     have hlt2:(j:Int) < (ne:Int):=by omega
     have hjl:j < es.length:=by have:=HES.out;omega
     have hj0:(0:Int)≤(j:Int):=by omega
     have hwj:wrap64 ((j:Int)+1)=((j+1:Nat):Int):=by rw [IntWalk.wrap64_in _ (by omega)];omega
     have hbw:Below V.heap.size V wr:=HB3.out.trans (grown_below HGJ.out HGL.out.1 HB3.out.size)
     obtain ⟨ga,oa,sp,sc,rfl,hga,c1',c2',hsl⟩:=HEV.out.step hbw j hjl
     have htb:=HET.out j hjl
     obtain ⟨ee,hee⟩:∃ e,e=es[j]:=⟨_,rfl⟩
     have HEJ:Hid (es.take (j+1)=es.take j++[ee]):=Lib.hid (by rw [List.take_succ_eq_append_getElem hjl,hee])
     have hl8:=HES.out.2.2 es[j] (List.getElem_mem hjl)
     rw [← hee] at c1' c2' hsl htb hl8
     obtain ⟨t,ls⟩:=ee
     dsimp only at c1' c2' hsl htb hl8
     obtain ⟨s,rfl⟩:∃ s:Nat,t=(s:Int):=⟨t.toNat,by omega⟩
     have hsn:s < n1:=by omega
     have hs0:(0:Int)≤(s:Int):=by omega
     have hs1:(s:Int) < (n1:Int):=by omega
     have HMJ:Hid (∀ k,(MvL m (F.take q) r k∨MvE (es.take (j+1)) r k)↔((MvL m (F.take q) r k∨MvE (es.take j) r k)∨(k=s∧Tells ls r))):=Lib.hid (fun k=>by
      rw [HEJ.out,mve_snoc,or_assoc]
      refine or_congr Iff.rfl (or_congr Iff.rfl ?_)
      constructor
      ·rintro ⟨h1,h2⟩;exact ⟨by dsimp only at h1;omega,h2⟩
      ·rintro ⟨rfl,h2⟩;exact ⟨rfl,h2⟩)
     obtain ⟨ln,hln⟩:∃ ln,ln=ls.length:=⟨_,rfl⟩
     rw [← hln] at c2'
     obtain ⟨Y,hY⟩:∃ Y,Y=wr.alloc (.cells #[.int .i64 s,.slice sp ln sc] 43):=⟨_,rfl⟩
     have hbY:Below wr.heap.size wr Y:=by rw [hY];exact (Below.refl _ _).alloc (Nat.le_refl _) _
     have hyx:Y.heap[wr.heap.size]? = some (.cells #[.int .i64 s,.slice sp ln sc] 43 (0,0)):=by rw [hY];exact heap_alloc_new wr _
     have e0:Y.cell? ⟨wr.heap.size,0,none⟩=some (.int .i64 s):=cell_of_row Y _ 0 _ _ _ hyx
     have e1:Y.cell? ⟨wr.heap.size,1,none⟩=some (.slice sp ln sc):=cell_of_row Y _ 1 _ _ _ hyx
     have HRY:=Lib.hid (HRJ.out.step hbY)
     have HGY:Hid (w3.grownBy Y (some g)):=Lib.hid (grown_trans HGJ.out (below_grown hbY rfl) (fun j hj=>by cases hj))
     have HHAS:=Lib.hid (has_any sp sc ls r (by omega) Y (HAV.out.step (hbw.trans (hbY.mono hbw.size))).pos (HAV.out.step (hbw.trans (hbY.mono hbw.size))).areas (hsl.step hbY))
     rw [← hln] at HHAS
     have HYX:=Lib.hid hyx
     have HYL:=Lib.hid (Array.getElem?_eq_some_iff.1 hyx).1
     clear hsl hl8 htb hee hln hbw hbY hyx hjl hga
     go_upto_region 8 with fail
     rw [← hY]
     clear hY c1' c2'
     by_cases hm:MvL m (F.take q) r s∨MvE (es.take j) r s
     ·have f1 := HRY.out.yes hsn hm
      have HR3:=Lib.hid (HRY.out.congr (fun k _=>(show _↔(MvL m (F.take q) r k∨MvE (es.take (j+1)) r k) by
       rw [HMJ.out k]
       exact ⟨.inl,fun h=>h.elim id (fun h=>by rw [h.1];exact hm)⟩)))
      clear hm hsn HHAS e1
      go_wp2_with fail
      go_roundg gk
      case measure=>omega
      case rel=>exact ⟨j+1,by omega,by first | rw [hwj] | rfl | simp,HR3,HGY⟩
     ·have f1 := HRY.out.no hsn hm
      have HMN:=Lib.hid hm
      clear hm
      go_wp2_with fail
      refine HHAS.out.mono ?_
      rintro e w4 ⟨rfl,b4⟩
      have HR4:=Lib.hid (HRY.out.step b4)
      have HG4:Hid (w3.grownBy w4 (some g)):=Lib.hid (grown_trans HGY.out (below_grown b4 rfl) (fun j hj=>by cases hj))
      have hyx4:=(b4.block _ HYL.out).trans HYX.out
      have e0':w4.cell? ⟨wr.heap.size,0,none⟩=some (.int .i64 s):=cell_of_row w4 _ 0 _ _ _ hyx4
      have f2:=HR4.out.no hsn HMN.out
      have f3:=HR4.out.frz s
      clear hyx4 b4 e0 e1 f1 HHAS
      by_cases hT:Tells ls r
      ·have hd : decide (Tells ls r) = true := decide_eq_true hT
       obtain ⟨hR5,hg5⟩:=HR4.out.set hsn
       have HR5:=Lib.hid (hR5.congr (fun k _=>(show _↔(MvL m (F.take q) r k∨MvE (es.take (j+1)) r k) by
        rw [HMJ.out k]
        exact or_congr Iff.rfl ⟨fun h=>⟨h,hT⟩,fun h=>h.1⟩)))
       have HG5:=Lib.hid (grown_trans HG4.out hg5 (fun j hj=>.inl (Option.some.inj hj).symm))
       rw [hd]
       clear hT hsn hR5 hg5
       go_wp2_with fail
       go_roundg gk
       case measure=>omega
       case rel=>exact ⟨j+1,by omega,by first | rw [hwj] | rfl | simp,HR5,HG5⟩
      ·have hd : decide (Tells ls r) = false := decide_eq_false hT
       have HR5:=Lib.hid (HR4.out.congr (fun k _=>(show _↔(MvL m (F.take q) r k∨MvE (es.take (j+1)) r k) by
        rw [HMJ.out k]
        exact ⟨.inl,fun h=>h.elim id (fun h=>absurd h.2 hT)⟩)))
       rw [hd]
       clear hT hsn
       go_wp2_with fail
       go_roundg gk
       case measure=>omega
       case rel=>exact ⟨j+1,by omega,by first | rw [hwj] | rfl | simp,HR5,HG4⟩
end Go.Proofs.YtioahgklplbinaaGreatDoor
