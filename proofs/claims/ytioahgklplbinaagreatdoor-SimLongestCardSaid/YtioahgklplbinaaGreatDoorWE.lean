/- Words, Ends, RBox, UWords, UEnc, UDec, UChars, in one text. -/
import Derived.RangeFuncNested
import Derived.RangeFuncBound
import Derived.RangeFuncCalls
import Derived.RangeFuncLeaves
import Derived.RangeFuncBox
import Derived.Shelf.Abstract
import Derived.Shelf.RegionOpen
import Derived.WalkKit
import Derived.OwnWalkIn
import Derived.TacticsInMore
import Derived.LoopNIn
import Derived.LoopIn
import Derived.Lib.Hide
import Derived.Test.YtioahgklplbinaaGreatDoorProg
import Derived.Test.YtioahgklplbinaaGreatDoorPURE
import Derived.Outline
import Derived.WalkMore
import Derived.Deep.LoopGhost
import Derived.Deep.QuietTactic
import Derived.BigQuiet
import Derived.Deep.DeepCutAuto
import Derived.WalkLawsBesides
import Derived.Laws.BitsLemmas
import Derived.Laws.BitsAllLaws
import Derived.StillTailTactics
namespace Go.Proofs.YtioahgklplbinaaGreatDoor
open Go.RowKit Go.Shelf SetM
abbrev End:={ x:Sp // 0≤x.1∧x.1≤x.2∧x.2≤1114111 }
def endE (x:End):Array Value:=#[.int .i64 x.1.1,.int .i64 x.1.2]
def endsE (l:List Sp):List End:=(endsL l).pmap (fun x h=>⟨x,h⟩) (fun x hx=>endsL_in l x hx)
theorem endsE_val (l:List Sp):(endsE l).map (·.1)=endsL l:=by
 unfold endsE;rw [List.map_pmap];simp
def Spans (n₀:Nat) (W:World) (A:Option Addr) (l:List Sp):Prop :=
 l≠[]→∃ b off,A=some ⟨b,off,none⟩∧b < n₀∧∀ j (h:j < l.length),W.cell? ⟨b,off+j*2,none⟩=some (.int .i64 l[j].1)∧W.cell? ⟨b,off+j*2+1,none⟩=some (.int .i64 l[j].2)
theorem Spans.below {n₀:Nat} {V W:World} (h:Below n₀ V W) {A:Option Addr} {l:List Sp} (hs:Spans n₀ V A l):Spans n₀ W A l:=fun hl=>by
 obtain ⟨b,off,e,hb,hc⟩:=hs hl
 exact ⟨b,off,e,hb,fun j hj=>⟨(h.cell (p:=⟨b,off+j*2,none⟩) hb).trans (hc j hj).1,(h.cell (p:=⟨b,off+j*2+1,none⟩) hb).trans (hc j hj).2⟩⟩
theorem Spans.mono {n₀ n₁:Nat} {W:World} {A:Option Addr} {l:List Sp} (hs:Spans n₀ W A l) (h:n₀≤n₁):Spans n₁ W A l:=fun hl=>by
 obtain ⟨b,off,e,hb,hc⟩:=hs hl
 exact ⟨b,off,e,by omega,hc⟩
theorem Spans.nil {n₀:Nat} {W:World} {A:Option Addr}:Spans n₀ W A []:=fun h=>absurd rfl h
def Areas (W:World):Prop :=
 W.cell? ⟨0,0,none⟩=some (.int .i64 0)∧W.cell? ⟨0,1,none⟩=some (.int .i64 55295) ∧
 W.cell? ⟨0,2,none⟩=some (.int .i64 57344)∧W.cell? ⟨0,3,none⟩=some (.int .i64 1114111)
theorem Areas.below {n₀:Nat} {V W:World} (h:Below n₀ V W) (h0:0 < n₀) (hs:Areas V):Areas W :=
 ⟨(h.cell (p:=⟨0,0,none⟩) h0).trans hs.1,(h.cell (p:=⟨0,1,none⟩) h0).trans hs.2.1,(h.cell (p:=⟨0,2,none⟩) h0).trans hs.2.2.1,(h.cell (p:=⟨0,3,none⟩) h0).trans hs.2.2.2⟩
end Go.Proofs.YtioahgklplbinaaGreatDoor
namespace Go.Proofs.YtioahgklplbinaaGreatDoor
open Go.RowKit Go.Shelf SetM
attribute [local go_sem] Oper.semAt_some
theorem val_inj : ∀ a b : List End, a.map (·.1) = b.map (·.1) → a = b
 | [],[],_=>rfl
 | [],_::_,h=>by simp at h
 | _::_,[],h=>by simp at h
 | x::a,y::b,h=>by
  simp only [List.map_cons,List.cons.injEq] at h
  rw [Subtype.ext h.1,val_inj a b h.2]
theorem val_prefix (a b:List End) (h:a.map (·.1) <+: b.map (·.1)):a <+: b:=by
 have h1:=List.prefix_iff_eq_take.1 h
 rw [← List.map_take] at h1
 have h2:=val_inj _ _ h1
 rw [List.length_map] at h2
 rw [h2]
 exact List.take_prefix _ _
theorem ends_split (xs:List Sp) (k:Nat) (hk:k < xs.length):endsL xs=endsL (xs.take k)++endsOf xs[k]++endsL (xs.drop (k+1)):=by
 have h:xs=xs.take k++xs[k]::xs.drop (k+1):=by simp
 have h2:endsL xs=endsL (xs.take k++xs[k]::xs.drop (k+1)):=by rw [← h]
 rw [h2]
 unfold endsL
 rw [List.flatMap_append,List.flatMap_cons,List.append_assoc]
theorem ends_next (xs:List Sp) (k:Nat) (hk:k < xs.length):endsL (xs.take (k+1))=endsL (xs.take k)++endsOf xs[k]:=by
 rw [List.take_succ_eq_append_getElem hk]
 unfold endsL
 rw [List.flatMap_append]
 simp only [List.flatMap_cons,List.flatMap_nil,List.append_nil]
def Kp (n₀:Nat) (V W:World):Prop:=Below n₀ V W∧∀ (k:Nat) (cs:Array Value) (fr:Nat×Nat),V.heap[k]? = some (.cells cs 45 fr)→W.heap[k]? = some (.cells cs 45 fr)
theorem Kp.refl (n₀:Nat) (w:World):Kp n₀ w w:=⟨Below.refl _ _,fun _ _ _ h=>h⟩
theorem Kp.trans {n₀:Nat} {U V W:World} (h:Kp n₀ U V) (k:Kp n₀ V W):Kp n₀ U W:=⟨h.1.trans k.1,fun i cs fr e=>k.2 i cs fr (h.2 i cs fr e)⟩
theorem Kp.alloc {n₀:Nat} {U V:World} (h:Kp n₀ U V) (hn:n₀≤V.heap.size) (o:Obj):Kp n₀ U (V.alloc o) :=
 ⟨h.1.alloc hn o,fun i cs fr e=>by
  have e1:=h.2 i cs fr e
  exact (Below.heap_alloc V o i (Array.getElem?_eq_some_iff.1 e1).1).trans e1⟩
theorem Kp.drewN {n₀:Nat} {U V:World} (h:Kp n₀ U V) (n:Nat):Kp n₀ U (V.drewN n):=⟨⟨h.1.os,h.1.tape,h.1.output,h.1.size,h.1.block⟩,h.2⟩
def SpansK (n₀:Nat) (W:World) (A:Option Addr) (l:List Sp):Prop :=
 l≠[]→∃ b off,A=some ⟨b,off,none⟩∧(b < n₀∨∃ cs fr,W.heap[b]? = some (.cells cs 45 fr))∧∀ j (h:j < l.length),W.cell? ⟨b,off+j*2,none⟩=some (.int .i64 l[j].1)∧W.cell? ⟨b,off+j*2+1,none⟩=some (.int .i64 l[j].2)
theorem Spans.toK {n₀:Nat} {W:World} {A:Option Addr} {l:List Sp} (h:Spans n₀ W A l):SpansK n₀ W A l:=fun hl=>by
 obtain ⟨b,off,e,hb,hc⟩:=h hl
 exact ⟨b,off,e,.inl hb,hc⟩
theorem SpansK.kp {n₀:Nat} {V W:World} (h:Kp n₀ V W) {A:Option Addr} {l:List Sp} (hs:SpansK n₀ V A l):SpansK n₀ W A l:=fun hl=>by
 obtain ⟨b,off,e,hb,hc⟩:=hs hl
 have hsame:W.heap[b]? = V.heap[b]?:=by
  rcases hb with hb | ⟨cs,fr,hb⟩
  ·exact h.1.block b hb
  ·rw [h.2 b cs fr hb,hb]
 refine ⟨b,off,e,?_,fun j hj=>⟨(World.cell?_of_block (a:=⟨b,off+j*2,none⟩) hsame).trans (hc j hj).1,(World.cell?_of_block (a:=⟨b,off+j*2+1,none⟩) hsame).trans (hc j hj).2⟩⟩
 rcases hb with hb | ⟨cs,fr,hb⟩
 ·exact .inl hb
 ·exact .inr ⟨cs,fr,h.2 b cs fr hb⟩
def p1 (x:Sp):List Sp:=if max x.1 0≤min x.2 55295 then [(max x.1 0,min x.2 55295)] else []
def p2 (x:Sp):List Sp:=if max x.1 57344≤min x.2 1114111 then [(max x.1 57344,min x.2 1114111)] else []
def Part (x:Sp) (j:Int) (e:List Sp):Prop :=
 (j=0∧e=[])∨(j=1∧¬ x.2 < max x.1 0∧e=p1 x)∨(j=2∧¬ x.2 < max x.1 0∧¬ x.2 < max x.1 57344∧e=p1 x++p2 x)
def piece (x:Sp) (alo ahi:Int):List Sp:=if max x.1 alo≤min x.2 ahi then [(max x.1 alo,min x.2 ahi)] else []
theorem part_step {x : Sp} {j : Int} {e : List Sp} (h : Part x j e) :
  (j=2∧endsOf x=e)∨∃ alo ahi:Int,0≤j∧j < 2 ∧
   (∀ w,(Instr.index 153 (.agg #[.int .i64 0,.int .i64 55295,.int .i64 57344,.int .i64 1114111]) (.int .i64 j)).run Tryz.prog w=.ok (.agg #[.int .i64 alo,.int .i64 ahi]) w) ∧
   0≤alo∧ahi≤1114111∧(x.2 < max x.1 alo→endsOf x=e)∧(¬ x.2 < max x.1 alo→Part x (j+1) (e++piece x alo ahi))∧(¬ x.2 < max x.1 alo→max x.1 alo≤min x.2 ahi→∃ t,endsOf x=e++(max x.1 alo,min x.2 ahi)::t):=by
 rcases h with ⟨rfl,rfl⟩ | ⟨rfl,h1,rfl⟩ | ⟨rfl,h1,h2,rfl⟩
 ·refine .inr ⟨0, 55295, by omega, by omega, fun _ => by kernel_rfl, by omega, by omega, fun h => ?_, fun h => ?_, fun h h' => ?_⟩
  ·unfold endsOf;rw [if_pos h]
  ·exact .inr (.inl ⟨rfl,h,rfl⟩)
  ·unfold endsOf;rw [if_neg h,if_pos h'];exact ⟨_,rfl⟩
 ·refine .inr ⟨57344, 1114111, by omega, by omega, fun _ => by kernel_rfl, by omega, by omega, fun h => ?_, fun h => ?_, fun h h' => ?_⟩
  ·unfold endsOf;rw [if_neg h1,if_pos h];simp [p1]
  ·exact .inr (.inr ⟨rfl,h1,h,rfl⟩)
  ·unfold endsOf;rw [if_neg h1,if_neg h,if_pos h'];exact ⟨[],by simp [p1]⟩
 ·refine .inl ⟨rfl, ?_⟩
  unfold endsOf;rw [if_neg h1,if_neg h2];rfl
set_option maxRecDepth 100000 in
set_option maxHeartbeats 400000 in
theorem ends1 (n : Nat) (l Bs n₀ : Nat) (h0n : 0 < n₀) (A : Option Addr) (cap : Nat) (xs : List Sp) (hlen : xs.length ≤ 1073741824) (J Jx : List End → World → Prop) (W : World)
  (hJ:AbidesFrom W.heap.size J)
  (hY:∀ pre x W1,J pre W1→pre.length < (endsE xs).length→YieldAt Fence.wide (n - 1) Tryz.prog l (endE x) W1 fun e W' =>
   (e=.returned (.bool true)∧J (pre++[x]) W'∧Kp n₀ W1 W')∨(e=.returned (.bool false)∧Jx (pre++[x]) W'))
  (hBs:W.cell? ⟨Bs,0,none⟩=some (.slice A xs.length cap)) (hA:Areas W) (hS:SpansK n₀ W A xs) (hn0:n₀≤W.heap.size) (h0:J [] W) :
  Calls Tryz.prog 102 #[.func (.yield l) #[] #[],.pointer (some ⟨Bs,0,none⟩)] W fun e W'=>(∃ v,e=.returned v) ∧
   ((∃ ys,ys=endsE xs∧J ys W')∨(∃ pre,pre <+: endsE xs∧Jx pre W')):=by
 have HJ:=Lib.hid hJ
 have HY:=Lib.hid hY
 have HS:=Lib.hid hS
 have HA:=Lib.hid hA
 clear hJ hY hS hA
 go_enter Tryz.func102,Tryz.ntmps102
 go_wp2
 go_step3
 go_wp2
 go_step3
 go_wp2
 go_loopg [11] xs.length (fun g s11 wx=>∃ (k:Nat) (pre:List End),k+g=xs.length∧s11=.int .i64 k∧Hid (pre.map (·.1)=endsL (xs.take k))∧J pre wx∧Kp n₀ W wx)
 case atStart=>exact ⟨0,[],by omega,rfl,rfl,h0,Kp.refl _ _⟩
 case round =>
  obtain ⟨k,pre,hkg,rfl,HP,hj,hbx⟩:=hrel
  cases gk with
  | zero =>
   have hkz:¬ ((k:Int) < (xs.length:Int)):=by omega
   go_wp2
   go_end0
   refine ⟨⟨_,rfl⟩,.inl ⟨pre,val_inj _ _ ?_,hj⟩⟩
   rw [HP.out,endsE_val,List.take_of_length_le (by omega)]
  | succ g =>
   have hkz:(k:Int) < (xs.length:Int):=by omega
   have hk:k < xs.length:=by omega
   obtain ⟨b,off,rfl,hbk,hc⟩:=HS.out.kp hbx (by intro h;rw [h] at hk;simp at hk)
   obtain ⟨c0',c1'⟩:=hc k hk
   clear hc hbk
   generalize hx:xs[k]=x at c0' c1'
   have HX:=Lib.hid hx
   clear hx
   have hsz:=hbx.1.size
   have hb1:Kp n₀ W (wr.alloc (.cells #[.int .i64 x.1,.int .i64 x.2] 45)):=hbx.alloc (by omega) _
   obtain ⟨a0,a1,a2,a3⟩:=HA.out.below hb1.1 h0n
   have hj1:J pre (wr.alloc (.cells #[.int .i64 x.1,.int .i64 x.2] 45)):=HJ.out _ _ _ none hj (World.grownBy_alloc _ _ _) (by simp)
   go_wp2
   have hbox:(wr.alloc (.cells #[.int .i64 x.1,.int .i64 x.2] 45)).heap[wr.heap.size]? = some (.cells #[.int .i64 x.1,.int .i64 x.2] 45 (0,0)):=heap_alloc_new wr _
   obtain ⟨bx,hbxe⟩:∃ bx,bx=wr.heap.size:=⟨_,rfl⟩
   rw [← hbxe] at hbox ⊢
   have HB0:=Lib.hid hbox
   clear hbox
   generalize wr.alloc (.cells #[.int .i64 x.1,.int .i64 x.2] 45)=w1 at *
   clear hj hbx c0' c1' hsz hbxe a0 a1 a2 a3
   clear wr
   go_loopg [16] 2 (fun g2 s16 wy=>∃ (j:Int) (pre2:List End) (e:List Sp),j+g2=2∧s16=.int .i64 j∧Part x j e∧Hid (pre2.map (·.1)=endsL (xs.take k)++e)∧J pre2 wy∧Kp n₀ W wy∧Hid (wy.heap[bx]? = some (.cells #[.int .i64 x.1,.int .i64 x.2] 45 (0,0))))
   case atStart=>exact ⟨0,pre,[],by omega,rfl,.inl ⟨rfl,rfl⟩,Lib.hid (by simpa using HP.out),hj1,hb1,HB0⟩
   case round =>
    obtain ⟨j,pre2,e,hjg,rfl,HPt,HP2,hj2,hb2,HB⟩:=hrel
    rcases part_step HPt with ⟨rfl,hend⟩ | ⟨alo,ahi,hj0,hjlt,hix,hb3,hb4,hgo,hst,hyd⟩
    ·have hjz : ¬ ((2 : Int) < (2 : Int)) := by omega
     go_wp2
     go_roundg g
     case measure=>omega
     case rel=>exact ⟨k+1,pre2,by omega,by go_num,Lib.hid (by rw [HP2.out,ends_next xs k hk,HX.out,hend]),hj2,hb2⟩
    ·have hlt:bx < wr.heap.size:=by
      have:=HB.out
      exact (Array.getElem?_eq_some_iff.1 this).1
     have hc0:(wr.alloc (.cells #[.int .i64 alo,.int .i64 ahi] 45)).cell? ⟨bx,0,none⟩=some (.int .i64 x.1):=by
      rw [World.cell?_alloc_lt _ _ _ hlt,cell_of_row wr bx 0 _ _ _ HB.out];rfl
     have hc1:(wr.alloc (.cells #[.int .i64 alo,.int .i64 ahi] 45)).cell? ⟨bx,1,none⟩=some (.int .i64 x.2):=by
      rw [World.cell?_alloc_lt _ _ _ hlt,cell_of_row wr bx 1 _ _ _ HB.out];rfl
     have HGO:=Lib.hid hgo
     have HST:=Lib.hid hst
     have HYD:=Lib.hid hyd
     clear hgo hst hyd
     have hb5:Kp n₀ W (wr.alloc (.cells #[.int .i64 alo,.int .i64 ahi] 45)):=hb2.alloc (by have:=hb2.1.size;omega) _
     have hj5:J pre2 (wr.alloc (.cells #[.int .i64 alo,.int .i64 ahi] 45)):=HJ.out _ _ _ none hj2 (World.grownBy_alloc _ _ _) (by simp)
     have HB5:Hid ((wr.alloc (.cells #[.int .i64 alo,.int .i64 ahi] 45)).heap[bx]? = some (.cells #[.int .i64 x.1,.int .i64 x.2] 45 (0,0))) :=
      Lib.hid ((Below.heap_alloc wr _ bx hlt).trans HB.out)
     go_wp2
     go_quiet (fail)
     have hj6:J pre2 ((wr.alloc (.cells #[.int .i64 alo,.int .i64 ahi] 45)).drewN nq):=HJ.out _ _ _ none hj5 ⟨rfl,rfl,rfl,Nat.le_refl _,fun _ _ _=>rfl⟩ (by simp)
     have hb6:Kp n₀ W ((wr.alloc (.cells #[.int .i64 alo,.int .i64 ahi] 45)).drewN nq):=hb5.drewN nq
     have hc6:((wr.alloc (.cells #[.int .i64 alo,.int .i64 ahi] 45)).drewN nq).cell? ⟨bx,1,none⟩=some (.int .i64 x.2):=hc1
     have HB6:Hid (((wr.alloc (.cells #[.int .i64 alo,.int .i64 ahi] 45)).drewN nq).heap[bx]? = some (.cells #[.int .i64 x.1,.int .i64 x.2] 45 (0,0))):=Lib.hid HB5.out
     rw [show (if x.1 < alo then alo else x.1)=max x.1 alo from by split <;> omega,show (if ahi < x.2 then ahi else x.2)=min x.2 ahi from by split <;> omega]
     generalize (wr.alloc (.cells #[.int .i64 alo,.int .i64 ahi] 45)).drewN nq=w6 at *
     generalize hlo:max x.1 alo=lo at *
     generalize hhi:min x.2 ahi=hi at *
     have HLO:=Lib.hid hlo
     have HHI:=Lib.hid hhi
     clear hlo hhi hix hc0 hc1 hb5 hj5 HB5 hj2 hb2 HB hlt
     by_cases hout:x.2 < lo
     ·go_wp2
      go_roundg g
      case measure=>omega
      case rel=>exact ⟨k+1,pre2,by omega,by go_num,Lib.hid (by rw [HP2.out,ends_next xs k hk,HX.out,HGO.out hout]),hj6,hb6⟩
     ·by_cases hyl : lo ≤ hi
      ·have hval : 0 ≤ lo ∧ lo ≤ hi ∧ hi ≤ 1114111 := by have := HLO.out; have := HHI.out; omega
       have hpf:(pre2++[(⟨(lo,hi),hval⟩:End)]).map (·.1) <+: (endsE xs).map (·.1):=by
        obtain ⟨t,ht⟩:=HYD.out (by omega) hyl
        rw [endsE_val,ends_split xs k hk,HX.out,ht,List.map_append,HP2.out]
        exact ⟨t++endsL (xs.drop (k+1)),by simp⟩
       have HPF:=Lib.hid (val_prefix _ _ hpf)
       have hlen2:pre2.length < (endsE xs).length:=by
        have:=hpf.length_le
        simp only [List.length_map,List.length_append,List.length_cons,List.length_nil] at this
        omega
       clear hpf
       obtain ⟨fn,tmps,assign,body,hy,hR⟩:=HY.out pre2 ⟨(lo,hi),hval⟩ w6 hj6 hlen2
       simp only [endE] at hy
       have HR:=Lib.hid hR
       clear hR
       go_upto_region 8 with (fail)
       refine (wpIn_wide (n:=n)).1 ?_
       gi_wp2
       refine ⟨fun h=>(by simp [Fence.wide] at h),HR.out.mono ?_⟩
       rintro e3 W3 (⟨rfl,hJ3,hk3⟩ | ⟨rfl,hJx3⟩)
       ·obtain ⟨gk', rfl⟩ : ∃ gk', gk = gk' + 1 := ⟨gk - 1, by omega⟩
        gi_wp2
        go_wp2
        go_roundg gk'
        case measure=>omega
        case rel=>exact ⟨j+1,_,e++piece x alo ahi,by omega,rfl,HST.out (by omega),Lib.hid (by rw [List.map_append,HP2.out];unfold piece;rw [HLO.out,HHI.out,if_pos hyl];simp),hJ3,hb6.trans hk3,Lib.hid (hk3.2 _ _ _ HB6.out)⟩
       ·gi_wp2
        go_wp2
        rw [Exit.noGoto_ret]
        refine bodyPost_ret (results_none rfl _ _ _) rfl ?_
        exact ⟨⟨_,rfl⟩,.inr ⟨_,HPF.out,hJx3⟩⟩
      ·obtain ⟨gk', rfl⟩ : ∃ gk', gk = gk' + 1 := ⟨gk - 1, by omega⟩
       go_wp2
       go_roundg gk'
       case measure=>omega
       case rel=>exact ⟨j+1,pre2,e++piece x alo ahi,by omega,rfl,HST.out (by omega),Lib.hid (by rw [HP2.out];unfold piece;rw [HLO.out,HHI.out,if_neg (by omega)];simp),hj6,hb6,HB6⟩
theorem ends_stops (n Bs n₀ : Nat) (h0n : 0 < n₀) (A : Option Addr) (cap : Nat) (xs : List Sp) (hlen : xs.length ≤ 1073741824) (w : World) (hBl : Bs < w.heap.size) (hn₀ : n₀ ≤ w.heap.size)
  (hc:w.cell? ⟨Bs,0,none⟩=some (.slice A xs.length cap)) (hA:Areas w) (hS:SpansK n₀ w A xs) :
  SeqStopsK Fence.wide n Tryz.prog 102 #[.pointer (some ⟨Bs,0,none⟩)] endE (Kp n₀) (fun ys=>ys=endsE xs) (fun pre=>pre <+: endsE xs) (endsE xs).length w:=fun l J Jx W hW hJ _ hY h0 =>
 have hk:Kp n₀ w W:=⟨hW.mono hn₀,fun i _ _ e=>(hW.block i (Array.getElem?_eq_some_iff.1 e).1).trans e⟩
 callsIn_wide.2 (ends1 n l Bs n₀ h0n A cap xs hlen J Jx W hJ hY ((hW.cell (p:=⟨Bs,0,none⟩) hBl).trans hc) (hA.below (hW.mono hn₀) h0n) (hS.kp hk) (Nat.le_trans hn₀ hW.size) h0)
theorem toIn {F:Fence} {n:Nat} {f:Nat} {args:Array Value} {w:World} {R:Ending→World→Prop} (hF:Hid (F=Fence.wide)) (h:Calls Tryz.prog f args w R):CallsIn F n Tryz.prog f args w R:=by
 rw [hF.out];exact callsIn_wide.2 h
theorem ends_stopsK {F : Fence} (hF : Hid (F = Fence.wide)) (n Bs n₀ : Nat) (h0n : 0 < n₀) (A : Option Addr) (cap : Nat) (xs : List Sp) (hlen : xs.length ≤ 1073741824) (w : World) (hBl : Bs < w.heap.size) (hn₀ : n₀ ≤ w.heap.size)
  (hc:w.cell? ⟨Bs,0,none⟩=some (.slice A xs.length cap)) (hA:Areas w) (hS:SpansK n₀ w A xs) :
  SeqStopsK F n Tryz.prog 102 #[.pointer (some ⟨Bs,0,none⟩)] endE (Kp n₀) (fun ys=>ys=endsE xs) (fun pre=>pre <+: endsE xs) (endsE xs).length w:=by
 rw [hF.out];exact ends_stops n Bs n₀ h0n A cap xs hlen w hBl hn₀ hc hA hS
theorem ends_stopsF {F : Fence} (hF : Hid (F = Fence.wide)) (n Bs n₀ : Nat) (h0n : 0 < n₀) (A : Option Addr) (cap : Nat) (xs : List Sp) (hlen : xs.length ≤ 1073741824) (w : World) (hBl : Bs < w.heap.size) (hn₀ : n₀ ≤ w.heap.size)
  (hc:w.cell? ⟨Bs,0,none⟩=some (.slice A xs.length cap)) (hA:Areas w) (hS:Spans n₀ w A xs) :
  SeqStopsK F n Tryz.prog 102 #[.pointer (some ⟨Bs,0,none⟩)] endE (Kp n₀) (fun ys=>ys=endsE xs) (fun pre=>pre <+: endsE xs) (endsE xs).length w:=ends_stopsK hF n Bs n₀ h0n A cap xs hlen w hBl hn₀ hc hA hS.toK
theorem boxed_kept {U V:World} {row:Option Nat} {B:Nat} {t:TypeId} {v:Value} (h:Boxed U B t v) (hg:U.grownBy V row) (hr:∀ r,row=some r→∃ o:Obj,U.heap[r]? = some o∧o.isCells=false):Boxed V B t v :=
 boxed_own (β:=Unit) B t (fun _=>v) () U V row h hg hr
theorem Kp.put {n₀:Nat} {w:World} (hn:n₀≤w.heap.size) (W:World) (l:Nat) (o o':Obj) (hl:w.heap.size≤l) (h:W.heap[l]? = some o) (h1:o.isCells=false) (h2:o.isWalk=false):Kp n₀ W (W.putObj l o') :=
 ⟨belowK_b hn W l o o' hl h h1 h2,fun i cs fr e=>by
  by_cases hi:i=l
  ·subst hi;rw [h] at e;cases e;simp [Obj.isCells] at h1
  ·rw [← e]
   have hlt:i < W.heap.size:=(Array.getElem?_eq_some_iff.1 e).1
   exact (grownBy_putObj' W l o').block i hlt (by simp;exact hi)⟩
set_option maxHeartbeats 400000 in
theorem ends_any (A : Option Addr) (len cap : Nat) (w : World) :
  Calls Tryz.prog 90 #[.slice A len cap] w fun e w'=>e=.returned (.func (.func 102) #[] #[.pointer (some ⟨w.heap.size,0,none⟩)])∧w'=w.alloc (.cells #[.slice A len cap] 41):=by
 go_enter Tryz.func90,Tryz.ntmps90
 go_wp2
 go_ret
 exact ⟨rfl,rfl⟩
end Go.Proofs.YtioahgklplbinaaGreatDoor
namespace Go.Proofs.YtioahgklplbinaaGreatDoor
open Go.RowKit Go.Shelf SetM
theorem heap_setC (W:World) (R:Nat) (cs:Array Value) (t:TypeId) (h:W.heap[R]? = some (.cells cs t (0,0))) (i:Nat) (v:Value):(W.setCell ⟨R,i,none⟩ v).heap[R]? = some (.cells (cs.set! i v) t (0,0)):=by
 obtain ⟨hlt,hk⟩:=Array.getElem?_eq_some_iff.1 h
 show (W.heap.modify R _)[R]? = _
 rw [Array.getElem?_eq_getElem (by rw [Array.size_modify];exact hlt),Array.getElem_modify_self,hk]
 rfl
def B5 (W:World) (B:Nat):Prop:=∃ x0 x1 x2 x3 x4,W.heap[B]? = some (.cells #[x0,x1,x2,x3,x4] 48 (0,0))
theorem B5.new (W:World) (x0 x1 x2 x3 x4:Value):B5 (W.alloc (.cells #[x0,x1,x2,x3,x4] 48)) W.heap.size:=⟨x0,x1,x2,x3,x4,heap_alloc_new W _⟩
theorem B5.lt {W:World} {B:Nat} (h:B5 W B):B < W.heap.size:=by obtain ⟨_,_,_,_,_,h⟩:=h;exact (Array.getElem?_eq_some_iff.1 h).1
theorem B5.cells {W:World} {B:Nat} (h:B5 W B):(∃ x0 x1 x2 x3 x4,W.cell? ⟨B,0,none⟩=some x0∧W.cell? ⟨B,1,none⟩=some x1∧W.cell? ⟨B,2,none⟩=some x2∧W.cell? ⟨B,3,none⟩=some x3∧W.cell? ⟨B,4,none⟩=some x4) ∧
  W.frozen? ⟨B,0,none⟩=false∧W.frozen? ⟨B,1,none⟩=false∧W.frozen? ⟨B,2,none⟩=false∧W.frozen? ⟨B,3,none⟩=false∧W.frozen? ⟨B,4,none⟩=false:=by
 obtain ⟨x0,x1,x2,x3,x4,h⟩:=h
 have hc:∀ i,W.cell? ⟨B,i,none⟩=(#[x0,x1,x2,x3,x4]:Array Value)[i]?:=fun i=>cell_of_row W B i _ _ _ h
 have hz:∀ i,W.frozen? ⟨B,i,none⟩=false:=fun i=>by simp [World.frozen?,h]
 exact ⟨⟨x0,x1,x2,x3,x4,hc 0,hc 1,hc 2,hc 3,hc 4⟩,hz 0,hz 1,hz 2,hz 3,hz 4⟩
def put5 (W:World) (B:Nat) (a b c d e:Value):World:=((((W.setCell ⟨B,0,none⟩ a).setCell ⟨B,1,none⟩ b).setCell ⟨B,2,none⟩ c).setCell ⟨B,3,none⟩ d).setCell ⟨B,4,none⟩ e
theorem put5_size (W:World) (B:Nat) (a b c d e:Value):(put5 W B a b c d e).heap.size=W.heap.size:=by
 unfold put5
 simp only [World.size_setCell]
theorem put5_block (W:World) (B:Nat) (a b c d e:Value) (k:Nat) (h:k≠B):(put5 W B a b c d e).heap[k]? = W.heap[k]?:=by
 unfold put5
 rw [Below.heap_setCell _ _ _ k h,Below.heap_setCell _ _ _ k h,Below.heap_setCell _ _ _ k h,Below.heap_setCell _ _ _ k h,Below.heap_setCell _ _ _ k h]
theorem put5_below {W W0:World} {B n:Nat} (a b c d e:Value) (h:Below n W0 W) (hB:n≤B):Below n W0 (put5 W B a b c d e) :=
 ((((h.setCell (p:=⟨B,0,none⟩) hB a).setCell (p:=⟨B,1,none⟩) hB b).setCell (p:=⟨B,2,none⟩) hB c).setCell (p:=⟨B,3,none⟩) hB d).setCell (p:=⟨B,4,none⟩) hB e
theorem put5_b5 {W:World} {B:Nat} (a b c d e:Value) (h:B5 W B):(put5 W B a b c d e).heap[B]? = some (.cells #[a,b,c,d,e] 48 (0,0)):=by
 obtain ⟨x0,x1,x2,x3,x4,h⟩:=h
 have h1:=heap_setC W B _ _ h 0 a
 have h2:=heap_setC _ B _ _ h1 1 b
 have h3:=heap_setC _ B _ _ h2 2 c
 have h4:=heap_setC _ B _ _ h3 3 d
 exact heap_setC _ B _ _ h4 4 e
theorem sizeN:(Tryz.prog.info? 48).map (·.size)=some 5:=by kernel_rfl
theorem ret_node {fn : Func} {p : Tmp} {Q : Ending → World → Prop} {tmps : Array Value} {w1 : World} {B : Nat} {a b c d e : Value} (hf : fn.results = #[.cell p 48]) (hp : tmps.getD p undef = .pointer (some ⟨B, 0, none⟩))
  (h5:B5 w1 B) (hQ:Q (.returned (.agg #[a,b,c,d,e])) (put5 w1 B a b c d e)) :
  bodyPost Tryz.prog fn Q .ret { tmps:=tmps,defers:=[] } (((((w1.setCell ⟨B,0,none⟩ a).setCell ⟨B,1,none⟩ b).setCell ⟨B,2,none⟩ c).setCell ⟨B,3,none⟩ d).setCell ⟨B,4,none⟩ e) :=
 bodyPost_ret (results_cell_row hf tmps _ B _ #[a,b,c,d,e] (0,0) _ hp (put5_b5 a b c d e h5) Tryz.underlying48 rfl sizeN) rfl hQ
end Go.Proofs.YtioahgklplbinaaGreatDoor
namespace Go.Proofs.YtioahgklplbinaaGreatDoor.U
open Go.RowKit Go.Shelf UtfM
def Bytes (n₀:Nat) (W:World) (A:Option Addr) (l:List Int):Prop :=
 IsBytes l∧(l≠[]→∃ b off,A=some ⟨b,off,none⟩∧b < n₀∧∀ j (h:j < l.length),W.cell? ⟨b,off+j,none⟩=some (.int .u8 l[j]))
theorem Bytes.below {n₀:Nat} {V W:World} (h:Below n₀ V W) {A:Option Addr} {l:List Int} (hs:Bytes n₀ V A l):Bytes n₀ W A l:=⟨hs.1,fun hl=>by
 obtain ⟨b,off,e,hb,hc⟩:=hs.2 hl
 exact ⟨b,off,e,hb,fun j hj=>(h.cell (p:=⟨b,off+j,none⟩) hb).trans (hc j hj)⟩⟩
theorem Bytes.mono {n₀ n₁:Nat} {W:World} {A:Option Addr} {l:List Int} (hs:Bytes n₀ W A l) (h:n₀≤n₁):Bytes n₁ W A l:=⟨hs.1,fun hl=>by
 obtain ⟨b,off,e,hb,hc⟩:=hs.2 hl
 exact ⟨b,off,e,by omega,hc⟩⟩
theorem Bytes.nil {n₀:Nat} {W:World} {A:Option Addr}:Bytes n₀ W A []:=⟨IsBytes.nil,fun h=>absurd rfl h⟩
def By (W:World) (A:Option Addr) (l:List Int):Prop:=Bytes W.heap.size W A l
theorem By.step {W W':World} {A:Option Addr} {l:List Int} (h:By W A l) (hb:Below W.heap.size W W'):By W' A l:=(Bytes.below hb h).mono hb.size
theorem By.nil {W:World} {A:Option Addr}:By W A []:=Bytes.nil
theorem By.drop {W:World} {b off:Nat} {l:List Int} (h:By W (some ⟨b,off,none⟩) l) (k:Nat):By W (some ⟨b,off+k,none⟩) (l.drop k):=⟨h.1.drop k,fun hne=>by
 obtain ⟨b',off',e,hb,hc⟩:=h.2 (by intro h0;rw [h0] at hne;simp at hne)
 cases e
 refine ⟨b,off+k,rfl,hb,fun j hj=>?_⟩
 rw [List.length_drop] at hj
 have:=hc (k+j) (by omega)
 rw [show off+k+j=off+(k+j) from by omega,this,List.getElem_drop]⟩
end Go.Proofs.YtioahgklplbinaaGreatDoor.U
namespace Go.Proofs.YtioahgklplbinaaGreatDoor.U
open Go.RowKit Go.Shelf UtfM
def EncPost (w:World) (r:Int) (e:Ending) (w':World):Prop :=
 ∃ P c,e=.returned (.slice P (enc r).length c)∧By w' P (enc r)∧(enc r).length≤c∧c≤4∧(P=none→c=0)∧(enc r=[]→P=none)∧Below w.heap.size w w'
def EncNew (w:World) (r:Int) (e:Ending) (w':World):Prop :=
 ∃ P c,e=.returned (.slice P (enc r).length c)∧By w' P (enc r)∧(enc r).length≤c∧c≤4∧(P=none→c=0)∧(enc r=[]→P=none)∧(∀ a,P=some a→w.heap.size≤a.block)∧Below w.heap.size w w'
theorem by_new (w:World) (t:TypeId) (l:List Int) (hl:IsBytes l):By (w.alloc (.cells (l.map (Value.int .u8)).toArray t)) (some ⟨w.heap.size,0,none⟩) l :=
 ⟨hl,fun _=>⟨w.heap.size,0,rfl,by rw [World.size_alloc];omega,fun j hj=>by
  rw [cell_of_row _ w.heap.size _ _ _ _ (heap_alloc_new w _)]
  simp [hj]⟩⟩
theorem enc_shut (w : World) (r : Int) (l : List Int) (n : Nat) (h : enc r = l) (hn : l.length = n) (hn4 : n ≤ 4) (hne : 0 < n) (C : Array Value) (hC : C = (l.map (Value.int .u8)).toArray) :
  EncNew w r (.returned (.slice (some ⟨w.heap.size,0,none⟩) n n)) (w.alloc (.cells C 5)):=by
 subst hn hC
 refine ⟨_,_,by rw [h],by rw [h];exact by_new w _ l (by rw [← h];exact enc_bytes r),by rw [h];exact Nat.le_refl _,hn4,(fun h=>by cases h),(fun h0=>by rw [h] at h0;subst h0;exact absurd hne (by simp)),(fun a ha=>by cases ha;exact Nat.le_refl _),(Below.refl _ _).alloc (Nat.le_refl _) _⟩
end Go.Proofs.YtioahgklplbinaaGreatDoor.U
namespace Go.Proofs.YtioahgklplbinaaGreatDoor.U
open Go.RowKit Go.Shelf UtfM
def decV (l:List Int):Value:= .tuple #[.int .i64 (dec l).1,.int .i64 ((dec l).2:Int)]
def DecPost (w:World) (l:List Int) (e:Ending) (w':World):Prop:=e=.returned (decV l)∧Below w.heap.size w w'
def DecAt (l:List Int) (s:Shape) (k:Nat) (r:Int):Prop :=
 dec l=goOn (s.more - k) (if k=0 then s.lo else 128) (if k=0 then s.hi else 191) r (k+1) (l.drop (k+1))∧0≤r∧r < 128*64 ^ k
theorem DecAt.start {a:Int} {t:List Int} {s:Shape} (h:lead a=some s) (ha:0≤a):DecAt (a::t) s 0 s.bits:=by
 refine ⟨by rw [dec_some h];simp,(lead_in h ha).1,?_⟩
 have:=(lead_in h ha).2.1
 simp;omega
theorem DecAt.done {l:List Int} {s:Shape} {k:Nat} {r:Int} (h:DecAt l s k r) (hk:k=s.more):dec l=(r,k+1):=by
 rw [h.1,hk,Nat.sub_self,goOn_zero]
theorem DecAt.short {l:List Int} {s:Shape} {k:Nat} {r:Int} (h:DecAt l s k r) (hk:k < s.more) (hl:l.length=k+1):dec l=(-1,k+1):=by
 obtain ⟨m,hm⟩:∃ m,s.more - k=m+1:=⟨s.more - k - 1,by omega⟩
 rw [h.1,hm,show l.drop (k+1)=[] from List.drop_eq_nil_of_le (by omega),goOn_end]
theorem drop_cons {l:List Int} {k:Nat} (h:k < l.length):l.drop k=l[k]::l.drop (k+1):=by
 rw [← List.getElem_cons_drop h]
theorem DecAt.bad {l:List Int} {s:Shape} {k:Nat} {r:Int} (h:DecAt l s k r) (hk:k < s.more) (hl:k+1 < l.length) (hc:¬ ((if k=0 then s.lo else 128)≤l[k+1]∧l[k+1]≤(if k=0 then s.hi else 191))):dec l=(-1,k+1):=by
 obtain ⟨m,hm⟩:∃ m,s.more - k=m+1:=⟨s.more - k - 1,by omega⟩
 rw [h.1,hm,drop_cons hl,goOn_no (by omega)]
theorem DecAt.next {l:List Int} {s:Shape} {k:Nat} {r:Int} (h:DecAt l s k r) (hk:k < s.more) (hl:k+1 < l.length) (hc:(if k=0 then s.lo else 128)≤l[k+1]∧l[k+1]≤(if k=0 then s.hi else 191)) (h8:128≤l[k+1]∧l[k+1]≤191):DecAt l s (k+1) (r*64+(l[k+1] - 128)):=by
 obtain ⟨m,hm⟩:∃ m,s.more - k=m+1:=⟨s.more - k - 1,by omega⟩
 refine ⟨?_,?_,?_⟩
 ·rw [h.1,hm,drop_cons hl,goOn_yes hc.1 hc.2,show s.more - (k+1)=m from by omega];simp
 ·have:=h.2.1;omega
 ·have:=h.2.2;rw [Int.pow_succ];omega
theorem dec_shut {w w':World} {l:List Int} {r m:Int} {n:Nat} (h:dec l=(r,n)) (hm:m=(n:Int)) (hb:Below w.heap.size w w'):DecPost w l (.returned (.tuple #[.int .i64 r,.int .i64 m])) w':=by
 subst hm
 refine ⟨?_,hb⟩
 rw [decV,h]
theorem below_drewN {n₀:Nat} {w w':World} (hb:Below n₀ w w') (k:Nat):Below n₀ w (w'.drewN k):=⟨hb.os,hb.tape,hb.output,hb.size,hb.block⟩
def takeB (s:Shape) (k:Nat) (c:Int):Bool:=decide ((if k=0 then s.lo else 128)≤c∧c≤(if k=0 then s.hi else 191))
end Go.Proofs.YtioahgklplbinaaGreatDoor.U
namespace Go.Proofs.YtioahgklplbinaaGreatDoor.U
open Go.RowKit Go.Shelf UtfM
def encC (c:Ch):List Value:=[.int .i64 c.1,.int .i64 (c.2.1:Int),.int .i64 (c.2.2:Int)]
def cellsC (l:List Ch):List Value:=l.flatMap encC
theorem cellsC_append (a b:List Ch):cellsC (a++b)=cellsC a++cellsC b:=by simp [cellsC]
theorem infoC:(Tryz.prog.info? 139).map (fun i=>(i.zero,i.size,i.bytes))=some (some (.agg #[.int .i64 0,.int .i64 0,.int .i64 0]),3,24):=by kernel_rfl
theorem cell_news (w:World) (l:List Value) (t:TypeId):∀ j u,l[j]? = some u→(w.alloc (.cells l.toArray t)).cell? ((⟨w.heap.size,0,none⟩:Addr).add j)=some u:=by
 intro j u hj
 have:((⟨w.heap.size,0,none⟩:Addr).add j)=⟨w.heap.size,j,none⟩:=by unfold Addr.add;split <;> simp_all
 rw [this,cell_of_row _ w.heap.size j l.toArray t (0,0) (heap_alloc_new w _)]
 simpa using hj
theorem cellsC_get : ∀ (l : List Ch) (j : Nat), j < l.length * 3 → (cellsC l)[j]? = (encC (l[j / 3]?.getD default))[j % 3]?
 | [],j,h=>by simp at h
 | m::t,j,h=>by
  have e:cellsC (m::t)=encC m++cellsC t:=rfl
  rw [e]
  by_cases hj:j < 3
  ·rw [List.getElem?_append_left (by simpa [encC] using hj),Nat.div_eq_of_lt hj,Nat.mod_eq_of_lt hj];simp
  ·rw [List.getElem?_append_right (by simp [encC]; omega)]
   have h3:(encC m).length=3:=rfl
   rw [h3,cellsC_get t (j - 3) (by simp at h;omega),show j / 3=(j - 3) / 3+1 from by omega,show (j - 3) % 3=j % 3 from by omega]
   simp
def Cs (W:World) (P:Option Addr) (l:List Ch):Prop :=
 l≠[]→∃ b off,P=some ⟨b,off,none⟩∧b < W.heap.size∧∀ j (h:j < l.length),W.cell? ⟨b,off+j*3,none⟩=some (.int .i64 l[j].1)∧W.cell? ⟨b,off+j*3+1,none⟩=some (.int .i64 (l[j].2.1:Int))∧W.cell? ⟨b,off+j*3+2,none⟩=some (.int .i64 (l[j].2.2:Int))
theorem chars_of {W:World} {base:Nat} {v:Value} {l:List Ch} (h:W.ownsRow base 139 3 v l.length (cellsC l)):∃ P c,v=.slice P l.length c∧Cs W P l:=by
 rcases h.2 with ⟨rfl,h0⟩ | ⟨g,cap,cur,rfl,hb,hg,h1,h2,h3,h4⟩
 ·exact ⟨none,0,by rw [h0],fun hne=>absurd (List.eq_nil_of_length_eq_zero h0) hne⟩
 ·refine ⟨_, cap, rfl, fun _ => ⟨g, 0, rfl, (Array.getElem?_eq_some_iff.1 hg).1, fun j hj => ?_⟩⟩
  have key:∀ i,i < l.length*3→W.cell? ⟨g,i,none⟩=(cellsC l)[i]?:=fun i hi=>by
   rw [cell_of_row W g i cur _ _ hg,← h4,List.getElem?_take_of_lt hi,Array.getElem?_toList]
  have hd:∀ i,i < 3→W.cell? ⟨g,0+j*3+i,none⟩=(encC l[j])[i]?:=fun i hi=>by
   rw [key _ (by omega),cellsC_get l _ (by omega),show (0+j*3+i) / 3=j from by omega,show (0+j*3+i) % 3=i from by omega,List.getElem?_eq_getElem hj];rfl
  exact ⟨hd 0 (by omega),hd 1 (by omega),hd 2 (by omega)⟩
def CharsPost (w:World) (l:List Int) (e:Ending) (w':World):Prop :=
 ∃ P c,e=.returned (.slice P (chars 0 l).length c)∧Cs w' P (chars 0 l)∧Below w.heap.size w w'
theorem own_below {W W':World} {base:Nat} {t:TypeId} {size n:Nat} {v:Value} {xs:List Value} (h:W.ownsRow base t size v n xs) (hb:Below W.heap.size W W'):W'.ownsRow base t size v n xs:=by
 obtain ⟨h0,h⟩:=h
 refine ⟨h0,?_⟩
 rcases h with h | ⟨g,cap,cur,e,hbase,hg,h1,h2,h3,h4⟩
 ·exact .inl h
 ·exact .inr ⟨g,cap,cur,e,hbase,(hb.block g (Array.getElem?_eq_some_iff.1 hg).1).trans hg,h1,h2,h3,h4⟩
end Go.Proofs.YtioahgklplbinaaGreatDoor.U
