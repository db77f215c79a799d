/- GSort, GTags, GPub, GLong, GLg, GKnown, in one text. -/
import Derived.Test.YtioahgklplbinaaGreatDoorGA
import Derived.Test.YtioahgklplbinaaGreatDoorGShelf
import Derived.Lib.OwnBridge
import Derived.Sort.Grow
import Derived.Test.YtioahgklplbinaaGreatDoorGB
import Derived.Test.YtioahgklplbinaaGreatDoorNSa
import Derived.Deep.RegionHeld3
import Derived.RegionTactic
import Derived.BigQuiet
/- slices.Sort and slices.Compact of ints, at a row of the call's own: what comes out rises. -/
namespace SimM
open SetM NfaM Go.Lib
theorem comp_mem (zs : List Int) : ∀ m, m ≤ zs.length → ∀ x, x ∈ compactUpTo zs.toArray m ↔ x ∈ zs.take m
 | 0,_,x=>by simp [compactUpTo]
 | m+1,h,x=>by
  have ih:=comp_mem zs m (by omega)
  have e:zs.toArray[m]! = zs[m]:=by simp [getElem!_pos,show m < zs.length by omega]
  rw [compactUpTo_succ,List.take_succ_eq_append_getElem (by omega),List.mem_append,List.mem_append,ih,e]
  by_cases hk:keeps zs.toArray m=true
  ·rw [if_pos hk]
  ·rw [if_neg hk]
   have h0:m≠0∧zs.toArray[m]! = zs.toArray[m - 1]!:=by
    simp only [keeps,decide_eq_true_eq] at hk
    exact ⟨fun h=>hk (.inl h),Classical.byContradiction (fun h=>hk (.inr h))⟩
   have e2:zs.toArray[m - 1]! = zs[m - 1]'(by omega):=by simp [getElem!_pos,show m - 1 < zs.length by omega]
   rw [e,e2] at h0
   constructor
   ·rintro (h | h)
    ·exact .inl h
    ·cases h
   ·rintro (h | h)
    ·exact .inl h
    ·left
     simp at h
     rw [h,h0.2]
     have:zs[m - 1]'(by omega)∈zs.take m:=List.mem_take_iff_getElem.2 ⟨m - 1,by omega,rfl⟩
     exact this
theorem comp_rise (zs : List Int) (hs : zs.Pairwise (· ≤ ·)) : ∀ m, m ≤ zs.length → (compactUpTo zs.toArray m).Pairwise (· < ·)
 | 0,_=>by simp [compactUpTo]
 | m+1,h=>by
  have ih:=comp_rise zs hs m (by omega)
  have e:zs.toArray[m]! = zs[m]:=by simp [getElem!_pos,show m < zs.length by omega]
  rw [compactUpTo_succ,e]
  by_cases hk:keeps zs.toArray m=true
  ·rw [if_pos hk, List.pairwise_append]
   refine ⟨ih,by simp,fun a ha b hb=>?_⟩
   simp at hb
   subst hb
   have ha':=(comp_mem zs m (by omega) a).1 ha
   obtain ⟨j,hj,rfl⟩:=List.mem_take_iff_getElem.1 ha'
   have hjm:j < m:=by omega
   have h1:zs[j]≤zs[m - 1]'(by omega):=by
    by_cases e3:j=m - 1
    ·subst e3;exact Int.le_refl _
    ·exact List.pairwise_iff_getElem.1 hs j (m - 1) (by omega) (by omega) (by omega)
   have h2:zs[m - 1]'(by omega)≤zs[m]:=List.pairwise_iff_getElem.1 hs (m - 1) m (by omega) (by omega) (by omega)
   have h3:zs[m - 1]'(by omega)≠zs[m]:=fun h3=>by
    have h0:m=0∨zs.toArray[m]!≠zs.toArray[m - 1]!:=by simpa only [keeps,decide_eq_true_eq] using hk
    have e2:zs.toArray[m - 1]! = zs[m - 1]'(by omega):=by simp [getElem!_pos,show m - 1 < zs.length by omega]
    rw [e,e2] at h0
    rcases h0 with h0 | h0
    ·omega
    ·exact h0 h3.symm
   omega
  ·rw [if_neg hk, List.append_nil]
   exact ih
noncomputable def sortF (l:List Int):List Int:=l.mergeSort (fun x y=>decide (x≤y))
theorem sort_len (l:List Int):(sortF l).length=l.length:=List.length_mergeSort l
theorem sort_up (l:List Int):(sortF l).Pairwise (·≤·):=by
 have:=List.pairwise_mergeSort (le:=fun x y:Int=>decide (x≤y)) (fun a b c=>by simp;omega) (fun a b=>by simp;omega) l
 exact this.imp (fun h=>by simpa using h)
theorem sort_mem (l:List Int) (x:Int):x∈sortF l↔x∈l:=List.mem_mergeSort
noncomputable def tgsF (l:List Int):List Int:=compact (sortF l)
theorem tgs_mem (l:List Int) (x:Int):x∈tgsF l↔x∈l:=by
 unfold tgsF compact
 rw [comp_mem _ _ (Nat.le_refl _),List.take_length,sort_mem]
theorem tgs_rise (l:List Int):(tgsF l).Pairwise (· < ·):=comp_rise _ (sort_up l) _ (Nat.le_refl _)
theorem compUp_le (d:Array Int) (m:Nat):(compactUpTo d m).length≤m:=by
 unfold compactUpTo
 rw [List.length_map]
 have:=List.length_filter_le (keeps d) (List.range m)
 rw [List.length_range] at this
 exact this
theorem tgs_le (l:List Int):(tgsF l).length≤l.length:=by
 unfold tgsF compact
 have:=compUp_le (sortF l).toArray (sortF l).length
 rw [sort_len] at this
 rw [sort_len]
 exact this
end SimM
namespace Go.Proofs.YtioahgklplbinaaGreatDoor
open Go.RowKit Go.Shelf Go.Sort SetM NfaM SimM
theorem grow_own {W:World} {base:Nat} {v:Value} {n:Nat} {xs:List Value} {e:TypeId} (h:W.ownsRow base e 1 v n xs) (os:Array Obj):(grow W os).ownsRow base e 1 v n xs :=
 h.kept (row:=none) ⟨rfl,rfl,rfl,by rw [size_grow];omega,fun k hk _=>heap_grow_old W os hk⟩ (by cases v.ownBlock <;> simp)
theorem grown_put {W:World} {q g:Nat} {d:Array Int} (os:Array Obj):W.grownBy (grow (putRow (Value.int .i64) (Sort.ahead W q) g 0 d) os) (some g) :=
 ⟨rfl,rfl,rfl,by simp [putRow,mapBlock,Sort.ahead,grow],fun k hk hne=>by
  rw [heap_grow_old _ _ (by simpa [putRow,mapBlock,Sort.ahead] using hk)]
  have:g≠k:=fun e=>hne (by rw [e])
  simp [putRow,mapBlock,Sort.ahead,Array.getElem?_modify,this]⟩
theorem sort_c {W : World} {base g cap : Nat} {l : List Int} (h : OwI W base (.slice (some ⟨g, 0, none⟩) l.length cap) l) (h8 : l.length ≤ 1000000) :
  Calls Tryz.prog 74 #[.slice (some ⟨g,0,none⟩) l.length cap] W fun e W'=>e=.returned (.tuple #[])∧OwI W' base (.slice (some ⟨g,0,none⟩) (sortF l).length cap) (sortF l)∧W.grownBy W' (some g):=by
 obtain ⟨g',cap',e1,hb,hg,hc,hm,hl,hH⟩:=Lib.holds_of_ownsRow h (by simp)
 simp only [Value.slice.injEq,Option.some.injEq,Addr.mk.injEq,and_true,true_and] at e1
 obtain ⟨rfl,rfl⟩:=e1
 refine (Any.slices_Sort_int Tryz.laysSort g 0 cap l W hH hg (by omega)).mono ?_
 rintro e W' ⟨rfl,n,os,rfl⟩
 refine ⟨rfl,?_,grown_put os⟩
 have:=Lib.ownsRow_putRow (q:=n) (k:=l.length) (ys:=sortF l) h (sort_len l) (Nat.le_refl _)
 rw [show (sortF l).take l.length=sortF l by rw [← sort_len l];exact List.take_length] at this
 unfold OwI
 rw [sort_len]
 exact grow_own this os
theorem comp_c {W : World} {base g cap : Nat} {l : List Int} (h : OwI W base (.slice (some ⟨g, 0, none⟩) l.length cap) l) (h8 : l.length ≤ 1000000) :
  Calls Tryz.prog 75 #[.slice (some ⟨g,0,none⟩) l.length cap] W fun e W'=>e=.returned (.slice (some ⟨g,0,none⟩) (Lib.compact l).length cap)∧OwI W' base (.slice (some ⟨g,0,none⟩) (Lib.compact l).length cap) (Lib.compact l)∧W.grownBy W' (some g):=by
 obtain ⟨g',cap',e1,hb,hg,hc,hm,hl,hH⟩:=Lib.holds_of_ownsRow h (by simp)
 simp only [Value.slice.injEq,Option.some.injEq,Addr.mk.injEq,and_true,true_and] at e1
 obtain ⟨rfl,rfl⟩:=e1
 refine (Any.slices_Compact_int Tryz.laysComp g 0 cap l W hH (by omega) hc).mono ?_
 rintro e W' ⟨rfl,q,rfl⟩
 have hle:(Lib.compact l).length≤l.length:=by unfold Lib.compact;exact compUp_le _ _
 refine ⟨rfl,?_,?_⟩
 ·have := Lib.ownsRow_putRow (q := q) (k := (Lib.compact l).length) (ys := Lib.compact l ++ List.replicate (l.length - (Lib.compact l).length) 0) h (by simp; omega) hle
  rw [List.take_left] at this
  exact this
 ·have := grown_put (W := W) (q := q) (g := g) (d := (Lib.compact l ++ List.replicate (l.length - (Lib.compact l).length) 0).toArray) #[]
  rw [grow_empty] at this
  exact this
theorem sorti_any {W : World} {base : Nat} {v : Value} {l : List Int} (h : OwI W base v l) (h8 : l.length ≤ 1000000) :
  Calls Tryz.prog 74 #[v] W fun e W'=>e=.returned (.tuple #[])∧OwI W' base v (sortF l)∧W.grownBy W' v.ownBlock:=by
 rcases h.2 with ⟨rfl,h0⟩ | ⟨g,cap,cur,rfl,_⟩
 ·obtain rfl : l = [] := List.eq_nil_of_length_eq_zero h0
  refine (Any.slices_Sort_int_none Tryz.laysSort none 0 W).mono ?_
  rintro e W' ⟨rfl,rfl⟩
  have e1:sortF []=[]:=List.eq_nil_of_length_eq_zero (sort_len [])
  rw [e1]
  exact ⟨rfl,h,grown_refl' _ _⟩
 ·refine (sort_c h h8).mono ?_
  rintro e W' ⟨rfl,h1,h2⟩
  rw [sort_len] at h1
  exact ⟨rfl,h1,h2⟩
theorem comp_any {W : World} {base : Nat} {v : Value} {l : List Int} (h : OwI W base v l) (h8 : l.length ≤ 1000000) :
  Calls Tryz.prog 75 #[v] W fun e W'=>∃ v',e=.returned v'∧OwI W' base v' (Lib.compact l)∧W.grownBy W' v.ownBlock:=by
 rcases h.2 with ⟨rfl,h0⟩ | ⟨g,cap,cur,rfl,_⟩
 ·obtain rfl : l = [] := List.eq_nil_of_length_eq_zero h0
  refine (Any.slices_Compact_int_empty Tryz.laysComp none 0 W).mono ?_
  rintro e W' ⟨rfl,rfl⟩
  exact ⟨_,rfl,h,grown_refl' _ _⟩
 ·refine (comp_c h h8).mono ?_
  rintro e W' ⟨rfl,h1,h2⟩
  exact ⟨_,rfl,h1,h2⟩
end Go.Proofs.YtioahgklplbinaaGreatDoor

/- The program's tags of states. -/
namespace SimM
open SetM NfaM
def tgL (m:Mc) (L:List Int):List Int:=(L.map (fun x=>m.tg.getD x.toNat (-1))).filter (fun t=>decide (0≤t))
theorem tgl_yes (m:Mc) (L:List Int) (k:Nat) (h:0≤m.tg.getD k (-1)):tgL m (L++[(k:Int)])=tgL m L++[m.tg.getD k (-1)]:=by
 unfold tgL
 rw [List.map_append,List.filter_append]
 simp only [List.map_cons,List.map_nil,Int.toNat_natCast]
 congr 1
 rw [List.filter_cons,if_pos (decide_eq_true h),List.filter_nil]
theorem tgl_no (m:Mc) (L:List Int) (k:Nat) (h:¬ 0≤m.tg.getD k (-1)):tgL m (L++[(k:Int)])=tgL m L:=by
 unfold tgL
 rw [List.map_append,List.filter_append]
 simp only [List.map_cons,List.map_nil,Int.toNat_natCast]
 rw [List.filter_cons,if_neg (by rw [decide_eq_false h];decide),List.filter_nil,List.append_nil]
theorem tgl_len (m:Mc) (L:List Int):(tgL m L).length≤L.length:=by
 unfold tgL
 have:=List.length_filter_le (fun t:Int=>decide (0≤t)) (L.map (fun x=>m.tg.getD x.toNat (-1)))
 rw [List.length_map] at this
 exact this
theorem tgl_is (m:Mc) (at_:List Int):IsTags m at_ (tgsF (tgL m (stL m.tg.length (Inn m.tg.length at_)))):=by
 refine ⟨tgs_rise _,fun t=>?_⟩
 rw [tgs_mem]
 unfold tgL TgP
 rw [List.mem_filter,List.mem_map]
 constructor
 ·rintro ⟨⟨x, hx, rfl⟩, h2⟩
  obtain ⟨k,h3,h4,rfl⟩:=mem_stL.1 hx
  exact ⟨by simpa using h2,k,h4,by simp⟩
 ·rintro ⟨h0, k, h1, rfl⟩
  exact ⟨⟨(k:Int),mem_stL.2 ⟨k,h1.1,h1,rfl⟩,by simp⟩,by simpa using h0⟩
end SimM
namespace Go.Proofs.YtioahgklplbinaaGreatDoor
open Go.RowKit Go.Shelf SetM NfaM SimM
set_option maxRecDepth 100000 in
set_option maxHeartbeats 16000000 in
theorem tags_c {W : World} {p0 p1 p2 P : Option Addr} {n0 n1 k c0 c1 c2 n c : Nat} {m : Mc} {l : List Int} (hm : MR W p0 p1 p2 m) (hk8 : k ≤ 100000) (hk : k = m.tg.length) (hl : InR W P l) (hn : n = l.length) (h8 : n ≤ 9223372036854775807) :
  Calls Tryz.prog 45 #[.agg #[.slice p0 n0 c0,.slice p1 n1 c1,.slice p2 k c2],.slice P n c] W fun e W'=>∃ v o,e=.returned v∧OwI W' W.heap.size v o∧o.length≤100000∧IsTags m l o∧Below W.heap.size W W':=by
 obtain ⟨i0,hi,hz0,hz1,hz2⟩:=info_parts infoIn
 obtain ⟨V,hV⟩:∃ V,V=W.alloc (.cells #[.slice p0 n0 c0,.slice p1 n1 c1,.slice p2 k c2] 29):=⟨_,rfl⟩
 have hb:Below W.heap.size W V:=by rw [hV];exact (Below.refl _ _).alloc (Nat.le_refl _) _
 have x0:V.heap[W.heap.size]? = some (.cells #[.slice p0 n0 c0,.slice p1 n1 c1,.slice p2 k c2] 29 (0,0)):=by rw [hV];exact heap_alloc_new W _
 obtain ⟨⟨a0,a1,a2⟩,_⟩:=cells3 x0
 have HMK:=Lib.hid (marked_c (W:=V) (p0:=p0) (p1:=p1) (p2:=p2) (n0:=n0) (n1:=n1) (c0:=c0) (c1:=c1) (c2:=c2) (c:=c) (InR.step hl hb) hn h8 hk8)
 have HMV:=Lib.hid (hm.step hb)
 have HBV:=Lib.hid hb
 have HX:=Lib.hid x0
 have HLT:=Lib.hid (Array.getElem?_eq_some_iff.1 x0).1
 have HK:=Lib.hid hk
 clear hm hk hb x0 hl hn h8
 go_enter Tryz.func45,Tryz.ntmps45
 go_upto_region 1 with fail
 rw [← hV]
 clear hV
 go_wp2_with fail
 refine HMK.out.mono ?_
 rintro e w2 ⟨g2,rfl,hM2,b2⟩
 have HST:=Lib.hid (states_c hM2 hk8)
 have HB2:=Lib.hid b2
 clear a0 a1 a2 hM2 b2 HMK
 go_wp2_with fail
 refine HST.out.mono ?_
 rintro e w3 ⟨v,rfl,hO,b3⟩
 obtain ⟨Q,cq,rfl,hIn,_,_,_⟩:=hO.form
 have HB3:=Lib.hid (HB2.out.trans (b3.mono HB2.out.size))
 obtain ⟨F,hF⟩:∃ F,F=stL k (Inn k l):=⟨_,rfl⟩
 rw [← hF] at hIn
 rw [← hF]
 have hmm:∀ x∈F,0≤x∧x < (k:Int):=by
  rw [hF]
  intro x hx
  obtain ⟨j,h2,_,h3⟩:=mem_stL.1 hx
  omega
 have HFL:Hid (∀ r (h:r < F.length),0≤F[r]∧F[r] < (k:Int)):=Lib.hid (fun r h=>hmm _ (List.getElem_mem h))
 have HIN:=Lib.hid hIn
 obtain ⟨fl,hfl⟩:∃ fl,fl=F.length:=⟨_,rfl⟩
 rw [← hfl]
 have HFN:=Lib.hid hfl
 have HF:=Lib.hid hF
 have hf8:fl≤100000:=by rw [hfl,hF];have:=stL_len k (Inn k l);omega
 have HTL:Hid (∀ r,(tgL m (F.take r)).length≤100000):=Lib.hid (fun r=>by
  have h1:=tgl_len m (F.take r)
  have h2:(F.take r).length≤F.length:=by rw [List.length_take];omega
  omega)
 clear hO b3 hIn hfl hF HST hmm
 go_wp2_with fail
 go_loopg [5,14] fl (fun gk s5 s14 wx=>∃ (q:Nat) (v:Value),q+gk=fl∧s14=.int .i64 q∧v=s5∧Hid (OwI wx w3.heap.size v (tgL m (F.take q)))∧Hid (Below w3.heap.size w3 wx))
 case atStart=>exact ⟨0,_,by omega,rfl,rfl,Lib.hid (OwI.nil _ _),Lib.hid (Below.refl _ _)⟩
 case round =>
  obtain ⟨q,v5,hqg,rfl,rfl,HO,HW⟩:=hrel
  cases gk with
  | zero =>
   obtain rfl:q=fl:=by omega
   have hlt:¬ (q:Int) < (q:Int):=by omega
   have h8:(tgL m (F.take q)).length≤100000:=HTL.out q
   have HS:=Lib.hid (sorti_any HO.out (by omega))
   have HSL:Hid ((sortF (tgL m (F.take q))).length≤1000000):=Lib.hid (by rw [sort_len];omega)
   have HLE:Hid ((tgsF (tgL m (F.take q))).length≤100000):=Lib.hid (Nat.le_trans (tgs_le _) h8)
   have HIS:Hid (IsTags m l (tgsF (tgL m (F.take q)))):=Lib.hid (by
    have h:=tgl_is m l
    rw [List.take_of_length_le (by have:=HFN.out;omega),HF.out,HK.out]
    exact h)
   have HOL:Hid (∀ j,v5.ownBlock=some j→w3.heap.size≤j):=Lib.hid (fun j hj=>(World.ownsRow.lt HO.out j hj).1)
   clear h8
   go_wp2_with fail
   refine HS.out.mono ?_
   rintro e w4 ⟨rfl,hO4,hg4⟩
   have HC:=Lib.hid (comp_any hO4 HSL.out)
   have HB4:=Lib.hid (HW.out.grown hg4 HW.out.size HOL.out)
   clear hO4 hg4 HS
   go_wp2_with fail
   refine HC.out.mono ?_
   rintro e w5 ⟨v',rfl,hO5,hg5⟩
   have HB5:=Lib.hid (HB4.out.grown hg5 HB4.out.size HOL.out)
   have hVW:W.heap.size≤w3.heap.size:=by have:=HBV.out.size;have:=HB3.out.size;omega
   have HE:=Lib.hid (OwI.low hO5 hVW)
   have HBE:=Lib.hid (HBV.out.trans ((HB3.out.trans (HB5.out.mono HB3.out.size)).mono HBV.out.size))
   clear hO5 hg5 hVW
   go_wp2
   go_ret
   exact ⟨_,_,rfl,HE.out,HLE.out,HIS.out,HBE.out⟩
  | succ gk =>
   have hlt:(q:Int) < (fl:Int):=by omega
   have hql:q < F.length:=by have:=HFN.out;omega
   have h0:(0:Int)≤(q:Int):=by omega
   have hwr:wrap64 ((q:Int)+1)=((q+1:Nat):Int):=by rw [IntWalk.wrap64_in _ (by omega)];omega
   obtain ⟨g5,o5,rfl,hg5,hc5⟩:=HIN.out q hql
   have hc6:=(HW.out.cell (p:=⟨g5,o5+q,none⟩) hg5).trans hc5
   clear hc5
   have hxb:=HFL.out q hql
   obtain ⟨i,hi'⟩:∃ i:Nat,F[q]=(i:Int):=⟨F[q].toNat,by omega⟩
   rw [hi'] at hc6 hxb
   have hit:i < m.tg.length:=by have:=HK.out;omega
   obtain ⟨gt,ot,rfl,hgt,hct⟩:=HMV.out.tg i hit
   have hbw:Below V.heap.size V wr:=HB3.out.trans (HW.out.mono HB3.out.size)
   have hct2:=(hbw.cell (p:=⟨gt,ot+i,none⟩) hgt).trans hct
   obtain ⟨⟨a0,a1,a2⟩,_⟩:=cells3 ((hbw.block _ HLT.out).trans HX.out)
   obtain ⟨t,ht⟩:∃ t,t=m.tg.getD i (-1):=⟨_,rfl⟩
   have hte:m.tg[i]=t:=by rw [ht];simp [List.getD,hit]
   rw [hte] at hct2
   have HTS:Hid (F.take (q+1)=F.take q++[(i:Int)]∧t=m.tg.getD i (-1)):=Lib.hid ⟨by rw [List.take_succ_eq_append_getElem hql,hi'],ht⟩
   have hi0:(0:Int)≤(i:Int):=by omega
   have hi1:(i:Int) < (k:Int):=by omega
   clear hct hgt hbw ht hte hit hg5 hxb hi' hql
   by_cases h0t:0≤t
   ·have HT2 : Hid (tgL m (F.take (q + 1)) = tgL m (F.take q) ++ [t]) := Lib.hid (by rw [HTS.out.1, HTS.out.2]; exact tgl_yes _ _ _ (by rw [← HTS.out.2]; exact h0t))
    have hown:=HO.out
    have hle:=HTL.out q
    generalize tgL m (F.take q)=L at *
    unfold OwI at hown
    have hwz:=HW.out.size
    go_wp2_with (at_builtin;refine wpList_append_own _ rfl _ _ 27 rfl w3.heap.size 3 i0 (.int .i64 0) 1 8 Tryz.underlying27 hi hz0 hz1 hz2 rfl (by decide) _ _ _ rfl (hown.alloc _) ⟨wr.heap.size,0,none⟩ 1 1 [.int .i64 t] rfl rfl (cell_news _ _ _) (by simp [Value.oneCell']) (by unfold maxLen;omega) (by omega) (by rw [World.size_alloc];omega) ?_;intro v' w2' hown' hgrow _)
    go_roundg gk
    case measure=>omega
    case rel=>exact ⟨q+1,_,by omega,by first | rw [hwr] | rfl | simp,rfl,Lib.hid (by rw [HT2.out];unfold OwI;rw [List.map_append,List.length_append];exact hown'),Lib.hid ((HW.out.alloc hwz _).grown hgrow (by rw [World.size_alloc];omega) (fun j hj=>(hown.lt j hj).1))⟩
   ·have HO2 : Hid (OwI wr w3.heap.size v5 (tgL m (F.take (q + 1)))) := Lib.hid (by rw [HTS.out.1, tgl_no _ _ _ (by rw [← HTS.out.2]; exact h0t)]; exact HO.out)
    go_wp2
    go_roundg gk
    case measure=>omega
    case rel=>exact ⟨q+1,_,by omega,by first | rw [hwr] | rfl | simp,rfl,HO2,HW⟩
end Go.Proofs.YtioahgklplbinaaGreatDoor

/- The program's Start, Step and Tags, of any machine. -/
namespace SimM
open SetM NfaM
structure Bd (m : Mc) : Prop where
 ed:∀ i < m.ed.length,(m.ed.getD i []).length≤9223372036854775807∧∀ e∈m.ed.getD i [],e.2.length≤100000
 fr:∀ i < m.fr.length,(m.fr.getD i []).length≤9223372036854775807
 wide:∀ i < m.ed.length,∀ e∈m.ed.getD i [],∀ s∈e.2,-9223372036854775808≤s.2
theorem gm_of {m:Mc} (hb:Bd m) (h:sndM m=true):Gm m:=by
 unfold sndM at h
 rw [Bool.and_eq_true,decide_eq_true_eq] at h
 obtain ⟨⟨h1,h2,h3,h4⟩,h5⟩:=h
 unfold rowsM at h5
 rw [List.all_eq_true] at h5
 have hr:∀ i,i < m.tg.length→allE m.tg.length (m.ed.getD i [])=true∧allI m.tg.length (m.fr.getD i [])=true:=fun i hi=>by
  have:=h5 i (List.mem_range.2 hi)
  unfold okR at this
  rw [Bool.and_eq_true,Bool.and_eq_true] at this
  exact this.2
 refine ⟨h1,h2,⟨fun row hrow t ht=>?_,h4,hb.fr⟩,h3,fun row hrow e he=>?_,fun i hi=>⟨(hb.ed i hi).1,fun e he=>by have:=(hb.ed i hi).2 e he;omega⟩⟩
 ·obtain ⟨i, hi, rfl⟩ := List.mem_iff_getElem.1 hrow
  have:=(hr i (by omega)).2
  rw [row_at hi] at this
  unfold allI at this
  rw [List.all_eq_true] at this
  have:=this t ht
  unfold okI at this
  simpa using this
 ·obtain ⟨i, hi, rfl⟩ := List.mem_iff_getElem.1 hrow
  have:=(hr i (by omega)).1
  rw [row_at hi] at this
  unfold allE at this
  rw [List.all_eq_true] at this
  have:=this e he
  unfold okE at this
  rw [Bool.and_eq_true,decide_eq_true_eq] at this
  exact this.1
end SimM
namespace Go.Proofs.YtioahgklplbinaaGreatDoor
open Go.RowKit Go.Shelf SetM NfaM SimM
structure MachV (W : World) (p0 p1 p2 : Option Addr) (n0 n1 k : Nat) (m : Mc) : Prop where
 mr:MR W p0 p1 p2 m
 e0:n0=m.ed.length
 e1:n1=m.fr.length
 e2:k=m.tg.length
 bd:Bd m
theorem MachV.step {W W':World} {p0 p1 p2:Option Addr} {n0 n1 k:Nat} {m:Mc} (h:MachV W p0 p1 p2 n0 n1 k m) (hb:Below W.heap.size W W'):MachV W' p0 p1 p2 n0 n1 k m:=⟨h.mr.step hb,h.e0,h.e1,h.e2,h.bd⟩
theorem MachV.sound {W:World} {p0 p1 p2:Option Addr} {n0 n1 k c0 c1 c2:Nat} {m:Mc} (h:MachV W p0 p1 p2 n0 n1 k m):Calls Tryz.prog 12 #[.agg #[.slice p0 n0 c0,.slice p1 n1 c1,.slice p2 k c2]] W fun e W'=>e=.returned (.bool (sndM m))∧Below W.heap.size W W' :=
 psound_c h.mr h.e0 h.e1 h.e2 (fun i hi=>⟨(h.bd.ed i hi).1,fun e he=>by have:=(h.bd.ed i hi).2 e he;omega⟩) h.bd.fr
set_option maxRecDepth 100000 in
set_option maxHeartbeats 8000000 in
theorem pstart_c {W : World} {p0 p1 p2 : Option Addr} {n0 n1 k c0 c1 c2 : Nat} {m : Mc} (h : MachV W p0 p1 p2 n0 n1 k m) :
  Calls Tryz.prog 39 #[.agg #[.slice p0 n0 c0,.slice p1 n1 c1,.slice p2 k c2]] W fun e W'=>∃ v o,e=.returned v∧OwI W' W.heap.size v o∧(sndM m=true→o=startF m)∧(sndM m=false→o=[])∧Below W.heap.size W W':=by
 obtain ⟨V,hV⟩:∃ V,V=W.alloc (.cells #[.slice p0 n0 c0,.slice p1 n1 c1,.slice p2 k c2] 29):=⟨_,rfl⟩
 have hb:Below W.heap.size W V:=by rw [hV];exact (Below.refl _ _).alloc (Nat.le_refl _) _
 have x0:V.heap[W.heap.size]? = some (.cells #[.slice p0 n0 c0,.slice p1 n1 c1,.slice p2 k c2] 29 (0,0)):=by rw [hV];exact heap_alloc_new W _
 obtain ⟨⟨a0,a1,a2⟩,_⟩:=cells3 x0
 have HMV:=Lib.hid (h.step hb)
 have HSN:=Lib.hid ((h.step hb).sound (c0:=c0) (c1:=c1) (c2:=c2))
 have HB:=Lib.hid hb
 have HX:=Lib.hid x0
 have HLT:=Lib.hid (Array.getElem?_eq_some_iff.1 x0).1
 clear h hb x0
 obtain ⟨q,hq⟩:∃ q,q=sndM m:=⟨_,rfl⟩
 rw [← hq] at HSN
 have HQ:Hid (sndM m=q):=Lib.hid hq.symm
 clear hq
 go_enter Tryz.func39,Tryz.ntmps39
 go_upto_region 1 with fail
 rw [← hV]
 clear hV
 go_wp2_with fail
 refine HSN.out.mono ?_
 rintro e w1 ⟨rfl,b1⟩
 have HB1:=Lib.hid (HB.out.trans (b1.mono HB.out.size))
 obtain ⟨⟨d0,d1,d2⟩,_⟩:=cells3 ((b1.block _ HLT.out).trans HX.out)
 have HM1:=Lib.hid (HMV.out.step b1)
 clear a0 a1 a2 b1 HSN
 cases q with
 | false =>
  go_wp2_with fail
  go_ret
  exact ⟨_,[],rfl,OwI.nil _ _,fun h=>by rw [HQ.out] at h;(cases h),fun _=>rfl,HB1.out⟩
 | true =>
  have hg:=gm_of HM1.out.bd HQ.out
  have HST:=Lib.hid (start_c (n0:=n0) (n1:=n1) (c0:=c0) (c1:=c1) (c2:=c2) HM1.out.mr hg HM1.out.e2 (by have:=HM1.out.e1;have:=HM1.out.e2;have:=hg.fr.2.1;omega))
  clear hg
  go_wp2_with fail
  refine HST.out.mono ?_
  rintro e w2 ⟨v,rfl,hO,b2⟩
  have HE:=Lib.hid (hO.low HB1.out.size)
  have HB2:=Lib.hid (HB1.out.trans (b2.mono HB1.out.size))
  clear hO b2 d0 d1 d2
  go_wp2_with fail
  go_ret
  exact ⟨_,_,rfl,HE.out,fun _=>rfl,fun h=>by rw [HQ.out] at h;(cases h),HB2.out⟩
set_option maxRecDepth 100000 in
set_option maxHeartbeats 8000000 in
theorem pstep_c {W : World} {p0 p1 p2 P : Option Addr} {n0 n1 k c0 c1 c2 n c : Nat} {m : Mc} {l : List Int} {r : Int} (hA : Aw W) (h : MachV W p0 p1 p2 n0 n1 k m) (hl : InR W P l) (hn : n = l.length) (h8 : n ≤ 9223372036854775807) :
  Calls Tryz.prog 40 #[.agg #[.slice p0 n0 c0,.slice p1 n1 c1,.slice p2 k c2],.slice P n c,.int .i64 r] W fun e W'=>∃ v o,e=.returned v∧OwI W' W.heap.size v o∧(sndM m=true→o=stepF m l r)∧(sndM m=false→o=[])∧Below W.heap.size W W':=by
 obtain ⟨V,hV⟩:∃ V,V=W.alloc (.cells #[.slice p0 n0 c0,.slice p1 n1 c1,.slice p2 k c2] 29):=⟨_,rfl⟩
 have hb:Below W.heap.size W V:=by rw [hV];exact (Below.refl _ _).alloc (Nat.le_refl _) _
 have x0:V.heap[W.heap.size]? = some (.cells #[.slice p0 n0 c0,.slice p1 n1 c1,.slice p2 k c2] 29 (0,0)):=by rw [hV];exact heap_alloc_new W _
 obtain ⟨⟨a0,a1,a2⟩,_⟩:=cells3 x0
 have HMV:=Lib.hid (h.step hb)
 have HSN:=Lib.hid ((h.step hb).sound (c0:=c0) (c1:=c1) (c2:=c2))
 have HB:=Lib.hid hb
 have HX:=Lib.hid x0
 have HLT:=Lib.hid (Array.getElem?_eq_some_iff.1 x0).1
 have HA:=Lib.hid (hA.step hb)
 have HL:=Lib.hid (InR.step hl hb)
 have HN:=Lib.hid (And.intro hn h8)
 clear h hb x0 hA hl hn h8
 obtain ⟨q,hq⟩:∃ q,q=sndM m:=⟨_,rfl⟩
 rw [← hq] at HSN
 have HQ:Hid (sndM m=q):=Lib.hid hq.symm
 clear hq
 go_enter Tryz.func40,Tryz.ntmps40
 go_upto_region 1 with fail
 rw [← hV]
 clear hV
 go_wp2_with fail
 refine HSN.out.mono ?_
 rintro e w1 ⟨rfl,b1⟩
 have HB1:=Lib.hid (HB.out.trans (b1.mono HB.out.size))
 obtain ⟨⟨d0,d1,d2⟩,_⟩:=cells3 ((b1.block _ HLT.out).trans HX.out)
 have HM1:=Lib.hid (HMV.out.step b1)
 have HA1:=Lib.hid (HA.out.step b1)
 have HL1:=Lib.hid (InR.step HL.out b1)
 clear a0 a1 a2 b1 HSN
 cases q with
 | false =>
  go_wp2_with fail
  go_ret
  exact ⟨_,[],rfl,OwI.nil _ _,fun h=>by rw [HQ.out] at h;(cases h),fun _=>rfl,HB1.out⟩
 | true =>
  have hg:=gm_of HM1.out.bd HQ.out
  have HST:=Lib.hid (step_c (n0:=n0) (n1:=n1) (c0:=c0) (c1:=c1) (c2:=c2) (c:=c) (r:=r) HA1.out HM1.out.mr hg HM1.out.e2 (by have:=HM1.out.e0;have:=HM1.out.e2;have:=hg.ed;omega) (by have:=HM1.out.e1;have:=HM1.out.e2;have:=hg.fr.2.1;omega) HL1.out HN.out.1 HN.out.2)
  clear hg
  go_wp2_with fail
  refine HST.out.mono ?_
  rintro e w2 ⟨v,rfl,hO,b2⟩
  have HE:=Lib.hid (hO.low HB1.out.size)
  have HB2:=Lib.hid (HB1.out.trans (b2.mono HB1.out.size))
  clear hO b2 d0 d1 d2
  go_wp2_with fail
  go_ret
  exact ⟨_,_,rfl,HE.out,fun _=>rfl,fun h=>by rw [HQ.out] at h;(cases h),HB2.out⟩
set_option maxRecDepth 100000 in
set_option maxHeartbeats 8000000 in
theorem ptags_c {W : World} {p0 p1 p2 P : Option Addr} {n0 n1 k c0 c1 c2 n c : Nat} {m : Mc} {l : List Int} (h : MachV W p0 p1 p2 n0 n1 k m) (hl : InR W P l) (hn : n = l.length) (h8 : n ≤ 9223372036854775807) :
  Calls Tryz.prog 41 #[.agg #[.slice p0 n0 c0,.slice p1 n1 c1,.slice p2 k c2],.slice P n c] W fun e W'=>∃ v o,e=.returned v∧OwI W' W.heap.size v o∧o.length≤100000∧(sndM m=true→IsTags m l o)∧(sndM m=false→o=[])∧Below W.heap.size W W':=by
 obtain ⟨V,hV⟩:∃ V,V=W.alloc (.cells #[.slice p0 n0 c0,.slice p1 n1 c1,.slice p2 k c2] 29):=⟨_,rfl⟩
 have hb:Below W.heap.size W V:=by rw [hV];exact (Below.refl _ _).alloc (Nat.le_refl _) _
 have x0:V.heap[W.heap.size]? = some (.cells #[.slice p0 n0 c0,.slice p1 n1 c1,.slice p2 k c2] 29 (0,0)):=by rw [hV];exact heap_alloc_new W _
 obtain ⟨⟨a0,a1,a2⟩,_⟩:=cells3 x0
 have HMV:=Lib.hid (h.step hb)
 have HSN:=Lib.hid ((h.step hb).sound (c0:=c0) (c1:=c1) (c2:=c2))
 have HB:=Lib.hid hb
 have HX:=Lib.hid x0
 have HLT:=Lib.hid (Array.getElem?_eq_some_iff.1 x0).1
 have HL:=Lib.hid (InR.step hl hb)
 have HN:=Lib.hid (And.intro hn h8)
 clear h hb x0 hl hn h8
 obtain ⟨q,hq⟩:∃ q,q=sndM m:=⟨_,rfl⟩
 rw [← hq] at HSN
 have HQ:Hid (sndM m=q):=Lib.hid hq.symm
 clear hq
 go_enter Tryz.func41,Tryz.ntmps41
 go_upto_region 1 with fail
 rw [← hV]
 clear hV
 go_wp2_with fail
 refine HSN.out.mono ?_
 rintro e w1 ⟨rfl,b1⟩
 have HB1:=Lib.hid (HB.out.trans (b1.mono HB.out.size))
 obtain ⟨⟨d0,d1,d2⟩,_⟩:=cells3 ((b1.block _ HLT.out).trans HX.out)
 have HM1:=Lib.hid (HMV.out.step b1)
 have HL1:=Lib.hid (InR.step HL.out b1)
 clear a0 a1 a2 b1 HSN
 cases q with
 | false =>
  go_wp2_with fail
  go_ret
  exact ⟨_,[],rfl,OwI.nil _ _,Nat.zero_le _,fun h=>by rw [HQ.out] at h;(cases h),fun _=>rfl,HB1.out⟩
 | true =>
  have hg:=gm_of HM1.out.bd HQ.out
  have HST:=Lib.hid (tags_c (n0:=n0) (n1:=n1) (c0:=c0) (c1:=c1) (c2:=c2) (c:=c) HM1.out.mr (by have:=hg.k2;have:=HM1.out.e2;omega) HM1.out.e2 HL1.out HN.out.1 HN.out.2)
  clear hg
  go_wp2_with fail
  refine HST.out.mono ?_
  rintro e w2 ⟨v,o,rfl,hO,hle,hI,b2⟩
  have HE:=Lib.hid (hO.low HB1.out.size)
  have HB2:=Lib.hid (HB1.out.trans (b2.mono HB1.out.size))
  have HLE:=Lib.hid hle
  have HI:=Lib.hid hI
  clear hO b2 d0 d1 d2 hle hI
  go_wp2_with fail
  go_ret
  exact ⟨_,_,rfl,HE.out,HLE.out,fun _=>HI.out,fun h=>by rw [HQ.out] at h;(cases h),HB2.out⟩
end Go.Proofs.YtioahgklplbinaaGreatDoor

/- Plain mathematics of machines that go: the longest front; what states together come to. Nothing of a program stands here. -/
namespace SimM
open SetM NfaM
theorem Cl.none {m:Mc} {P:Nat→Prop} (h:∀ k,¬ P k):∀ k,¬ Cl m P k:=by
 intro k hk
 induction hk with
 | base k hp=>exact h k hp
 | step _ _ _ _ ih=>exact ih
theorem step_nil (m:Mc) (r:Int):stepF m [] r=[]:=by
 unfold stepF
 rw [stL_nil]
 exact fun k _=>Cl.none (fun k ⟨i,hi,_⟩=>by cases hi.2) k
noncomputable def goF (m:Mc) (s:List Int):List Int:=s.foldl (stepF m) (startF m)
theorem go_zero (m:Mc):goF m []=startF m:=rfl
theorem go_snoc (m:Mc) (s:List Int) (r:Int):goF m (s++[r])=stepF m (goF m s) r:=by unfold goF;rw [List.foldl_append];rfl
theorem go_take (m:Mc) {s:List Int} {i:Nat} (h:i < s.length):goF m (s.take (i+1))=stepF m (goF m (s.take i)) s[i]:=by rw [List.take_succ_eq_append_getElem h,go_snoc]
theorem go_nil (m : Mc) {s : List Int} {i : Nat} (h : goF m (s.take i) = []) : ∀ d, goF m (s.take (i + d)) = []
 | 0=>h
 | d+1=>by
  by_cases hl:i+d < s.length
  ·rw [show i+(d+1)=i+d+1 by omega,go_take m hl,go_nil m h d,step_nil]
  ·rw [List.take_of_length_le (by omega), ← List.take_of_length_le (show s.length ≤ i + d by omega)]
   exact go_nil m h d
theorem no_tag (m:Mc) (t:Int):¬ TgP m [] t:=fun ⟨_,k,hk,_⟩=>by cases hk.2
structure Lng (m : Mc) (s : List Int) (i : Nat) (a b : Int) : Prop where
 lo:0≤a
 hi:a≤i
 none:a=0→b = -1
 some:0 < a→TgP m (goF m (s.take a.toNat)) b∧∀ t,TgP m (goF m (s.take a.toNat)) t→b≤t
 rest:∀ k:Nat,a < k→k≤i→∀ t,¬ TgP m (goF m (s.take k)) t
theorem Lng.zero (m:Mc) (s:List Int):Lng m s 0 0 (-1) :=
 ⟨Int.le_refl _,Int.le_refl _,fun _=>rfl,fun h=>absurd h (by decide),fun k h1 h2=>by omega⟩
theorem Lng.no {m:Mc} {s:List Int} {i:Nat} {a b:Int} (h:Lng m s i a b) (hn:∀ t,¬ TgP m (goF m (s.take (i+1))) t):Lng m s (i+1) a b :=
 ⟨h.lo,by have:=h.hi;omega,h.none,h.some,fun k h1 h2 t ht=>by
  by_cases e:k=i+1
  ·subst e;exact hn t ht
  ·exact h.rest k h1 (by omega) t ht⟩
theorem Lng.yes {m:Mc} {s:List Int} {i:Nat} {b:Int} (h1:TgP m (goF m (s.take (i+1))) b) (h2:∀ t,TgP m (goF m (s.take (i+1))) t→b≤t):Lng m s (i+1) ((i:Int)+1) b:=by
 have e:((i:Int)+1).toNat=i+1:=by omega
 exact ⟨by omega,by omega,fun h=>by omega,fun _=>by rw [e];exact ⟨h1,h2⟩,fun k h1 h2=>by omega⟩
theorem Lng.stop {m:Mc} {s:List Int} {i:Nat} {a b:Int} (h:Lng m s i a b) (hn:goF m (s.take i)=[]):Lng m s s.length a b∨s.length < i:=by
 by_cases hl:i≤s.length
 ·left
  refine ⟨h.lo,by have:=h.hi;omega,h.none,h.some,fun k h1 h2 t ht=>?_⟩
  by_cases e:k≤i
  ·exact h.rest k h1 e t ht
  ·have := go_nil m hn (k - i)
   rw [show i+(k - i)=k by omega] at this
   rw [this] at ht
   exact no_tag m t ht
 ·right;omega
theorem Lng.unique {m:Mc} {s:List Int} {i:Nat} {a b a' b':Int} (h:Lng m s i a b) (h':Lng m s i a' b'):a=a'∧b=b':=by
 have key:∀ {a b a' b':Int},Lng m s i a b→Lng m s i a' b'→a'≤a:=fun {a b a' b'} h h'=>by
  refine Int.not_lt.1 (fun hlt=>?_)
  have h1:=h.lo
  have h2:=h'.hi
  have h3:=(h'.some (by omega)).1
  exact h.rest a'.toNat (by omega) (by omega) _ h3
 have e:a=a':=Int.le_antisymm (key h' h) (key h h')
 subst e
 refine ⟨rfl,?_⟩
 by_cases h0:a=0
 ·rw [h.none h0,h'.none h0]
 ·have hp : 0 < a := by have := h.lo; omega
  exact Int.le_antisymm ((h.some hp).2 _ (h'.some hp).1) ((h'.some hp).2 _ (h.some hp).1)
end SimM

/- The program's Longest, of any machine. -/
namespace Go.Proofs.YtioahgklplbinaaGreatDoor
open Go.RowKit Go.Shelf SetM NfaM SimM
set_option maxRecDepth 100000 in
set_option maxHeartbeats 16000000 in
theorem plong_c {W : World} {p0 p1 p2 P : Option Addr} {n0 n1 k c0 c1 c2 n c : Nat} {m : Mc} {s : List Int} (hA : Aw W) (h : MachV W p0 p1 p2 n0 n1 k m) (hl : InR W P s) (hn : n = s.length) (h8 : n ≤ 9223372036854775807) :
  Calls Tryz.prog 19 #[.agg #[.slice p0 n0 c0,.slice p1 n1 c1,.slice p2 k c2],.slice P n c] W fun e W'=>∃ a b:Int,e=.returned (.tuple #[.int .i64 a,.int .i64 b])∧(sndM m=true→Lng m s s.length a b)∧(sndM m=false→a=0∧b = -1)∧Below W.heap.size W W':=by
 obtain ⟨V,hV⟩:∃ V,V=W.alloc (.cells #[.slice p0 n0 c0,.slice p1 n1 c1,.slice p2 k c2] 29):=⟨_,rfl⟩
 have hb:Below W.heap.size W V:=by rw [hV];exact (Below.refl _ _).alloc (Nat.le_refl _) _
 have x0:V.heap[W.heap.size]? = some (.cells #[.slice p0 n0 c0,.slice p1 n1 c1,.slice p2 k c2] 29 (0,0)):=by rw [hV];exact heap_alloc_new W _
 obtain ⟨⟨a0,a1,a2⟩,_⟩:=cells3 x0
 have HMV:=Lib.hid (h.step hb)
 have HSN:=Lib.hid ((h.step hb).sound (c0:=c0) (c1:=c1) (c2:=c2))
 have HB:=Lib.hid hb
 have HX:=Lib.hid x0
 have HLT:=Lib.hid (Array.getElem?_eq_some_iff.1 x0).1
 have HA:=Lib.hid (hA.step hb)
 have HL:=Lib.hid (InR.step hl hb)
 have HN:=Lib.hid hn
 clear h hb x0 hA hl hn
 obtain ⟨q,hq⟩:∃ q,q=sndM m:=⟨_,rfl⟩
 rw [← hq] at HSN
 have HQ:Hid (sndM m=q):=Lib.hid hq.symm
 clear hq
 go_enter Tryz.func19,Tryz.ntmps19
 go_upto_region 1 with fail
 rw [← hV]
 clear hV
 go_step3
 go_wp2_with fail
 refine HSN.out.mono ?_
 rintro e w1 ⟨rfl,b1⟩
 have HB1:=Lib.hid (HB.out.trans (b1.mono HB.out.size))
 have HV1:=Lib.hid b1
 obtain ⟨⟨d0,d1,d2⟩,_⟩:=cells3 ((b1.block _ HLT.out).trans HX.out)
 have HM1:=Lib.hid (HMV.out.step b1)
 clear a0 a1 a2 b1 HSN
 cases q with
 | false =>
  go_wp2_with fail
  try rw [Exit.noGoto_ret]
  go_ret2
  exact ⟨_,_,rfl,fun h=>by rw [HQ.out] at h;(cases h),fun _=>⟨rfl,rfl⟩,HB1.out⟩
 | true =>
  have hg:=gm_of HM1.out.bd HQ.out
  have HG:=Lib.hid hg
  have HEQ:Hid (n0=k∧n1=k∧k=m.tg.length):=Lib.hid (by have:=HM1.out.e0;have:=HM1.out.e1;have:=HM1.out.e2;have:=hg.fr.2.1;have:=hg.ed;omega)
  have HST:=Lib.hid (start_c (n0:=n0) (n1:=n1) (c0:=c0) (c1:=c1) (c2:=c2) HM1.out.mr hg HEQ.out.2.2 HEQ.out.2.1)
  clear hg
  go_wp2_with fail
  refine HST.out.mono ?_
  rintro e w2 ⟨v,rfl,hO,b2⟩
  have HO:=Lib.hid (show OwI w2 w1.heap.size v (goF m (s.take 0)) by rw [List.take_zero,go_zero];exact hO)
  have HB2:=Lib.hid b2
  have HLE:Hid (∀ r,(goF m (s.take r)).length≤100000):=Lib.hid (fun r=>by
   have h1:∀ (u:List Int),(goF m u).length≤m.len:=fun u=>by
    rcases snoc_cases u with rfl | ⟨u',x,rfl⟩
    ·rw [go_zero];exact stL_len _ _
    ·rw [go_snoc];exact stL_len _ _
   have h2:=HG.out.k2
   have h3:=h1 (s.take r)
   have h4:m.len=m.tg.length:=rfl
   omega)
  clear hO b2 d0 d1 d2 HST
  go_wp2_with fail
  go_step3
  go_wp2_with fail
  go_loopg [6,7,8,19] n (fun gk s6 s7 s8 s19 wx=>∃ (r:Nat) (a b:Int) (v:Value),r+gk=n∧s19=.int .i64 r∧s6=.int .i64 a∧s7=.int .i64 b∧v=s8∧Hid (Lng m s r a b)∧Hid (OwI wx w1.heap.size v (goF m (s.take r)))∧Hid (Below w1.heap.size w1 wx))
  case atStart=>exact ⟨0,0,-1,_,by omega,rfl,rfl,rfl,rfl,Lib.hid (Lng.zero m s),HO,HB2⟩
  case round =>
   obtain ⟨r,a,b,v8,hrg,rfl,rfl,rfl,rfl,HLG,HO8,HW⟩:=hrel
   cases gk with
   | zero =>
    obtain rfl:r=n:=by omega
    have hlt:¬ (r:Int) < (r:Int):=by omega
    have HE:Hid (Lng m s s.length a b):=Lib.hid (by rw [← HN.out];exact HLG.out)
    have HBE:=Lib.hid (HB1.out.trans (HW.out.mono HB1.out.size))
    go_wp2_with fail
    try rw [Exit.noGoto_ret]
    go_ret2
    exact ⟨_,_,rfl,fun _=>HE.out,fun h=>by rw [HQ.out] at h;(cases h),HBE.out⟩
   | succ gk =>
    have hlt:(r:Int) < (n:Int):=by omega
    have hrl:r < s.length:=by have:=HN.out;omega
    have h0:(0:Int)≤(r:Int):=by omega
    have hwr:wrap64 ((r:Int)+1)=((r+1:Nat):Int):=by rw [IntWalk.wrap64_in _ (by omega)];omega
    have hVW:Below V.heap.size V wr:=HV1.out.trans (HW.out.mono HV1.out.size)
    obtain ⟨⟨d0,d1,d2⟩,_⟩:=cells3 ((hVW.block _ HLT.out).trans HX.out)
    obtain ⟨g5,o5,rfl,hg5,hc5⟩:=HL.out r hrl
    have hc6:=(hVW.cell (p:=⟨g5,o5+r,none⟩) hg5).trans hc5
    clear hc5
    obtain ⟨x,hx⟩:∃ x,x=s[r]:=⟨_,rfl⟩
    rw [← hx] at hc6
    obtain ⟨Q8,c8,rfl,hIn,_,_,_⟩:=HO8.out.form
    have hl8:=HLE.out r
    have HGT:Hid (goF m (s.take (r+1))=stepF m (goF m (s.take r)) x):=Lib.hid (by rw [go_take m hrl,hx])
    have HST:=Lib.hid (step_c (n0:=n0) (n1:=n1) (c0:=c0) (c1:=c1) (c2:=c2) (c:=c8) (r:=x) (HA.out.step hVW) (HMV.out.mr.step hVW) HG.out HEQ.out.2.2 HEQ.out.1 HEQ.out.2.1 hIn rfl (by omega))
    obtain ⟨l8,hl8e⟩:∃ l8,l8=(goF m (s.take r)).length:=⟨_,rfl⟩
    rw [← hl8e] at HST ⊢
    have HBW:=Lib.hid hVW
    clear hg5 hx hIn hl8 hVW hrl hl8e
    go_wp2_with fail
    refine HST.out.mono ?_
    rintro e w3 ⟨v3,rfl,hO3,b3⟩
    rw [← HGT.out] at hO3
    obtain ⟨Q3,c3,rfl,hIn3,_,_,_⟩:=hO3.form
    have hl3:=HLE.out (r+1)
    have hV3:Below V.heap.size V w3:=HBW.out.trans (b3.mono HBW.out.size)
    obtain ⟨⟨f0,f1,f2⟩,_⟩:=cells3 ((hV3.block _ HLT.out).trans HX.out)
    have HTG:=Lib.hid (tags_c (n0:=n0) (n1:=n1) (c0:=c0) (c1:=c1) (c2:=c2) (c:=c3) (HMV.out.mr.step hV3) (by have:=HG.out.k2;have:=HEQ.out;omega) HEQ.out.2.2 hIn3 rfl (by omega))
    obtain ⟨l3,hl3e⟩:∃ l3,l3=(goF m (s.take (r+1))).length:=⟨_,rfl⟩
    have HO3:=Lib.hid (hO3.low (show w1.heap.size≤wr.heap.size from HW.out.size))
    rw [← hl3e] at HTG HO3 ⊢
    have HL3:=Lib.hid hl3e
    have HW3:=Lib.hid (HW.out.trans (b3.mono HW.out.size))
    clear hO3 hIn3 hl3 hV3 b3 d0 d1 d2 hc6 HST hl3e
    go_wp2_with fail
    refine HTG.out.mono ?_
    rintro e w4 ⟨v4,o,rfl,hO4,hle4,hI4,b4⟩
    obtain ⟨Q4,c4,rfl,hIn4,_,_,_⟩:=hO4.form
    have HW4:=Lib.hid (HW3.out.trans (b4.mono HW3.out.size))
    have HO4:=Lib.hid (OwI.below HO3.out b4)
    have HI4:=Lib.hid hI4
    have HIN4:=Lib.hid hIn4
    obtain ⟨lo,hlo⟩:∃ lo,lo=o.length:=⟨_,rfl⟩
    rw [← hlo]
    have HLO:=Lib.hid hlo
    clear hO4 hle4 hI4 hIn4 b4 f0 f1 f2 HTG hlo
    by_cases hz:l3=0
    ·have HE:Hid (Lng m s s.length a b):=Lib.hid (by
      have hnil:goF m (s.take (r+1))=[]:=List.eq_nil_of_length_eq_zero (by rw [← HL3.out];exact hz)
      have h1:Lng m s (r+1) a b:=HLG.out.no (fun t=>by rw [hnil];exact no_tag m t)
      rcases h1.stop hnil with h2 | h2
      ·exact h2
      ·have:=HN.out;omega)
     have HBE:=Lib.hid (HB1.out.trans (HW4.out.mono HB1.out.size))
     have g1:((l3:Int) == 0)=true:=by rw [beq_iff_eq];omega
     clear hz
     go_wp2_with fail
     try rw [Exit.noGoto_ret]
     go_ret2
     exact ⟨_,_,rfl,fun _=>HE.out,fun h=>by rw [HQ.out] at h;(cases h),HBE.out⟩
    ·have g1 : ((l3 : Int) == 0) = false := by rw [beq_eq_false_iff_ne]; omega
     clear hz
     cases o with
     | nil =>
      have e0:lo=0:=HLO.out
      have g2:¬ (0:Int) < (lo:Int):=by omega
      have HL5:Hid (Lng m s (r+1) a b):=Lib.hid (HLG.out.no (fun t ht=>by have:=(HI4.out.mem t).2 ht;cases this))
      clear e0
      go_wp2_with fail
      go_roundg gk
      case measure=>omega
      case rel=>exact ⟨r+1,a,b,_,by omega,by first | rw [hwr] | rfl | simp,rfl,rfl,rfl,HL5,HO4,HW4⟩
     | cons t o =>
      have g2:(0:Int) < (lo:Int):=by have:lo=(t::o).length:=HLO.out;rw [List.length_cons] at this;omega
      obtain ⟨g6,o6,rfl,hg6,hc6⟩:=HIN4.out 0 (by simp)
      have hc7:w4.cell? ⟨g6,o6,none⟩=some (.int .i64 t):=hc6
      have HL5:Hid (Lng m s (r+1) ((r:Int)+1) t):=Lib.hid (Lng.yes ((HI4.out.mem t).1 (by simp)) (fun u hu=>by
       rcases List.mem_cons.1 ((HI4.out.mem u).2 hu) with h | h
       ·omega
       ·have:=(List.pairwise_cons.1 HI4.out.rise).1 u h;omega))
      have hr1:wrap64 ((r:Int)+1)=(r:Int)+1:=IntWalk.wrap64_in _ (by omega)
      clear hg6 hc6
      go_wp2_with fail
      go_region
      all_goals
       clear hc7
       go_wp2_with fail
       go_roundg gk
       case measure=>omega
       case rel=>exact ⟨r+1,(r:Int)+1,t,_,by omega,by first | rw [hwr] | rfl | simp,by first | rfl | rw [hr1] | simp,rfl,rfl,HL5,HO4,HW4.out.drew |> Lib.hid⟩
end Go.Proofs.YtioahgklplbinaaGreatDoor

/- The law's known: one state, one edge. -/
namespace SimM
open SetM NfaM
def mK:Mc:=⟨[[(1,[(97,98)])],[]],[[],[0]],[-1,4]⟩
theorem mk_bd:Bd mK:=by
 refine ⟨fun i hi=>?_,fun i hi=>?_,fun i hi e he s hs=>?_⟩
 ·match i,hi with
  | 0,_=>exact ⟨by decide,fun e he=>by simp [mK] at he;subst he;decide⟩
  | 1,_=>exact ⟨by decide,fun e he=>by simp [mK] at he⟩
 ·match i,hi with
  | 0,_=>decide
  | 1,_=>decide
 ·match i,hi with
  | 0,_=>simp [mK] at he;subst he;simp at hs;subst hs;decide
  | 1,_=>simp [mK] at he
theorem mk_snd:sndM mK=true:=by decide
theorem mk_start:startF mK=[0]:=by
 have h:∀ k,Cl mK (· = 0) k↔k=0:=fun k=>by
  constructor
  ·intro hk
   induction hk with
   | base k hp=>exact hp
   | step i k _ hm ih=>subst ih;simp [mK] at hm
  ·rintro rfl;exact .base 0 rfl
 unfold startF
 rw [stL_congr (Q:=(· = 0)) (fun k _=>h k)]
 show stL 2 (· = 0)=[0]
 rw [show (2:Nat)=0+1+1 from rfl,stL_no (P:=fun x=>x=0) (by decide),stL_yes (P:=fun x=>x=0) (n:=0) rfl,stL_zero]
 rfl
theorem tells_ab (r:Int):Tells [(97,98)] r↔r=97∨r=98:=by
 unfold Tells Sc Mem
 simp
 omega
theorem mk_mv (l:List Int) (r:Int) (k:Nat):Mv mK (Inn 2 l) r k↔((0:Int)∈l∧k=1∧(r=97∨r=98)):=by
 unfold Mv Inn
 constructor
 ·rintro ⟨i, ⟨h1, h2⟩, e, he, h3, h4⟩
  match i,h1 with
  | 0,_ =>
   simp [mK] at he
   subst he
   rw [tells_ab] at h4
   exact ⟨h2,by dsimp only at h3;omega,h4⟩
  | 1,_=>simp [mK] at he
 ·rintro ⟨h1, rfl, h3⟩
  exact ⟨0,⟨by decide,h1⟩,(1,[(97,98)]),by simp [mK],rfl,(tells_ab r).2 h3⟩
theorem mk_step {l:List Int} {r:Int} (h:(0:Int)∈l) (hr:r=97∨r=98):stepF mK l r=[0,1]:=by
 have h2:∀ k,Cl mK (Mv mK (Inn 2 l) r) k↔(k=0∨k=1):=fun k=>by
  constructor
  ·intro hk
   induction hk with
   | base k hp=>exact .inr ((mk_mv l r k).1 hp).2.1
   | step i k _ hm ih=>rcases ih with rfl | rfl <;> simp [mK] at hm;left;omega
  ·have h1 : Cl mK (Mv mK (Inn 2 l) r) 1 := .base 1 ((mk_mv l r 1).2 ⟨h, rfl, hr⟩)
   rintro (rfl | rfl)
   ·exact .step 1 0 h1 (by simp [mK])
   ·exact h1
 unfold stepF
 show stL 2 (Cl mK (Mv mK (Inn 2 l) r))=[0,1]
 rw [show (2:Nat)=0+1+1 from rfl,stL_yes ((h2 _).2 (.inr rfl)),stL_yes ((h2 _).2 (.inl rfl)),stL_zero]
 rfl
theorem mk_stop (l:List Int) {r:Int} (hr:¬ (r=97∨r=98)):stepF mK l r=[]:=by
 unfold stepF
 rw [stL_nil]
 exact fun k _=>Cl.none (fun k h=>hr ((mk_mv l r k).1 h).2.2) k
theorem mk_tgp (l:List Int) (t:Int):TgP mK l t↔((1:Int)∈l∧t=4):=by
 unfold TgP Inn
 constructor
 ·rintro ⟨h0, k, ⟨h1, h2⟩, h3⟩
  match k,h1 with
  | 0,_=>simp [mK] at h3;omega
  | 1,_=>simp [mK] at h3;exact ⟨h2,h3.symm⟩
 ·rintro ⟨h1, rfl⟩
  exact ⟨by decide,1,⟨by decide,h1⟩,by simp [mK]⟩
theorem mk_long:Lng mK [97,98,99] 3 2 4:=by
 have g0:goF mK []=[0]:=by rw [go_zero,mk_start]
 have g1:goF mK [97]=[0,1]:=by
  have:=go_snoc mK [] 97
  rw [g0,mk_step (by simp) (.inl rfl)] at this
  exact this
 have g2:goF mK [97,98]=[0,1]:=by
  have:=go_snoc mK [97] 98
  rw [g1,mk_step (by simp) (.inr rfl)] at this
  exact this
 have g3:goF mK [97,98,99]=[]:=by
  have:=go_snoc mK [97,98] 99
  rw [g2,mk_stop _ (by decide)] at this
  exact this
 have h2:Lng mK [97,98,99] 2 2 4:=by
  have:=Lng.yes (m:=mK) (s:=[97,98,99]) (i:=1) (b:=4) (by show TgP mK (goF mK [97,98]) 4;rw [g2,mk_tgp];exact ⟨by simp,rfl⟩) (fun t ht=>by
   have:TgP mK (goF mK [97,98]) t:=ht
   rw [g2,mk_tgp] at this
   omega)
  exact this
 exact h2.no (fun t ht=>by
  have:TgP mK (goF mK [97,98,99]) t:=ht
  rw [g3] at this
  exact no_tag mK t this)
end SimM
namespace Go.Proofs.YtioahgklplbinaaGreatDoor
open Go.RowKit Go.Shelf SetM NfaM SimM
set_option maxRecDepth 100000 in
set_option maxHeartbeats 16000000 in
theorem known9 {W:World} (hA:Aw W):Calls Tryz.prog 17 #[] W fun e W'=>e=.returned (.bool true)∧Below W.heap.size W W':=by
 obtain ⟨s,hs⟩:∃ s,s=W.heap.size:=⟨_,rfl⟩
 obtain ⟨A1,h1⟩:∃ A,A=W.alloc (.cells #[.int .i64 97,.int .i64 98] 45):=⟨_,rfl⟩
 obtain ⟨A2,h2⟩:∃ A,A=A1.alloc (.cells #[.int .i64 1,.slice (some ⟨W.heap.size,0,none⟩) 1 1] 43):=⟨_,rfl⟩
 obtain ⟨A3,h3⟩:∃ A,A=A2.alloc (.cells #[.slice (some ⟨W.heap.size+1,0,none⟩) 1 1,.slice none 0 0] 40):=⟨_,rfl⟩
 obtain ⟨A4,h4⟩:∃ A,A=A3.alloc (.cells #[.int .i64 0] 3):=⟨_,rfl⟩
 obtain ⟨A5,h5⟩:∃ A,A=A4.alloc (.cells #[.slice none 0 0,.slice (some ⟨W.heap.size+1+1+1,0,none⟩) 1 1] 27):=⟨_,rfl⟩
 obtain ⟨A6,h6⟩:∃ A,A=A5.alloc (.cells #[.int .i64 (-1),.int .i64 4] 3):=⟨_,rfl⟩
 obtain ⟨V,hV⟩:∃ A,A=A6.alloc (.cells #[.slice (some ⟨W.heap.size+1+1,0,none⟩) 2 2,.slice (some ⟨W.heap.size+1+1+1+1,0,none⟩) 2 2,.slice (some ⟨W.heap.size+1+1+1+1+1,0,none⟩) 2 2] 29):=⟨_,rfl⟩
 have z1:A1.heap.size=W.heap.size+1:=by rw [h1,World.size_alloc]
 have z2:A2.heap.size=W.heap.size+1+1:=by rw [h2,World.size_alloc,z1]
 have z3:A3.heap.size=W.heap.size+1+1+1:=by rw [h3,World.size_alloc,z2]
 have z4:A4.heap.size=W.heap.size+1+1+1+1:=by rw [h4,World.size_alloc,z3]
 have z5:A5.heap.size=W.heap.size+1+1+1+1+1:=by rw [h5,World.size_alloc,z4]
 have z6:A6.heap.size=W.heap.size+1+1+1+1+1+1:=by rw [h6,World.size_alloc,z5]
 have zV:V.heap.size=W.heap.size+1+1+1+1+1+1+1:=by rw [hV,World.size_alloc,z6]
 have b6:Below A6.heap.size A6 V:=by rw [hV];exact (Below.refl _ _).alloc (Nat.le_refl _) _
 have b5:Below A5.heap.size A5 V:=(show Below A5.heap.size A5 A6 by rw [h6];exact (Below.refl _ _).alloc (Nat.le_refl _) _).trans (b6.mono (by omega))
 have b4:Below A4.heap.size A4 V:=(show Below A4.heap.size A4 A5 by rw [h5];exact (Below.refl _ _).alloc (Nat.le_refl _) _).trans (b5.mono (by omega))
 have b3:Below A3.heap.size A3 V:=(show Below A3.heap.size A3 A4 by rw [h4];exact (Below.refl _ _).alloc (Nat.le_refl _) _).trans (b4.mono (by omega))
 have b2:Below A2.heap.size A2 V:=(show Below A2.heap.size A2 A3 by rw [h3];exact (Below.refl _ _).alloc (Nat.le_refl _) _).trans (b3.mono (by omega))
 have b1:Below A1.heap.size A1 V:=(show Below A1.heap.size A1 A2 by rw [h2];exact (Below.refl _ _).alloc (Nat.le_refl _) _).trans (b2.mono (by omega))
 have b0:Below W.heap.size W V:=(show Below W.heap.size W A1 by rw [h1];exact (Below.refl _ _).alloc (Nat.le_refl _) _).trans (b1.mono (by omega))
 have k0:V.heap[W.heap.size]? = some (.cells #[.int .i64 97,.int .i64 98] 45 (0,0)):=(b1.block _ (by omega)).trans (by rw [h1];exact heap_alloc_new W _)
 have k1:V.heap[W.heap.size+1]? = some (.cells #[.int .i64 1,.slice (some ⟨W.heap.size,0,none⟩) 1 1] 43 (0,0)):=(b2.block _ (by omega)).trans (by rw [h2,← z1];exact heap_alloc_new A1 _)
 have k2:V.heap[W.heap.size+1+1]? = some (.cells #[.slice (some ⟨W.heap.size+1,0,none⟩) 1 1,.slice none 0 0] 40 (0,0)):=(b3.block _ (by omega)).trans (by rw [h3,← z2];exact heap_alloc_new A2 _)
 have k3:V.heap[W.heap.size+1+1+1]? = some (.cells #[.int .i64 0] 3 (0,0)):=(b4.block _ (by omega)).trans (by rw [h4,← z3];exact heap_alloc_new A3 _)
 have k4:V.heap[W.heap.size+1+1+1+1]? = some (.cells #[.slice none 0 0,.slice (some ⟨W.heap.size+1+1+1,0,none⟩) 1 1] 27 (0,0)):=(b5.block _ (by omega)).trans (by rw [h5,← z4];exact heap_alloc_new A4 _)
 have k5:V.heap[W.heap.size+1+1+1+1+1]? = some (.cells #[.int .i64 (-1),.int .i64 4] 3 (0,0)):=(b6.block _ (by omega)).trans (by rw [h6,← z5];exact heap_alloc_new A5 _)
 have k6:V.heap[W.heap.size+1+1+1+1+1+1]? = some (.cells #[.slice (some ⟨W.heap.size+1+1,0,none⟩) 2 2,.slice (some ⟨W.heap.size+1+1+1+1,0,none⟩) 2 2,.slice (some ⟨W.heap.size+1+1+1+1+1,0,none⟩) 2 2] 29 (0,0)):=by rw [hV,← z6];exact heap_alloc_new A6 _
 have hm:MachV V (some ⟨W.heap.size+1+1,0,none⟩) (some ⟨W.heap.size+1+1+1+1,0,none⟩) (some ⟨W.heap.size+1+1+1+1+1,0,none⟩) 2 2 2 mK:=by
  refine ⟨⟨fun i hi=>?_,fun i hi=>?_,fun i hi=>?_⟩,rfl,rfl,rfl,mk_bd⟩
  ·match i,hi with
   | 0,_=>exact ⟨_,0,_,1,rfl,by omega,cell_of_row V _ 0 _ _ _ k2,fun k hk=>by
     match k,hk with
     | 0,_=>exact ⟨_,0,_,1,rfl,by omega,cell_of_row V _ 0 _ _ _ k1,cell_of_row V _ 1 _ _ _ k1,fun _=>⟨_,0,rfl,by omega,fun j hj=>by
       match j,hj with
       | 0,_=>exact ⟨cell_of_row V _ 0 _ _ _ k0,cell_of_row V _ 1 _ _ _ k0⟩⟩⟩⟩
   | 1,_=>exact ⟨_,0,none,0,rfl,by omega,cell_of_row V _ 1 _ _ _ k2,fun k hk=>absurd hk (Nat.not_lt_zero k)⟩
  ·match i,hi with
   | 0,_=>exact ⟨_,0,none,0,rfl,by omega,cell_of_row V _ 0 _ _ _ k4,fun k hk=>absurd hk (Nat.not_lt_zero k)⟩
   | 1,_=>exact ⟨_,0,_,1,rfl,by omega,cell_of_row V _ 1 _ _ _ k4,fun k hk=>by
     match k,hk with
     | 0,_=>exact ⟨_,0,rfl,by omega,cell_of_row V _ 0 _ _ _ k3⟩⟩
  ·match i,hi with
   | 0,_=>exact ⟨_,0,rfl,by omega,cell_of_row V _ 0 _ _ _ k5⟩
   | 1,_=>exact ⟨_,0,rfl,by omega,cell_of_row V _ 1 _ _ _ k5⟩
 have HM:=Lib.hid hm
 have HB0:=Lib.hid b0
 have HK6:=Lib.hid k6
 have HLT:=Lib.hid (Array.getElem?_eq_some_iff.1 k6).1
 have HA:=Lib.hid (hA.step b0)
 obtain ⟨⟨d0,d1,d2⟩,_⟩:=cells3 k6
 obtain ⟨U,hU⟩:∃ U,U=V.alloc (.cells #[.int .i64 97,.int .i64 98,.int .i64 99] 3):=⟨_,rfl⟩
 have hbU:Below V.heap.size V U:=by rw [hU];exact (Below.refl _ _).alloc (Nat.le_refl _) _
 have hxU:U.heap[V.heap.size]? = some (.cells #[.int .i64 97,.int .i64 98,.int .i64 99] 3 (0,0)):=by rw [hU];exact heap_alloc_new V _
 have HLG:=Lib.hid (plong_c (c0:=2) (c1:=2) (c2:=2) (c:=3) (hA.step (b0.trans (hbU.mono b0.size))) (hm.step hbU) (P:=some ⟨V.heap.size,0,none⟩) (s:=[97,98,99]) (n:=3) (fun k hk=>by
  match k,hk with
  | 0,_=>exact ⟨_,0,rfl,(Array.getElem?_eq_some_iff.1 hxU).1,cell_of_row U _ 0 _ _ _ hxU⟩
  | 1,_=>exact ⟨_,0,rfl,(Array.getElem?_eq_some_iff.1 hxU).1,cell_of_row U _ 1 _ _ _ hxU⟩
  | 2,_=>exact ⟨_,0,rfl,(Array.getElem?_eq_some_iff.1 hxU).1,cell_of_row U _ 2 _ _ _ hxU⟩) rfl (by decide))
 have HBU:=Lib.hid hbU
 clear hs z1 z2 z3 z4 z5 z6 zV b0 b1 b2 b3 b4 b5 b6 k0 k1 k2 k3 k4 k5 k6 hm hA hbU hxU
 go_enter Tryz.func17,Tryz.ntmps17
 go_upto_region 2 with fail
 rw [← h1,← h2,← h3,← h4,← h5,← h6,← hV]
 clear h1 h2 h3 h4 h5 h6 hV
 go_wp2_with fail
 rw [← hU]
 clear hU d0 d1 d2
 refine HLG.out.mono ?_
 rintro e w1 ⟨a,b,rfl,hL,_,b1⟩
 obtain ⟨rfl,rfl⟩:=(hL mk_snd).unique mk_long
 have hb1:=HBU.out.trans (b1.mono HBU.out.size)
 have HST:=Lib.hid (pstart_c (c0:=2) (c1:=2) (c2:=2) (HM.out.step hb1))
 obtain ⟨⟨d0,d1,d2⟩,_⟩:=cells3 ((hb1.block _ HLT.out).trans HK6.out)
 have HB1:=Lib.hid hb1
 clear hL b1 hb1 HLG
 go_wp2_with fail
 refine HST.out.mono ?_
 rintro e w2 ⟨v2,o2,rfl,hO2,h2,_,b2⟩
 obtain rfl:=h2 mk_snd
 rw [mk_start] at hO2
 obtain ⟨Q2,c2,rfl,_,_,_,_⟩:=hO2.form
 have hb2:=HB1.out.trans (b2.mono HB1.out.size)
 obtain ⟨⟨e0,e1,e2⟩,_⟩:=cells3 ((hb2.block _ HLT.out).trans HK6.out)
 obtain ⟨X,hX⟩:∃ X,X=w2.alloc (.cells #[.int .i64 0] 3):=⟨_,rfl⟩
 have hbX:Below w2.heap.size w2 X:=by rw [hX];exact (Below.refl _ _).alloc (Nat.le_refl _) _
 have hVX:=hb2.trans (hbX.mono hb2.size)
 have HSP:=Lib.hid (pstep_c (c0:=2) (c1:=2) (c2:=2) (c:=1) (r:=97) (HA.out.step hVX) (HM.out.step hVX) (P:=some ⟨w2.heap.size,0,none⟩) (l:=[0]) (n:=1) (by rw [hX];exact lit_ints w2 0) rfl (by decide))
 have HVX:=Lib.hid hVX
 have hl1:List.length [(0:Int)]=1:=rfl
 rw [hl1]
 clear hO2 h2 b2 hb2 hbX hVX d0 d1 d2 HST hl1
 go_wp2_with fail
 rw [← hX]
 clear hX e0 e1 e2
 refine HSP.out.mono ?_
 rintro e w3 ⟨v3,o3,rfl,hO3,h3,_,b3⟩
 obtain rfl:=h3 mk_snd
 rw [mk_step (by simp) (.inl rfl)] at hO3
 obtain ⟨Q3,c3,rfl,_,_,_,_⟩:=hO3.form
 have hb3:=HVX.out.trans (b3.mono HVX.out.size)
 obtain ⟨⟨e0,e1,e2⟩,_⟩:=cells3 ((hb3.block _ HLT.out).trans HK6.out)
 obtain ⟨Y,hY⟩:∃ Y,Y=w3.alloc (.cells #[.int .i64 1,.int .i64 1] 3):=⟨_,rfl⟩
 have hbY:Below w3.heap.size w3 Y:=by rw [hY];exact (Below.refl _ _).alloc (Nat.le_refl _) _
 have hxY:Y.heap[w3.heap.size]? = some (.cells #[.int .i64 1,.int .i64 1] 3 (0,0)):=by rw [hY];exact heap_alloc_new w3 _
 have hVY:=hb3.trans (hbY.mono hb3.size)
 have HTG:=Lib.hid (ptags_c (c0:=2) (c1:=2) (c2:=2) (c:=2) (HM.out.step hVY) (P:=some ⟨w3.heap.size,0,none⟩) (l:=[1,1]) (n:=2) (fun k hk=>by
  match k,hk with
  | 0,_=>exact ⟨_,0,rfl,(Array.getElem?_eq_some_iff.1 hxY).1,cell_of_row Y _ 0 _ _ _ hxY⟩
  | 1,_=>exact ⟨_,0,rfl,(Array.getElem?_eq_some_iff.1 hxY).1,cell_of_row Y _ 1 _ _ _ hxY⟩) rfl (by decide))
 have HVY:=Lib.hid hVY
 have hl2:List.length [(0:Int),1]=2:=rfl
 rw [hl2]
 clear hO3 h3 b3 hb3 hbY hxY hVY HSP hl2
 go_wp2_with fail
 rw [← hY]
 clear hY e0 e1 e2
 refine HTG.out.mono ?_
 rintro e w4 ⟨v4,o4,rfl,hO4,_,h4,_,b4⟩
 have hI:IsTags mK [1,1] [4]:=⟨by simp,fun t=>by rw [mk_tgp];simp⟩
 obtain rfl:=(h4 mk_snd).unique hI
 obtain ⟨Q4,c4,rfl,_,_,_,_⟩:=hO4.form
 have HE:=Lib.hid (HB0.out.trans ((HVY.out.trans (b4.mono HVY.out.size)).mono HB0.out.size))
 have hl3:List.length [(4:Int)]=1:=rfl
 rw [hl3]
 clear hO4 h4 b4 hI hl3
 go_wp2_with fail
 go_ret
 exact ⟨rfl,HE.out⟩
end Go.Proofs.YtioahgklplbinaaGreatDoor
