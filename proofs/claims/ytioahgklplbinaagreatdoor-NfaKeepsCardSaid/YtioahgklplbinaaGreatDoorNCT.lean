/- NCnt, NCnt4, NWhy, NToRB, NTag, in one text. -/
import Derived.Test.YtioahgklplbinaaGreatDoorNMA
import Derived.Test.YtioahgklplbinaaGreatDoorVRead
import Derived.Test.YtioahgklplbinaaGreatDoorNMW
import Derived.Test.YtioahgklplbinaaGreatDoorNLM
namespace Go.Proofs.YtioahgklplbinaaGreatDoor
open Go.RowKit Go.Shelf Go.Maps SetM PropsM RxM WrM NfaM
def cut3 (n:Nat):Nat:=min n 3000
theorem cut3_le (n:Nat):cut3 n≤3000:=Nat.min_le_right _ _
def CntC (u:Ns):Prop:=∀ (W:World) (v:Value),RV W v u→Calls Tryz.prog 54 #[v] W fun e W'=>e=.returned (.int .i64 (cut3 (cntS u):Nat))∧Below W.heap.size W W'
theorem cc_take (l:List Ns) (r:Nat) (h:r < l.length):cntC (l.take (r+1))=cntC (l.take r)+cntS l[r]:=by
 have key:∀ (l:List Ns) (x:Ns),cntC (l++[x])=cntC l+cntS x:=fun l x=>by
  induction l with
  | nil=>rw [List.nil_append,cntC,cntC,cntC];omega
  | cons y l ih=>rw [List.cons_append,cntC,cntC,ih];omega
 rw [List.take_succ_eq_append_getElem h,key]
theorem co_take (l:List Ns) (r:Nat) (h:r < l.length):cntO (l.take (r+1))=cntO (l.take r)+(cntS l[r]+1):=by
 have key:∀ (l:List Ns) (x:Ns),cntO (l++[x])=cntO l+(cntS x+1):=fun l x=>by
  induction l with
  | nil=>rw [List.nil_append,cntO,cntO,cntO];omega
  | cons y l ih=>rw [List.cons_append,cntO,cntO,ih];omega
 rw [List.take_succ_eq_append_getElem h,key]
set_option maxRecDepth 100000 in
set_option maxHeartbeats 8000000 in
theorem cnt_2 {sl:List Sp} {kids:List Ns} {mn mx:Int} (ih:∀ x∈kids,CntC x):CntC (.mk 2 sl kids mn mx):=by
 intro W v hv
 obtain ⟨sp,sc,kp,kc,rfl,⟨hl1,hl2⟩,_,_,hk⟩:=hv.read
 obtain ⟨sln,hsln⟩:∃ k,k=List.length sl:=⟨_,rfl⟩
 rw [← hsln]
 obtain ⟨kn,hkn⟩:∃ k,k=List.length kids:=⟨_,rfl⟩
 rw [← hkn]
 obtain ⟨kz,hkz⟩:∃ z:Int,z=((2:Nat):Int):=⟨_,rfl⟩
 rw [← hkz]
 obtain ⟨V,hV⟩:∃ V,V=W.alloc (.cells #[.int .u8 kz,.slice sp sln sc,.slice kp kn kc,.int .i64 mn,.int .i64 mx] 48):=⟨_,rfl⟩
 have hb0:Below W.heap.size W V:=by rw [hV];exact (Below.refl _ _).alloc (Nat.le_refl _) _
 have hx:V.heap[W.heap.size]? = some (.cells #[.int .u8 kz,.slice sp sln sc,.slice kp kn kc,.int .i64 mn,.int .i64 mx] 48 (0,0)):=by rw [hV];exact heap_alloc_new W _
 have hlt0:=(Array.getElem?_eq_some_iff.1 hx).1
 have HN:=Lib.hid (fun (U:World) (hU:Below V.heap.size V U)=>(⟨(hU.cell (p:=⟨W.heap.size,0,none⟩) hlt0).trans (cell_of_row V _ 0 _ _ _ hx),(hU.cell (p:=⟨W.heap.size,1,none⟩) hlt0).trans (cell_of_row V _ 1 _ _ _ hx),(hU.cell (p:=⟨W.heap.size,2,none⟩) hlt0).trans (cell_of_row V _ 2 _ _ _ hx),(hU.cell (p:=⟨W.heap.size,3,none⟩) hlt0).trans (cell_of_row V _ 3 _ _ _ hx),(hU.cell (p:=⟨W.heap.size,4,none⟩) hlt0).trans (cell_of_row V _ 4 _ _ _ hx)⟩:U.cell? ⟨W.heap.size,0,none⟩=some (.int .u8 kz)∧U.cell? ⟨W.heap.size,1,none⟩=some (.slice sp sln sc)∧U.cell? ⟨W.heap.size,2,none⟩=some (.slice kp kn kc)∧U.cell? ⟨W.heap.size,3,none⟩=some (.int .i64 mn)∧U.cell? ⟨W.heap.size,4,none⟩=some (.int .i64 mx)))
 have HKID:Hid (∀ r (hr:r < List.length kids),∃ g a b c d e,kp=some ⟨g,0,none⟩∧∀ U,Below V.heap.size V U→(U.cell? ⟨g,r*5,none⟩=some a∧U.cell? ⟨g,r*5+1,none⟩=some b∧U.cell? ⟨g,r*5+2,none⟩=some c∧U.cell? ⟨g,r*5+3,none⟩=some d∧U.cell? ⟨g,r*5+4,none⟩=some e)∧Calls Tryz.prog 54 #[.agg #[a,b,c,d,e]] U fun ee U'=>ee=.returned (.int .i64 (cut3 (cntS (kids[r]'hr)):Nat))∧Below U.heap.size U U'):=Lib.hid (fun r hr=>by
  obtain ⟨g,e1,⟨cs,hg⟩,h3⟩:=hk (by intro e;rw [e] at hr;cases hr)
  obtain ⟨u,h4,h5⟩:=h3 r hr
  obtain ⟨k1,s1,s2,s3,s4,s5,s6,s7,s8,rfl⟩:=h4.form5
  have hgW:=(Array.getElem?_eq_some_iff.1 hg).1
  refine ⟨g,.int .u8 k1,.slice s1 s2 s3,.slice s4 s5 s6,.int .i64 s7,.int .i64 s8,e1,fun U hU=>?_⟩
  have hWU:=hb0.trans (hU.mono hb0.size)
  exact ⟨⟨(hWU.cell (p:=⟨g,r*5,none⟩) hgW).trans (h5 0 (by omega)),(hWU.cell (p:=⟨g,r*5+1,none⟩) hgW).trans (h5 1 (by omega)),(hWU.cell (p:=⟨g,r*5+2,none⟩) hgW).trans (h5 2 (by omega)),(hWU.cell (p:=⟨g,r*5+3,none⟩) hgW).trans (h5 3 (by omega)),(hWU.cell (p:=⟨g,r*5+4,none⟩) hgW).trans (h5 4 (by omega))⟩,ih _ (List.getElem_mem hr) U _ (h4.step hWU)⟩)
 have HKN:=Lib.hid hkn
 have HB0:=Lib.hid hb0
 have hkn8:kn≤1000:=by rw [hkn];exact hl2
 obtain rfl:kz=2:=by rw [hkz];rfl
 obtain ⟨e0,e1,e2,e3,e4⟩:=HN.out V (Below.refl _ _)
 clear hv hk hb0 hx hlt0 hsln hkn hkz hl1 hl2
 go_enter Tryz.func54,Tryz.ntmps54
 go_upto_region 1 with fail
 rw [← hV]
 clear hV
 go_wp2_with fail
 go_loopg [3,4] kn (fun gk s3 s4 wx=>∃ (r k:Nat),r+gk=kn∧s4=.int .i64 r∧s3=.int .i64 k∧k=cut3 (cntC (List.take r kids))∧Hid (Below V.heap.size V wx))
 case atStart=>exact ⟨0,0,by omega,rfl,rfl,by rw [List.take_zero,cntC];rfl,Lib.hid (Below.refl _ _)⟩
 case round =>
  obtain ⟨r,k,hrg,rfl,rfl,hkr,HB⟩:=hrel
  have hk3:k≤3000:=by rw [hkr];exact cut3_le _
  have HKR:=Lib.hid hkr
  clear e0 e1 e2 e3 e4 hkr
  obtain ⟨e0,e1,e2,e3,e4⟩:=HN.out _ HB.out
  cases gk with
  | zero =>
   obtain rfl:r=kn:=by omega
   have hlt:¬ (r:Int) < (r:Int):=by omega
   have HKE:Hid (k=cut3 (cntC kids)):=Lib.hid (by rw [HKR.out,List.take_of_length_le (by have:=HKN.out;omega)])
   have HE:Hid (Below W.heap.size W wr):=Lib.hid (HB0.out.trans (HB.out.mono HB0.out.size))
   go_wp2
   go_ret
   refine ⟨?_,HE.out⟩
   have h1:=HKE.out
   rw [cntS]
   unfold cut3 at h1 ⊢
   simp
   omega
  | succ gk =>
   have hlt:(r:Int) < (kn:Int):=by omega
   have hrl:r < List.length kids:=by have:=HKN.out;omega
   have h0:(0:Int)≤(r:Int):=by omega
   have hwr:wrap64 ((r:Int)+1)=((r+1:Nat):Int):=by rw [IntWalk.wrap64_in _ (by omega)];omega
   obtain ⟨g,a,b,c,d,e,rfl,hcell⟩:=HKID.out r hrl
   obtain ⟨⟨b0,b1,b2,b3,b4⟩,hcall⟩:=hcell _ HB.out
   obtain ⟨q,hq⟩:∃ q,q=cntS (kids[r]'hrl):=⟨_,rfl⟩
   rw [← hq] at hcall
   obtain ⟨q3,hq3⟩:∃ q3,q3=cut3 q:=⟨_,rfl⟩
   rw [← hq3] at hcall
   have HCALL:=Lib.hid hcall
   have HQ:=Lib.hid (And.intro hq hq3)
   have hq8:q3≤3000:=by rw [hq3];exact cut3_le _
   clear hcell hcall hq hq3
   go_wp2_with fail
   refine HCALL.out.mono ?_
   rintro ee w4 ⟨rfl,b4'⟩
   have HB4:=Lib.hid (HB.out.trans (b4'.mono HB.out.size))
   clear b4' b0 b1 b2 b3 b4 e0 e1 e2 e3 e4 HCALL
   obtain ⟨e0,e1,e2,e3,e4⟩:=HN.out _ HB4.out
   have hw1:wrap64 ((q3:Int)+1)=(q3:Int)+1:=IntWalk.wrap64_in _ (by omega)
   have hw2:wrap64 ((k:Int)+(q3:Int))=(k:Int)+(q3:Int):=IntWalk.wrap64_in _ (by omega)
   have hw3:wrap64 ((k:Int)+((q3:Int)+1))=(k:Int)+((q3:Int)+1):=IntWalk.wrap64_in _ (by omega)
   go_wp2
   go_roundg gk
   case measure=>omega
   case rel =>
    refine ⟨r+1,min (k+q3) 3000,by omega,by first | rw [hwr] | rfl | simp,?_,?_,HB4⟩
    ·congr 1;omega
    ·have h1 := HKR.out
     have h2:=HQ.out
     rw [cc_take _ _ hrl,← h2.1,h1,h2.2]
     unfold cut3
     omega
set_option maxRecDepth 100000 in
set_option maxHeartbeats 8000000 in
theorem cnt_3 {sl:List Sp} {kids:List Ns} {mn mx:Int} (ih:∀ x∈kids,CntC x):CntC (.mk 3 sl kids mn mx):=by
 intro W v hv
 obtain ⟨sp,sc,kp,kc,rfl,⟨hl1,hl2⟩,_,_,hk⟩:=hv.read
 obtain ⟨sln,hsln⟩:∃ k,k=List.length sl:=⟨_,rfl⟩
 rw [← hsln]
 obtain ⟨kn,hkn⟩:∃ k,k=List.length kids:=⟨_,rfl⟩
 rw [← hkn]
 obtain ⟨kz,hkz⟩:∃ z:Int,z=((3:Nat):Int):=⟨_,rfl⟩
 rw [← hkz]
 obtain ⟨V,hV⟩:∃ V,V=W.alloc (.cells #[.int .u8 kz,.slice sp sln sc,.slice kp kn kc,.int .i64 mn,.int .i64 mx] 48):=⟨_,rfl⟩
 have hb0:Below W.heap.size W V:=by rw [hV];exact (Below.refl _ _).alloc (Nat.le_refl _) _
 have hx:V.heap[W.heap.size]? = some (.cells #[.int .u8 kz,.slice sp sln sc,.slice kp kn kc,.int .i64 mn,.int .i64 mx] 48 (0,0)):=by rw [hV];exact heap_alloc_new W _
 have hlt0:=(Array.getElem?_eq_some_iff.1 hx).1
 have HN:=Lib.hid (fun (U:World) (hU:Below V.heap.size V U)=>(⟨(hU.cell (p:=⟨W.heap.size,0,none⟩) hlt0).trans (cell_of_row V _ 0 _ _ _ hx),(hU.cell (p:=⟨W.heap.size,1,none⟩) hlt0).trans (cell_of_row V _ 1 _ _ _ hx),(hU.cell (p:=⟨W.heap.size,2,none⟩) hlt0).trans (cell_of_row V _ 2 _ _ _ hx),(hU.cell (p:=⟨W.heap.size,3,none⟩) hlt0).trans (cell_of_row V _ 3 _ _ _ hx),(hU.cell (p:=⟨W.heap.size,4,none⟩) hlt0).trans (cell_of_row V _ 4 _ _ _ hx)⟩:U.cell? ⟨W.heap.size,0,none⟩=some (.int .u8 kz)∧U.cell? ⟨W.heap.size,1,none⟩=some (.slice sp sln sc)∧U.cell? ⟨W.heap.size,2,none⟩=some (.slice kp kn kc)∧U.cell? ⟨W.heap.size,3,none⟩=some (.int .i64 mn)∧U.cell? ⟨W.heap.size,4,none⟩=some (.int .i64 mx)))
 have HKID:Hid (∀ r (hr:r < List.length kids),∃ g a b c d e,kp=some ⟨g,0,none⟩∧∀ U,Below V.heap.size V U→(U.cell? ⟨g,r*5,none⟩=some a∧U.cell? ⟨g,r*5+1,none⟩=some b∧U.cell? ⟨g,r*5+2,none⟩=some c∧U.cell? ⟨g,r*5+3,none⟩=some d∧U.cell? ⟨g,r*5+4,none⟩=some e)∧Calls Tryz.prog 54 #[.agg #[a,b,c,d,e]] U fun ee U'=>ee=.returned (.int .i64 (cut3 (cntS (kids[r]'hr)):Nat))∧Below U.heap.size U U'):=Lib.hid (fun r hr=>by
  obtain ⟨g,e1,⟨cs,hg⟩,h3⟩:=hk (by intro e;rw [e] at hr;cases hr)
  obtain ⟨u,h4,h5⟩:=h3 r hr
  obtain ⟨k1,s1,s2,s3,s4,s5,s6,s7,s8,rfl⟩:=h4.form5
  have hgW:=(Array.getElem?_eq_some_iff.1 hg).1
  refine ⟨g,.int .u8 k1,.slice s1 s2 s3,.slice s4 s5 s6,.int .i64 s7,.int .i64 s8,e1,fun U hU=>?_⟩
  have hWU:=hb0.trans (hU.mono hb0.size)
  exact ⟨⟨(hWU.cell (p:=⟨g,r*5,none⟩) hgW).trans (h5 0 (by omega)),(hWU.cell (p:=⟨g,r*5+1,none⟩) hgW).trans (h5 1 (by omega)),(hWU.cell (p:=⟨g,r*5+2,none⟩) hgW).trans (h5 2 (by omega)),(hWU.cell (p:=⟨g,r*5+3,none⟩) hgW).trans (h5 3 (by omega)),(hWU.cell (p:=⟨g,r*5+4,none⟩) hgW).trans (h5 4 (by omega))⟩,ih _ (List.getElem_mem hr) U _ (h4.step hWU)⟩)
 have HKN:=Lib.hid hkn
 have HB0:=Lib.hid hb0
 have hkn8:kn≤1000:=by rw [hkn];exact hl2
 obtain rfl:kz=3:=by rw [hkz];rfl
 obtain ⟨e0,e1,e2,e3,e4⟩:=HN.out V (Below.refl _ _)
 clear hv hk hb0 hx hlt0 hsln hkn hkz hl1 hl2
 go_enter Tryz.func54,Tryz.ntmps54
 go_upto_region 1 with fail
 rw [← hV]
 clear hV
 go_wp2_with fail
 go_loopg [3,4] kn (fun gk s3 s4 wx=>∃ (r k:Nat),r+gk=kn∧s4=.int .i64 r∧s3=.int .i64 k∧k=cut3 (cntO (List.take r kids))∧Hid (Below V.heap.size V wx))
 case atStart=>exact ⟨0,0,by omega,rfl,rfl,by rw [List.take_zero,cntO];rfl,Lib.hid (Below.refl _ _)⟩
 case round =>
  obtain ⟨r,k,hrg,rfl,rfl,hkr,HB⟩:=hrel
  have hk3:k≤3000:=by rw [hkr];exact cut3_le _
  have HKR:=Lib.hid hkr
  clear e0 e1 e2 e3 e4 hkr
  obtain ⟨e0,e1,e2,e3,e4⟩:=HN.out _ HB.out
  cases gk with
  | zero =>
   obtain rfl:r=kn:=by omega
   have hlt:¬ (r:Int) < (r:Int):=by omega
   have HKE:Hid (k=cut3 (cntO kids)):=Lib.hid (by rw [HKR.out,List.take_of_length_le (by have:=HKN.out;omega)])
   have HE:Hid (Below W.heap.size W wr):=Lib.hid (HB0.out.trans (HB.out.mono HB0.out.size))
   have hw9:wrap64 ((k:Int)+1)=(k:Int)+1:=IntWalk.wrap64_in _ (by omega)
   go_wp2
   go_ret
   refine ⟨?_,HE.out⟩
   have h1:=HKE.out
   rw [cntS]
   unfold cut3 at h1 ⊢
   simp
   omega
  | succ gk =>
   have hlt:(r:Int) < (kn:Int):=by omega
   have hrl:r < List.length kids:=by have:=HKN.out;omega
   have h0:(0:Int)≤(r:Int):=by omega
   have hwr:wrap64 ((r:Int)+1)=((r+1:Nat):Int):=by rw [IntWalk.wrap64_in _ (by omega)];omega
   obtain ⟨g,a,b,c,d,e,rfl,hcell⟩:=HKID.out r hrl
   obtain ⟨⟨b0,b1,b2,b3,b4⟩,hcall⟩:=hcell _ HB.out
   obtain ⟨q,hq⟩:∃ q,q=cntS (kids[r]'hrl):=⟨_,rfl⟩
   rw [← hq] at hcall
   obtain ⟨q3,hq3⟩:∃ q3,q3=cut3 q:=⟨_,rfl⟩
   rw [← hq3] at hcall
   have HCALL:=Lib.hid hcall
   have HQ:=Lib.hid (And.intro hq hq3)
   have hq8:q3≤3000:=by rw [hq3];exact cut3_le _
   clear hcell hcall hq hq3
   go_wp2_with fail
   refine HCALL.out.mono ?_
   rintro ee w4 ⟨rfl,b4'⟩
   have HB4:=Lib.hid (HB.out.trans (b4'.mono HB.out.size))
   clear b4' b0 b1 b2 b3 b4 e0 e1 e2 e3 e4 HCALL
   obtain ⟨e0,e1,e2,e3,e4⟩:=HN.out _ HB4.out
   have hw1:wrap64 ((q3:Int)+1)=(q3:Int)+1:=IntWalk.wrap64_in _ (by omega)
   have hw2:wrap64 ((k:Int)+(q3:Int))=(k:Int)+(q3:Int):=IntWalk.wrap64_in _ (by omega)
   have hw3:wrap64 ((k:Int)+((q3:Int)+1))=(k:Int)+((q3:Int)+1):=IntWalk.wrap64_in _ (by omega)
   go_wp2
   go_roundg gk
   case measure=>omega
   case rel =>
    refine ⟨r+1,min (k+(q3+1)) 3000,by omega,by first | rw [hwr] | rfl | simp,?_,?_,HB4⟩
    ·congr 1;omega
    ·have h1 := HKR.out
     have h2:=HQ.out
     rw [co_take _ _ hrl,← h2.1,h1,h2.2]
     unfold cut3
     omega
set_option maxRecDepth 100000 in
set_option maxHeartbeats 8000000 in
theorem cnt_0 {sl:List Sp} {mn mx:Int} (ih:∀ x∈([]:List Ns),CntC x):CntC (.mk 0 sl ([]:List Ns) mn mx):=by
 intro W v hv
 obtain ⟨sp,sc,kp,kc,rfl,⟨hl1,hl2⟩,_,_,hk⟩:=hv.read
 obtain ⟨sln,hsln⟩:∃ k,k=List.length sl:=⟨_,rfl⟩
 rw [← hsln]
 obtain ⟨kn,hkn⟩:∃ k,k=List.length ([]:List Ns):=⟨_,rfl⟩
 rw [← hkn]
 obtain ⟨kz,hkz⟩:∃ z:Int,z=((0:Nat):Int):=⟨_,rfl⟩
 rw [← hkz]
 obtain ⟨V,hV⟩:∃ V,V=W.alloc (.cells #[.int .u8 kz,.slice sp sln sc,.slice kp kn kc,.int .i64 mn,.int .i64 mx] 48):=⟨_,rfl⟩
 have hb0:Below W.heap.size W V:=by rw [hV];exact (Below.refl _ _).alloc (Nat.le_refl _) _
 have hx:V.heap[W.heap.size]? = some (.cells #[.int .u8 kz,.slice sp sln sc,.slice kp kn kc,.int .i64 mn,.int .i64 mx] 48 (0,0)):=by rw [hV];exact heap_alloc_new W _
 have hlt0:=(Array.getElem?_eq_some_iff.1 hx).1
 have HN:=Lib.hid (fun (U:World) (hU:Below V.heap.size V U)=>(⟨(hU.cell (p:=⟨W.heap.size,0,none⟩) hlt0).trans (cell_of_row V _ 0 _ _ _ hx),(hU.cell (p:=⟨W.heap.size,1,none⟩) hlt0).trans (cell_of_row V _ 1 _ _ _ hx),(hU.cell (p:=⟨W.heap.size,2,none⟩) hlt0).trans (cell_of_row V _ 2 _ _ _ hx),(hU.cell (p:=⟨W.heap.size,3,none⟩) hlt0).trans (cell_of_row V _ 3 _ _ _ hx),(hU.cell (p:=⟨W.heap.size,4,none⟩) hlt0).trans (cell_of_row V _ 4 _ _ _ hx)⟩:U.cell? ⟨W.heap.size,0,none⟩=some (.int .u8 kz)∧U.cell? ⟨W.heap.size,1,none⟩=some (.slice sp sln sc)∧U.cell? ⟨W.heap.size,2,none⟩=some (.slice kp kn kc)∧U.cell? ⟨W.heap.size,3,none⟩=some (.int .i64 mn)∧U.cell? ⟨W.heap.size,4,none⟩=some (.int .i64 mx)))
 have HKID:Hid (∀ r (hr:r < List.length ([]:List Ns)),∃ g a b c d e,kp=some ⟨g,0,none⟩∧∀ U,Below V.heap.size V U→(U.cell? ⟨g,r*5,none⟩=some a∧U.cell? ⟨g,r*5+1,none⟩=some b∧U.cell? ⟨g,r*5+2,none⟩=some c∧U.cell? ⟨g,r*5+3,none⟩=some d∧U.cell? ⟨g,r*5+4,none⟩=some e)∧Calls Tryz.prog 54 #[.agg #[a,b,c,d,e]] U fun ee U'=>ee=.returned (.int .i64 (cut3 (cntS (([]:List Ns)[r]'hr)):Nat))∧Below U.heap.size U U'):=Lib.hid (fun r hr=>by
  obtain ⟨g,e1,⟨cs,hg⟩,h3⟩:=hk (by intro e;rw [e] at hr;cases hr)
  obtain ⟨u,h4,h5⟩:=h3 r hr
  obtain ⟨k1,s1,s2,s3,s4,s5,s6,s7,s8,rfl⟩:=h4.form5
  have hgW:=(Array.getElem?_eq_some_iff.1 hg).1
  refine ⟨g,.int .u8 k1,.slice s1 s2 s3,.slice s4 s5 s6,.int .i64 s7,.int .i64 s8,e1,fun U hU=>?_⟩
  have hWU:=hb0.trans (hU.mono hb0.size)
  exact ⟨⟨(hWU.cell (p:=⟨g,r*5,none⟩) hgW).trans (h5 0 (by omega)),(hWU.cell (p:=⟨g,r*5+1,none⟩) hgW).trans (h5 1 (by omega)),(hWU.cell (p:=⟨g,r*5+2,none⟩) hgW).trans (h5 2 (by omega)),(hWU.cell (p:=⟨g,r*5+3,none⟩) hgW).trans (h5 3 (by omega)),(hWU.cell (p:=⟨g,r*5+4,none⟩) hgW).trans (h5 4 (by omega))⟩,ih _ (List.getElem_mem hr) U _ (h4.step hWU)⟩)
 have HKN:=Lib.hid hkn
 have HB0:=Lib.hid hb0
 have hkn8:kn≤1000:=by rw [hkn];exact hl2
 obtain rfl:kz=0:=by rw [hkz];rfl
 obtain ⟨e0,e1,e2,e3,e4⟩:=HN.out V (Below.refl _ _)
 clear hv hk hb0 hx hlt0 hsln hkn hkz hl1 hl2
 go_enter Tryz.func54,Tryz.ntmps54
 go_upto_region 1 with fail
 rw [← hV]
 clear hV
 go_wp2_with fail
 go_loopg [3,4] kn (fun gk s3 s4 wx=>∃ (r k:Nat),r+gk=kn∧s4=.int .i64 r∧s3=.int .i64 k∧k=cut3 (cntO (List.take r ([]:List Ns)))∧Hid (Below V.heap.size V wx))
 case atStart=>exact ⟨0,0,by omega,rfl,rfl,by rw [List.take_zero,cntO];rfl,Lib.hid (Below.refl _ _)⟩
 case round =>
  obtain ⟨r,k,hrg,rfl,rfl,hkr,HB⟩:=hrel
  have hk3:k≤3000:=by rw [hkr];exact cut3_le _
  have HKR:=Lib.hid hkr
  clear e0 e1 e2 e3 e4 hkr
  obtain ⟨e0,e1,e2,e3,e4⟩:=HN.out _ HB.out
  cases gk with
  | zero =>
   obtain rfl:r=kn:=by omega
   have hlt:¬ (r:Int) < (r:Int):=by omega
   have HKE:Hid (k=cut3 (cntO ([]:List Ns))):=Lib.hid (by rw [HKR.out,List.take_of_length_le (by have:=HKN.out;omega)])
   have HE:Hid (Below W.heap.size W wr):=Lib.hid (HB0.out.trans (HB.out.mono HB0.out.size))
   go_wp2
   go_ret
   refine ⟨?_,HE.out⟩
   have h1:=HKE.out
   rw [cntO] at h1
   rw [cntS]
   unfold cut3 at h1 ⊢
   simp
   omega
  | succ gk =>
   have hlt:(r:Int) < (kn:Int):=by omega
   have hrl:r < List.length ([]:List Ns):=by have:=HKN.out;omega
   have h0:(0:Int)≤(r:Int):=by omega
   have hwr:wrap64 ((r:Int)+1)=((r+1:Nat):Int):=by rw [IntWalk.wrap64_in _ (by omega)];omega
   obtain ⟨g,a,b,c,d,e,rfl,hcell⟩:=HKID.out r hrl
   obtain ⟨⟨b0,b1,b2,b3,b4⟩,hcall⟩:=hcell _ HB.out
   obtain ⟨q,hq⟩:∃ q,q=cntS (([]:List Ns)[r]'hrl):=⟨_,rfl⟩
   rw [← hq] at hcall
   obtain ⟨q3,hq3⟩:∃ q3,q3=cut3 q:=⟨_,rfl⟩
   rw [← hq3] at hcall
   have HCALL:=Lib.hid hcall
   have HQ:=Lib.hid (And.intro hq hq3)
   have hq8:q3≤3000:=by rw [hq3];exact cut3_le _
   clear hcell hcall hq hq3
   go_wp2_with fail
   refine HCALL.out.mono ?_
   rintro ee w4 ⟨rfl,b4'⟩
   have HB4:=Lib.hid (HB.out.trans (b4'.mono HB.out.size))
   clear b4' b0 b1 b2 b3 b4 e0 e1 e2 e3 e4 HCALL
   obtain ⟨e0,e1,e2,e3,e4⟩:=HN.out _ HB4.out
   have hw1:wrap64 ((q3:Int)+1)=(q3:Int)+1:=IntWalk.wrap64_in _ (by omega)
   have hw2:wrap64 ((k:Int)+(q3:Int))=(k:Int)+(q3:Int):=IntWalk.wrap64_in _ (by omega)
   have hw3:wrap64 ((k:Int)+((q3:Int)+1))=(k:Int)+((q3:Int)+1):=IntWalk.wrap64_in _ (by omega)
   go_wp2
   go_roundg gk
   case measure=>omega
   case rel =>
    refine ⟨r+1,min (k+(q3+1)) 3000,by omega,by first | rw [hwr] | rfl | simp,?_,?_,HB4⟩
    ·congr 1;omega
    ·have h1 := HKR.out
     have h2:=HQ.out
     rw [co_take _ _ hrl,← h2.1,h1,h2.2]
     unfold cut3
     omega
set_option maxRecDepth 100000 in
set_option maxHeartbeats 8000000 in
theorem cnt_1 {sl:List Sp} {mn mx:Int} (ih:∀ x∈([]:List Ns),CntC x):CntC (.mk 1 sl ([]:List Ns) mn mx):=by
 intro W v hv
 obtain ⟨sp,sc,kp,kc,rfl,⟨hl1,hl2⟩,_,_,hk⟩:=hv.read
 obtain ⟨sln,hsln⟩:∃ k,k=List.length sl:=⟨_,rfl⟩
 rw [← hsln]
 obtain ⟨kn,hkn⟩:∃ k,k=List.length ([]:List Ns):=⟨_,rfl⟩
 rw [← hkn]
 obtain ⟨kz,hkz⟩:∃ z:Int,z=((1:Nat):Int):=⟨_,rfl⟩
 rw [← hkz]
 obtain ⟨V,hV⟩:∃ V,V=W.alloc (.cells #[.int .u8 kz,.slice sp sln sc,.slice kp kn kc,.int .i64 mn,.int .i64 mx] 48):=⟨_,rfl⟩
 have hb0:Below W.heap.size W V:=by rw [hV];exact (Below.refl _ _).alloc (Nat.le_refl _) _
 have hx:V.heap[W.heap.size]? = some (.cells #[.int .u8 kz,.slice sp sln sc,.slice kp kn kc,.int .i64 mn,.int .i64 mx] 48 (0,0)):=by rw [hV];exact heap_alloc_new W _
 have hlt0:=(Array.getElem?_eq_some_iff.1 hx).1
 have HN:=Lib.hid (fun (U:World) (hU:Below V.heap.size V U)=>(⟨(hU.cell (p:=⟨W.heap.size,0,none⟩) hlt0).trans (cell_of_row V _ 0 _ _ _ hx),(hU.cell (p:=⟨W.heap.size,1,none⟩) hlt0).trans (cell_of_row V _ 1 _ _ _ hx),(hU.cell (p:=⟨W.heap.size,2,none⟩) hlt0).trans (cell_of_row V _ 2 _ _ _ hx),(hU.cell (p:=⟨W.heap.size,3,none⟩) hlt0).trans (cell_of_row V _ 3 _ _ _ hx),(hU.cell (p:=⟨W.heap.size,4,none⟩) hlt0).trans (cell_of_row V _ 4 _ _ _ hx)⟩:U.cell? ⟨W.heap.size,0,none⟩=some (.int .u8 kz)∧U.cell? ⟨W.heap.size,1,none⟩=some (.slice sp sln sc)∧U.cell? ⟨W.heap.size,2,none⟩=some (.slice kp kn kc)∧U.cell? ⟨W.heap.size,3,none⟩=some (.int .i64 mn)∧U.cell? ⟨W.heap.size,4,none⟩=some (.int .i64 mx)))
 have HKID:Hid (∀ r (hr:r < List.length ([]:List Ns)),∃ g a b c d e,kp=some ⟨g,0,none⟩∧∀ U,Below V.heap.size V U→(U.cell? ⟨g,r*5,none⟩=some a∧U.cell? ⟨g,r*5+1,none⟩=some b∧U.cell? ⟨g,r*5+2,none⟩=some c∧U.cell? ⟨g,r*5+3,none⟩=some d∧U.cell? ⟨g,r*5+4,none⟩=some e)∧Calls Tryz.prog 54 #[.agg #[a,b,c,d,e]] U fun ee U'=>ee=.returned (.int .i64 (cut3 (cntS (([]:List Ns)[r]'hr)):Nat))∧Below U.heap.size U U'):=Lib.hid (fun r hr=>by
  obtain ⟨g,e1,⟨cs,hg⟩,h3⟩:=hk (by intro e;rw [e] at hr;cases hr)
  obtain ⟨u,h4,h5⟩:=h3 r hr
  obtain ⟨k1,s1,s2,s3,s4,s5,s6,s7,s8,rfl⟩:=h4.form5
  have hgW:=(Array.getElem?_eq_some_iff.1 hg).1
  refine ⟨g,.int .u8 k1,.slice s1 s2 s3,.slice s4 s5 s6,.int .i64 s7,.int .i64 s8,e1,fun U hU=>?_⟩
  have hWU:=hb0.trans (hU.mono hb0.size)
  exact ⟨⟨(hWU.cell (p:=⟨g,r*5,none⟩) hgW).trans (h5 0 (by omega)),(hWU.cell (p:=⟨g,r*5+1,none⟩) hgW).trans (h5 1 (by omega)),(hWU.cell (p:=⟨g,r*5+2,none⟩) hgW).trans (h5 2 (by omega)),(hWU.cell (p:=⟨g,r*5+3,none⟩) hgW).trans (h5 3 (by omega)),(hWU.cell (p:=⟨g,r*5+4,none⟩) hgW).trans (h5 4 (by omega))⟩,ih _ (List.getElem_mem hr) U _ (h4.step hWU)⟩)
 have HKN:=Lib.hid hkn
 have HB0:=Lib.hid hb0
 have hkn8:kn≤1000:=by rw [hkn];exact hl2
 obtain rfl:kz=1:=by rw [hkz];rfl
 obtain ⟨e0,e1,e2,e3,e4⟩:=HN.out V (Below.refl _ _)
 clear hv hk hb0 hx hlt0 hsln hkn hkz hl1 hl2
 go_enter Tryz.func54,Tryz.ntmps54
 go_upto_region 1 with fail
 rw [← hV]
 clear hV
 go_wp2_with fail
 go_loopg [3,4] kn (fun gk s3 s4 wx=>∃ (r k:Nat),r+gk=kn∧s4=.int .i64 r∧s3=.int .i64 k∧k=cut3 (cntO (List.take r ([]:List Ns)))∧Hid (Below V.heap.size V wx))
 case atStart=>exact ⟨0,0,by omega,rfl,rfl,by rw [List.take_zero,cntO];rfl,Lib.hid (Below.refl _ _)⟩
 case round =>
  obtain ⟨r,k,hrg,rfl,rfl,hkr,HB⟩:=hrel
  have hk3:k≤3000:=by rw [hkr];exact cut3_le _
  have HKR:=Lib.hid hkr
  clear e0 e1 e2 e3 e4 hkr
  obtain ⟨e0,e1,e2,e3,e4⟩:=HN.out _ HB.out
  cases gk with
  | zero =>
   obtain rfl:r=kn:=by omega
   have hlt:¬ (r:Int) < (r:Int):=by omega
   have HKE:Hid (k=cut3 (cntO ([]:List Ns))):=Lib.hid (by rw [HKR.out,List.take_of_length_le (by have:=HKN.out;omega)])
   have HE:Hid (Below W.heap.size W wr):=Lib.hid (HB0.out.trans (HB.out.mono HB0.out.size))
   have hw9:wrap64 ((k:Int)+1)=(k:Int)+1:=IntWalk.wrap64_in _ (by omega)
   go_wp2
   go_ret
   refine ⟨?_,HE.out⟩
   have h1:=HKE.out
   rw [cntO] at h1
   rw [cntS]
   unfold cut3 at h1 ⊢
   simp
   omega
  | succ gk =>
   have hlt:(r:Int) < (kn:Int):=by omega
   have hrl:r < List.length ([]:List Ns):=by have:=HKN.out;omega
   have h0:(0:Int)≤(r:Int):=by omega
   have hwr:wrap64 ((r:Int)+1)=((r+1:Nat):Int):=by rw [IntWalk.wrap64_in _ (by omega)];omega
   obtain ⟨g,a,b,c,d,e,rfl,hcell⟩:=HKID.out r hrl
   obtain ⟨⟨b0,b1,b2,b3,b4⟩,hcall⟩:=hcell _ HB.out
   obtain ⟨q,hq⟩:∃ q,q=cntS (([]:List Ns)[r]'hrl):=⟨_,rfl⟩
   rw [← hq] at hcall
   obtain ⟨q3,hq3⟩:∃ q3,q3=cut3 q:=⟨_,rfl⟩
   rw [← hq3] at hcall
   have HCALL:=Lib.hid hcall
   have HQ:=Lib.hid (And.intro hq hq3)
   have hq8:q3≤3000:=by rw [hq3];exact cut3_le _
   clear hcell hcall hq hq3
   go_wp2_with fail
   refine HCALL.out.mono ?_
   rintro ee w4 ⟨rfl,b4'⟩
   have HB4:=Lib.hid (HB.out.trans (b4'.mono HB.out.size))
   clear b4' b0 b1 b2 b3 b4 e0 e1 e2 e3 e4 HCALL
   obtain ⟨e0,e1,e2,e3,e4⟩:=HN.out _ HB4.out
   have hw1:wrap64 ((q3:Int)+1)=(q3:Int)+1:=IntWalk.wrap64_in _ (by omega)
   have hw2:wrap64 ((k:Int)+(q3:Int))=(k:Int)+(q3:Int):=IntWalk.wrap64_in _ (by omega)
   have hw3:wrap64 ((k:Int)+((q3:Int)+1))=(k:Int)+((q3:Int)+1):=IntWalk.wrap64_in _ (by omega)
   go_wp2
   go_roundg gk
   case measure=>omega
   case rel =>
    refine ⟨r+1,min (k+(q3+1)) 3000,by omega,by first | rw [hwr] | rfl | simp,?_,?_,HB4⟩
    ·congr 1;omega
    ·have h1 := HKR.out
     have h2:=HQ.out
     rw [co_take _ _ hrl,← h2.1,h1,h2.2]
     unfold cut3
     omega
end Go.Proofs.YtioahgklplbinaaGreatDoor
namespace Go.Proofs.YtioahgklplbinaaGreatDoor
open Go.RowKit Go.Shelf Go.Maps SetM PropsM RxM WrM NfaM
theorem cut_times {c k t:Nat} (hk:k=cut3 (c+1)):min (k*t+1) 3000=cut3 ((c+1)*t+1):=by
 unfold cut3 at hk ⊢
 rcases Nat.lt_or_ge 3000 (c+1) with h | h
 ·have hk : k = 3000 := by omega
  subst hk
  cases t with
  | zero=>simp
  | succ t =>
   have:3000*(t+1)≤(c+1)*(t+1):=Nat.mul_le_mul_right _ (by omega)
   omega
 ·have hk : k = c + 1 := by omega
  rw [hk]
theorem times_t {mn mx:Int} {t:Nat} (hmn:0≤mn∧mn≤20) (hmx:mx = -1∨(mn≤mx∧mx≤20)) (ht:(t:Int)=if mx < 0 then mn+1 else mx):mn.toNat+(if mx < 0 then 1 else (mx - mn).toNat)=t:=by
 by_cases h:mx < 0
 ·rw [if_pos h] at ht ⊢;omega
 ·rw [if_neg h] at ht ⊢;omega
set_option maxRecDepth 100000 in
set_option maxHeartbeats 8000000 in
theorem cnt_4 {sl:List Sp} {x:Ns} {kids:List Ns} (HKX:Hid (kids=[x])) {mn mx:Int} (HMN:Hid ((0≤mn∧mn≤20)∧(mx = -1∨(mn≤mx∧mx≤20)))) (ih:∀ y∈kids,CntC y):CntC (.mk 4 sl kids mn mx):=by
 intro W v hv
 obtain ⟨sp,sc,kp,kc,rfl,⟨hl1,hl2⟩,_,_,hk⟩:=hv.read
 obtain ⟨sln,hsln⟩:∃ k,k=List.length sl:=⟨_,rfl⟩
 rw [← hsln]
 obtain ⟨kn,hkn⟩:∃ k,k=List.length kids:=⟨_,rfl⟩
 rw [← hkn]
 obtain ⟨kz,hkz⟩:∃ z:Int,z=((4:Nat):Int):=⟨_,rfl⟩
 rw [← hkz]
 obtain ⟨V,hV⟩:∃ V,V=W.alloc (.cells #[.int .u8 kz,.slice sp sln sc,.slice kp kn kc,.int .i64 mn,.int .i64 mx] 48):=⟨_,rfl⟩
 have hb0:Below W.heap.size W V:=by rw [hV];exact (Below.refl _ _).alloc (Nat.le_refl _) _
 have hx:V.heap[W.heap.size]? = some (.cells #[.int .u8 kz,.slice sp sln sc,.slice kp kn kc,.int .i64 mn,.int .i64 mx] 48 (0,0)):=by rw [hV];exact heap_alloc_new W _
 have hlt0:=(Array.getElem?_eq_some_iff.1 hx).1
 have HN:=Lib.hid (fun (U:World) (hU:Below V.heap.size V U)=>(⟨(hU.cell (p:=⟨W.heap.size,0,none⟩) hlt0).trans (cell_of_row V _ 0 _ _ _ hx),(hU.cell (p:=⟨W.heap.size,1,none⟩) hlt0).trans (cell_of_row V _ 1 _ _ _ hx),(hU.cell (p:=⟨W.heap.size,2,none⟩) hlt0).trans (cell_of_row V _ 2 _ _ _ hx),(hU.cell (p:=⟨W.heap.size,3,none⟩) hlt0).trans (cell_of_row V _ 3 _ _ _ hx),(hU.cell (p:=⟨W.heap.size,4,none⟩) hlt0).trans (cell_of_row V _ 4 _ _ _ hx)⟩:U.cell? ⟨W.heap.size,0,none⟩=some (.int .u8 kz)∧U.cell? ⟨W.heap.size,1,none⟩=some (.slice sp sln sc)∧U.cell? ⟨W.heap.size,2,none⟩=some (.slice kp kn kc)∧U.cell? ⟨W.heap.size,3,none⟩=some (.int .i64 mn)∧U.cell? ⟨W.heap.size,4,none⟩=some (.int .i64 mx)))
 have HKID:Hid (∀ r (hr:r < List.length kids),∃ g a b c d e,kp=some ⟨g,0,none⟩∧∀ U,Below V.heap.size V U→(U.cell? ⟨g,r*5,none⟩=some a∧U.cell? ⟨g,r*5+1,none⟩=some b∧U.cell? ⟨g,r*5+2,none⟩=some c∧U.cell? ⟨g,r*5+3,none⟩=some d∧U.cell? ⟨g,r*5+4,none⟩=some e)∧Calls Tryz.prog 54 #[.agg #[a,b,c,d,e]] U fun ee U'=>ee=.returned (.int .i64 (cut3 (cntS (kids[r]'hr)):Nat))∧Below U.heap.size U U'):=Lib.hid (fun r hr=>by
  obtain ⟨g,e1,⟨cs,hg⟩,h3⟩:=hk (by intro e;rw [e] at hr;cases hr)
  obtain ⟨u,h4,h5⟩:=h3 r hr
  obtain ⟨k1,s1,s2,s3,s4,s5,s6,s7,s8,rfl⟩:=h4.form5
  have hgW:=(Array.getElem?_eq_some_iff.1 hg).1
  refine ⟨g,.int .u8 k1,.slice s1 s2 s3,.slice s4 s5 s6,.int .i64 s7,.int .i64 s8,e1,fun U hU=>?_⟩
  have hWU:=hb0.trans (hU.mono hb0.size)
  exact ⟨⟨(hWU.cell (p:=⟨g,r*5,none⟩) hgW).trans (h5 0 (by omega)),(hWU.cell (p:=⟨g,r*5+1,none⟩) hgW).trans (h5 1 (by omega)),(hWU.cell (p:=⟨g,r*5+2,none⟩) hgW).trans (h5 2 (by omega)),(hWU.cell (p:=⟨g,r*5+3,none⟩) hgW).trans (h5 3 (by omega)),(hWU.cell (p:=⟨g,r*5+4,none⟩) hgW).trans (h5 4 (by omega))⟩,ih _ (List.getElem_mem hr) U _ (h4.step hWU)⟩)
 have HKN:=Lib.hid hkn
 have HB0:=Lib.hid hb0
 have hkn8:kn≤1000:=by rw [hkn];exact hl2
 obtain rfl:kz=4:=by rw [hkz];rfl
 obtain ⟨e0,e1,e2,e3,e4⟩:=HN.out V (Below.refl _ _)
 clear hv hk hb0 hx hlt0 hsln hkn hkz hl1 hl2
 go_enter Tryz.func54,Tryz.ntmps54
 go_upto_region 1 with fail
 rw [← hV]
 clear hV
 go_wp2_with fail
 go_loopg [3,4] kn (fun gk s3 s4 wx=>∃ (r k:Nat),r+gk=kn∧s4=.int .i64 r∧s3=.int .i64 k∧k=cut3 (cntO (List.take r kids))∧Hid (Below V.heap.size V wx))
 case atStart=>exact ⟨0,0,by omega,rfl,rfl,by rw [List.take_zero,cntO];rfl,Lib.hid (Below.refl _ _)⟩
 case round =>
  obtain ⟨r,k,hrg,rfl,rfl,hkr,HB⟩:=hrel
  have hk3:k≤3000:=by rw [hkr];exact cut3_le _
  have HKR:=Lib.hid hkr
  clear e0 e1 e2 e3 e4 hkr
  obtain ⟨e0,e1,e2,e3,e4⟩:=HN.out _ HB.out
  cases gk with
  | zero =>
   obtain rfl:r=kn:=by omega
   have hlt:¬ (r:Int) < (r:Int):=by omega
   have HKE:Hid (k=cut3 (cntO kids)):=Lib.hid (by rw [HKR.out,List.take_of_length_le (by have:=HKN.out;omega)])
   have HE:Hid (Below W.heap.size W wr):=Lib.hid (HB0.out.trans (HB.out.mono HB0.out.size))
   obtain ⟨hmn,hmx⟩:=HMN.out
   obtain ⟨t,ht⟩:∃ t:Nat,(t:Int)=if mx < 0 then mn+1 else mx:=⟨(if mx < 0 then mn+1 else mx).toNat,by split <;> omega⟩
   have ht8:t≤21:=by by_cases h:mx < 0 <;> simp [h] at ht <;> omega
   have hkt:k*t≤3000*21:=Nat.mul_le_mul hk3 ht8
   obtain ⟨pp,hpp⟩:∃ pp,pp=k*t:=⟨_,rfl⟩
   have hpi:((pp:Nat):Int)=(k:Int)*(t:Int):=by rw [hpp];push_cast;rfl
   rw [← hpp] at hkt
   have HFIN:Hid (((min ((k:Int)*(t:Int)+1) 3000:Int))=(cut3 (cntS (.mk 4 sl kids mn mx)):Nat)):=Lib.hid (by
    have h1:=HKE.out
    rw [HKX.out,cntO,cntO] at h1
    have h2:=cut_times (t:=t) (c:=cntS x) (k:=k) (by rw [h1])
    have h3:cntS (.mk 4 sl kids mn mx)=(cntS x+1)*t+1:=by rw [cntS,HKX.out,cntR];simp only [timesN];rw [times_t hmn hmx ht];rfl
    rw [h3,← h2,← hpi,← hpp]
    omega)
   have hwm:wrap64 ((k:Int)*(t:Int))=(k:Int)*(t:Int):=IntWalk.wrap64_in _ (by rw [← hpi];omega)
   have hwm1:wrap64 ((k:Int)*(t:Int)+1)=(k:Int)*(t:Int)+1:=IntWalk.wrap64_in _ (by rw [← hpi];omega)
   have HMN2:=Lib.hid (And.intro hmn hmx)
   clear hmn hmx
   by_cases hneg:mx < 0
   ·rw [if_pos hneg] at ht
    have hw5:wrap64 (mn+1)=(t:Int):=by rw [IntWalk.wrap64_in _ (by have:=HMN2.out;omega)];omega
    clear ht hpp hkt hpi
    go_wp2
    go_ret
    refine ⟨?_,HE.out⟩
    simp
    exact HFIN.out
   ·rw [if_neg hneg] at ht
    subst ht
    go_wp2
    go_ret
    refine ⟨?_,HE.out⟩
    simp
    exact HFIN.out
  | succ gk =>
   have hlt:(r:Int) < (kn:Int):=by omega
   have hrl:r < List.length kids:=by have:=HKN.out;omega
   have h0:(0:Int)≤(r:Int):=by omega
   have hwr:wrap64 ((r:Int)+1)=((r+1:Nat):Int):=by rw [IntWalk.wrap64_in _ (by omega)];omega
   obtain ⟨g,a,b,c,d,e,rfl,hcell⟩:=HKID.out r hrl
   obtain ⟨⟨b0,b1,b2,b3,b4⟩,hcall⟩:=hcell _ HB.out
   obtain ⟨q,hq⟩:∃ q,q=cntS (kids[r]'hrl):=⟨_,rfl⟩
   rw [← hq] at hcall
   obtain ⟨q3,hq3⟩:∃ q3,q3=cut3 q:=⟨_,rfl⟩
   rw [← hq3] at hcall
   have HCALL:=Lib.hid hcall
   have HQ:=Lib.hid (And.intro hq hq3)
   have hq8:q3≤3000:=by rw [hq3];exact cut3_le _
   clear hcell hcall hq hq3
   go_wp2_with fail
   refine HCALL.out.mono ?_
   rintro ee w4 ⟨rfl,b4'⟩
   have HB4:=Lib.hid (HB.out.trans (b4'.mono HB.out.size))
   clear b4' b0 b1 b2 b3 b4 e0 e1 e2 e3 e4 HCALL
   obtain ⟨e0,e1,e2,e3,e4⟩:=HN.out _ HB4.out
   have hw1:wrap64 ((q3:Int)+1)=(q3:Int)+1:=IntWalk.wrap64_in _ (by omega)
   have hw2:wrap64 ((k:Int)+(q3:Int))=(k:Int)+(q3:Int):=IntWalk.wrap64_in _ (by omega)
   have hw3:wrap64 ((k:Int)+((q3:Int)+1))=(k:Int)+((q3:Int)+1):=IntWalk.wrap64_in _ (by omega)
   go_wp2
   go_roundg gk
   case measure=>omega
   case rel =>
    refine ⟨r+1,min (k+(q3+1)) 3000,by omega,by first | rw [hwr] | rfl | simp,?_,?_,HB4⟩
    ·congr 1;omega
    ·have h1 := HKR.out
     have h2:=HQ.out
     rw [co_take _ _ hrl,← h2.1,h1,h2.2]
     unfold cut3
     omega
theorem cnt_all : ∀ (u : Ns), Shp u → CntC u
 | .mk k sl kids mn mx,h=>by
  rw [shp_mk,shpL_iff] at h
  obtain ⟨hs,hk⟩:=h
  have ih:∀ x∈kids,CntC x:=fun x _hx=>cnt_all x (hk x _hx)
  rcases hs with ⟨rfl,rfl,h0,rfl,rfl⟩ | ⟨rfl,h0,rfl,rfl,_⟩ | ⟨h23,_,rfl,rfl,rfl⟩ | ⟨rfl,h1,rfl,hmn,hmx⟩
  ·obtain rfl := List.length_eq_zero_iff.1 h0
   exact cnt_0 ih
  ·obtain rfl := List.length_eq_zero_iff.1 h0
   exact cnt_1 ih
  ·rcases h23 with rfl | rfl
   ·exact cnt_2 ih
   ·exact cnt_3 ih
  ·obtain ⟨x, rfl⟩ := List.length_eq_one_iff.1 h1
   exact cnt_4 (Lib.hid rfl) (Lib.hid ⟨hmn,hmx⟩) ih
termination_by u=>SizeOf.sizeOf u
decreasing_by
 have:=List.sizeOf_lt_of_mem (show x∈kids from _hx)
 simp only [Ns.mk.sizeOf_spec]
 omega
end Go.Proofs.YtioahgklplbinaaGreatDoor
namespace Go.Proofs.YtioahgklplbinaaGreatDoor
open Go.RowKit Go.Shelf Go.Maps SetM PropsM RxM WrM NfaM
def NsL (W:World) (P:Option Addr) (us:List Ns):Prop:=∀ i (hi:i < us.length),∃ g a b c d e,P=some ⟨g,0,none⟩∧g < W.heap.size∧RV W (.agg #[a,b,c,d,e]) us[i]∧W.cell? ⟨g,i*5,none⟩=some a∧W.cell? ⟨g,i*5+1,none⟩=some b∧W.cell? ⟨g,i*5+2,none⟩=some c∧W.cell? ⟨g,i*5+3,none⟩=some d∧W.cell? ⟨g,i*5+4,none⟩=some e
def sumF : List Ns → Nat
 | []=>1
 | u::l=>sumF l+(1+cut3 (cntS u))
theorem sum_snoc : ∀ (l : List Ns) (u : Ns), sumF (l ++ [u]) = sumF l + (1 + cut3 (cntS u))
 | [],u=>by rw [List.nil_append,sumF,sumF,sumF]
 | y::l,u=>by rw [List.cons_append,sumF,sumF,sum_snoc l u];omega
theorem sum_le : ∀ (l : List Ns), sumF l ≤ 1 + 3001 * l.length
 | []=>by rw [sumF];simp
 | y::l=>by
  have:=sum_le l
  have:=cut3_le (cntS y)
  rw [sumF,List.length_cons]
  omega
def SndL (us:List Ns):Prop:=∀ u∈us,SndAt u 0
noncomputable def whyF (us:List Ns):Nat:=if us.length < 1∨30 < us.length then 1 else if @decide (SndL us) (Classical.propDecidable _)=true then (if 2000 < sumF us then 63 else 0) else 1
theorem why_long {us:List Ns} (h:us.length < 1∨30 < us.length):whyF us=1:=by unfold whyF;rw [if_pos h]
theorem why_bad {us:List Ns} (h:¬ SndL us):whyF us=1:=by
 unfold whyF
 split
 ·rfl
 ·rw [if_neg (by rw [@decide_eq_true_iff _ (Classical.propDecidable _)];exact h)]
theorem why_ok {us:List Ns} (h1:¬ (us.length < 1∨30 < us.length)) (h:SndL us):whyF us=if 2000 < sumF us then 63 else 0:=by
 unfold whyF
 rw [if_neg h1,if_pos (by rw [@decide_eq_true_iff _ (Classical.propDecidable _)];exact h)]
set_option maxRecDepth 100000 in
set_option maxHeartbeats 8000000 in
theorem why_c {WOK : Ns → Prop} (HSD : Hid (∀ (W : World) (v : Value) (u : Ns), RV W v u → WOK u → Calls Tryz.prog 53 #[v] W fun e W' => e = .returned (.bool (sndB u 0)) ∧ Below W.heap.size W W'))
  {W:World} {P:Option Addr} {us:List Ns} {pc:Nat} (h:NsL W P us) (hw:∀ u∈us,WOK u) (hl:us.length≤1000000):Calls Tryz.prog 27 #[.slice P us.length pc] W fun e W'=>e=.returned (.int .i64 (whyF us:Nat))∧Below W.heap.size W W':=by
 obtain ⟨n,hn⟩:∃ n,n=us.length:=⟨_,rfl⟩
 rw [← hn]
 have HK:Hid (∀ i (hi:i < us.length),∃ g a b c d e,P=some ⟨g,0,none⟩∧∀ U,Below W.heap.size W U→RV U (.agg #[a,b,c,d,e]) us[i]∧U.cell? ⟨g,i*5,none⟩=some a∧U.cell? ⟨g,i*5+1,none⟩=some b∧U.cell? ⟨g,i*5+2,none⟩=some c∧U.cell? ⟨g,i*5+3,none⟩=some d∧U.cell? ⟨g,i*5+4,none⟩=some e):=Lib.hid (fun i hi=>by
  obtain ⟨g,a,b,c,d,e,e1,hg,hv,r0,r1,r2,r3,r4⟩:=h i hi
  exact ⟨g,a,b,c,d,e,e1,fun U hU=>⟨hv.step hU,(hU.cell (p:=⟨g,i*5,none⟩) hg).trans r0,(hU.cell (p:=⟨g,i*5+1,none⟩) hg).trans r1,(hU.cell (p:=⟨g,i*5+2,none⟩) hg).trans r2,(hU.cell (p:=⟨g,i*5+3,none⟩) hg).trans r3,(hU.cell (p:=⟨g,i*5+4,none⟩) hg).trans r4⟩⟩)
 have HN:=Lib.hid hn
 have HW:=Lib.hid hw
 have hn6:n≤1000000:=by rw [hn];exact hl
 clear h hn hw hl
 go_enter Tryz.func27,Tryz.ntmps27
 rcases (show n < 1∨(¬ n < 1∧30 < n)∨(¬ n < 1∧¬ 30 < n) by omega) with h1 | ⟨h1,h2⟩ | ⟨h1,h2⟩
 ·have g1 : (n : Int) < 1 := by omega
  have HY:Hid (whyF us=1):=Lib.hid (why_long (by have:=HN.out;omega))
  go_wp2
  go_ret
  exact ⟨by rw [HY.out];rfl,Below.refl _ _⟩
 ·have g1 : ¬ (n : Int) < 1 := by omega
  have g2:(30:Int) < (n:Int):=by omega
  have HY:Hid (whyF us=1):=Lib.hid (why_long (by have:=HN.out;omega))
  go_wp2
  go_ret
  exact ⟨by rw [HY.out];rfl,Below.refl _ _⟩
 ·have g1 : ¬ (n : Int) < 1 := by omega
  have g2:¬ (30:Int) < (n:Int):=by omega
  have hn30:n≤30:=by omega
  have HNL:Hid (¬ (us.length < 1∨30 < us.length)):=Lib.hid (by have:=HN.out;omega)
  clear h1 h2 hn6
  go_wp2_with fail
  go_loopg [3,4] n (fun gk s3 s4 wx=>∃ (r k:Nat),r+gk=n∧s4=.int .i64 r∧s3=.int .i64 k∧Hid (k=sumF (us.take r)∧SndL (us.take r))∧Hid (Below W.heap.size W wx))
  case atStart=>exact ⟨0,1,by omega,rfl,rfl,Lib.hid ⟨by rw [List.take_zero,sumF],fun u hu=>by rw [List.take_zero] at hu;cases hu⟩,Lib.hid (Below.refl _ _)⟩
  case round =>
   obtain ⟨r,k,hrg,rfl,rfl,HKR,HB⟩:=hrel
   have hk9:k≤100000:=by
    have h1:=sum_le (us.take r)
    have h2:=HKR.out.1
    rw [List.length_take] at h1
    have:min r us.length≤30:=by have:=HN.out;omega
    omega
   clear g1 g2
   cases gk with
   | zero =>
    obtain rfl:r=n:=by omega
    have hlt:¬ (r:Int) < (r:Int):=by omega
    have HT:Hid (us.take r=us):=Lib.hid (List.take_of_length_le (by have:=HN.out;omega))
    by_cases hk2:2000 < k
    ·have hg : (2000 : Int) < (k : Int) := by omega
     have HY:Hid (whyF us=63):=Lib.hid (by
      have h1:=HKR.out
      rw [HT.out] at h1
      rw [why_ok HNL.out h1.2,← h1.1,if_pos hk2])
     go_wp2
     go_ret
     exact ⟨by rw [HY.out];rfl,HB.out⟩
    ·have hg : ¬ (2000 : Int) < (k : Int) := by omega
     have HY:Hid (whyF us=0):=Lib.hid (by
      have h1:=HKR.out
      rw [HT.out] at h1
      rw [why_ok HNL.out h1.2,← h1.1,if_neg hk2])
     go_wp2
     go_ret
     exact ⟨by rw [HY.out];rfl,HB.out⟩
   | succ gk =>
    have hlt:(r:Int) < (n:Int):=by omega
    have hrl:r < us.length:=by have:=HN.out;omega
    have h0:(0:Int)≤(r:Int):=by omega
    have hwr:wrap64 ((r:Int)+1)=((r+1:Nat):Int):=by rw [IntWalk.wrap64_in _ (by omega)];omega
    obtain ⟨g,a,b,c,d,e,rfl,hcell⟩:=HK.out r hrl
    have HCE:=Lib.hid hcell
    obtain ⟨hv,b0,b1,b2,b3,b4⟩:=hcell _ HB.out
    have HS:=Lib.hid (HSD.out _ _ _ hv (HW.out _ (List.getElem_mem hrl)))
    clear hv hcell
    go_wp2_with fail
    refine HS.out.mono ?_
    rintro ee w4 ⟨rfl,b4'⟩
    have HB4:=Lib.hid (HB.out.trans (b4'.mono HB.out.size))
    clear b4' b0 b1 b2 b3 b4 HS
    cases hq:sndB us[r] 0 with
    | false =>
     have HY:Hid (whyF us=1):=Lib.hid (why_bad (fun h=>sndB_false.1 hq (h _ (List.getElem_mem hrl))))
     clear hq
     go_wp2
     go_ret
     exact ⟨by rw [HY.out];rfl,HB4.out⟩
    | true =>
     have HSR:=Lib.hid (sndB_true.1 hq)
     clear hq
     obtain ⟨hv,b0,b1,b2,b3,b4⟩:=HCE.out _ HB4.out
     have HCN:=Lib.hid (cnt_all us[r] HSR.out.1 _ _ hv)
     obtain ⟨q3,hq3⟩:∃ q3,q3=cut3 (cntS us[r]):=⟨_,rfl⟩
     rw [← hq3] at HCN
     have HQ3:=Lib.hid hq3
     have hq8:q3≤3000:=by rw [hq3];exact cut3_le _
     clear hv hq3
     go_wp2_with fail
     refine HCN.out.mono ?_
     rintro ee w5 ⟨rfl,b5⟩
     have HB5:=Lib.hid (HB4.out.trans (b5.mono HB4.out.size))
     clear b5 b0 b1 b2 b3 b4 HCN
     have hw1:wrap64 (1+(q3:Int))=1+(q3:Int):=IntWalk.wrap64_in _ (by omega)
     have hw2:wrap64 ((k:Int)+(1+(q3:Int)))=(k:Int)+(1+(q3:Int)):=IntWalk.wrap64_in _ (by omega)
     go_wp2
     go_roundg gk
     case measure=>omega
     case rel =>
      refine ⟨r+1,k+(1+q3),by omega,by first | rw [hwr] | rfl | simp,?_,Lib.hid ⟨?_,?_⟩,HB5⟩
      ·congr 1
      ·rw [List.take_succ_eq_append_getElem hrl,sum_snoc,← HKR.out.1,HQ3.out]
      ·rw [List.take_succ_eq_append_getElem hrl]
       intro u hu
       rcases List.mem_append.1 hu with hu | hu
       ·exact HKR.out.2 u hu
       ·simp at hu;rw [hu];exact HSR.out
end Go.Proofs.YtioahgklplbinaaGreatDoor
namespace Go.Proofs.YtioahgklplbinaaGreatDoor
open Go.RowKit Go.Shelf Go.Maps SetM PropsM RxM WrM NfaM
theorem NIs.toRB {W : World} {A : Nat → Prop} : ∀ (h : Nat) (v : Value) (t : Nd), NIs W A h v t → ∃ u, nd u = t ∧ RIB W A h v u ∧ Nfs u ∧ Lim 100000 u
 | 0,_,_,hn=>hn.elim
 | h+1,v,.mk k K kids mn mx,hn=>by
  obtain ⟨sp,sl,sc,kp,kc,e,hK,hl,hs,hz,ha,hk0,hk1⟩:=hn
  have hKm:Mem sl=K:=funext fun r=>propext (hK.2 r)
  have main:∃ us:List Ns,ndL us=kids∧NfsL us∧LimL 100000 us∧(kids≠[]→∃ g,kp=some ⟨g,0,none⟩∧A g∧(∃ cs,W.heap[g]? = some (.cells cs 48 (0,0)))∧∀ i (hi:i < us.length),∃ u,RIB W A h u us[i]∧∀ j,j < 5→W.cell? ⟨g,i*5+j,none⟩=(kidParts u)[j]?):=by
   by_cases hne:kids=[]
   ·subst hne
    exact ⟨[],by rw [ndL],by rw [NfsL];trivial,by rw [LimL];trivial,fun h=>absurd rfl h⟩
   ·obtain ⟨g, cs, vs, e1, hA, hb, h1, h2, h3⟩ := hk1 hne
    obtain ⟨us,hus,hall⟩:=list_of (P:=fun i u=>∀ (hi:i < kids.length) x,vs[i]? = some x→nd u=kids[i]∧RIB W A h x u∧Nfs u∧Lim 100000 u) kids.length (fun i hi=>by
     obtain ⟨u,hu⟩:=NIs.toRB h _ _ (h3 i hi vs[i] (List.getElem?_eq_getElem (by omega)))
     exact ⟨u,fun _ x hx=>by rw [List.getElem?_eq_getElem (by omega)] at hx;cases hx;exact hu⟩)
    have hall':∀ i (hi:i < us.length),nd us[i]=kids[i]∧RIB W A h vs[i] us[i]∧Nfs us[i]∧Lim 100000 us[i]:=fun i hi=>hall i hi (by omega) vs[i] (List.getElem?_eq_getElem (by omega))
    have h5:∀ u∈vs,(kidParts u).length=5:=fun u hu=>by
     obtain ⟨j,hj,rfl⟩:=List.mem_iff_getElem.1 hu
     exact (h3 j (by omega) _ (List.getElem?_eq_getElem hj)).parts
    refine ⟨us,?_,?_,?_,fun _=>⟨g,e1,hA,⟨cs,hb⟩,fun i hi=>⟨vs[i],(hall' i hi).2.1,fun j hj=>?_⟩⟩⟩
    ·rw [ndL_eq]
     refine List.ext_getElem (by simp [hus]) (fun i hi hi'=>?_)
     rw [List.getElem_map]
     exact (hall' i (by omega)).1
    ·rw [nfsL_iff]
     intro x hx
     obtain ⟨i,hi,rfl⟩:=List.mem_iff_getElem.1 hx
     exact (hall' i hi).2.2.1
    ·rw [limL_iff]
     intro x hx
     obtain ⟨i,hi,rfl⟩:=List.mem_iff_getElem.1 hx
     exact (hall' i hi).2.2.2
    ·rw [cell_of_row W g (i*5+j) _ _ _ hb,← flat5 vs h5 i j hj _ (List.getElem?_eq_getElem (by omega)),← h2,List.getElem?_take_of_lt (by omega),Array.getElem?_toList]
  obtain ⟨us,m1,m2,m3,m4⟩:=main
  have hlen:us.length=kids.length:=by rw [← m1,ndL_eq,List.length_map]
  refine ⟨.mk k sl us mn mx,by rw [nd_mk,hKm,m1],⟨sp,sc,kp,kc,by rw [hlen];exact e,by rw [hlen];exact hl,hs,hz,fun hne a ea=>ha a ea hne,fun hne=>m4 (fun e=>hne (List.length_eq_zero_iff.1 (by rw [hlen,e];rfl)))⟩,?_,?_⟩
  ·rw [Nfs];exact ⟨hK.1,m2⟩
  ·rw [lim_mk];exact ⟨hl.1,m3⟩
end Go.Proofs.YtioahgklplbinaaGreatDoor
namespace Go.Proofs.YtioahgklplbinaaGreatDoor
open Go.RowKit Go.Shelf Go.Maps SetM PropsM RxM WrM NfaM
def nilR : Nat → Rw
 | 0=>⟨40,1,.slice Option.none 0 0,0,[]⟩
 | 1=>⟨27,1,.slice Option.none 0 0,0,[]⟩
 | _=>⟨3,1,.slice Option.none 0 0,0,[]⟩
theorem nilR_block (i k:Nat):(nilR i).v.ownBlock≠some k:=by
 unfold nilR
 split <;> exact fun h=>by cases h
theorem mv_none {W:World} {O B:Nat→Prop} (hB:∀ k,B k→k < W.heap.size):MV W O B (.agg #[.slice none 0 0,.slice none 0 0,.slice none 0 0]) NfaM.none0:=by
 have hno:∀ n k,¬ Has n nilR k:=fun n k ⟨i,_,h⟩=>nilR_block i k h
 refine ⟨nilR,⟨rfl,rfl,⟨fun i _=>?_,fun i j _ _ _ k h=>absurd h (nilR_block i k)⟩,fun k hk=>absurd hk (hno _ k),hB,⟨rfl,rfl,rfl,rfl⟩,⟨rfl,rfl,rfl,rfl⟩,⟨rfl,rfl,rfl,rfl⟩,fun i hi=>absurd hi (Nat.not_lt_zero i),fun i hi=>absurd hi (Nat.not_lt_zero i)⟩,rfl,fun k hk=>absurd hk (hno _ k)⟩
 unfold nilR
 split <;> exact Rw.nil_ok W _ _
theorem MVx.tag {W : World} {B : Nat → Prop} {R : Nat → Rw} {m : Mc} (h : MVx W B R m) {i : Nat} {t : Int} {g c : Nat} (hv : (R 2).v = .slice (some ⟨g, 0, none⟩) m.tg.length c) :
  MVx (W.setCell ⟨g,i,none⟩ (.int .i64 t)) B (upd R 2 { R 2 with xs:=(R 2).xs.set i (.int .i64 t) }) (tgF m i t)∧(∀ k,Has (3+2*m.tg.length) (upd R 2 { R 2 with xs:=(R 2).xs.set i (.int .i64 t) }) k→Has (3+2*m.tg.length) R k)∧Has (3+2*m.tg.length) R g:=by
 have a:=h.fam.store (i:=2) (by omega) hv h.r2.2.2.1 i (.int .i64 t)
 have hg:Has (3+2*m.tg.length) R g:=⟨2,by omega,by rw [hv];rfl⟩
 have hl:(tgF m i t).tg.length=m.tg.length:=by simp [tgF]
 have ho:∀ k,B k→(W.setCell ⟨g,i,none⟩ (.int .i64 t)).heap[k]? = W.heap[k]?:=fun k hk=>heap_setCell_other W ⟨g,i,none⟩ k _ (fun e=>h.nb g hg (by have e:k=g:=e;rw [← e];exact hk))
 have hs:W.heap.size≤(W.setCell ⟨g,i,none⟩ (.int .i64 t)).heap.size:=by rw [World.size_setCell];exact Nat.le_refl _
 have o:∀ j,j≠2→upd R 2 { R 2 with xs:=(R 2).xs.set i (.int .i64 t) } j=R j:=fun j hj=>upd_other _ _ hj
 refine ⟨⟨by rw [hl];exact h.l1,by rw [hl];exact h.l2,by rw [hl];exact a.1,fun k hk=>h.nb k (a.2 k (by rw [hl] at hk;exact hk)),fun k hk=>Nat.lt_of_lt_of_le (h.bl k hk) hs,?_,?_,?_,fun j hj=>?_,fun j hj=>?_⟩,a.2,hg⟩
 ·rw [o 0 (by omega), hl]
  refine ⟨h.r0.1,h.r0.2.1,h.r0.2.2.1,?_⟩
  rw [h.r0.2.2.2]
  exact List.map_congr_left (fun j _=>by rw [o _ (by omega)])
 ·rw [o 1 (by omega), hl]
  refine ⟨h.r1.1,h.r1.2.1,h.r1.2.2.1,?_⟩
  rw [h.r1.2.2.2]
  exact List.map_congr_left (fun j _=>by rw [o _ (by omega)])
 ·rw [upd_same, hl]
  refine ⟨h.r2.1,h.r2.2.1,h.r2.2.2.1,?_⟩
  show (R 2).xs.set i _=_
  rw [h.r2.2.2.2]
  simp [tgF,List.map_set]
 ·rw [hl] at hj
  rw [o _ (by omega)]
  have:=h.re j hj
  exact ⟨this.1,this.2.1,this.2.2.1,this.2.2.2.kept hs ho⟩
 ·rw [hl] at hj
  rw [o _ (by omega)]
  exact h.rf j hj
end Go.Proofs.YtioahgklplbinaaGreatDoor
