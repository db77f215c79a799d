/- ZPa, ZPb, ZPc, ZPd, ZPe, ZTells, in one text. -/
import Derived.Test.YtioahgklplbinaaGreatDoorTB
import Derived.Test.YtioahgklplbinaaGreatDoorTA
import Derived.Test.YtioahgklplbinaaGreatDoorVRead
import Derived.Test.YtioahgklplbinaaGreatDoorRE
import Derived.Deep.RegionHeld3
/- The document's tables of what patterns tell. -/
namespace Go.Proofs.YtioahgklplbinaaGreatDoor
open Go.RowKit Go.Shelf Go.Maps SetM PropsM RxM WrM NfaM SimM
def PthC (s:List Int) (u:Ns):Prop:=∀ (W:World) (v:Value) (P:Option Addr) (n c:Nat),RV W v u→InR W P s→n=s.length→Calls Tryz.prog 42 #[v,.slice P n c] W fun e W'=>∃ g f,e=.returned (.slice (some ⟨g,0,none⟩) (n+1) (n+1))∧Mx W' W.heap.size g (n+1) f (Pl (Lg u) s)∧Below W.heap.size W W'
def RepC (s:List Int) (u:Ns):Prop:=∀ (W:World) (v:Value) (P:Option Addr) (n c:Nat),RV W v u→InR W P s→n=s.length→Calls Tryz.prog 68 #[v,.slice P n c] W fun e W'=>∃ g f,e=.returned (.slice (some ⟨g,0,none⟩) (n+1) (n+1))∧Mx W' W.heap.size g (n+1) f (Pl (Lg u) s)∧Below W.heap.size W W'
theorem lg_0 (sl:List Sp) (kids:List Ns) (mn mx:Int) (w:List Int):Lg (.mk 0 sl kids mn mx) w↔w=[]:=by rw [Lg];rfl
theorem lg_1 (sl:List Sp) (kids:List Ns) (mn mx:Int) (w:List Int):Lg (.mk 1 sl kids mn mx) w↔∃ r,w=[r]∧Tells sl r:=by rw [Lg];rfl
theorem lg_2 (sl:List Sp) (kids:List Ns) (mn mx:Int) (w:List Int):Lg (.mk 2 sl kids mn mx) w↔LgC kids w:=by rw [Lg];rfl
theorem lg_3 (sl:List Sp) (kids:List Ns) (mn mx:Int) (w:List Int):Lg (.mk 3 sl kids mn mx) w↔LgO kids w:=by rw [Lg];rfl
theorem lg_4 (sl:List Sp) (kids:List Ns) (mn mx:Int) (w:List Int):Lg (.mk 4 sl kids mn mx) w↔LgR kids mn mx w:=by rw [Lg];rfl
set_option maxRecDepth 100000 in
set_option maxHeartbeats 16000000 in
theorem path_0 {s:List Int} (HS8:Hid (s.length≤1000)) {sl:List Sp} {kids:List Ns} {mn mx:Int}:PthC s (.mk 0 sl kids mn mx):=by
 intro W v P n c hv hP hn
 obtain ⟨sp,sc,kp,kc,rfl,⟨hl1,hl2⟩,hsl,_,hk⟩:=hv.read
 obtain ⟨sln,hsln⟩:∃ k,k=List.length sl:=⟨_,rfl⟩
 rw [← hsln]
 obtain ⟨kn,hkn⟩:∃ k,k=List.length kids:=⟨_,rfl⟩
 rw [← hkn]
 obtain ⟨kz,hkz⟩:∃ z:Int,z=((0:Nat):Int):=⟨_,rfl⟩
 rw [← hkz]
 obtain ⟨V,hV⟩:∃ V,V=W.alloc (.cells #[.int .u8 kz,.slice sp sln sc,.slice kp kn kc,.int .i64 mn,.int .i64 mx] 48):=⟨_,rfl⟩
 have hb0:Below W.heap.size W V:=by rw [hV];exact (Below.refl _ _).alloc (Nat.le_refl _) _
 have hx:V.heap[W.heap.size]? = some (.cells #[.int .u8 kz,.slice sp sln sc,.slice kp kn kc,.int .i64 mn,.int .i64 mx] 48 (0,0)):=by rw [hV];exact heap_alloc_new W _
 have hlt0:=(Array.getElem?_eq_some_iff.1 hx).1
 have HN:=Lib.hid (fun (U:World) (hU:Below V.heap.size V U)=>(⟨(hU.cell (p:=⟨W.heap.size,0,none⟩) hlt0).trans (cell_of_row V _ 0 _ _ _ hx),(hU.cell (p:=⟨W.heap.size,1,none⟩) hlt0).trans (cell_of_row V _ 1 _ _ _ hx),(hU.cell (p:=⟨W.heap.size,2,none⟩) hlt0).trans (cell_of_row V _ 2 _ _ _ hx),(hU.cell (p:=⟨W.heap.size,3,none⟩) hlt0).trans (cell_of_row V _ 3 _ _ _ hx),(hU.cell (p:=⟨W.heap.size,4,none⟩) hlt0).trans (cell_of_row V _ 4 _ _ _ hx)⟩:U.cell? ⟨W.heap.size,0,none⟩=some (.int .u8 kz)∧U.cell? ⟨W.heap.size,1,none⟩=some (.slice sp sln sc)∧U.cell? ⟨W.heap.size,2,none⟩=some (.slice kp kn kc)∧U.cell? ⟨W.heap.size,3,none⟩=some (.int .i64 mn)∧U.cell? ⟨W.heap.size,4,none⟩=some (.int .i64 mx)))
 obtain ⟨N,hN⟩:∃ N,N=n+1:=⟨_,rfl⟩
 have hn8:n≤1000:=by rw [hn];exact HS8.out
 have hN8:N≤100000:=Nat.le_trans (Nat.le_of_eq hN) (Nat.le_trans (Nat.succ_le_succ hn8) (by decide))
 have hwn:wrap64 ((n:Int)+1)=(N:Int):=by rw [IntWalk.wrap64_in _ (by omega)];omega
 rw [← hN]
 have HNS:Hid (N=s.length+1∧n=s.length):=Lib.hid ⟨by rw [hN,hn],hn⟩
 have HIS:=Lib.hid (fun (U:World) (hU:Below V.heap.size V U)=>InR.step hP (hb0.trans (hU.mono hb0.size)))
 have HB0:=Lib.hid hb0
 have HKN:=Lib.hid hkn
 have HN8:=Lib.hid hN8
 have HNB:=Lib.hid hn8
 have HST:=Lib.hid (still_c (W:=V) (N:=N) hN8)
 obtain rfl:kz=0:=by rw [hkz];rfl
 obtain ⟨e0,e1,e2,e3,e4⟩:=HN.out V (Below.refl _ _)
 clear hv hk hb0 hx hlt0 hsln hkn hkz hl2 hP hn hN hN8 hn8
 go_enter Tryz.func42,Tryz.ntmps42
 go_upto_region 1 with fail
 rw [← hV]
 clear hV
 clear hsl hl1
 go_wp2_with fail
 refine HST.out.mono ?_
 rintro e w1 ⟨g,f,rfl,h1,b1⟩
 have HM:=Lib.hid ((h1.congr (R':=Pl (Lg (.mk 0 sl kids mn mx)) s) (fun i j hi _=>(pl_still (by rw [← HNS.out.1];exact hi)).trans (pl_congr (fun w=>(lg_0 sl kids mn mx w).symm) s i j))).low HB0.out.size)
 have HE:=Lib.hid (HB0.out.trans (b1.mono HB0.out.size))
 clear h1 b1 HST e0 e1 e2 e3 e4
 go_wp2_with fail
 go_ret
 first
  | exact ⟨g,rfl,⟨f,HM.out⟩,HE.out⟩
  | exact ⟨g,f,rfl,HM.out,HE.out⟩
end Go.Proofs.YtioahgklplbinaaGreatDoor

/- The document's tables of what patterns tell: chars. -/
namespace Go.Proofs.YtioahgklplbinaaGreatDoor
open Go.RowKit Go.Shelf Go.Maps SetM PropsM RxM WrM NfaM SimM
set_option maxRecDepth 100000 in
set_option maxHeartbeats 16000000 in
theorem path_1 {s:List Int} (HS8:Hid (s.length≤1000)) {sl:List Sp} {kids:List Ns} {mn mx:Int}:PthC s (.mk 1 sl kids mn mx):=by
 intro W v P n c hv hP hn
 obtain ⟨sp,sc,kp,kc,rfl,⟨hl1,hl2⟩,hsl,_,hk⟩:=hv.read
 obtain ⟨sln,hsln⟩:∃ k,k=List.length sl:=⟨_,rfl⟩
 rw [← hsln]
 obtain ⟨kn,hkn⟩:∃ k,k=List.length kids:=⟨_,rfl⟩
 rw [← hkn]
 obtain ⟨kz,hkz⟩:∃ z:Int,z=((1:Nat):Int):=⟨_,rfl⟩
 rw [← hkz]
 obtain ⟨V,hV⟩:∃ V,V=W.alloc (.cells #[.int .u8 kz,.slice sp sln sc,.slice kp kn kc,.int .i64 mn,.int .i64 mx] 48):=⟨_,rfl⟩
 have hb0:Below W.heap.size W V:=by rw [hV];exact (Below.refl _ _).alloc (Nat.le_refl _) _
 have hx:V.heap[W.heap.size]? = some (.cells #[.int .u8 kz,.slice sp sln sc,.slice kp kn kc,.int .i64 mn,.int .i64 mx] 48 (0,0)):=by rw [hV];exact heap_alloc_new W _
 have hlt0:=(Array.getElem?_eq_some_iff.1 hx).1
 have HN:=Lib.hid (fun (U:World) (hU:Below V.heap.size V U)=>(⟨(hU.cell (p:=⟨W.heap.size,0,none⟩) hlt0).trans (cell_of_row V _ 0 _ _ _ hx),(hU.cell (p:=⟨W.heap.size,1,none⟩) hlt0).trans (cell_of_row V _ 1 _ _ _ hx),(hU.cell (p:=⟨W.heap.size,2,none⟩) hlt0).trans (cell_of_row V _ 2 _ _ _ hx),(hU.cell (p:=⟨W.heap.size,3,none⟩) hlt0).trans (cell_of_row V _ 3 _ _ _ hx),(hU.cell (p:=⟨W.heap.size,4,none⟩) hlt0).trans (cell_of_row V _ 4 _ _ _ hx)⟩:U.cell? ⟨W.heap.size,0,none⟩=some (.int .u8 kz)∧U.cell? ⟨W.heap.size,1,none⟩=some (.slice sp sln sc)∧U.cell? ⟨W.heap.size,2,none⟩=some (.slice kp kn kc)∧U.cell? ⟨W.heap.size,3,none⟩=some (.int .i64 mn)∧U.cell? ⟨W.heap.size,4,none⟩=some (.int .i64 mx)))
 obtain ⟨N,hN⟩:∃ N,N=n+1:=⟨_,rfl⟩
 have hn8:n≤1000:=by rw [hn];exact HS8.out
 have hN8:N≤100000:=Nat.le_trans (Nat.le_of_eq hN) (Nat.le_trans (Nat.succ_le_succ hn8) (by decide))
 have hwn:wrap64 ((n:Int)+1)=(N:Int):=by rw [IntWalk.wrap64_in _ (by omega)];omega
 rw [← hN]
 have HNS:Hid (N=s.length+1∧n=s.length):=Lib.hid ⟨by rw [hN,hn],hn⟩
 have HIS:=Lib.hid (fun (U:World) (hU:Below V.heap.size V U)=>InR.step hP (hb0.trans (hU.mono hb0.size)))
 have HB0:=Lib.hid hb0
 have HKN:=Lib.hid hkn
 have HN8:=Lib.hid hN8
 have HNB:=Lib.hid hn8
 have HEM:=Lib.hid (empty_c (W:=V) (N:=N) hN8)
 have HSL:=Lib.hid (fun (U:World) (hU:Below V.heap.size V U) (r:Int)=>rhas_any sp sc sl r U (hsl.step (hb0.trans (hU.mono hb0.size))) (by omega))
 rw [← hsln] at HSL
 obtain rfl:kz=1:=by rw [hkz];rfl
 obtain ⟨e0,e1,e2,e3,e4⟩:=HN.out V (Below.refl _ _)
 clear hv hk hb0 hx hlt0 hsln hkn hkz hl2 hP hn hN hN8 hn8
 go_enter Tryz.func42,Tryz.ntmps42
 go_upto_region 1 with fail
 rw [← hV]
 clear hV
 clear hsl hl1
 go_wp2_with fail
 refine HEM.out.mono ?_
 rintro e w1 ⟨g,f,rfl,h1,b1⟩
 have HM:=Lib.hid (h1.congr (R':=fun x y=>x < 0∧y=x+1∧∃ h:x < s.length,Tells sl s[x]) (fun i j _ _=>by constructor;exact False.elim;rintro ⟨h,_⟩;omega))
 have HB:=Lib.hid b1
 clear h1 b1 HEM e0 e1 e2 e3 e4
 go_wp2_with fail
 go_loopg [6] n (fun gk s6 wx=>∃ r:Nat,r+gk=n∧s6=.int .i64 r∧Hid (Mx wx V.heap.size g N f (fun x y=>x < r∧y=x+1∧∃ h:x < s.length,Tells sl s[x]))∧Hid (Below V.heap.size V wx))
 case atStart=>exact ⟨0,by omega,rfl,HM,HB⟩
 case round =>
  obtain ⟨r,hrg,rfl,HR,HW⟩:=hrel
  clear HM HB
  cases gk with
  | zero =>
   obtain rfl:r=n:=by omega
   have hlt:¬ (r:Int) < (r:Int):=by omega
   have HF:=Lib.hid ((HR.out.congr (R':=Pl (Lg (.mk 1 sl kids mn mx)) s) (fun i j hi _=>Iff.trans ⟨fun h=>⟨h.2.2.1,h.2.1,h.2.2.2⟩,fun h=>⟨by have:=h.1;have:=HNS.out;omega,h.2.1,h.1,h.2.2⟩⟩ (pl_char.symm.trans (pl_congr (fun w=>(lg_1 sl kids mn mx w).symm) s i j)))).low HB0.out.size)
   have HE:=Lib.hid (HB0.out.trans (HW.out.mono HB0.out.size))
   go_wp2_with fail
   go_ret
   exact ⟨g,rfl,⟨f,HF.out⟩,HE.out⟩
  | succ gk =>
   have hlt:(r:Int) < (n:Int):=by omega
   have h0:(0:Int)≤(r:Int):=by omega
   have hwr:wrap64 ((r:Int)+1)=((r+1:Nat):Int):=by rw [IntWalk.wrap64_in _ (by have:=HNB.out;omega)];omega
   have hrl:r < s.length:=by have:=HNS.out;omega
   have hrN:r < N:=by have:=HNS.out;omega
   have hrN1:r+1 < N:=by have:=HNS.out;omega
   have hd:Below V.heap.size V wr.drew:=HW.out.drew
   obtain ⟨y,hy⟩:∃ y,y=s[r]:=⟨_,rfl⟩
   obtain ⟨gs,os,rfl,hgs,hcs⟩:=HIS.out _ HW.out r hrl
   rw [← hy] at hcs
   obtain ⟨w2,hw2⟩:∃ w2,w2=wr.drew:=⟨_,rfl⟩
   have hbd:Below wr.heap.size wr w2:=by rw [hw2];exact (Below.refl _ _).drew
   have HR2:=Lib.hid (HR.out.step hbd)
   have HW2:=Lib.hid (HW.out.trans (hbd.mono HW.out.size))
   have e1:=(HN.out _ HW.out).2.1
   by_cases ht:Tells sl y
   ·have HH := Lib.hid ((HSL.out _ hd y).mono (fun e w h => (⟨by rw [h.1, decide_eq_true ht], h.2⟩ : e = .returned (.bool true) ∧ wr.drew = w)))
    obtain ⟨p1,p2⟩:=HR2.out.put hrN hrN1 True
    rw [bt_yes trivial] at p1 p2
    have HR3:=Lib.hid (p1.congr (R':=fun x y=>x < r+1∧y=x+1∧∃ h:x < s.length,Tells sl s[x]) (fun i j _ _=>by
     unfold upR
     constructor
     ·rintro (⟨rfl, rfl, _⟩ | ⟨_, h1, h2, h3⟩)
      ·exact ⟨by omega,rfl,hrl,by rw [← hy];exact ht⟩
      ·exact ⟨by omega,h2,h3⟩
     ·rintro ⟨h1, h2, h3⟩
      by_cases e:i=r
      ·subst e;exact .inl ⟨rfl,h2,trivial⟩
      ·exact .inr ⟨fun h=>e h.1,by omega,h2,h3⟩))
    have HW3:=Lib.hid (HW2.out.grown p2 HW2.out.size (fun k hk=>by obtain rfl:=Option.some.inj hk;exact (HR2.out.row r hrN).lt.1))
    have c1:=HR2.out.at_ hrN
    have c2:=HR2.out.get hrN hrN1
    have c3:=HR2.out.frz hrN (r+1)
    have hi1:((r+1:Nat):Int) < (N:Int):=by omega
    have hi2:(r:Int) < (N:Int):=by omega
    obtain ⟨u,hu⟩:∃ u,u=bt (r < r∧r+1=r+1∧∃ h:r < s.length,Tells sl s[r]):=⟨_,rfl⟩
    rw [← hu] at c2
    clear p1 p2 ht hy hgs hu hd hbd hrl
    go_upto_region 9 with fail
    go_region_held3 (fun U => U.cell? ⟨W.heap.size, 1, none⟩ = some (.slice sp sln sc) ∧ U.cell? ⟨gs, os + r, none⟩ = some (.int .i64 y))
     (exact ⟨e1,hcs⟩)
     (first
      | (go_at_call 65;refine HH.out.mono ?_;rintro ee w3 ⟨rfl,rfl⟩))
    rw [← hw2]
    clear hw2 e1 hcs HH
    go_wp2_with fail
    go_roundg gk
    case measure=>omega
    case rel=>exact ⟨r+1,by omega,by first | rw [hwr] | rfl | simp,HR3,HW3⟩
   ·have HH := Lib.hid ((HSL.out _ hd y).mono (fun e w h => (⟨by rw [h.1, decide_eq_false ht], h.2⟩ : e = .returned (.bool false) ∧ wr.drew = w)))
    have HR3:=Lib.hid (HR2.out.congr (R':=fun x y=>x < r+1∧y=x+1∧∃ h:x < s.length,Tells sl s[x]) (fun i j _ _=>by
     constructor
     ·rintro ⟨h1,h2⟩;exact ⟨by omega,h2⟩
     ·rintro ⟨h1, h2, h3, h4⟩
      by_cases e:i=r
      ·subst e;rw [← hy] at h4;exact absurd h4 ht
      ·exact ⟨by omega,h2,h3,h4⟩))
    clear ht hy hgs hd hbd hrl
    go_upto_region 9 with fail
    go_region_held3 (fun U => U.cell? ⟨W.heap.size, 1, none⟩ = some (.slice sp sln sc) ∧ U.cell? ⟨gs, os + r, none⟩ = some (.int .i64 y))
     (exact ⟨e1,hcs⟩)
     (first
      | (go_at_call 65;refine HH.out.mono ?_;rintro ee w3 ⟨rfl,rfl⟩))
    rw [← hw2]
    clear hw2 e1 hcs HH
    go_wp2_with fail
    go_roundg gk
    case measure=>omega
    case rel=>exact ⟨r+1,by omega,by first | rw [hwr] | rfl | simp,HR3,HW2⟩
end Go.Proofs.YtioahgklplbinaaGreatDoor

/- The document's tables of what patterns tell: one behind the other. -/
namespace Go.Proofs.YtioahgklplbinaaGreatDoor
open Go.RowKit Go.Shelf Go.Maps SetM PropsM RxM WrM NfaM SimM
set_option maxRecDepth 100000 in
set_option maxHeartbeats 16000000 in
theorem path_2 {s:List Int} (HS8:Hid (s.length≤1000)) {sl:List Sp} {kids:List Ns} {mn mx:Int} (ih:∀ x∈kids,PthC s x):PthC s (.mk 2 sl kids mn mx):=by
 intro W v P n c hv hP hn
 obtain ⟨sp,sc,kp,kc,rfl,⟨hl1,hl2⟩,hsl,_,hk⟩:=hv.read
 obtain ⟨sln,hsln⟩:∃ k,k=List.length sl:=⟨_,rfl⟩
 rw [← hsln]
 obtain ⟨kn,hkn⟩:∃ k,k=List.length kids:=⟨_,rfl⟩
 rw [← hkn]
 obtain ⟨kz,hkz⟩:∃ z:Int,z=((2:Nat):Int):=⟨_,rfl⟩
 rw [← hkz]
 obtain ⟨V,hV⟩:∃ V,V=W.alloc (.cells #[.int .u8 kz,.slice sp sln sc,.slice kp kn kc,.int .i64 mn,.int .i64 mx] 48):=⟨_,rfl⟩
 have hb0:Below W.heap.size W V:=by rw [hV];exact (Below.refl _ _).alloc (Nat.le_refl _) _
 have hx:V.heap[W.heap.size]? = some (.cells #[.int .u8 kz,.slice sp sln sc,.slice kp kn kc,.int .i64 mn,.int .i64 mx] 48 (0,0)):=by rw [hV];exact heap_alloc_new W _
 have hlt0:=(Array.getElem?_eq_some_iff.1 hx).1
 have HN:=Lib.hid (fun (U:World) (hU:Below V.heap.size V U)=>(⟨(hU.cell (p:=⟨W.heap.size,0,none⟩) hlt0).trans (cell_of_row V _ 0 _ _ _ hx),(hU.cell (p:=⟨W.heap.size,1,none⟩) hlt0).trans (cell_of_row V _ 1 _ _ _ hx),(hU.cell (p:=⟨W.heap.size,2,none⟩) hlt0).trans (cell_of_row V _ 2 _ _ _ hx),(hU.cell (p:=⟨W.heap.size,3,none⟩) hlt0).trans (cell_of_row V _ 3 _ _ _ hx),(hU.cell (p:=⟨W.heap.size,4,none⟩) hlt0).trans (cell_of_row V _ 4 _ _ _ hx)⟩:U.cell? ⟨W.heap.size,0,none⟩=some (.int .u8 kz)∧U.cell? ⟨W.heap.size,1,none⟩=some (.slice sp sln sc)∧U.cell? ⟨W.heap.size,2,none⟩=some (.slice kp kn kc)∧U.cell? ⟨W.heap.size,3,none⟩=some (.int .i64 mn)∧U.cell? ⟨W.heap.size,4,none⟩=some (.int .i64 mx)))
 obtain ⟨N,hN⟩:∃ N,N=n+1:=⟨_,rfl⟩
 have hn8:n≤1000:=by rw [hn];exact HS8.out
 have hN8:N≤100000:=Nat.le_trans (Nat.le_of_eq hN) (Nat.le_trans (Nat.succ_le_succ hn8) (by decide))
 have hwn:wrap64 ((n:Int)+1)=(N:Int):=by rw [IntWalk.wrap64_in _ (by omega)];omega
 rw [← hN]
 have HNS:Hid (N=s.length+1∧n=s.length):=Lib.hid ⟨by rw [hN,hn],hn⟩
 have HIS:=Lib.hid (fun (U:World) (hU:Below V.heap.size V U)=>InR.step hP (hb0.trans (hU.mono hb0.size)))
 have HB0:=Lib.hid hb0
 have HKN:=Lib.hid hkn
 have hk8:kn≤1000:=by rw [hkn];exact hl2
 have HN8:=Lib.hid hN8
 have HNB:=Lib.hid hn8
 have HKID:Hid (∀ r (hr:r < List.length kids),∃ g a b c' d e',kp=some ⟨g,0,none⟩∧∀ U,Below V.heap.size V U→(U.cell? ⟨g,r*5,none⟩=some a∧U.cell? ⟨g,r*5+1,none⟩=some b∧U.cell? ⟨g,r*5+2,none⟩=some c'∧U.cell? ⟨g,r*5+3,none⟩=some d∧U.cell? ⟨g,r*5+4,none⟩=some e')∧Calls Tryz.prog 42 #[.agg #[a,b,c',d,e'],.slice P n c] U fun ee U'=>∃ g f,ee=.returned (.slice (some ⟨g,0,none⟩) N N)∧Mx U' U.heap.size g N f (Pl (Lg (kids[r]'hr)) s)∧Below U.heap.size U U'):=Lib.hid (fun r hr=>by
  obtain ⟨g,e1,⟨cs,hg⟩,h3⟩:=hk (by intro e;rw [e] at hr;cases hr)
  obtain ⟨u,h4,h5⟩:=h3 r hr
  obtain ⟨k1,s1,s2,s3,s4,s5,s6,s7,s8,rfl⟩:=h4.form5
  have hgW:=(Array.getElem?_eq_some_iff.1 hg).1
  refine ⟨g,.int .u8 k1,.slice s1 s2 s3,.slice s4 s5 s6,.int .i64 s7,.int .i64 s8,e1,fun U hU=>?_⟩
  have hWU:=hb0.trans (hU.mono hb0.size)
  refine ⟨⟨(hWU.cell (p:=⟨g,r*5,none⟩) hgW).trans (h5 0 (by omega)),(hWU.cell (p:=⟨g,r*5+1,none⟩) hgW).trans (h5 1 (by omega)),(hWU.cell (p:=⟨g,r*5+2,none⟩) hgW).trans (h5 2 (by omega)),(hWU.cell (p:=⟨g,r*5+3,none⟩) hgW).trans (h5 3 (by omega)),(hWU.cell (p:=⟨g,r*5+4,none⟩) hgW).trans (h5 4 (by omega))⟩,?_⟩
  have:=ih _ (List.getElem_mem hr) U _ P n c (h4.step hWU) (InR.step hP hWU) hn
  rw [← hN] at this
  exact this)
 have H0:=Lib.hid (still_c (W:=V) (N:=N) hN8)
 obtain rfl:kz=2:=by rw [hkz];rfl
 obtain ⟨e0,e1,e2,e3,e4⟩:=HN.out V (Below.refl _ _)
 clear hv hk hb0 hx hlt0 hsln hkn hkz hl2 hP hn hN hN8 hn8
 go_enter Tryz.func42,Tryz.ntmps42
 go_upto_region 1 with fail
 rw [← hV]
 clear hV
 clear hsl hl1
 have hkn8:kn≤1000:=hk8
 go_wp2_with fail
 refine H0.out.mono ?_
 rintro e w1 ⟨g,f,rfl,h1,b1⟩
 have HM:=Lib.hid (h1.congr (R':=Pl (LgC (kids.take 0)) s) (fun i j hi _=>(pl_still (by rw [← HNS.out.1];exact hi)).trans (pl_congr (fun w=>by rw [List.take_zero,LgC]) s i j)))
 have HB:=Lib.hid b1
 clear h1 b1 H0 e0 e1 e2 e3 e4 hk8
 go_wp2_with fail
 go_loopg [7,8] kn (fun gk sa sb wx=>∃ (r g:Nat) (f:Nat→Nat),r+gk=kn∧sb=.int .i64 r∧sa=.slice (some ⟨g,0,none⟩) N N∧Hid (Mx wx V.heap.size g N f (Pl (LgC (kids.take r)) s))∧Hid (Below V.heap.size V wx))
 case atStart=>exact ⟨0,g,f,by omega,rfl,rfl,HM,HB⟩
 case round =>
  obtain ⟨r,g2,f2,hrg,rfl,rfl,HR,HW⟩:=hrel
  clear HM HB
  obtain ⟨e0,e1,e2,e3,e4⟩:=HN.out _ HW.out
  cases gk with
  | zero =>
   obtain rfl:r=kn:=by omega
   have hlt:¬ (r:Int) < (r:Int):=by omega
   have HF:=Lib.hid ((HR.out.congr (R':=Pl (Lg (.mk 2 sl kids mn mx)) s) (fun i j _ _=>pl_congr (fun w=>by rw [lg_2,List.take_of_length_le (by have:=HKN.out;omega)]) s i j)).low HB0.out.size)
   have HE:=Lib.hid (HB0.out.trans (HW.out.mono HB0.out.size))
   go_wp2_with fail
   go_ret
   exact ⟨g2,rfl,⟨f2,HF.out⟩,HE.out⟩
  | succ gk =>
   have hlt:(r:Int) < (kn:Int):=by omega
   have hrl:r < List.length kids:=by have:=HKN.out;omega
   have h0:(0:Int)≤(r:Int):=by omega
   have hwr:wrap64 ((r:Int)+1)=((r+1:Nat):Int):=by rw [IntWalk.wrap64_in _ (by omega)];omega
   obtain ⟨gk1,a,b,c',d,e',rfl,hcell⟩:=HKID.out r hrl
   obtain ⟨⟨b0,b1,b2,b3,b4⟩,hcall⟩:=hcell _ HW.out
   have HCALL:=Lib.hid hcall
   have HTK:=Lib.hid (fun w=>lgc_take kids r hrl w)
   obtain ⟨x,hx⟩:∃ x,x=kids[r]:=⟨_,rfl⟩
   rw [← hx] at HCALL HTK
   clear hcell hcall hx hrl
   go_wp2_with fail
   refine HCALL.out.mono ?_
   rintro ee w4 ⟨g4,f4,rfl,h4,b4'⟩
   have HB4:=Lib.hid (HW.out.trans (b4'.mono HW.out.size))
   have HR4:=Lib.hid (HR.out.step b4')
   have HBH:=Lib.hid (behind_c (W:=w4) (N:=N) HN8.out HR4.out h4)
   clear b4' b0 b1 b2 b3 b4 e0 e1 e2 e3 e4 HCALL h4
   go_wp2_with fail
   refine HBH.out.mono ?_
   rintro ee w5 ⟨g5,f5,rfl,h5,b5⟩
   have HR5:=Lib.hid ((h5.congr (R':=Pl (LgC (kids.take (r+1))) s) (fun i j _ hj=>(pl_beh (by rw [← HNS.out.1];exact hj)).trans (pl_congr (fun w=>(HTK.out w).symm) s i j))).low HB4.out.size)
   have HB5:=Lib.hid (HB4.out.trans (b5.mono HB4.out.size))
   clear h5 b5 HBH
   go_wp2_with fail
   go_roundg gk
   case measure=>omega
   case rel=>exact ⟨r+1,g5,f5,by omega,by first | rw [hwr] | rfl | simp,rfl,HR5,HB5⟩
end Go.Proofs.YtioahgklplbinaaGreatDoor

/- The document's tables of what patterns tell: either. -/
namespace Go.Proofs.YtioahgklplbinaaGreatDoor
open Go.RowKit Go.Shelf Go.Maps SetM PropsM RxM WrM NfaM SimM
set_option maxRecDepth 100000 in
set_option maxHeartbeats 16000000 in
theorem path_3 {s:List Int} (HS8:Hid (s.length≤1000)) {sl:List Sp} {kids:List Ns} {mn mx:Int} (ih:∀ x∈kids,PthC s x):PthC s (.mk 3 sl kids mn mx):=by
 intro W v P n c hv hP hn
 obtain ⟨sp,sc,kp,kc,rfl,⟨hl1,hl2⟩,hsl,_,hk⟩:=hv.read
 obtain ⟨sln,hsln⟩:∃ k,k=List.length sl:=⟨_,rfl⟩
 rw [← hsln]
 obtain ⟨kn,hkn⟩:∃ k,k=List.length kids:=⟨_,rfl⟩
 rw [← hkn]
 obtain ⟨kz,hkz⟩:∃ z:Int,z=((3:Nat):Int):=⟨_,rfl⟩
 rw [← hkz]
 obtain ⟨V,hV⟩:∃ V,V=W.alloc (.cells #[.int .u8 kz,.slice sp sln sc,.slice kp kn kc,.int .i64 mn,.int .i64 mx] 48):=⟨_,rfl⟩
 have hb0:Below W.heap.size W V:=by rw [hV];exact (Below.refl _ _).alloc (Nat.le_refl _) _
 have hx:V.heap[W.heap.size]? = some (.cells #[.int .u8 kz,.slice sp sln sc,.slice kp kn kc,.int .i64 mn,.int .i64 mx] 48 (0,0)):=by rw [hV];exact heap_alloc_new W _
 have hlt0:=(Array.getElem?_eq_some_iff.1 hx).1
 have HN:=Lib.hid (fun (U:World) (hU:Below V.heap.size V U)=>(⟨(hU.cell (p:=⟨W.heap.size,0,none⟩) hlt0).trans (cell_of_row V _ 0 _ _ _ hx),(hU.cell (p:=⟨W.heap.size,1,none⟩) hlt0).trans (cell_of_row V _ 1 _ _ _ hx),(hU.cell (p:=⟨W.heap.size,2,none⟩) hlt0).trans (cell_of_row V _ 2 _ _ _ hx),(hU.cell (p:=⟨W.heap.size,3,none⟩) hlt0).trans (cell_of_row V _ 3 _ _ _ hx),(hU.cell (p:=⟨W.heap.size,4,none⟩) hlt0).trans (cell_of_row V _ 4 _ _ _ hx)⟩:U.cell? ⟨W.heap.size,0,none⟩=some (.int .u8 kz)∧U.cell? ⟨W.heap.size,1,none⟩=some (.slice sp sln sc)∧U.cell? ⟨W.heap.size,2,none⟩=some (.slice kp kn kc)∧U.cell? ⟨W.heap.size,3,none⟩=some (.int .i64 mn)∧U.cell? ⟨W.heap.size,4,none⟩=some (.int .i64 mx)))
 obtain ⟨N,hN⟩:∃ N,N=n+1:=⟨_,rfl⟩
 have hn8:n≤1000:=by rw [hn];exact HS8.out
 have hN8:N≤100000:=Nat.le_trans (Nat.le_of_eq hN) (Nat.le_trans (Nat.succ_le_succ hn8) (by decide))
 have hwn:wrap64 ((n:Int)+1)=(N:Int):=by rw [IntWalk.wrap64_in _ (by omega)];omega
 rw [← hN]
 have HNS:Hid (N=s.length+1∧n=s.length):=Lib.hid ⟨by rw [hN,hn],hn⟩
 have HIS:=Lib.hid (fun (U:World) (hU:Below V.heap.size V U)=>InR.step hP (hb0.trans (hU.mono hb0.size)))
 have HB0:=Lib.hid hb0
 have HKN:=Lib.hid hkn
 have hk8:kn≤1000:=by rw [hkn];exact hl2
 have HN8:=Lib.hid hN8
 have HNB:=Lib.hid hn8
 have HKID:Hid (∀ r (hr:r < List.length kids),∃ g a b c' d e',kp=some ⟨g,0,none⟩∧∀ U,Below V.heap.size V U→(U.cell? ⟨g,r*5,none⟩=some a∧U.cell? ⟨g,r*5+1,none⟩=some b∧U.cell? ⟨g,r*5+2,none⟩=some c'∧U.cell? ⟨g,r*5+3,none⟩=some d∧U.cell? ⟨g,r*5+4,none⟩=some e')∧Calls Tryz.prog 42 #[.agg #[a,b,c',d,e'],.slice P n c] U fun ee U'=>∃ g f,ee=.returned (.slice (some ⟨g,0,none⟩) N N)∧Mx U' U.heap.size g N f (Pl (Lg (kids[r]'hr)) s)∧Below U.heap.size U U'):=Lib.hid (fun r hr=>by
  obtain ⟨g,e1,⟨cs,hg⟩,h3⟩:=hk (by intro e;rw [e] at hr;cases hr)
  obtain ⟨u,h4,h5⟩:=h3 r hr
  obtain ⟨k1,s1,s2,s3,s4,s5,s6,s7,s8,rfl⟩:=h4.form5
  have hgW:=(Array.getElem?_eq_some_iff.1 hg).1
  refine ⟨g,.int .u8 k1,.slice s1 s2 s3,.slice s4 s5 s6,.int .i64 s7,.int .i64 s8,e1,fun U hU=>?_⟩
  have hWU:=hb0.trans (hU.mono hb0.size)
  refine ⟨⟨(hWU.cell (p:=⟨g,r*5,none⟩) hgW).trans (h5 0 (by omega)),(hWU.cell (p:=⟨g,r*5+1,none⟩) hgW).trans (h5 1 (by omega)),(hWU.cell (p:=⟨g,r*5+2,none⟩) hgW).trans (h5 2 (by omega)),(hWU.cell (p:=⟨g,r*5+3,none⟩) hgW).trans (h5 3 (by omega)),(hWU.cell (p:=⟨g,r*5+4,none⟩) hgW).trans (h5 4 (by omega))⟩,?_⟩
  have:=ih _ (List.getElem_mem hr) U _ P n c (h4.step hWU) (InR.step hP hWU) hn
  rw [← hN] at this
  exact this)
 have H0:=Lib.hid (empty_c (W:=V) (N:=N) hN8)
 obtain rfl:kz=3:=by rw [hkz];rfl
 obtain ⟨e0,e1,e2,e3,e4⟩:=HN.out V (Below.refl _ _)
 clear hv hk hb0 hx hlt0 hsln hkn hkz hl2 hP hn hN hN8 hn8
 go_enter Tryz.func42,Tryz.ntmps42
 go_upto_region 1 with fail
 rw [← hV]
 clear hV
 clear hsl hl1
 have hkn8:kn≤1000:=hk8
 go_wp2_with fail
 refine H0.out.mono ?_
 rintro e w1 ⟨g,f,rfl,h1,b1⟩
 have HM:=Lib.hid (h1.congr (R':=Pl (LgO (kids.take 0)) s) (fun i j hi _=>⟨False.elim,fun h=>by have h:=h.2.2;rw [List.take_zero,LgO] at h;exact h⟩))
 have HB:=Lib.hid b1
 clear h1 b1 H0 e0 e1 e2 e3 e4 hk8
 go_wp2_with fail
 go_loopg [9,10] kn (fun gk sa sb wx=>∃ (r g:Nat) (f:Nat→Nat),r+gk=kn∧sb=.int .i64 r∧sa=.slice (some ⟨g,0,none⟩) N N∧Hid (Mx wx V.heap.size g N f (Pl (LgO (kids.take r)) s))∧Hid (Below V.heap.size V wx))
 case atStart=>exact ⟨0,g,f,by omega,rfl,rfl,HM,HB⟩
 case round =>
  obtain ⟨r,g2,f2,hrg,rfl,rfl,HR,HW⟩:=hrel
  clear HM HB
  obtain ⟨e0,e1,e2,e3,e4⟩:=HN.out _ HW.out
  cases gk with
  | zero =>
   obtain rfl:r=kn:=by omega
   have hlt:¬ (r:Int) < (r:Int):=by omega
   have HF:=Lib.hid ((HR.out.congr (R':=Pl (Lg (.mk 3 sl kids mn mx)) s) (fun i j _ _=>pl_congr (fun w=>by rw [lg_3,List.take_of_length_le (by have:=HKN.out;omega)]) s i j)).low HB0.out.size)
   have HE:=Lib.hid (HB0.out.trans (HW.out.mono HB0.out.size))
   go_wp2_with fail
   go_ret
   exact ⟨g2,rfl,⟨f2,HF.out⟩,HE.out⟩
  | succ gk =>
   have hlt:(r:Int) < (kn:Int):=by omega
   have hrl:r < List.length kids:=by have:=HKN.out;omega
   have h0:(0:Int)≤(r:Int):=by omega
   have hwr:wrap64 ((r:Int)+1)=((r+1:Nat):Int):=by rw [IntWalk.wrap64_in _ (by omega)];omega
   obtain ⟨gk1,a,b,c',d,e',rfl,hcell⟩:=HKID.out r hrl
   obtain ⟨⟨b0,b1,b2,b3,b4⟩,hcall⟩:=hcell _ HW.out
   have HCALL:=Lib.hid hcall
   have HTK:=Lib.hid (fun w=>lgo_take kids r hrl w)
   obtain ⟨x,hx⟩:∃ x,x=kids[r]:=⟨_,rfl⟩
   rw [← hx] at HCALL HTK
   clear hcell hcall hx hrl
   go_wp2_with fail
   refine HCALL.out.mono ?_
   rintro ee w4 ⟨g4,f4,rfl,h4,b4'⟩
   have HB4:=Lib.hid (HW.out.trans (b4'.mono HW.out.size))
   have HR4:=Lib.hid (HR.out.step b4')
   have HBH:=Lib.hid (both_c (W:=w4) (N:=N) HN8.out HR4.out h4)
   clear b4' b0 b1 b2 b3 b4 e0 e1 e2 e3 e4 HCALL h4
   go_wp2_with fail
   refine HBH.out.mono ?_
   rintro ee w5 ⟨g5,f5,q,rfl,h5,_,b5⟩
   have HR5:=Lib.hid ((h5.congr (R':=Pl (LgO (kids.take (r+1))) s) (fun i j _ hj=>by
    unfold Pl
    rw [HTK.out]
    exact ⟨fun h=>h.elim (fun h=>⟨h.1,h.2.1,.inl h.2.2⟩) (fun h=>⟨h.1,h.2.1,.inr h.2.2⟩),fun h=>h.2.2.elim (fun k=>.inl ⟨h.1,h.2.1,k⟩) (fun k=>.inr ⟨h.1,h.2.1,k⟩)⟩)).low HB4.out.size)
   have HB5:=Lib.hid (HB4.out.trans (b5.mono HB4.out.size))
   clear h5 b5 HBH
   go_wp2_with fail
   go_roundg gk
   case measure=>omega
   case rel=>exact ⟨r+1,g5,f5,by omega,by first | rw [hwr] | rfl | simp,rfl,HR5,HB5⟩
end Go.Proofs.YtioahgklplbinaaGreatDoor

/- The document's tables of what patterns tell: repetitions. -/
namespace SimM
open SetM NfaM WrM
theorem pl_us (L:List Int→Prop) (s:List Int) {mn i:Nat} (h:mn≤i) (x y:Nat):(Pl (Us L mn i) s x y∨Pl (Pw L (i+1)) s x y)↔Pl (Us L mn (i+1)) s x y:=by
 unfold Pl
 rw [← us_next L h]
 constructor
 ·rintro (⟨a, b, c⟩ | ⟨a, b, c⟩)
  ·exact ⟨a,b,.inl c⟩
  ·exact ⟨a,b,.inr c⟩
 ·rintro ⟨a, b, c | c⟩
  ·exact .inl ⟨a,b,c⟩
  ·exact .inr ⟨a,b,c⟩
structure RepQ (L : List Int → Prop) (s : List Int) (N mn i gk : Nat) (mx : Int) (q : Bool) : Prop where
 ge:mn≤i
 top:mx < 0∨(i:Int)≤mx
 left:q=true→N*N+1≤gk+cntR N (Pl (Us L mn i) s)
 low:i≤mn+N*N+1
 low1:q=true→i≤mn+cntR N (Pl (Us L mn i) s)
 done:q=false→∀ d x y,y < s.length+1→Pl (Pw L (i+d)) s x y→Pl (Us L mn i) s x y
theorem repq_start (L:List Int→Prop) (s:List Int) (N mn:Nat) (mx:Int) (h:mx < 0∨∃ M:Nat,mx=(M:Int)∧mn≤M∧M≤20):RepQ L s N mn mn (N*N+1) mx true :=
 ⟨Nat.le_refl _,by rcases h with h | ⟨M,h1,h2,_⟩ <;> omega,fun _=>by omega,by omega,fun _=>by omega,fun h=>by cases h⟩
theorem RepQ.more {L:List Int→Prop} {s:List Int} {N mn i gk:Nat} {mx:Int} {q:Bool} (h:RepQ L s N mn i gk mx q) (hq:q=true):∃ g,gk=g+1:=by
 have h1:=h.left hq
 have h2:=cntr_le N (Pl (Us L mn i) s)
 exact ⟨gk - 1,by omega⟩
theorem RepQ.next {L : List Int → Prop} {s : List Int} {N mn i gk : Nat} {mx : Int} {q : Bool} (h : RepQ L s N mn i (gk + 1) mx true) (hx : mx < 0 ∨ (i : Int) < mx) (hN : N = s.length + 1)
  (hq:q=true↔∃ x y,x < N∧y < N∧Pl (Pw L (i+1)) s x y∧¬ Pl (Us L mn i) s x y):RepQ L s N mn (i+1) gk mx q:=by
 have hge:=h.ge
 have h1:=h.left rfl
 have h2:=h.low1 rfl
 have h3:=cntr_le N (Pl (Us L mn i) s)
 have hup:∀ x y,Pl (Us L mn i) s x y→Pl (Us L mn (i+1)) s x y:=fun x y hp=>(pl_us L s hge x y).1 (.inl hp)
 have hlt:q=true→cntR N (Pl (Us L mn i) s) < cntR N (Pl (Us L mn (i+1)) s):=fun e=>by
  obtain ⟨x,y,hx,hy,k1,k2⟩:=hq.1 e
  exact cntr_lt hup hx hy k2 ((pl_us L s hge x y).1 (.inr k1))
 refine ⟨by omega,by omega,fun e=>by have:=hlt e;omega,by omega,fun e=>by have:=hlt e;omega,fun e=>?_⟩
 have hn:∀ x y,y < s.length+1→Pl (Pw L (i+1)) s x y→Pl (Us L mn i) s x y:=fun x y hy hp=>by
  refine Classical.byContradiction (fun hc=>?_)
  have:q=true:=hq.2 ⟨x,y,by have:=hp.1;omega,by omega,hp,hc⟩
  rw [this] at e;cases e
 intro d x y hy hp
 exact hup x y (us_done L s hge hn (d+1) x y hy (by rw [show i+(d+1)=i+1+d by omega];exact hp))
theorem RepQ.fin {L K : List Int → Prop} {s : List Int} {N mn i gk : Nat} {mx : Int} {q : Bool} (h : RepQ L s N mn i gk mx q) (hg : ¬ (q = true ∧ (mx < 0 ∨ (i : Int) < mx))) {x y : Nat} (hy : y < s.length + 1)
  (hK:∀ w,K w↔∃ n:Nat,(mn:Int)≤n∧(mx < 0∨(n:Int)≤mx)∧Pw L n w):Pl (Us L mn i) s x y↔Pl K s x y:=by
 have htop:=h.top
 constructor
 ·rintro ⟨h1, h2, n, k1, k2, k3⟩
  exact ⟨h1,h2,(hK _).2 ⟨n,by omega,by omega,k3⟩⟩
 ·rintro ⟨h1, h2, h3⟩
  obtain ⟨n,k1,k2,k3⟩:=(hK _).1 h3
  by_cases e:n≤i
  ·exact ⟨h1,h2,n,by omega,e,k3⟩
  ·cases q with
   | true=>exact absurd ⟨rfl,by omega⟩ hg
   | false=>exact h.done rfl (n - i) x y hy ⟨h1,h2,by rw [show i+(n - i)=n by omega];exact k3⟩
end SimM
namespace Go.Proofs.YtioahgklplbinaaGreatDoor
open Go.RowKit Go.Shelf Go.Maps SetM PropsM RxM WrM NfaM SimM
set_option maxRecDepth 100000 in
set_option maxHeartbeats 16000000 in
theorem rep_c {s:List Int} (HS8:Hid (s.length≤1000)) {sl:List Sp} {kids:List Ns} {mn mx:Int} {x:Ns} (HKX:Hid (kids=[x])) (HMN:Hid ((0≤mn∧mn≤20)∧(mx = -1∨(mn≤mx∧mx≤20)))) (ih:∀ x∈kids,PthC s x):RepC s (.mk 4 sl kids mn mx):=by
 intro W v P n c hv hP hn
 obtain ⟨sp,sc,kp,kc,rfl,⟨hl1,hl2⟩,hsl,_,hk⟩:=hv.read
 obtain ⟨sln,hsln⟩:∃ k,k=List.length sl:=⟨_,rfl⟩
 rw [← hsln]
 obtain ⟨kn,hkn⟩:∃ k,k=List.length kids:=⟨_,rfl⟩
 rw [← hkn]
 obtain ⟨kz,hkz⟩:∃ z:Int,z=((4:Nat):Int):=⟨_,rfl⟩
 rw [← hkz]
 obtain ⟨V,hV⟩:∃ V,V=W.alloc (.cells #[.int .u8 kz,.slice sp sln sc,.slice kp kn kc,.int .i64 mn,.int .i64 mx] 48):=⟨_,rfl⟩
 have hb0:Below W.heap.size W V:=by rw [hV];exact (Below.refl _ _).alloc (Nat.le_refl _) _
 have hx:V.heap[W.heap.size]? = some (.cells #[.int .u8 kz,.slice sp sln sc,.slice kp kn kc,.int .i64 mn,.int .i64 mx] 48 (0,0)):=by rw [hV];exact heap_alloc_new W _
 have hlt0:=(Array.getElem?_eq_some_iff.1 hx).1
 have HN:=Lib.hid (fun (U:World) (hU:Below V.heap.size V U)=>(⟨(hU.cell (p:=⟨W.heap.size,0,none⟩) hlt0).trans (cell_of_row V _ 0 _ _ _ hx),(hU.cell (p:=⟨W.heap.size,1,none⟩) hlt0).trans (cell_of_row V _ 1 _ _ _ hx),(hU.cell (p:=⟨W.heap.size,2,none⟩) hlt0).trans (cell_of_row V _ 2 _ _ _ hx),(hU.cell (p:=⟨W.heap.size,3,none⟩) hlt0).trans (cell_of_row V _ 3 _ _ _ hx),(hU.cell (p:=⟨W.heap.size,4,none⟩) hlt0).trans (cell_of_row V _ 4 _ _ _ hx)⟩:U.cell? ⟨W.heap.size,0,none⟩=some (.int .u8 kz)∧U.cell? ⟨W.heap.size,1,none⟩=some (.slice sp sln sc)∧U.cell? ⟨W.heap.size,2,none⟩=some (.slice kp kn kc)∧U.cell? ⟨W.heap.size,3,none⟩=some (.int .i64 mn)∧U.cell? ⟨W.heap.size,4,none⟩=some (.int .i64 mx)))
 obtain ⟨N,hN⟩:∃ N,N=n+1:=⟨_,rfl⟩
 have hn8:n≤1000:=by rw [hn];exact HS8.out
 have hN8:N≤100000:=Nat.le_trans (Nat.le_of_eq hN) (Nat.le_trans (Nat.succ_le_succ hn8) (by decide))
 have hwn:wrap64 ((n:Int)+1)=(N:Int):=by rw [IntWalk.wrap64_in _ (by omega)];omega
 rw [← hN]
 have HNS:Hid (N=s.length+1∧n=s.length):=Lib.hid ⟨by rw [hN,hn],hn⟩
 have HIS:=Lib.hid (fun (U:World) (hU:Below V.heap.size V U)=>InR.step hP (hb0.trans (hU.mono hb0.size)))
 have HB0:=Lib.hid hb0
 have HKN:=Lib.hid hkn
 have hk8:kn≤1000:=by rw [hkn];exact hl2
 have HN8:=Lib.hid hN8
 have HNB:=Lib.hid hn8
 have HKID:Hid (∀ r (hr:r < List.length kids),∃ g a b c' d e',kp=some ⟨g,0,none⟩∧∀ U,Below V.heap.size V U→(U.cell? ⟨g,r*5,none⟩=some a∧U.cell? ⟨g,r*5+1,none⟩=some b∧U.cell? ⟨g,r*5+2,none⟩=some c'∧U.cell? ⟨g,r*5+3,none⟩=some d∧U.cell? ⟨g,r*5+4,none⟩=some e')∧Calls Tryz.prog 42 #[.agg #[a,b,c',d,e'],.slice P n c] U fun ee U'=>∃ g f,ee=.returned (.slice (some ⟨g,0,none⟩) N N)∧Mx U' U.heap.size g N f (Pl (Lg (kids[r]'hr)) s)∧Below U.heap.size U U'):=Lib.hid (fun r hr=>by
  obtain ⟨g,e1,⟨cs,hg⟩,h3⟩:=hk (by intro e;rw [e] at hr;cases hr)
  obtain ⟨u,h4,h5⟩:=h3 r hr
  obtain ⟨k1,s1,s2,s3,s4,s5,s6,s7,s8,rfl⟩:=h4.form5
  have hgW:=(Array.getElem?_eq_some_iff.1 hg).1
  refine ⟨g,.int .u8 k1,.slice s1 s2 s3,.slice s4 s5 s6,.int .i64 s7,.int .i64 s8,e1,fun U hU=>?_⟩
  have hWU:=hb0.trans (hU.mono hb0.size)
  refine ⟨⟨(hWU.cell (p:=⟨g,r*5,none⟩) hgW).trans (h5 0 (by omega)),(hWU.cell (p:=⟨g,r*5+1,none⟩) hgW).trans (h5 1 (by omega)),(hWU.cell (p:=⟨g,r*5+2,none⟩) hgW).trans (h5 2 (by omega)),(hWU.cell (p:=⟨g,r*5+3,none⟩) hgW).trans (h5 3 (by omega)),(hWU.cell (p:=⟨g,r*5+4,none⟩) hgW).trans (h5 4 (by omega))⟩,?_⟩
  have:=ih _ (List.getElem_mem hr) U _ P n c (h4.step hWU) (InR.step hP hWU) hn
  rw [← hN] at this
  exact this)
 have HST:=Lib.hid (fun (U:World)=>still_c (W:=U) (N:=N) hN8)
 obtain ⟨m,rfl⟩:∃ m:Nat,mn=(m:Int):=⟨mn.toNat,by have:=HMN.out;omega⟩
 have HM20:Hid (m≤20):=Lib.hid (by have:=HMN.out;omega)
 have HLG:=Lib.hid (fun w=>(lg_4 sl kids (m:Int) mx w))
 have hx1:(mx < 0)∨(∃ M:Nat,mx=(M:Int)∧m≤M∧M≤20):=by
  rcases HMN.out.2 with h | h
  ·left;omega
  ·right;exact ⟨mx.toNat,by omega,by omega,by omega⟩
 have HX1:=Lib.hid hx1
 clear hx1
 obtain ⟨g0,a,b,c',d,e',rfl,hcell⟩:=HKID.out 0 (by rw [HKX.out];exact Nat.zero_lt_one)
 have HLX:=Lib.hid (fun w=>(by rw [HLG.out w,HKX.out,LgR]:Lg (.mk 4 sl kids (m:Int) mx) w↔∃ n:Nat,(m:Int)≤n∧(mx < 0∨(n:Int)≤mx)∧Pw (Lg x) n w))
 have hkx0:kids[0]'(by rw [HKX.out];exact Nat.zero_lt_one)=x:=by simp [HKX.out]
 rw [hkx0] at hcell
 have HCL:=Lib.hid hcell
 have hkn1:kn=1:=by rw [HKN.out,HKX.out];rfl
 clear hcell hkx0 HLG HKX
 subst hkn1
 obtain ⟨⟨b0,b1,b2,b3,b4⟩,hcall⟩:=HCL.out V (Below.refl _ _)
 simp only [Nat.zero_mul,Nat.zero_add] at b0 b1 b2 b3 b4
 have HCALL:=Lib.hid hcall
 clear hcall HCL HKID
 obtain rfl:kz=4:=by rw [hkz];rfl
 obtain ⟨e0,e1,e2,e3,e4⟩:=HN.out V (Below.refl _ _)
 clear hv hk hb0 hx hlt0 hsln hkn hkz hl2 hP hn hN hN8 hn8
 go_enter Tryz.func68,Tryz.ntmps68
 go_upto_region 1 with fail
 rw [← hV]
 clear hV
 clear hsl hl1 hk8
 go_wp2_with fail
 refine HCALL.out.mono ?_
 rintro ee w1 ⟨gk0,fk0,rfl,h1,b1'⟩
 have HK1:=Lib.hid h1
 have HB1:=Lib.hid b1'
 clear h1 b1' HCALL e0 e1 e2 e3 e4 b0 b1 b2 b3 b4
 go_wp2_with fail
 refine (HST.out w1).mono ?_
 rintro ee w2 ⟨g,f,rfl,h2,b2'⟩
 have HM:=Lib.hid ((h2.congr (R':=Pl (Pw (Lg x) 0) s) (fun i j hi _=>(pl_still (by rw [← HNS.out.1];exact hi)).trans (pl_congr (fun w=>by rw [Pw]) s i j))).low HB1.out.size)
 have HB2:=Lib.hid (HB1.out.trans (b2'.mono HB1.out.size))
 have HKU:=Lib.hid (fun (U:World) (hU:Below w2.heap.size w2 U)=>(HK1.out.step b2').step hU)
 clear h2 b2' HST
 go_wp2_with fail
 go_loopg [6,7] m (fun gk sa sb wx=>∃ (r g:Nat) (f:Nat→Nat),r+gk=m∧sb=.int .i64 r∧sa=.slice (some ⟨g,0,none⟩) N N∧Hid (Mx wx V.heap.size g N f (Pl (Pw (Lg x) r) s))∧Hid (Below w2.heap.size w2 wx))
 case atStart=>exact ⟨0,g,f,by omega,rfl,rfl,HM,Lib.hid (Below.refl _ _)⟩
 case round =>
  obtain ⟨r,g2,f2,hrg,rfl,rfl,HR,HW⟩:=hrel
  clear HM
  have HVW:=Lib.hid (HB2.out.trans (HW.out.mono HB2.out.size))
  obtain ⟨e0,e1,e2,e3,e4⟩:=HN.out _ HVW.out
  cases gk with
  | succ gk =>
   have hlt:(r:Int) < (m:Int):=by omega
   have h0:(0:Int)≤(r:Int):=by omega
   have hwr:wrap64 ((r:Int)+1)=((r+1:Nat):Int):=by rw [IntWalk.wrap64_in _ (by have:=HM20.out;omega)];omega
   have HBH:=Lib.hid (behind_c (W:=wr) (N:=N) HN8.out HR.out (HKU.out _ HW.out))
   go_wp2_with fail
   refine HBH.out.mono ?_
   rintro ee w5 ⟨g5,f5,rfl,h5,b5⟩
   have HR5:=Lib.hid ((h5.congr (R':=Pl (Pw (Lg x) (r+1)) s) (fun i j _ hj=>pl_beh (L:=Pw (Lg x) r) (K:=Lg x) (by rw [← HNS.out.1];exact hj))).low HVW.out.size)
   have HB5:=Lib.hid (HW.out.trans (b5.mono HW.out.size))
   clear h5 b5 HBH e0 e1 e2 e3 e4
   go_wp2_with fail
   go_roundg gk
   case measure=>omega
   case rel=>exact ⟨r+1,g5,f5,by omega,by first | rw [hwr] | rfl | simp,rfl,HR5,HB5⟩
  | zero =>
   obtain rfl:r=m:=by omega
   have hlt:¬ (r:Int) < (r:Int):=by omega
   have HU:=Lib.hid (HR.out.congr (R':=Pl (Us (Lg x) r r) s) (fun i j _ _=>pl_congr (us_first (Lg x) r) s i j))
   go_wp2_with fail
   clear e0 e1 e2 e3 e4 hlt
   go_loopg [6,8,9,10] (N*N+1) (fun gk sa sb sc sd wx=>∃ (i gl ga:Nat) (fl fa:Nat→Nat) (q:Bool),sd=.int .i64 i∧sc=.bool q∧sa=.slice (some ⟨gl,0,none⟩) N N∧sb=.slice (some ⟨ga,0,none⟩) N N∧Hid (Mx wx V.heap.size gl N fl (Pl (Pw (Lg x) i) s))∧Hid (Mx wx V.heap.size ga N fa (Pl (Us (Lg x) r i) s))∧Hid (Below w2.heap.size w2 wx)∧RepQ (Lg x) s N r i gk mx q)
   case atStart=>exact ⟨r,g2,g2,f2,f2,true,rfl,rfl,rfl,rfl,HR,HU,HW,repq_start (Lg x) s N r mx HX1.out⟩
   case round =>
    obtain ⟨i,gl,ga,fl,fa,q,rfl,rfl,rfl,rfl,HL,HAL,HW2,HQ⟩:=hrel
    clear HR HU HW HVW
    have HVW:=Lib.hid (HB2.out.trans (HW2.out.mono HB2.out.size))
    obtain ⟨e0,e1,e2,e3,e4⟩:=HN.out _ HVW.out
    have HE:=Lib.hid (HB0.out.trans (HVW.out.mono HB0.out.size))
    by_cases hgo:q=true∧(mx < 0∨(i:Int) < mx)
    ·obtain ⟨rfl, hgo⟩ := hgo
     obtain ⟨gk',hgk⟩:=HQ.more rfl
     subst hgk
     have hwi:wrap64 ((i:Int)+1)=((i+1:Nat):Int):=by rw [IntWalk.wrap64_in _ (by have:=HQ.low;have:=HM20.out;have:=HNB.out;have:=HNS.out;have:N*N≤1001*1001:=Nat.mul_le_mul (by omega) (by omega);omega)];omega
     have HBH:=Lib.hid (behind_c (W:=wr) (N:=N) HN8.out HL.out (HKU.out _ HW2.out))
     have HQ:=Lib.hid HQ
     have hgx:(mx < 0)∨(¬ mx < 0∧(i:Int) < mx):=by omega
     rcases hgx with g1 | ⟨g1,g2'⟩
     all_goals
      go_wp2_with fail
      refine HBH.out.mono ?_
      rintro ee w5 ⟨g5,f5,rfl,h5,b5⟩
      have HL5:=Lib.hid ((h5.congr (R':=Pl (Pw (Lg x) (i+1)) s) (fun i' j _ hj=>pl_beh (L:=Pw (Lg x) i) (K:=Lg x) (by rw [← HNS.out.1];exact hj))).low HVW.out.size)
      have HB5:=Lib.hid (HW2.out.trans (b5.mono HW2.out.size))
      have HBO:=Lib.hid (both_c (W:=w5) (N:=N) HN8.out (HAL.out.step b5) HL5.out)
      have HV5:=Lib.hid (HVW.out.trans (b5.mono HVW.out.size))
      clear h5 b5 HBH e0 e1 e2 e3 e4
      go_wp2_with fail
      refine HBO.out.mono ?_
      rintro ee w6 ⟨g6,f6,bq,rfl,h6,⟨q,rfl,hq⟩,b6⟩
      have HA6:=Lib.hid ((h6.congr (R':=Pl (Us (Lg x) r (i+1)) s) (fun i' j _ _=>pl_us (Lg x) s HQ.out.ge i' j)).low HV5.out.size)
      have HL6:=Lib.hid (HL5.out.step b6)
      have HB6:=Lib.hid (HB5.out.trans (b6.mono HB5.out.size))
      have HQ6:=Lib.hid (HQ.out.next (by omega) HNS.out.1 hq)
      clear h6 hq b6 HBO
      go_wp2_with fail
      go_roundg gk'
      case measure=>omega
      case rel=>exact ⟨i+1,g5,g6,f5,f6,q,by first | rw [hwi] | rfl | simp,rfl,rfl,rfl,HL6,HA6,HB6,HQ6.out⟩
    ·have HF := Lib.hid ((HAL.out.congr (R' := Pl (Lg (.mk 4 sl kids (r : Int) mx)) s) (fun i' j _ hj => HQ.fin hgo (by rw [← HNS.out.1]; exact hj) (HLX.out))).low HB0.out.size)
     clear HQ
     have hcs:q=false∨(q=true∧¬ mx < 0∧¬ (i:Int) < mx):=by
      cases q with
      | false=>exact .inl rfl
      | true=>right;refine ⟨rfl,?_⟩;constructor <;> (intro h;exact hgo ⟨rfl,by omega⟩)
     clear hgo
     rcases hcs with rfl | ⟨rfl,g1,g2'⟩
     ·by_cases g1 : mx < 0
      ·go_wp2_with fail
       go_ret
       first
        | exact ⟨ga,rfl,⟨fa,HF.out⟩,HE.out⟩
        | exact ⟨ga,fa,rfl,HF.out,HE.out⟩
      ·by_cases g2' : (i : Int) < mx
       all_goals
        go_wp2_with fail
        go_ret
        first
         | exact ⟨ga,rfl,⟨fa,HF.out⟩,HE.out⟩
         | exact ⟨ga,fa,rfl,HF.out,HE.out⟩
     ·go_wp2_with fail
      go_ret
      first
       | exact ⟨ga,rfl,⟨fa,HF.out⟩,HE.out⟩
       | exact ⟨ga,fa,rfl,HF.out,HE.out⟩
end Go.Proofs.YtioahgklplbinaaGreatDoor

/- What the document's Tells answers, of any tree. -/
namespace Go.Proofs.YtioahgklplbinaaGreatDoor
open Go.RowKit Go.Shelf Go.Maps SetM PropsM RxM WrM NfaM SimM
set_option maxRecDepth 100000 in
set_option maxHeartbeats 16000000 in
theorem path_4 {s:List Int} (HS8:Hid (s.length≤1000)) {sl:List Sp} {kids:List Ns} {mn mx:Int} (hrep:RepC s (.mk 4 sl kids mn mx)):PthC s (.mk 4 sl kids mn mx):=by
 intro W v P n c hv hP hn
 obtain ⟨sp,sc,kp,kc,rfl,⟨hl1,hl2⟩,hsl,_,hk⟩:=hv.read
 obtain ⟨sln,hsln⟩:∃ k,k=List.length sl:=⟨_,rfl⟩
 rw [← hsln]
 obtain ⟨kn,hkn⟩:∃ k,k=List.length kids:=⟨_,rfl⟩
 rw [← hkn]
 obtain ⟨kz,hkz⟩:∃ z:Int,z=((4:Nat):Int):=⟨_,rfl⟩
 rw [← hkz]
 obtain ⟨V,hV⟩:∃ V,V=W.alloc (.cells #[.int .u8 kz,.slice sp sln sc,.slice kp kn kc,.int .i64 mn,.int .i64 mx] 48):=⟨_,rfl⟩
 have hb0:Below W.heap.size W V:=by rw [hV];exact (Below.refl _ _).alloc (Nat.le_refl _) _
 have hx:V.heap[W.heap.size]? = some (.cells #[.int .u8 kz,.slice sp sln sc,.slice kp kn kc,.int .i64 mn,.int .i64 mx] 48 (0,0)):=by rw [hV];exact heap_alloc_new W _
 have hlt0:=(Array.getElem?_eq_some_iff.1 hx).1
 have HN:=Lib.hid (fun (U:World) (hU:Below V.heap.size V U)=>(⟨(hU.cell (p:=⟨W.heap.size,0,none⟩) hlt0).trans (cell_of_row V _ 0 _ _ _ hx),(hU.cell (p:=⟨W.heap.size,1,none⟩) hlt0).trans (cell_of_row V _ 1 _ _ _ hx),(hU.cell (p:=⟨W.heap.size,2,none⟩) hlt0).trans (cell_of_row V _ 2 _ _ _ hx),(hU.cell (p:=⟨W.heap.size,3,none⟩) hlt0).trans (cell_of_row V _ 3 _ _ _ hx),(hU.cell (p:=⟨W.heap.size,4,none⟩) hlt0).trans (cell_of_row V _ 4 _ _ _ hx)⟩:U.cell? ⟨W.heap.size,0,none⟩=some (.int .u8 kz)∧U.cell? ⟨W.heap.size,1,none⟩=some (.slice sp sln sc)∧U.cell? ⟨W.heap.size,2,none⟩=some (.slice kp kn kc)∧U.cell? ⟨W.heap.size,3,none⟩=some (.int .i64 mn)∧U.cell? ⟨W.heap.size,4,none⟩=some (.int .i64 mx)))
 obtain ⟨N,hN⟩:∃ N,N=n+1:=⟨_,rfl⟩
 have hn8:n≤1000:=by rw [hn];exact HS8.out
 have hN8:N≤100000:=Nat.le_trans (Nat.le_of_eq hN) (Nat.le_trans (Nat.succ_le_succ hn8) (by decide))
 have hwn:wrap64 ((n:Int)+1)=(N:Int):=by rw [IntWalk.wrap64_in _ (by omega)];omega
 rw [← hN]
 have HNS:Hid (N=s.length+1∧n=s.length):=Lib.hid ⟨by rw [hN,hn],hn⟩
 have HIS:=Lib.hid (fun (U:World) (hU:Below V.heap.size V U)=>InR.step hP (hb0.trans (hU.mono hb0.size)))
 have HB0:=Lib.hid hb0
 have HKN:=Lib.hid hkn
 have HN8:=Lib.hid hN8
 have HNB:=Lib.hid hn8
 have hrp:=hrep V _ P n c (hv.step hb0) (InR.step hP hb0) hn
 rw [← hsln,← hkn,← hkz,← hN] at hrp
 have HREP:=Lib.hid hrp
 clear hrp
 obtain rfl:kz=4:=by rw [hkz];rfl
 obtain ⟨e0,e1,e2,e3,e4⟩:=HN.out V (Below.refl _ _)
 clear hv hk hb0 hx hlt0 hsln hkn hkz hl2 hP hn hN hN8 hn8
 go_enter Tryz.func42,Tryz.ntmps42
 go_upto_region 1 with fail
 rw [← hV]
 clear hV
 clear hsl hl1
 go_wp2_with fail
 refine HREP.out.mono ?_
 rintro e w1 ⟨g,f,rfl,h1,b1⟩
 have HM:=Lib.hid (h1.low HB0.out.size)
 have HE:=Lib.hid (HB0.out.trans (b1.mono HB0.out.size))
 clear h1 b1 HREP e0 e1 e2 e3 e4
 go_wp2_with fail
 go_ret
 first
  | exact ⟨g,rfl,⟨f,HM.out⟩,HE.out⟩
  | exact ⟨g,f,rfl,HM.out,HE.out⟩
mutual
theorem paths_all {s : List Int} (HS8 : Hid (s.length ≤ 1000)) : ∀ (u : Ns), Shp u → PthC s u
 | .mk k sl kids mn mx,hs=>by
  obtain ⟨hS,hL⟩:=(shp_mk _ _ _ _ _).1 hs
  have ih:=paths_kids HS8 kids hL
  have hk:k=0∨k=1∨k=2∨k=3∨(k=4∧(∃ x,kids=[x])∧(0≤mn∧mn≤20)∧(mx = -1∨(mn≤mx∧mx≤20))):=by
   unfold Shape at hS
   rcases hS with h | h | h | h
   ·exact .inl h.1
   ·exact .inr (.inl h.1)
   ·rcases h.1 with e | e
    ·exact .inr (.inr (.inl e))
    ·exact .inr (.inr (.inr (.inl e)))
   ·exact .inr (.inr (.inr (.inr ⟨h.1,List.length_eq_one_iff.1 h.2.1,h.2.2.2.1,h.2.2.2.2⟩)))
  rcases hk with rfl | rfl | rfl | rfl | ⟨rfl,⟨x,hx⟩,h1,h2⟩
  ·exact path_0 HS8
  ·exact path_1 HS8
  ·exact path_2 HS8 ih
  ·exact path_3 HS8 ih
  ·exact path_4 HS8 (rep_c HS8 (Lib.hid hx) (Lib.hid ⟨h1,h2⟩) ih)
theorem paths_kids {s : List Int} (HS8 : Hid (s.length ≤ 1000)) : ∀ (l : List Ns), ShpL l → ∀ x ∈ l, PthC s x
 | [],_,x,h=>by cases h
 | y::l,hL,x,h=>by
  rw [ShpL] at hL
  rcases List.mem_cons.1 h with h1 | h1
  ·rw [h1];exact paths_all HS8 y hL.1
  ·exact paths_kids HS8 l hL.2 x h1
end
set_option maxRecDepth 100000 in
set_option maxHeartbeats 8000000 in
theorem tells_c {s : List Int} (hs8 : s.length ≤ 1000) {u : Ns} (hu : Shp u) {W : World} {v : Value} {P : Option Addr} {n c : Nat} (hv : RV W v u) (hP : InR W P s) (hn : n = s.length) :
  Calls Tryz.prog 18 #[v,.slice P n c] W fun e W'=>∃ g,e=.returned (.slice (some ⟨g,0,none⟩) (n+1) (n+1))∧Mk01 W' W.heap.size g (n+1) (Pl (Lg u) s 0)∧Below W.heap.size W W':=by
 obtain ⟨kz,sp,sln,sc,kp,kn,kc,mn,mx,rfl⟩:=hv.form5
 obtain ⟨V,hV⟩:∃ V,V=W.alloc (.cells #[.int .u8 kz,.slice sp sln sc,.slice kp kn kc,.int .i64 mn,.int .i64 mx] 48):=⟨_,rfl⟩
 have hb0:Below W.heap.size W V:=by rw [hV];exact (Below.refl _ _).alloc (Nat.le_refl _) _
 have hx:V.heap[W.heap.size]? = some (.cells #[.int .u8 kz,.slice sp sln sc,.slice kp kn kc,.int .i64 mn,.int .i64 mx] 48 (0,0)):=by rw [hV];exact heap_alloc_new W _
 have e0:=cell_of_row V _ 0 _ _ _ hx
 have e1:=cell_of_row V _ 1 _ _ _ hx
 have e2:=cell_of_row V _ 2 _ _ _ hx
 have e3:=cell_of_row V _ 3 _ _ _ hx
 have e4:=cell_of_row V _ 4 _ _ _ hx
 obtain ⟨N,hN⟩:∃ N,N=n+1:=⟨_,rfl⟩
 have hpa:=paths_all (Lib.hid hs8) u hu V _ P n c (hv.step hb0) (InR.step hP hb0) hn
 rw [← hN] at hpa ⊢
 have HPA:=Lib.hid hpa
 have HB0:=Lib.hid hb0
 have hN0:(0:Int) < (N:Int):=by rw [hN];exact Int.ofNat_lt.2 (Nat.succ_pos n)
 have HN0:Hid (0 < N):=Lib.hid (by rw [hN];exact Nat.succ_pos n)
 clear hpa hb0 hx hv hP hn hs8 hN
 go_enter Tryz.func18,Tryz.ntmps18
 go_upto_region 1 with fail
 rw [← hV]
 clear hV
 go_wp2_with fail
 refine HPA.out.mono ?_
 rintro e w1 ⟨g,f,rfl,h1,b1⟩
 have c1:=h1.at_ HN0.out
 have HR:=Lib.hid ((h1.row 0 HN0.out).low HB0.out.size)
 have HE:=Lib.hid (HB0.out.trans (b1.mono HB0.out.size))
 clear h1 b1 HPA e0 e1 e2 e3 e4
 go_wp2_with fail
 go_ret
 exact ⟨f 0,rfl,HR.out,HE.out⟩
end Go.Proofs.YtioahgklplbinaaGreatDoor
