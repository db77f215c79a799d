/- VREF, VND, in one text. -/
import Derived.Test.YtioahgklplbinaaGreatDoorVSH
import Derived.Test.YtioahgklplbinaaGreatDoorRR
import Derived.Deep.RegionWith
import Derived.Test.YtioahgklplbinaaGreatDoorRA
import Derived.Test.YtioahgklplbinaaGreatDoorQParse
import Derived.Test.YtioahgklplbinaaGreatDoorRText
import Derived.Test.YtioahgklplbinaaGreatDoorVM
import Derived.BigQuiet
import Derived.IntWalk
import Derived.Deep.RegionHeld3
/- VBare, VRSnd, in one text. -/
namespace Go.Proofs.YtioahgklplbinaaGreatDoor
open Go.RowKit Go.Shelf Go.Maps SetM PropsM RxM WrM
end Go.Proofs.YtioahgklplbinaaGreatDoor
namespace Go.Proofs.YtioahgklplbinaaGreatDoor
open Go.RowKit Go.Shelf Go.Maps SetM PropsM RxM WrM
mutual
def WdT : Ns → Prop
 | .mk _ sl kids _ _=>Wide sl∧WdL kids
def WdL : List Ns → Prop
 | []=>True
 | x::l=>WdT x∧WdL l
end
theorem wd_mk (k:Nat) (sl:List Sp) (kids:List Ns) (mn mx:Int):WdT (.mk k sl kids mn mx)↔Wide sl∧WdL kids:=by rw [WdT]
end Go.Proofs.YtioahgklplbinaaGreatDoor

/- QDefs, VText, VNodeP, VNodeF, VKn, in one text. -/
namespace RxM
open SetM
def S8x:List Int:=[97,98,124,91,75,45,77,93]
def t8:Nd:= .mk 3 none0 [.mk 2 none0 [.mk 1 (Tells [(97,97)]) [] 0 0,.mk 1 (Tells [(98,98)]) [] 0 0] 0 0,.mk 1 (Tells [(75,77)]) [] 0 0] 0 0
theorem whole8:WrM.wholeF [] S8x=.ok t8 []:=by rfl
def D8:List Df:=[([68],t8,clF t8)]
end RxM
namespace Go.Proofs.YtioahgklplbinaaGreatDoor
open Go.RowKit Go.Shelf Go.Maps SetM PropsM RxM
theorem few_one {a b:Int} (h0:0≤a) (h1:a≤b) (h2:b≤1000):(∀ r,Tells [(a,b)] r→Sc r)∧∀ o,IsSet o (Tells [(a,b)])→o.length≤43000:=by
 refine ⟨fun r h=>h.1,fun o ho=>?_⟩
 have:o=[(a,b)]:=nf_unique o [(a,b)] ho.1 (by simp [Nf];omega) (fun r=>by
  rw [ho.2]
  constructor
  ·exact fun h=>h.2
  ·rintro ⟨s, hs, h3, h4⟩
   simp at hs
   subst hs
   exact ⟨by unfold Sc;simp at h3 h4;omega,_,by simp,h3,h4⟩)
 rw [this];simp
theorem few8:Few t8:=by
 have h1:=few_one (a:=97) (b:=97) (by omega) (by omega) (by omega)
 have h2:=few_one (a:=98) (b:=98) (by omega) (by omega) (by omega)
 have h3:=few_one (a:=75) (b:=77) (by omega) (by omega) (by omega)
 unfold t8
 simp only [Few,FewL,and_true]
 exact ⟨fun h=>absurd h (by decide),⟨fun h=>absurd h (by decide),fun _=>h1,fun _=>h2⟩,fun _=>h3⟩
set_option maxRecDepth 100000 in
set_option maxHeartbeats 2000000 in
theorem parse_long {W:World} {s:ByteArray} {dv:Value} (h:200 < s.size):Calls Tryz.prog 30 #[.string s,dv] W fun e W'=>e=.returned (.tuple #[.agg #[.int .u8 0,.slice none 0 0,.slice none 0 0,.int .i64 0,.int .i64 0],.int .i64 63,.int .i64 0])∧Below W.heap.size W W':=by
 obtain ⟨V,hV⟩:∃ V,V=W.alloc (.cells #[.int .u8 0,.slice none 0 0,.slice none 0 0,.int .i64 0,.int .i64 0] 48):=⟨_,rfl⟩
 have hb0:Below W.heap.size W V:=by rw [hV];exact (Below.refl W.heap.size W).alloc (Nat.le_refl _) _
 have H5:Hid (V.heap[W.heap.size]? = some (.cells #[.int .u8 0,.slice none 0 0,.slice none 0 0,.int .i64 0,.int .i64 0] 48 (0,0))):=Lib.hid (by rw [hV];exact heap_alloc_new W _)
 have HB0:=Lib.hid hb0
 have hl:(200:Int) < (s.size:Int):=by omega
 have hl2:(s.size:Int) > 200:=hl
 clear hb0
 go_enter Tryz.func30,Tryz.ntmps30
 go_wp2
 rw [← hV]
 exact bodyPost_ret (results6 rfl rfl rfl H5.out) rfl ⟨rfl,HB0.out⟩
abbrev s8:ByteArray:=⟨#[97,98,124,91,75,45,77,93]⟩
set_option maxRecDepth 100000 in
set_option maxHeartbeats 4000000 in
theorem defs_q (W:World):Calls Tryz.prog 47 #[] W fun e W'=>∃ dv,e=.returned dv∧DefQ (W.heap.size,W'.heap.size) W' dv D8∧Below W.heap.size W W':=by
 have HP:=Lib.hid (parse_q (W:=W) (s:=s8) (xs:=S8x) s8_bs (by intro c hc;simp [S8x] at hc;unfold U.UtfM.Sc;omega) (by decide) (DefQ.nil W))
 go_enter Tryz.func47,Tryz.ntmps47
 go_wp2_with fail
 refine HP.out.mono ?_
 rintro e w1 ⟨v,ez,pz,rfl,hpa,b1⟩
 rw [whole8] at hpa
 obtain ⟨hv,rfl,rfl⟩:=hpa
 obtain ⟨kk,sp,sn,sc,kp,kn,kc,mn,mx,rfl⟩:=NV.form5 hv
 have HV:=Lib.hid hv
 have HB:=Lib.hid b1
 have hal:=((Below.refl w1.heap.size w1).alloc (Nat.le_refl _) (.cells #[.int .u8 kk,.slice sp sn sc,.slice kp kn kc,.int .i64 mn,.int .i64 mx] 48)).alloc (by rw [World.size_alloc];omega) (.cells #[.string ⟨#[68]⟩,.int .u8 kk,.slice sp sn sc,.slice kp kn kc,.int .i64 mn,.int .i64 mx] 126)
 obtain ⟨X,hX⟩:∃ X,X=(w1.alloc (.cells #[.int .u8 kk,.slice sp sn sc,.slice kp kn kc,.int .i64 mn,.int .i64 mx] 48)).alloc (.cells #[.string ⟨#[68]⟩,.int .u8 kk,.slice sp sn sc,.slice kp kn kc,.int .i64 mn,.int .i64 mx] 126):=⟨_,rfl⟩
 have hn:=heap_alloc_new (w1.alloc (.cells #[.int .u8 kk,.slice sp sn sc,.slice kp kn kc,.int .i64 mn,.int .i64 mx] 48)) (.cells #[.string ⟨#[68]⟩,.int .u8 kk,.slice sp sn sc,.slice kp kn kc,.int .i64 mn,.int .i64 mx] 126)
 rw [World.size_alloc,← hX] at hn
 rw [← hX] at hal
 have hXz:w1.heap.size+1 < X.heap.size:=(Array.getElem?_eq_some_iff.1 hn).1
 have HQ:Hid (DefQ (W.heap.size,X.heap.size) X (.slice (some ⟨w1.heap.size+1,0,none⟩) 1 1) D8∧Below W.heap.size W X):=Lib.hid (by
  refine ⟨⟨by simp [D8],Nat.le_refl _,some ⟨w1.heap.size+1,0,none⟩,1,rfl,fun i hi=>?_⟩,b1.trans (hal.mono b1.size)⟩
  obtain rfl:i=0:=by simp [D8] at hi;exact hi
  have q:∀ j,X.cell? ⟨w1.heap.size+1,j,none⟩=_:=fun j=>cell_of_row X _ j _ _ _ hn
  exact ⟨w1.heap.size+1,⟨#[68]⟩,.int .u8 kk,.slice sp sn sc,.slice kp kn kc,.int .i64 mn,.int .i64 mx,rfl,⟨by have:=b1.size;show W.heap.size≤w1.heap.size+1;omega,hXz⟩,rfl,⟨q 0,q 1,q 2,q 3,q 4,q 5⟩,hv.imp (fun b hA hlt=>⟨⟨(by rcases hA with h | h <;> first | exact h | exact absurd h.2 (by simp)),(by show b < X.heap.size;omega)⟩,hal.block b hlt⟩) hal.size,rfl,few8⟩)
 clear hv b1 HP hal hn hXz
 go_wp2
 rw [← hX]
 go_ret
 exact ⟨_,rfl,HQ.out⟩
end Go.Proofs.YtioahgklplbinaaGreatDoor
namespace Go.Proofs.YtioahgklplbinaaGreatDoor
open Go.RowKit Go.Shelf Go.Maps SetM PropsM RxM
def wdN (c:Int):Nat:=(c.tmod 30).toNat
def stB (t:ByteArray) (c:Int):ByteArray:=t++wordsL.getD (wdN c) ⟨#[]⟩
def stL (l:List Int) (c:Int):List Int:=l++wordsS.getD (wdN c) []
def tB (cs:List Int):ByteArray:=(cs.take 40).foldl stB ⟨#[]⟩
def tL (cs:List Int):List Int:=(cs.take 40).foldl stL []
theorem fold_take {α:Type} (f:α→Int→α) (a:α) (cs:List Int) (k:Nat) (h:k < cs.length):(cs.take (k+1)).foldl f a=f ((cs.take k).foldl f a) cs[k]:=by
 rw [List.take_succ_eq_append_getElem h,List.foldl_append];rfl
set_option maxRecDepth 100000 in
set_option maxHeartbeats 2000000 in
theorem text_f (A : Option Addr) (ca : Nat) (cs : List Int) (w : World) (hU : U8s w.heap.size w A cs) :
  Calls Tryz.prog 46 #[.slice A cs.length ca] w fun e w'=>e=.returned (.string (tB cs))∧TextIs (tB cs) (tL cs)∧(tB cs).size≤400∧Below w.heap.size w w':=by
 obtain ⟨n,hn⟩:∃ n,n=cs.length:=⟨_,rfl⟩
 rw [← hn]
 have HU:Hid (∀ V,Below w.heap.size w V→∀ i,i < n→∃ c:Int,∃ b off,(∃ h:i < cs.length,cs[i]=c)∧A=some ⟨b,off,none⟩∧(0≤c∧c≤255)∧V.cell? ⟨b,off+i,none⟩=some (.int .u8 c)):=Lib.hid (by
  intro V hV i hi
  obtain ⟨b,off,e,hb,hc⟩:=hU.2 (by intro e;subst e;simp at hn;omega)
  refine ⟨cs[i],b,off,⟨by omega,rfl⟩,e,hU.1 _ (List.getElem_mem (by omega)),?_⟩
  have:=hc i (by omega)
  exact (hV.cell (p:=⟨b,off+i,none⟩) hb).trans this)
 clear hU
 obtain ⟨V,hV⟩:∃ V,V=w.alloc (.cells wordsV 9):=⟨_,rfl⟩
 have HB0:Hid (Below w.heap.size w V):=Lib.hid (by rw [hV];exact (Below.refl w.heap.size w).alloc (Nat.le_refl _) _)
 have HW:Hid (∀ k,k < 30→V.cell? ⟨w.heap.size,k,none⟩=some (.string (wordsL.getD k ⟨#[]⟩))):=Lib.hid (fun k hk=>by
  rw [hV,cell_of_row _ w.heap.size k _ _ _ (heap_alloc_new w _)]
  exact word_v k hk)
 go_enter Tryz.func46,Tryz.ntmps46
 go_wp2_with fail
 rw [← hV]
 clear hV
 have HNN:=Lib.hid hn
 clear hn
 go_loopg [4,5] n (fun g s4 s5 wx=>∃ (k:Nat) (t:ByteArray) (l:List Int),k+g=n∧k≤40∧s5=.int .i64 k∧s4=.string t∧Hid (TextIs t l∧t=(cs.take k).foldl stB ⟨#[]⟩∧l=(cs.take k).foldl stL [])∧t.size≤10*k∧V=wx)
 case atStart=>exact ⟨0,⟨#[]⟩,[],by omega,by omega,rfl,rfl,Lib.hid ⟨⟨rfl,⟨fun c h=>(by cases h),NI.nil⟩⟩,by simp,by simp⟩,by decide,rfl⟩
 case round =>
  obtain ⟨k,t,l,hkg,hk40,rfl,rfl,HT,hts,rfl⟩:=hrel
  rcases (show k=n∨(k < n∧k=40)∨(k < n∧k < 40) by omega) with rfl | ⟨hlt,rfl⟩ | ⟨hlt,h40⟩
  ·have hnl : ¬ ((k : Int) < (k : Int)) := by omega
   have HE:Hid (t=tB cs∧l=tL cs):=Lib.hid (by
    unfold tB tL
    rw [List.take_of_length_le (by have:=HNN.out;omega)]
    obtain ⟨_,e1,e2⟩:=HT.out
    rw [List.take_of_length_le (by have:=HNN.out;omega)] at e1 e2
    exact ⟨e1,e2⟩)
   go_wp2
   go_ret
   rw [← HE.out.1,← HE.out.2]
   exact ⟨rfl,HT.out.1,by omega,HB0.out⟩
  ·have HE : Hid (t = tB cs ∧ l = tL cs) := Lib.hid HT.out.2
   have h1:((40:Nat):Int) < (n:Int):=by omega
   have h2:¬ (((40:Nat):Int) < 40):=by omega
   go_wp2
   go_ret
   rw [← HE.out.1,← HE.out.2]
   exact ⟨rfl,HT.out.1,by omega,HB0.out⟩
  ·obtain ⟨c, b, off, ⟨hkc, hcc⟩, rfl, ⟨hc0, hc1⟩, hc⟩ := HU.out V HB0.out k hlt
   have HCC:=Lib.hid hcc
   clear hcc
   have hwc:wrap64 c=c:=IntWalk.wrap64_in _ (by omega)
   obtain ⟨m,hm,hm30⟩:∃ m:Nat,c.tmod 30=(m:Int)∧m < 30:=⟨(c.tmod 30).toNat,by rw [Int.tmod_eq_emod_of_nonneg hc0];omega,by rw [Int.tmod_eq_emod_of_nonneg hc0];omega⟩
   have HMD:Hid (wdN c=m):=Lib.hid (by unfold wdN;rw [hm];rfl)
   have hwm:wrap64 (m:Int)=(m:Int):=IntWalk.wrap64_in _ (by omega)
   have hw:=HW.out m hm30
   obtain ⟨HN,hwz⟩:=HT.out.1.next m hm30
   have hsz:(t++wordsL.getD m ⟨#[]⟩).size=t.size+(wordsL.getD m ⟨#[]⟩).size:=ByteArray.size_append
   have HN':Hid (TextIs (t++wordsL.getD m ⟨#[]⟩) (l++wordsS.getD m [])∧(t++wordsL.getD m ⟨#[]⟩)=(cs.take (k+1)).foldl stB ⟨#[]⟩∧(l++wordsS.getD m [])=(cs.take (k+1)).foldl stL []):=Lib.hid (by
    refine ⟨HN,?_,?_⟩
    ·rw [fold_take _ _ _ _ hkc, HCC.out, ← HT.out.2.1]
     unfold stB
     rw [HMD.out]
    ·rw [fold_take _ _ _ _ hkc, HCC.out, ← HT.out.2.2]
     unfold stL
     rw [HMD.out])
   clear HN
   generalize wordsL.getD m ⟨#[]⟩=u at *
   generalize wordsS.getD m []=lu at *
   have hsx:¬ 9223372036854775807 < t.size+u.size:=by omega
   have h1:(k:Int) < (n:Int):=by omega
   have h2:(k:Int) < 40:=by omega
   have h3:(0:Int)≤(k:Int):=by omega
   have h4:(0:Int)≤(m:Int):=by omega
   have h5:(m:Int) < 30:=by omega
   cases gk with
   | zero=>exfalso;omega
   | succ gk =>
    go_wp2
    go_roundg gk
    case measure=>omega
    case rel=>exact ⟨k+1,t++u,l++lu,by omega,by omega,rfl,rfl,HN',by omega,rfl⟩
end Go.Proofs.YtioahgklplbinaaGreatDoor
namespace Go.Proofs.YtioahgklplbinaaGreatDoor
open Go.RowKit Go.Shelf Go.Maps SetM PropsM RxM WrM
def outN : Out Nd → Nd
 | .ok y _=>y
 | .err _ _=>.mk 0 none0 [] 0 0
noncomputable def ndF (cs:List Int):Nd:=if (tB cs).size≤200 then outN (WrM.wholeF D8 (tL cs)) else .mk 0 none0 [] 0 0
theorem t8_sc:ScN t8∧ScN (clF t8):=by
 have h:∀ l r,Tells l r→Sc r:=fun _ _ h=>h.1
 have h2:∀ K r,ClosedK K r→Sc r:=fun _ _ h=>h.1
 have h3:∀ r,none0 r→Sc r:=fun _ h=>h.elim
 constructor
 ·unfold t8
  simp only [scN_mk,scL_cons,scL_nil,and_true]
  exact ⟨h3,⟨h3,h _,h _⟩,h _⟩
 ·unfold t8
  simp only [clF_mk,List.map_cons,List.map_nil,scN_mk,scL_cons,scL_nil,and_true]
  exact ⟨h3,⟨h3,h2 _,h2 _⟩,h2 _⟩
theorem outN_ok {Q:Nd→Prop} {o:Out Nd} (h0:Q (.mk 0 none0 [] 0 0)) (h:∀ x r,o=.ok x r→Q x):Q (outN o):=by
 cases o with
 | ok x r=>exact h x r rfl
 | err m r=>exact h0
theorem ndF_sc (cs:List Int):ScN (ndF cs):=by
 unfold ndF
 split
 ·exact outN_ok sc_empty (fun x r h=>sc_whole (fun d hd=>by simp [D8] at hd;subst hd;exact t8_sc) h)
 ·exact sc_empty
mutual
theorem ends_wd : ∀ (u : Ns), EndsN u → WdT u
 | .mk k sl kids mn mx,h=>by
  rw [EndsN] at h
  rw [wd_mk]
  exact ⟨fun s hs=>by have:=(h.1 s hs).2.1;unfold Sc at this;omega,endsL_wd kids h.2⟩
theorem endsL_wd : ∀ (l : List Ns), EndsL l → WdL l
 | [],_=>by rw [WdL];trivial
 | x::l,h=>by
  rw [EndsL] at h
  rw [WdL]
  exact ⟨ends_wd x h.1,endsL_wd l h.2⟩
end
end Go.Proofs.YtioahgklplbinaaGreatDoor
namespace Go.Proofs.YtioahgklplbinaaGreatDoor
open Go.RowKit Go.Shelf Go.Maps SetM PropsM RxM WrM
theorem U8s.up {n m:Nat} {W:World} {A:Option Addr} {cs:List Int} (h:U8s n W A cs) (hm:n≤m):U8s m W A cs :=
 ⟨h.1,fun hne=>let ⟨b,off,e,hb,hc⟩:=h.2 hne;⟨b,off,e,Nat.lt_of_lt_of_le hb hm,hc⟩⟩
theorem PaR.node {N:Nat×Nat} {n:Nat} {s:ByteArray} {W':World} {v:Value} {ez pz:Int} {o:Out Nd} (h:PaR N n s W' v ez pz o) (hN:N.1≤n):NV W' (fun b=>N.1≤b) v (outN o):=by
 cases o with
 | ok y r=>exact h.1.imp (fun b hA _=>⟨(by rcases hA with h | h <;> omega),rfl⟩) (Nat.le_refl _)
 | err m r=>rw [h.1];exact empty_nv
theorem parse_f {W:World} {cs:List Int} {dv:Value} {m:Nat} (hT:TextIs (tB cs) (tL cs)) (hDQ:DefQ (m,W.heap.size) W dv D8) (hm:m≤W.heap.size):Calls Tryz.prog 30 #[.string (tB cs),dv] W fun e W'=>∃ v ez pz,e=.returned (.tuple #[v,.int .i64 ez,.int .i64 pz])∧NV W' (fun b=>m≤b) v (ndF cs)∧Below W.heap.size W W':=by
 unfold ndF
 by_cases h:(tB cs).size≤200
 ·rw [if_pos h]
  exact (parse_q hT.1 hT.2.1 h hDQ).mono (fun e W' ⟨v,ez,pz,h1,h2,h3⟩=>⟨v,ez,pz,h1,h2.node hm,h3⟩)
 ·rw [if_neg h]
  exact (parse_long (by omega)).mono (fun e W' ⟨h1,h2⟩=>⟨_,_,_,h1,empty_nv,h2⟩)
set_option maxRecDepth 100000 in
set_option maxHeartbeats 2000000 in
theorem node_f (A : Option Addr) (ca : Nat) (cs : List Int) (w : World) (hU : U8s w.heap.size w A cs) :
  Calls Tryz.prog 20 #[.slice A cs.length ca] w fun e w'=>∃ v,e=.returned v∧NV w' (fun b=>w.heap.size≤b) v (ndF cs)∧Below w.heap.size w w':=by
 obtain ⟨V,hV⟩:∃ V,V=w.alloc (.cells #[.int .u8 0,.slice none 0 0,.slice none 0 0,.int .i64 0,.int .i64 0] 48):=⟨_,rfl⟩
 have hb0:Below w.heap.size w V:=by rw [hV];exact (Below.refl w.heap.size w).alloc (Nat.le_refl _) _
 have hVz:V.heap.size=w.heap.size+1:=by rw [hV];exact World.size_alloc _ _
 have HB5:Hid (B5 V w.heap.size):=Lib.hid (by rw [hV];exact B5.new w _ _ _ _ _)
 have HTX:=Lib.hid (text_f A ca cs V ((hU.below hb0).up hb0.size))
 have HB0:=Lib.hid hb0
 clear hU hb0
 go_enter Tryz.func20,Tryz.ntmps20
 go_wp2_with fail
 rw [← hV]
 clear hV
 refine HTX.out.mono ?_
 rintro e w1 ⟨rfl,ht,_,b1⟩
 have HT:=Lib.hid ht
 have HB1:=Lib.hid b1
 clear ht b1 HTX
 go_wp2_with fail
 refine (defs_q w1).mono ?_
 rintro e w2 ⟨dv,rfl,hq,b2⟩
 have HP:=Lib.hid (parse_f HT.out hq b2.size)
 have HB2:=Lib.hid (HB1.out.trans (b2.mono HB1.out.size))
 obtain ⟨P,c,rfl⟩:∃ P c,dv=.slice P D8.length c:=let ⟨_,_,P,c,e,_⟩:=hq;⟨P,c,e⟩
 clear hq b2
 generalize tB cs=t at *
 go_wp2_with fail
 refine HP.out.mono ?_
 rintro e w3 ⟨v,ez,pz,rfl,hv,b3⟩
 have hb3:=HB2.out.trans (b3.mono HB2.out.size)
 obtain ⟨kk,sp,sn,sc,kp,kn,kc,mn,mx,rfl⟩:=NV.form5 hv
 have hal:=(Below.refl w3.heap.size w3).alloc (Nat.le_refl _) (.cells #[.int .u8 kk,.slice sp sn sc,.slice kp kn kc,.int .i64 mn,.int .i64 mx] 48)
 have hx3:=heap_alloc_new w3 (.cells #[.int .u8 kk,.slice sp sn sc,.slice kp kn kc,.int .i64 mn,.int .i64 mx] 48)
 have a0:=cell_of_row _ w3.heap.size 0 _ _ _ hx3
 have a1:=cell_of_row _ w3.heap.size 1 _ _ _ hx3
 have a2:=cell_of_row _ w3.heap.size 2 _ _ _ hx3
 have a3:=cell_of_row _ w3.heap.size 3 _ _ _ hx3
 have a4:=cell_of_row _ w3.heap.size 4 _ _ _ hx3
 have hb4:=hb3.trans (hal.mono hb3.size)
 have h5:=HB5.out.gr (R:=V.heap.size+1) (Gr.of hb4) (by omega)
 obtain ⟨⟨x0,x1,x2,x3,x4,k0,k1,k2,k3,k4⟩,f0,f1,f2,f3,f4⟩:=h5.cells
 have H5:=Lib.hid h5
 have HV:=Lib.hid (hv.imp (B:=fun b=>V.heap.size≤b) (fun b hA hlt=>⟨Nat.le_trans HB1.out.size hA,hal.block b hlt⟩) hal.size)
 have HB4:=Lib.hid (HB0.out.trans (hb4.mono HB0.out.size))
 have HV2:=Lib.hid (fun (x0 x1 x2 x3 x4:Value)=>(HV.out.imp (W':=put5 (w3.alloc (.cells #[.int .u8 kk,.slice sp sn sc,.slice kp kn kc,.int .i64 mn,.int .i64 mx] 48)) w.heap.size x0 x1 x2 x3 x4) (B:=fun b=>w.heap.size≤b) (fun k hA _=>⟨by show w.heap.size≤k;omega,put5_block _ _ _ _ _ _ _ k (by omega)⟩) (by rw [put5_size];exact Nat.le_refl _)))
 clear h5 hv hal hb3 hb4 b3 HP hx3 hVz HV HT HB1 HB2 HB5
 go_wp2
 exact ret_node rfl rfl H5.out ⟨_,rfl,HV2.out _ _ _ _ _,put5_below _ _ _ _ _ HB4.out (Nat.le_refl _)⟩
end Go.Proofs.YtioahgklplbinaaGreatDoor
namespace WrM
open SetM RxM
end WrM
namespace Go.Proofs.YtioahgklplbinaaGreatDoor
open Go.RowKit Go.Shelf Go.Maps SetM PropsM RxM WrM
end Go.Proofs.YtioahgklplbinaaGreatDoor
