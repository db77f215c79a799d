/- NSet, NMr, NPSd, in one text. -/
import Derived.Test.YtioahgklplbinaaGreatDoorNQ
import Derived.Deep.RegionHeld3
import Derived.Deep.RegionWith
/- The program's isSet: are spans a set in its one form? -/
namespace NfaM
open SetM WrM
def isSetF : Int → List Sp → Bool
 | _,[]=>true
 | f,s::l=>if s.1 < f∨s.2 < s.1∨1114111 < s.2 then false else if s.1≤57343∧55296≤s.2 then false else isSetF (s.2+2) l
theorem isSetF_iff : ∀ (l : List Sp) (f : Int), 0 ≤ f → (isSetF f l = true ↔ (Norml l ∧ ∀ s ∈ l, f ≤ s.1))
 | [],f,_=>by
  unfold isSetF Norml
  simp [Nf,Mem]
 | s::l,f,hf=>by
  unfold isSetF
  by_cases h1:s.1 < f∨s.2 < s.1∨1114111 < s.2
  ·rw [if_pos h1]
   refine ⟨fun h=>(by cases h),fun ⟨hN,hA⟩=>?_⟩
   exfalso
   have h2:=hA s (by simp)
   have h3:=hN.1.1
   have h4:=hN.2 s.2 ⟨s,by simp,h3,Int.le_refl _⟩
   unfold Sc at h4
   omega
  ·rw [if_neg h1]
   by_cases h2:s.1≤57343∧55296≤s.2
   ·rw [if_pos h2]
    refine ⟨fun h=>(by cases h),fun ⟨hN,_⟩=>?_⟩
    exfalso
    have h3:=hN.1.1
    have h4:=hN.2 (max s.1 55296) ⟨s,by simp,by omega,by omega⟩
    unfold Sc at h4
    omega
   ·rw [if_neg h2, isSetF_iff l (s.2 + 2) (by omega)]
    constructor
    ·rintro ⟨hN, hA⟩
     refine ⟨⟨⟨by omega,fun u hu=>by have:=hA u hu;omega,hN.1⟩,fun r hr=>?_⟩,fun u hu=>?_⟩
     ·rw [mem_cons] at hr
      rcases hr with hr | hr
      ·unfold Sc;omega
      ·exact hN.2 r hr
     ·rcases List.mem_cons.1 hu with rfl | hu
      ·omega
      ·have:=hA u hu;omega
    ·rintro ⟨hN, hA⟩
     refine ⟨⟨hN.1.2.2,fun r hr=>hN.2 r ((mem_cons _ _ _).2 (.inr hr))⟩,fun u hu=>?_⟩
     have h3:=hN.1.2.1 u hu
     omega
theorem isSet_norml (l:List Sp):isSetF 0 l=true↔Norml l:=by
 rw [isSetF_iff l 0 (Int.le_refl _)]
 refine ⟨fun h=>h.1,fun h=>⟨h,fun s hs=>?_⟩⟩
 have hle:∀ (m:List Sp),Nf m→∀ s∈m,s.1≤s.2:=fun m=>by
  induction m with
  | nil=>intro _ s h;cases h
  | cons x m ih=>intro hn s hs;rcases List.mem_cons.1 hs with rfl | hs;exact hn.1;exact ih hn.2.2 s hs
 have h1:=h.2 s.1 ⟨s,hs,Int.le_refl _,hle l h.1 s hs⟩
 unfold Sc at h1
 omega
end NfaM
namespace Go.Proofs.YtioahgklplbinaaGreatDoor
open Go.RowKit Go.Shelf Go.Maps SetM PropsM RxM WrM NfaM
theorem drop_cons {l:List Sp} {r:Nat} (h:r < l.length):l.drop r=l[r]::l.drop (r+1):=by simp
set_option maxRecDepth 100000 in
set_option maxHeartbeats 8000000 in
theorem isSet_c {W:World} {P:Option Addr} {n c:Nat} {l:List Sp} (hn:n=l.length) (h8:n≤1000000) (hs:Sl W P l):Calls Tryz.prog 35 #[.slice P n c] W fun e W'=>e=.returned (.bool (isSetF 0 l))∧Below W.heap.size W W':=by
 have HS:=Lib.hid hs
 have HN:=Lib.hid hn
 clear hs hn
 go_enter Tryz.func35,Tryz.ntmps35
 go_wp2_with fail
 go_loopg [3,8] n (fun gk s3 s8 wx=>∃ (r:Nat) (f:Int),r+gk=n∧s8=.int .i64 r∧s3=.int .i64 f∧(0≤f∧f≤2000000)∧Hid (isSetF 0 l=isSetF f (l.drop r))∧Hid (Below W.heap.size W wx))
 case atStart=>exact ⟨0,0,by omega,rfl,rfl,by omega,Lib.hid (by rw [List.drop_zero]),Lib.hid (Below.refl _ _)⟩
 case round =>
  obtain ⟨r,f,hrg,rfl,rfl,hf,HF,HB⟩:=hrel
  cases gk with
  | zero =>
   obtain rfl:r=n:=by omega
   have hlt:¬ (r:Int) < (r:Int):=by omega
   have HE:Hid (isSetF 0 l=true):=Lib.hid (by rw [HF.out,List.drop_of_length_le (by have:=HN.out;omega)];rfl)
   go_wp2
   go_ret
   exact ⟨by rw [HE.out];rfl,HB.out⟩
  | succ gk =>
   have hlt:(r:Int) < (n:Int):=by omega
   have hrl:r < l.length:=by have:=HN.out;omega
   have h0:(0:Int)≤(r:Int):=by omega
   have hwr:wrap64 ((r:Int)+1)=((r+1:Nat):Int):=by rw [IntWalk.wrap64_in _ (by omega)];omega
   obtain ⟨g,o,rfl,hg,hc⟩:=(HS.out.step HB.out) (by intro e;rw [e] at hrl;cases hrl)
   obtain ⟨c1,c2⟩:=hc r hrl
   obtain ⟨s,hs⟩:∃ s,s=l[r]:=⟨_,rfl⟩
   rw [← hs] at c1 c2
   have HD:Hid (isSetF 0 l=(if s.1 < f∨s.2 < s.1∨1114111 < s.2 then false else if s.1≤57343∧55296≤s.2 then false else isSetF (s.2+2) (l.drop (r+1)))):=Lib.hid (by rw [HF.out,drop_cons hrl,isSetF,← hs])
   obtain ⟨x,y⟩:=s
   dsimp only at c1 c2 HD
   have hal:Hid (Below W.heap.size W (wr.alloc (.cells #[.int .i64 x,.int .i64 y] 45))):=Lib.hid (HB.out.alloc HB.out.size _)
   obtain ⟨Y,hY⟩:∃ Y,Y=wr.alloc (.cells #[.int .i64 x,.int .i64 y] 45):=⟨_,rfl⟩
   have hyb:Y.heap[wr.heap.size]? = some (.cells #[.int .i64 x,.int .i64 y] 45 (0,0)):=by rw [hY];exact heap_alloc_new wr _
   have d1:Y.cell? ⟨wr.heap.size,0,none⟩=some (.int .i64 x):=cell_of_row Y _ 0 _ _ _ hyb
   have d2:Y.cell? ⟨wr.heap.size,1,none⟩=some (.int .i64 y):=cell_of_row Y _ 1 _ _ _ hyb
   rw [← hY] at hal
   clear hs hc hyb
   go_upto_region 5 with fail
   rw [← hY]
   clear hY
   by_cases q1:x < f∨y < x∨1114111 < y
   ·have HE : Hid (isSetF 0 l = false) := Lib.hid (by rw [HD.out, if_pos q1])
    rcases (show x < f∨(¬ x < f∧y < x)∨(¬ x < f∧¬ y < x∧1114111 < y) by omega) with a1 | ⟨a1,a2⟩ | ⟨a1,a2,a3⟩
    all_goals
     clear q1
     go_wp2
     go_ret
     exact ⟨by rw [HE.out];rfl,hal.out⟩
   ·have a1 : ¬ x < f := by omega
    have a2:¬ y < x:=by omega
    have a3:¬ 1114111 < y:=by omega
    rw [if_neg q1] at HD
    by_cases q2:x≤57343∧55296≤y
    ·have HE : Hid (isSetF 0 l = false) := Lib.hid (by rw [HD.out, if_pos q2])
     obtain ⟨b1,b2⟩:=q2
     clear q1
     go_wp2
     go_ret
     exact ⟨by rw [HE.out];rfl,hal.out⟩
    ·rw [if_neg q2] at HD
     have hy2:wrap64 (y+2)=y+2:=IntWalk.wrap64_in _ (by omega)
     have hff:0≤y+2∧y+2≤2000000:=by omega
     have HFF:=Lib.hid hff
     rcases (show ¬ x≤57343∨(x≤57343∧¬ 55296≤y) by omega) with b1 | ⟨b1,b2⟩
     all_goals
      clear q1 q2 hff hf
      go_wp2
      go_roundg gk
      case measure=>omega
      case rel=>exact ⟨r+1,y+2,by omega,by first | rw [hwr] | rfl | simp,rfl,HFF.out,HD,hal⟩
end Go.Proofs.YtioahgklplbinaaGreatDoor

/- Machines as they are read, wherever they lie; the program's looks at edges and at ways. -/
namespace NfaM
open SetM WrM
def okE (k:Nat) (e:Int×List Sp):Bool:=decide (0≤e.1∧e.1 < k) && isSetF 0 e.2
def okI (k:Nat) (t:Int):Bool:=decide (0≤t∧t < k)
def allE (k:Nat) (es:List (Int×List Sp)):Bool:=es.all (okE k)
def allI (k:Nat) (es:List Int):Bool:=es.all (okI k)
end NfaM
namespace Go.Proofs.YtioahgklplbinaaGreatDoor
open Go.RowKit Go.Shelf Go.Maps SetM PropsM RxM WrM NfaM
def EdR (W:World) (P:Option Addr) (es:List (Int×List Sp)):Prop:=∀ k (_:k < es.length),∃ g o sp sc,P=some ⟨g,o,none⟩∧g < W.heap.size∧W.cell? ⟨g,o+k*2,none⟩=some (.int .i64 es[k].1)∧W.cell? ⟨g,o+k*2+1,none⟩=some (.slice sp es[k].2.length sc)∧Sl W sp es[k].2
def InR (W:World) (P:Option Addr) (l:List Int):Prop:=∀ k (_:k < l.length),∃ g o,P=some ⟨g,o,none⟩∧g < W.heap.size∧W.cell? ⟨g,o+k,none⟩=some (.int .i64 l[k])
theorem EdR.step {W W':World} {P:Option Addr} {es:List (Int×List Sp)} (h:EdR W P es) (hb:Below W.heap.size W W'):EdR W' P es:=fun k hk=>by
 obtain ⟨g,o,sp,sc,e,hg,h1,h2,h3⟩:=h k hk
 exact ⟨g,o,sp,sc,e,Nat.lt_of_lt_of_le hg hb.size,(hb.cell (p:=⟨g,o+k*2,none⟩) hg).trans h1,(hb.cell (p:=⟨g,o+k*2+1,none⟩) hg).trans h2,h3.step hb⟩
theorem InR.step {W W':World} {P:Option Addr} {l:List Int} (h:InR W P l) (hb:Below W.heap.size W W'):InR W' P l:=fun k hk=>by
 obtain ⟨g,o,e,hg,h1⟩:=h k hk
 exact ⟨g,o,e,Nat.lt_of_lt_of_le hg hb.size,(hb.cell (p:=⟨g,o+k,none⟩) hg).trans h1⟩
structure MR (W : World) (p0 p1 p2 : Option Addr) (m : Mc) : Prop where
 ed:∀ i (_:i < m.ed.length),∃ g o P c,p0=some ⟨g,o,none⟩∧g < W.heap.size∧W.cell? ⟨g,o+i,none⟩=some (.slice P m.ed[i].length c)∧EdR W P m.ed[i]
 fr:∀ i (_:i < m.fr.length),∃ g o P c,p1=some ⟨g,o,none⟩∧g < W.heap.size∧W.cell? ⟨g,o+i,none⟩=some (.slice P m.fr[i].length c)∧InR W P m.fr[i]
 tg:InR W p2 m.tg
theorem MR.step {W W':World} {p0 p1 p2:Option Addr} {m:Mc} (h:MR W p0 p1 p2 m) (hb:Below W.heap.size W W'):MR W' p0 p1 p2 m :=
 ⟨fun i hi=>by
  obtain ⟨g,o,P,c,e,hg,h1,h2⟩:=h.ed i hi
  exact ⟨g,o,P,c,e,Nat.lt_of_lt_of_le hg hb.size,(hb.cell (p:=⟨g,o+i,none⟩) hg).trans h1,h2.step hb⟩,fun i hi=>by
  obtain ⟨g,o,P,c,e,hg,h1,h2⟩:=h.fr i hi
  exact ⟨g,o,P,c,e,Nat.lt_of_lt_of_le hg hb.size,(hb.cell (p:=⟨g,o+i,none⟩) hg).trans h1,h2.step hb⟩,h.tg.step hb⟩
structure SdB (W : World) (x y k : Nat) : Prop where
 sx:W.heap[x]? = some (.cells #[.int .i64 k] 3 (0,0))
 sy:W.heap[y]? = some (.cells #[.func (.func 33) #[] #[.pointer (some ⟨x,0,none⟩)]] 76 (0,0))
theorem SdB.step {W W':World} {x y k:Nat} (h:SdB W x y k) (hb:Below W.heap.size W W'):SdB W' x y k :=
 ⟨(hb.block x (Array.getElem?_eq_some_iff.1 h.sx).1).trans h.sx,(hb.block y (Array.getElem?_eq_some_iff.1 h.sy).1).trans h.sy⟩
theorem cell1 {W:World} {b:Nat} {x:Value} {t:TypeId} (h:W.heap[b]? = some (.cells #[x] t (0,0))):W.cell? ⟨b,0,none⟩=some x:=cell_of_row W _ 0 _ _ _ h
set_option maxRecDepth 100000 in
set_option maxHeartbeats 4000000 in
theorem nowhere_c {W:World} {x y k:Nat} {t:Int} (h:SdB W x y k):Calls Tryz.prog 33 #[.int .i64 t,.pointer (some ⟨x,0,none⟩)] W fun e W'=>e=.returned (.bool (!okI k t))∧Below W.heap.size W W':=by
 have c:=cell1 h.sx
 clear h
 by_cases h1:t < 0
 ·have HE : Hid ((!okI k t) = true) := Lib.hid (by unfold okI; simp; omega)
  rw [HE.out]
  go_enter Tryz.func33,Tryz.ntmps33
  go_wp2
  go_ret
  exact ⟨rfl,Below.refl _ _⟩
 ·by_cases h2 : (k : Int) ≤ t
  ·have HE : Hid ((!okI k t) = true) := Lib.hid (by unfold okI; simp; omega)
   rw [HE.out]
   go_enter Tryz.func33,Tryz.ntmps33
   go_wp2
   go_ret
   exact ⟨rfl,Below.refl _ _⟩
  ·have HE : Hid ((!okI k t) = false) := Lib.hid (by unfold okI; simp; omega)
   rw [HE.out]
   go_enter Tryz.func33,Tryz.ntmps33
   go_wp2
   go_ret
   exact ⟨rfl,Below.refl _ _⟩
set_option maxRecDepth 100000 in
set_option maxHeartbeats 4000000 in
theorem wrong_c {W:World} {x y k n c:Nat} {t:Int} {sp:Option Addr} {l:List Sp} (h:SdB W x y k) (hn:n=l.length) (h8:n≤1000000) (hs:Sl W sp l):Calls Tryz.prog 34 #[.agg #[.int .i64 t,.slice sp n c],.pointer (some ⟨y,0,none⟩)] W fun e W'=>e=.returned (.bool (!okE k (t,l)))∧Below W.heap.size W W':=by
 obtain ⟨V,hV⟩:∃ V,V=W.alloc (.cells #[.int .i64 t,.slice sp n c] 43):=⟨_,rfl⟩
 have hb:Below W.heap.size W V:=by rw [hV];exact (Below.refl _ _).alloc (Nat.le_refl _) _
 have hx:V.heap[W.heap.size]? = some (.cells #[.int .i64 t,.slice sp n c] 43 (0,0)):=by rw [hV];exact heap_alloc_new W _
 have hlt:=(Array.getElem?_eq_some_iff.1 hx).1
 have HNW:=Lib.hid (nowhere_c (t:=t) (h.step hb))
 have HIS:=Lib.hid (fun (U:World) (hU:Below V.heap.size V U)=>isSet_c (c:=c) hn h8 ((hs.step hb).step hU))
 have d0:V.cell? ⟨W.heap.size,0,none⟩=some (.int .i64 t):=cell_of_row V _ 0 _ _ _ hx
 have HD1:=Lib.hid (fun (U:World) (hU:Below V.heap.size V U)=>(hU.cell (p:=⟨W.heap.size,1,none⟩) hlt).trans (show V.cell? ⟨W.heap.size,1,none⟩=some (.slice sp n c) from cell_of_row V _ 1 _ _ _ hx))
 have c1:=cell1 (h.step hb).sy
 have HB:=Lib.hid hb
 clear h hn hs hx hlt hb
 go_enter Tryz.func34,Tryz.ntmps34
 go_upto_region 1 with fail
 rw [← hV]
 clear hV
 go_wp2_with fail
 refine HNW.out.mono ?_
 rintro e w1 ⟨rfl,b1⟩
 have e1:=HD1.out w1 b1
 have HI:=Lib.hid (HIS.out w1 b1)
 have HB1:=Lib.hid (HB.out.trans (b1.mono HB.out.size))
 clear b1 d0 c1 HNW
 cases hq:okI k t with
 | false =>
  have HE:Hid ((!okE k (t,l))=true):=Lib.hid (by unfold okI at hq;unfold okE;simp at hq ⊢;left;omega)
  clear hq
  go_wp2
  go_ret
  exact ⟨by rw [HE.out];rfl,HB1.out⟩
 | true =>
  have HE:Hid (okE k (t,l)=isSetF 0 l):=Lib.hid (by unfold okI at hq;unfold okE;rw [hq,Bool.true_and])
  clear hq
  go_wp2_with fail
  refine HI.out.mono ?_
  rintro e w2 ⟨rfl,b2⟩
  have HB2:=Lib.hid (HB1.out.trans (b2.mono HB1.out.size))
  clear b2 e1 HI
  generalize isSetF 0 l=q at *
  go_wp2
  go_ret
  exact ⟨by rw [HE.out];cases q <;> rfl,HB2.out⟩
set_option maxRecDepth 100000 in
set_option maxHeartbeats 8000000 in
theorem idxE_c {W : World} {P : Option Addr} {x y k n c : Nat} {es : List (Int × List Sp)} (h : EdR W P es) (hn : n = es.length) (h8 : n ≤ 9223372036854775807) (hl : ∀ e ∈ es, e.2.length ≤ 1000000) (hb : SdB W x y k) :
  Calls Tryz.prog 60 #[.slice P n c,.func (.func 34) #[] #[.pointer (some ⟨y,0,none⟩)]] W fun e W'=>(∃ z:Int,e=.returned (.int .i64 z)∧Hid (0≤z↔allE k es=false))∧Below W.heap.size W W':=by
 have HS:=Lib.hid h
 have HN:=Lib.hid hn
 have HX:=Lib.hid hb
 have HL:=Lib.hid hl
 clear h hn hb
 go_enter Tryz.func60,Tryz.ntmps60
 go_wp2_with fail
 go_loopg [5,8] n (fun gk s5 s8 wx=>∃ (r:Nat),r+gk=n∧s8=.int .i64 r∧Hid (allE k (es.take r)=true)∧Hid (Below W.heap.size W wx))
 case atStart=>exact ⟨0,by omega,rfl,Lib.hid rfl,Lib.hid (Below.refl _ _)⟩
 case round =>
  obtain ⟨r,hrg,rfl,HA,HB⟩:=hrel
  cases gk with
  | zero =>
   obtain rfl:r=n:=by omega
   have hlt:¬ (r:Int) < (r:Int):=by omega
   have HE:Hid (allE k es=true):=Lib.hid (by have h:=HA.out;rw [List.take_of_length_le (by have:=HN.out;omega)] at h;exact h)
   go_wp2
   go_ret
   exact ⟨⟨-1,rfl,Lib.hid (by rw [HE.out];simp)⟩,HB.out⟩
  | succ gk =>
   have hlt:(r:Int) < (n:Int):=by omega
   have hrl:r < es.length:=by have:=HN.out;omega
   have h0:(0:Int)≤(r:Int):=by omega
   have hwr:wrap64 ((r:Int)+1)=((r+1:Nat):Int):=by rw [IntWalk.wrap64_in _ (by omega)];omega
   obtain ⟨g,o,sp,sc,rfl,hg,c1,c2,hsl⟩:=(HS.out.step HB.out) r hrl
   obtain ⟨e,he⟩:∃ e,e=es[r]:=⟨_,rfl⟩
   rw [← he] at c1 c2 hsl
   have HEM:Hid (es[r]=e):=Lib.hid he.symm
   obtain ⟨t,l⟩:=e
   dsimp only at c1 c2 hsl
   obtain ⟨ln,hln⟩:∃ ln,ln=l.length:=⟨_,rfl⟩
   rw [← hln] at c2
   have HC:=Lib.hid (wrong_c (t:=t) (c:=sc) (HX.out.step HB.out) hln (by rw [hln];exact HL.out (t,l) (by rw [he];exact List.getElem_mem hrl)) hsl)
   obtain ⟨q,hq⟩:∃ q,q=okE k (t,l):=⟨_,rfl⟩
   rw [← hq] at HC
   have HQ:Hid (okE k es[r]=q):=Lib.hid (by rw [HEM.out,hq])
   clear he hsl hln hq
   go_wp2_with fail
   refine HC.out.mono ?_
   rintro ee w2 ⟨rfl,b2⟩
   have HB2:=Lib.hid (HB.out.trans (b2.mono HB.out.size))
   clear b2 c1 c2 HC
   cases q with
   | false =>
    have HE:Hid (allE k es=false):=Lib.hid (by
     show List.all es (_)=false
     rw [List.all_eq_false]
     exact ⟨es[r],List.getElem_mem hrl,by rw [HQ.out];simp⟩)
    go_wp2
    go_ret
    exact ⟨⟨(r:Int),rfl,Lib.hid ⟨fun _=>HE.out,fun _=>h0⟩⟩,HB2.out⟩
   | true =>
    have HA2:Hid (allE k (es.take (r+1))=true):=Lib.hid (by
     have h:=HA.out
     unfold allE at h ⊢
     rw [List.take_succ_eq_append_getElem hrl,List.all_append,h]
     simp [HQ.out])
    go_wp2
    go_roundg gk
    case measure=>omega
    case rel=>exact ⟨r+1,by omega,by first | rw [hwr] | rfl | simp,HA2,HB2⟩
set_option maxRecDepth 100000 in
set_option maxHeartbeats 4000000 in
theorem contE_c {W : World} {P : Option Addr} {x y k n c : Nat} {es : List (Int × List Sp)} (h : EdR W P es) (hn : n = es.length) (h8 : n ≤ 9223372036854775807) (hl : ∀ e ∈ es, e.2.length ≤ 1000000) (hb : SdB W x y k) :
  Calls Tryz.prog 36 #[.slice P n c,.func (.func 34) #[] #[.pointer (some ⟨y,0,none⟩)]] W fun e W'=>e=.returned (.bool (!allE k es))∧Below W.heap.size W W':=by
 have HI:=Lib.hid (idxE_c (c:=c) h hn h8 hl hb)
 clear h hn hb hl
 go_enter Tryz.func36,Tryz.ntmps36
 go_wp2_with fail
 refine HI.out.mono ?_
 rintro e w1 ⟨⟨z,rfl,HZ⟩,b1⟩
 have HB:=Lib.hid b1
 clear b1 HI
 by_cases hz:0≤z
 ·have HE : Hid (allE k es = false) := Lib.hid (HZ.out.1 hz)
  go_wp2
  go_ret
  exact ⟨by rw [HE.out];rfl,HB.out⟩
 ·have HE:Hid (allE k es=true):=Lib.hid (by
   cases h:allE k es with
   | true=>rfl
   | false=>exact absurd (HZ.out.2 h) hz)
  go_wp2
  go_ret
  exact ⟨by rw [HE.out];simp;omega,HB.out⟩
set_option maxRecDepth 100000 in
set_option maxHeartbeats 8000000 in
theorem idxI_c {W : World} {P : Option Addr} {x y k n c : Nat} {es : List Int} (h : InR W P es) (hn : n = es.length) (h8 : n ≤ 9223372036854775807) (hb : SdB W x y k) :
  Calls Tryz.prog 61 #[.slice P n c,.func (.func 33) #[] #[.pointer (some ⟨x,0,none⟩)]] W fun e W'=>(∃ z:Int,e=.returned (.int .i64 z)∧Hid (0≤z↔allI k es=false))∧Below W.heap.size W W':=by
 have HS:=Lib.hid h
 have HN:=Lib.hid hn
 have HX:=Lib.hid hb
 clear h hn hb
 go_enter Tryz.func61,Tryz.ntmps61
 go_wp2_with fail
 go_loopg [5,8] n (fun gk s5 s8 wx=>∃ (r:Nat),r+gk=n∧s8=.int .i64 r∧Hid (allI k (es.take r)=true)∧Hid (Below W.heap.size W wx))
 case atStart=>exact ⟨0,by omega,rfl,Lib.hid rfl,Lib.hid (Below.refl _ _)⟩
 case round =>
  obtain ⟨r,hrg,rfl,HA,HB⟩:=hrel
  cases gk with
  | zero =>
   obtain rfl:r=n:=by omega
   have hlt:¬ (r:Int) < (r:Int):=by omega
   have HE:Hid (allI k es=true):=Lib.hid (by have h:=HA.out;rw [List.take_of_length_le (by have:=HN.out;omega)] at h;exact h)
   go_wp2
   go_ret
   exact ⟨⟨-1,rfl,Lib.hid (by rw [HE.out];simp)⟩,HB.out⟩
  | succ gk =>
   have hlt:(r:Int) < (n:Int):=by omega
   have hrl:r < es.length:=by have:=HN.out;omega
   have h0:(0:Int)≤(r:Int):=by omega
   have hwr:wrap64 ((r:Int)+1)=((r+1:Nat):Int):=by rw [IntWalk.wrap64_in _ (by omega)];omega
   obtain ⟨g,o,rfl,hg,c1⟩:=(HS.out.step HB.out) r hrl
   obtain ⟨t,ht⟩:∃ t,t=es[r]:=⟨_,rfl⟩
   rw [← ht] at c1
   have HC:=Lib.hid (nowhere_c (t:=t) (HX.out.step HB.out))
   obtain ⟨q,hq⟩:∃ q,q=okI k t:=⟨_,rfl⟩
   rw [← hq] at HC
   have HQ:Hid (okI k es[r]=q):=Lib.hid (by rw [← ht,hq])
   clear ht hq
   go_wp2_with fail
   refine HC.out.mono ?_
   rintro ee w2 ⟨rfl,b2⟩
   have HB2:=Lib.hid (HB.out.trans (b2.mono HB.out.size))
   clear b2 c1 HC
   cases q with
   | false =>
    have HE:Hid (allI k es=false):=Lib.hid (by
     show List.all es (_)=false
     rw [List.all_eq_false]
     exact ⟨es[r],List.getElem_mem hrl,by rw [HQ.out];simp⟩)
    go_wp2
    go_ret
    exact ⟨⟨(r:Int),rfl,Lib.hid ⟨fun _=>HE.out,fun _=>h0⟩⟩,HB2.out⟩
   | true =>
    have HA2:Hid (allI k (es.take (r+1))=true):=Lib.hid (by
     have h:=HA.out
     unfold allI at h ⊢
     rw [List.take_succ_eq_append_getElem hrl,List.all_append,h]
     simp [HQ.out])
    go_wp2
    go_roundg gk
    case measure=>omega
    case rel=>exact ⟨r+1,by omega,by first | rw [hwr] | rfl | simp,HA2,HB2⟩
set_option maxRecDepth 100000 in
set_option maxHeartbeats 4000000 in
theorem contI_c {W : World} {P : Option Addr} {x y k n c : Nat} {es : List Int} (h : InR W P es) (hn : n = es.length) (h8 : n ≤ 9223372036854775807) (hb : SdB W x y k) :
  Calls Tryz.prog 37 #[.slice P n c,.func (.func 33) #[] #[.pointer (some ⟨x,0,none⟩)]] W fun e W'=>e=.returned (.bool (!allI k es))∧Below W.heap.size W W':=by
 have HI:=Lib.hid (idxI_c (c:=c) h hn h8 hb)
 clear h hn hb
 go_enter Tryz.func37,Tryz.ntmps37
 go_wp2_with fail
 refine HI.out.mono ?_
 rintro e w1 ⟨⟨z,rfl,HZ⟩,b1⟩
 have HB:=Lib.hid b1
 clear b1 HI
 by_cases hz:0≤z
 ·have HE : Hid (allI k es = false) := Lib.hid (HZ.out.1 hz)
  go_wp2
  go_ret
  exact ⟨by rw [HE.out];rfl,HB.out⟩
 ·have HE:Hid (allI k es=true):=Lib.hid (by
   cases h:allI k es with
   | true=>rfl
   | false=>exact absurd (HZ.out.2 h) hz)
  go_wp2
  go_ret
  exact ⟨by rw [HE.out];simp;omega,HB.out⟩
end Go.Proofs.YtioahgklplbinaaGreatDoor

/- The program's Sound of machines. -/
namespace NfaM
open SetM WrM
def okR (m:Mc) (i:Nat):Bool:=decide (-1≤m.tg.getD i 0) && (allE m.tg.length (m.ed.getD i []) && allI m.tg.length (m.fr.getD i []))
def szM (m:Mc):Prop:=1≤m.tg.length∧m.tg.length≤2000∧m.ed.length=m.tg.length∧m.fr.length=m.tg.length
instance (m:Mc):Decidable (szM m):=by unfold szM;infer_instance
def rowsM (m:Mc) (r:Nat):Bool:=(List.range r).all (okR m)
def sndM (m:Mc):Bool:=decide (szM m) && rowsM m m.tg.length
theorem sndM_no {m:Mc} (h:¬ szM m):sndM m=false:=by unfold sndM;rw [decide_eq_false h];rfl
theorem sndM_yes {m:Mc} (h:szM m):sndM m=rowsM m m.tg.length:=by unfold sndM;rw [decide_eq_true h];rfl
theorem rows_succ' (m:Mc) (r:Nat):rowsM m (r+1)=(rowsM m r && okR m r):=by unfold rowsM;rw [List.range_succ,List.all_append];simp
theorem rows_bad {m:Mc} {i r:Nat} (h:okR m i=false) (hi:i < r):rowsM m r=false:=by
 unfold rowsM
 rw [List.all_eq_false]
 exact ⟨i,List.mem_range.2 hi,by rw [h];simp⟩
end NfaM
namespace Go.Proofs.YtioahgklplbinaaGreatDoor
open Go.RowKit Go.Shelf Go.Maps SetM PropsM RxM WrM NfaM
theorem getD_of {α:Type} {l:List α} {i:Nat} (h:i < l.length) (d:α):l.getD i d=l[i]:=by simp [List.getD,h]
set_option maxRecDepth 100000 in
set_option maxHeartbeats 16000000 in
theorem psound_c {W : World} {p0 p1 p2 : Option Addr} {n0 n1 k c0 c1 c2 : Nat} {m : Mc} (h : MR W p0 p1 p2 m) (e0 : n0 = m.ed.length) (e1 : n1 = m.fr.length) (e2 : k = m.tg.length) (hed : ∀ i < m.ed.length, (m.ed.getD i []).length ≤ 9223372036854775807 ∧ ∀ e ∈ m.ed.getD i [], e.2.length ≤ 1000000) (hfr : ∀ i < m.fr.length, (m.fr.getD i []).length ≤ 9223372036854775807) :
  Calls Tryz.prog 12 #[.agg #[.slice p0 n0 c0,.slice p1 n1 c1,.slice p2 k c2]] W fun e W'=>e=.returned (.bool (sndM m))∧Below W.heap.size W W':=by
 obtain ⟨V0,hV0⟩:∃ V,V=W.alloc (.cells #[.slice p0 n0 c0,.slice p1 n1 c1,.slice p2 k c2] 29):=⟨_,rfl⟩
 obtain ⟨V1,hV1⟩:∃ V,V=V0.alloc (.cells #[.int .i64 k] 3):=⟨_,rfl⟩
 have z0:V0.heap.size=W.heap.size+1:=by rw [hV0,World.size_alloc]
 have z1:V1.heap.size=W.heap.size+2:=by rw [hV1,World.size_alloc,z0]
 have hb0:Below W.heap.size W V0:=by rw [hV0];exact (Below.refl _ _).alloc (Nat.le_refl _) _
 have hb1:Below W.heap.size W V1:=by rw [hV1];exact hb0.alloc (by omega) _
 have x0:V1.heap[W.heap.size]? = some (.cells #[.slice p0 n0 c0,.slice p1 n1 c1,.slice p2 k c2] 29 (0,0)):=by rw [hV1,Lib.alloc_old _ _ _ (by omega),hV0];exact heap_alloc_new W _
 have x1:V1.heap[W.heap.size+1]? = some (.cells #[.int .i64 k] 3 (0,0)):=by rw [hV1,← z0];exact heap_alloc_new V0 _
 have y0:=(cells3 (show V0.heap[W.heap.size]? = some (.cells #[.slice p0 n0 c0,.slice p1 n1 c1,.slice p2 k c2] 29 (0,0)) by rw [hV0];exact heap_alloc_new W _)).1.2.2
 obtain ⟨⟨a0,a1,a2⟩,_⟩:=cells3 x0
 have b1:=cell1 x1
 have HX:=Lib.hid (And.intro x0 x1)
 have HB1:=Lib.hid hb1
 have HZ0:=Lib.hid z0
 have HZ1:=Lib.hid z1
 have HM:=Lib.hid h
 have HE:=Lib.hid (And.intro e0 (And.intro e1 e2))
 have HED:=Lib.hid hed
 have HFR:=Lib.hid hfr
 clear h e0 e1 e2 hed hfr hb0 hb1 x0 x1 z1
 go_enter Tryz.func12,Tryz.ntmps12
 go_upto_region 2 with fail
 rw [← hV0,← hV1]
 clear hV1 hV0 z0 y0
 by_cases hsz:szM m
 ·have HSZ := Lib.hid hsz
  have hk0:((k:Int) == 0)=false:=by rw [beq_eq_false_iff_ne];have a:=HE.out;unfold szM at hsz;omega
  have hk2:¬ (2000:Int) < (k:Int):=by have a:=HE.out;unfold szM at hsz;omega
  obtain ⟨rfl,rfl⟩:n0=k∧n1=k:=by have a:=HE.out;unfold szM at hsz;omega
  have hkk:((n1:Int) != (n1:Int))=false:=by rw [bne_eq_false_iff_eq]
  obtain ⟨V2,hV2⟩:∃ V,V=V1.alloc (.cells #[.func (.func 33) #[] #[.pointer (some ⟨W.heap.size+1,0,none⟩)]] 76):=⟨_,rfl⟩
  have hst:(store ⟨V1.heap.size,0,none⟩ (.func (.func 33) #[] #[.pointer (some ⟨W.heap.size+1,0,none⟩)])).run Tryz.prog (V1.alloc (.cells #[.nilFunc] 76))=.ok () V2:=by
   have hnw:=heap_alloc_new V1 (.cells #[.nilFunc] 76)
   have hcl:(V1.alloc (.cells #[.nilFunc] 76)).cell? ⟨V1.heap.size,0,none⟩=some .nilFunc:=cell_of_row _ _ 0 _ _ _ hnw
   have hfz:(V1.alloc (.cells #[.nilFunc] 76)).frozen? ⟨V1.heap.size,0,none⟩=false:=frozen_of_row _ _ 0 _ _ hnw
   rw [run_store _ _ _ _ _ rfl,hcl,hfz,World.setCell_alloc_new,hV2]
   rfl
  have hb2:Below V1.heap.size V1 V2:=by rw [hV2];exact (Below.refl _ _).alloc (Nat.le_refl _) _
  have hsd:SdB V2 (W.heap.size+1) (W.heap.size+2) n1:=⟨(hb2.block _ (by have:=HZ1.out;omega)).trans HX.out.2,by rw [hV2,← HZ1.out];exact heap_alloc_new V1 _⟩
  have HSD:=Lib.hid hsd
  have HB2:=Lib.hid (HB1.out.trans (hb2.mono HB1.out.size))
  have HM2:=Lib.hid (HM.out.step HB2.out)
  have HBX:=Lib.hid ((hb2.block _ (by have:=HZ1.out;omega)).trans HX.out.1)
  have HBL:=Lib.hid (Array.getElem?_eq_some_iff.1 HBX.out).1
  have hk8:n1≤2000:=by omega
  clear hsz hb2 hsd
  go_upto_region 6 with fail
  rw [← hV2,HZ1.out]
  clear hV2 hst a0 a1 a2 b1 hk0 hk2 hkk
  have b2:=cell1 HSD.out.sx
  go_wp2_with fail
  go_loopg [6,33] n1 (fun gk s6 s33 wx=>∃ r:Nat,r+gk=n1∧s33=.int .i64 r∧Hid (rowsM m r=true)∧Hid (Below V2.heap.size V2 wx))
  case atStart=>exact ⟨0,by omega,rfl,Lib.hid rfl,Lib.hid (Below.refl _ _)⟩
  case round =>
   obtain ⟨r,hrg,rfl,HA,HB⟩:=hrel
   clear b2
   cases gk with
   | zero =>
    obtain rfl:r=n1:=by omega
    have hlt:¬ (r:Int) < (r:Int):=by omega
    have HQ:Hid (sndM m=true):=Lib.hid (by rw [sndM_yes HSZ.out,← HE.out.2.2];exact HA.out)
    have HBE:=Lib.hid (HB2.out.trans (HB.out.mono HB2.out.size))
    go_wp2
    go_ret
    exact ⟨by rw [HQ.out];rfl,HBE.out⟩
   | succ gk =>
    have hlt:(r:Int) < (n1:Int):=by omega
    have h0:(0:Int)≤(r:Int):=by omega
    have hwr:wrap64 ((r:Int)+1)=((r+1:Nat):Int):=by rw [IntWalk.wrap64_in _ (by omega)];omega
    have hre:r < m.ed.length:=by have:=HE.out;omega
    have hrf:r < m.fr.length:=by have:=HE.out;omega
    have hrt:r < m.tg.length:=by have:=HE.out;omega
    have hM:=HM2.out.step HB.out
    obtain ⟨g0,o0,Pe,ce,rfl,hg0,hc0,hed⟩:=hM.ed r hre
    obtain ⟨g1,o1,Pf,cf,rfl,hg1,hc1,hfr⟩:=hM.fr r hrf
    obtain ⟨g2,o2,rfl,hg2,hc2⟩:=hM.tg r hrt
    obtain ⟨t,ht⟩:∃ t,t=m.tg[r]:=⟨_,rfl⟩
    rw [← ht] at hc2
    obtain ⟨es,hes⟩:∃ es,es=m.ed[r]:=⟨_,rfl⟩
    rw [← hes] at hc0 hed
    obtain ⟨fs,hfs⟩:∃ fs,fs=m.fr[r]:=⟨_,rfl⟩
    rw [← hfs] at hc1 hfr
    have HK:Hid (okR m r=(decide (-1≤t) && (allE n1 es && allI n1 fs))):=Lib.hid (by
     unfold okR
     rw [getD_of hrt,getD_of hre,getD_of hrf,← ht,← hes,← hfs,← HE.out.2.2])
    obtain ⟨le,hle⟩:∃ le,le=es.length:=⟨_,rfl⟩
    rw [← hle] at hc0
    obtain ⟨lf,hlf⟩:∃ lf,lf=fs.length:=⟨_,rfl⟩
    rw [← hlf] at hc1
    have hE8:=HED.out r hre
    rw [getD_of hre,← hes] at hE8
    have hF8:=HFR.out r hrf
    rw [getD_of hrf,← hfs] at hF8
    have HBXr:=Lib.hid ((HB.out.block _ HBL.out).trans HBX.out)
    have HCE:=Lib.hid (fun (U:World) (hU:Below wr.heap.size wr U)=>contE_c (c:=ce) (hed.step hU) hle (by rw [hle];exact hE8.1) hE8.2 ((HSD.out.step HB.out).step hU))
    have HCI:=Lib.hid (fun (U:World) (hU:Below wr.heap.size wr U)=>contI_c (c:=cf) (hfr.step hU) hlf (by rw [hlf];exact hF8) ((HSD.out.step HB.out).step hU))
    obtain ⟨qe,hqe⟩:∃ q,q=allE n1 es:=⟨_,rfl⟩
    rw [← hqe] at HCE HK
    obtain ⟨qf,hqf⟩:∃ q,q=allI n1 fs:=⟨_,rfl⟩
    rw [← hqf] at HCI HK
    have HCL:=Lib.hid (fun (U:World) (hU:Below wr.heap.size wr U)=>(⟨(cells3 ((hU.block _ (by have:=HB.out.size;have:=HBL.out;omega)).trans HBXr.out)).1,(hU.cell (p:=⟨g0,o0+r,none⟩) hg0).trans hc0,(hU.cell (p:=⟨g1,o1+r,none⟩) hg1).trans hc1,(hU.cell (p:=⟨g2,o2+r,none⟩) hg2).trans hc2,cell1 ((HSD.out.step HB.out).step hU).sy⟩:(U.cell? ⟨W.heap.size,0,none⟩=some (.slice (some ⟨g0,o0,none⟩) n1 c0)∧U.cell? ⟨W.heap.size,1,none⟩=some (.slice (some ⟨g1,o1,none⟩) n1 c1)∧U.cell? ⟨W.heap.size,2,none⟩=some (.slice (some ⟨g2,o2,none⟩) n1 c2))∧U.cell? ⟨g0,o0+r,none⟩=some (.slice Pe le ce)∧U.cell? ⟨g1,o1+r,none⟩=some (.slice Pf lf cf)∧U.cell? ⟨g2,o2+r,none⟩=some (.int .i64 t)∧U.cell? ⟨W.heap.size+2,0,none⟩=some (.func (.func 33) #[] #[.pointer (some ⟨W.heap.size+1,0,none⟩)])))
    have HBE:=Lib.hid (HB2.out.trans (HB.out.mono HB2.out.size))
    clear hM hed hfr ht hes hfs hle hlf hE8 hF8 hqe hqf hc0 hc1 hc2 hg0 hg1 hg2 hre hrf
    go_upto_region 9 with fail
    by_cases hA:t < -1
    ·have HQ : Hid (sndM m = false) := Lib.hid (by rw [sndM_yes HSZ.out]; exact rows_bad (by rw [HK.out, decide_eq_false (by omega)]; rfl) hrt)
     obtain ⟨⟨a0,a1,a2⟩,d0,d1,d2,d3⟩:=HCL.out wr.drew ((Below.refl _ _).drew)
     go_region
     all_goals
      go_wp2
      go_ret
      exact ⟨by rw [HQ.out];rfl,HBE.out.drew⟩
    ·have hA' : ¬ t < -1 := hA
     have hd:decide (-1≤t)=true:=decide_eq_true (by omega)
     rw [hd,Bool.true_and] at HK
     clear hd hA
     cases qe with
     | false =>
      have HQ:Hid (sndM m=false):=Lib.hid (by rw [sndM_yes HSZ.out];exact rows_bad (by rw [HK.out];rfl) hrt)
      have HF:=Lib.hid (HCE.out wr.drew ((Below.refl _ _).drew))
      obtain ⟨⟨a0,a1,a2⟩,d0,d1,d2,d3⟩:=HCL.out wr.drew ((Below.refl _ _).drew)
      first
      | (go_region_with (first
       | (go_at_call 36;refine HF.out.mono ?_;rintro ee w4 ⟨rfl,b4⟩;have HB4:=Lib.hid (HBE.out.drew.trans (b4.mono HBE.out.drew.size));obtain ⟨⟨x0,x1,x2⟩,y0,y1,y2,y3⟩:=HCL.out w4 ((Below.refl _ _).drew.trans b4);clear b4)))
      | fail
      all_goals
       clear a0 a1 a2 d0 d1 d2 d3 x0 x1 x2 y0 y1 y2 y3
       go_wp2
       go_ret
       exact ⟨by rw [HQ.out];rfl,HB4.out⟩
     | true =>
      rw [Bool.true_and] at HK
      have hr:Below wr.heap.size wr wr.drew:=(Below.refl _ _).drew
      go_region_held3 (fun U => (U.cell? ⟨W.heap.size, 0, none⟩ = some (.slice (some ⟨g0, o0, none⟩) n1 c0) ∧ U.cell? ⟨W.heap.size, 1, none⟩ = some (.slice (some ⟨g1, o1, none⟩) n1 c1) ∧ U.cell? ⟨W.heap.size, 2, none⟩ = some (.slice (some ⟨g2, o2, none⟩) n1 c2)) ∧ U.cell? ⟨g0, o0 + r, none⟩ = some (.slice Pe le ce) ∧ U.cell? ⟨g1, o1 + r, none⟩ = some (.slice Pf lf cf) ∧ U.cell? ⟨g2, o2 + r, none⟩ = some (.int .i64 t) ∧ U.cell? ⟨W.heap.size + 2, 0, none⟩ = some (.func (.func 33) #[] #[.pointer (some ⟨W.heap.size + 1, 0, none⟩)]))
       (exact HCL.out _ hr)
       (first
        | (go_at_call 36;(refine (HCE.out _ hr).mono ?_);rintro ee w4 ⟨rfl,b4⟩;have hr:=hr.trans (b4.mono hr.size))
        | (go_at_call 37;(refine (HCI.out _ hr).mono ?_);rintro ee w5 ⟨rfl,b5⟩;have hr:=hr.trans (b5.mono hr.size)))
      have HB5:=Lib.hid (HB.out.trans (hr.mono HB.out.size))
      have HB6:=Lib.hid (HB2.out.trans (HB5.out.mono HB2.out.size))
      clear hr b4 b5
      cases qf with
      | false =>
       have HQ:Hid (sndM m=false):=Lib.hid (by rw [sndM_yes HSZ.out];exact rows_bad HK.out hrt)
       go_wp2
       go_ret
       exact ⟨by rw [HQ.out];rfl,HB6.out⟩
      | true =>
       have HA2:Hid (rowsM m (r+1)=true):=Lib.hid (by rw [rows_succ',HA.out,HK.out];rfl)
       go_wp2
       go_roundg gk
       case measure=>omega
       case rel=>exact ⟨r+1,by omega,by first | rw [hwr] | rfl | simp,HA2,HB5⟩
 ·have HQ : Hid (sndM m = false) := Lib.hid (sndM_no hsz)
  rcases (show k=0∨(¬ k=0∧2000 < k)∨(¬ k=0∧¬ 2000 < k∧n0≠k)∨(¬ k=0∧¬ 2000 < k∧n0=k∧n1≠k) by
   have a:=HE.out
   unfold szM at hsz
   omega) with h1 | ⟨h1,h2⟩ | ⟨h1,h2,h3⟩ | ⟨h1,h2,h3,h4⟩
  ·have g1 : ((k : Int) == 0) = true := by rw [beq_iff_eq]; omega
   clear hsz h1
   go_wp2
   go_ret
   exact ⟨by rw [HQ.out];rfl,HB1.out⟩
  ·have g1 : ((k : Int) == 0) = false := by rw [beq_eq_false_iff_ne]; omega
   have g2:(2000:Int) < (k:Int):=by omega
   clear hsz h1 h2
   go_wp2
   go_ret
   exact ⟨by rw [HQ.out];rfl,HB1.out⟩
  ·have g1 : ((k : Int) == 0) = false := by rw [beq_eq_false_iff_ne]; omega
   have g2:¬ (2000:Int) < (k:Int):=by omega
   have g3:((n0:Int) != (k:Int))=true:=by rw [bne_iff_ne];omega
   clear hsz h1 h2 h3
   go_wp2
   go_ret
   exact ⟨by rw [HQ.out];rfl,HB1.out⟩
  ·have g1 : ((k : Int) == 0) = false := by rw [beq_eq_false_iff_ne]; omega
   have g2:¬ (2000:Int) < (k:Int):=by omega
   have g3:((n0:Int) != (k:Int))=false:=by rw [bne_eq_false_iff_eq];omega
   have g4:((n1:Int) != (k:Int))=true:=by rw [bne_iff_ne];omega
   clear hsz h1 h2 h3 h4
   go_wp2
   go_ret
   exact ⟨by rw [HQ.out];rfl,HB1.out⟩
end Go.Proofs.YtioahgklplbinaaGreatDoor
