/- QProp, QEsc, in one text. -/
import Derived.Test.YtioahgklplbinaaGreatDoorQHex
import Derived.Test.YtioahgklplbinaaGreatDoorQOf
import Derived.Test.YtioahgklplbinaaGreatDoorRA
/- The document's reader: a class by its name. -/
namespace Go.Proofs.YtioahgklplbinaaGreatDoor
open Go.RowKit Go.Shelf Go.Maps SetM PropsM RxM
section
variable {R:Nat} {W W':World} {s:ByteArray} {dv:Value} {rest r:List Int} {d f n:Nat} {z c:Int} {σ:Out Unit}
def propQ (r0 r1:List Int):Out Nat :=
 match needF 125 (r1.dropWhile not125) with
  | .err e x=>.err e x
  | .ok _ r2=>match whichF (looseL (bytesOf (r1.takeWhile not125))) with
   | none=>.err 62 r0
   | some i=>.ok i r2
def Ra (R:Nat) (W:World) (s:ByteArray) (dv:Value) (d f i:Nat):Prop:=W.heap[R]? = some (.cells #[.string s,.int .i64 i,dv,.int .i64 d,.int .i64 f,.int .i64 0,.int .i64 0] 106 (0,0))
theorem Ra.lt {i:Nat} (h:Ra R W s dv d f i):R < W.heap.size:=(Array.getElem?_eq_some_iff.1 h).1
theorem Ra.kept {i:Nat} (h:Ra R W s dv d f i) (hb:Below W.heap.size W W'):Ra R W' s dv d f i:=(hb.block R h.lt).trans h
theorem Ra.cell {i:Nat} (h:Ra R W s dv d f i) (j:Nat):W.cell? ⟨R,j,none⟩=(#[.string s,.int .i64 i,dv,.int .i64 d,.int .i64 f,.int .i64 0,.int .i64 0]:Array Value)[j]?:=cell_of_row W R j _ _ _ h
theorem Ra.fz {i:Nat} (h:Ra R W s dv d f i) (j:Nat):W.frozen? ⟨R,j,none⟩=false:=by have h':=h;unfold Ra at h';simp [World.frozen?,h']
theorem Ra.next {i:Nat} (h:Ra R W s dv d f i) (j:Nat):Ra R (W.setCell ⟨R,1,none⟩ (.int .i64 j)) s dv d f j:=heap_setR W R _ _ h 1 _
theorem Rr.toRa (h:Rr R W s dv rest d f):Ra R W s dv d f (s.size - (U.UtfM.wr rest).length):=by
 have hl:=h.len
 have e:(((s.size - (U.UtfM.wr rest).length:Nat):Nat):Int)=(s.size:Int) - ((U.UtfM.wr rest).length:Nat):=by omega
 unfold Ra
 rw [e]
 exact h.blk
set_option maxRecDepth 100000 in
set_option maxHeartbeats 1000000 in
theorem see_raw {i:Nat} (b:Int) (hi:i < s.size) (hb:(bs s)[i]? = some b) (h:Ra R W s dv d f i):Calls Tryz.prog 100 #[.pointer (some ⟨R,0,none⟩)] W fun e W'=>e=.returned (.int .i64 b)∧Below W.heap.size W W':=by
 have c0:W.cell? ⟨R,0,none⟩=some (.string s):=h.cell 0
 have c1:W.cell? ⟨R,1,none⟩=some (.int .i64 i):=h.cell 1
 have c5:W.cell? ⟨R,5,none⟩=some (.int .i64 0):=h.cell 5
 have hr:=bs_rng s b (List.mem_of_getElem? hb)
 have hix:∀ w,(Instr.index 9 (.string s) (.int .i64 (i:Int))).run Tryz.prog w=.ok (.int .u8 b) w:=by
  intro w
  have hk:i < s.data.toList.length:=by have:s.size=s.data.toList.length:=rfl;omega
  rw [str_ix s i hk w]
  have e3:(bs s)[i]? = some ((s.data.toList[i].toNat:Nat):Int):=by
   unfold bs
   rw [List.getElem?_map,List.getElem?_eq_getElem hk];rfl
  rw [hb] at e3
  cases e3
  rfl
 have g:¬ (i:Int) ≥ (s.size:Int):=by omega
 have g':¬ (s.size:Int)≤(i:Int):=g
 have g2:(i:Int) < (s.size:Int):=by omega
 have i0:(0:Int)≤(i:Int):=by omega
 have hwb:wrap64 b=b:=IntWalk.wrap64_in _ (by omega)
 clear h hb
 go_enter Tryz.func100,Tryz.ntmps100
 go_wp2_with fail
 go_quiet (fail)
 go_wp2_with fail
 go_quiet (fail)
 go_wp2
 go_ret
 exact ⟨by simp,by rw [World.drewN_drewN];exact drewN_below _⟩
set_option maxRecDepth 100000 in
set_option maxHeartbeats 1000000 in
theorem see_rawe {i:Nat} (hi:i=s.size) (h:Ra R W s dv d f i):Calls Tryz.prog 100 #[.pointer (some ⟨R,0,none⟩)] W fun e W'=>e=.returned (.int .i64 (-1))∧Below W.heap.size W W':=by
 have c0:W.cell? ⟨R,0,none⟩=some (.string s):=h.cell 0
 have c1:W.cell? ⟨R,1,none⟩=some (.int .i64 i):=h.cell 1
 have c5:W.cell? ⟨R,5,none⟩=some (.int .i64 0):=h.cell 5
 have g:(i:Int) ≥ (s.size:Int):=by omega
 clear h hi
 go_enter Tryz.func100,Tryz.ntmps100
 go_wp2_with fail
 go_quiet (fail)
 go_wp2
 go_ret
 exact ⟨rfl,drewN_below _⟩
theorem while_take (P : Int → Bool) : ∀ (l : List Int) (j : Nat), j ≤ l.length → (∀ x ∈ l.take j, P x = true) → (j = l.length ∨ ∃ b, l[j]? = some b ∧ P b = false) → l.takeWhile P = l.take j
 | [],j,_,_,_=>by simp
 | c::t,0,_,_,h=>by
  rcases h with h | ⟨b,h1,h2⟩
  ·simp at h
  ·simp at h1
   subst h1
   simp [h2]
 | c::t,j+1,hj,hp,h=>by
  have hc:P c=true:=hp c (by simp)
  rw [List.takeWhile_cons,if_pos hc,List.take_succ_cons,while_take P t j (by simpa using hj) (fun x hx=>hp x (by simp [hx])) (by simpa using h)]
theorem prop_cut {rest : List Int} (hs : ∀ c ∈ rest, U.UtfM.Sc c) {j : Nat} (hj : j ≤ (U.UtfM.wr rest).length) (hno : ∀ x ∈ (U.UtfM.wr rest).take j, x ≠ 125) (hend : j = (U.UtfM.wr rest).length ∨ (U.UtfM.wr rest)[j]? = some 125) :
  (U.UtfM.wr rest).take j=U.UtfM.wr (rest.takeWhile not125)∧(U.UtfM.wr rest).length=j+(U.UtfM.wr (rest.dropWhile not125)).length:=by
 have h1:=(Hx.wr_while rest hs).1
 have h2:=while_take not125 (U.UtfM.wr rest) j hj (fun x hx=>by simp [not125];exact hno x hx) (hend.imp id (fun h=>⟨125,h,rfl⟩))
 have h3:(U.UtfM.wr rest).take j=U.UtfM.wr (rest.takeWhile not125):=h2.symm.trans h1
 refine ⟨h3,?_⟩
 have h4:=congrArg (fun l=>(U.UtfM.wr l).length) (List.takeWhile_append_dropWhile (p:=not125) (l:=rest))
 simp only [U.UtfM.wr_append,List.length_append,← h3,List.length_take] at h4
 omega
theorem bytesq_back {t:ByteArray} {l:List Int} (h:bs t=U.UtfM.wr l):t.data.toList=bytesOf l:=by
 unfold bytesOf
 rw [← h]
 unfold bs
 rw [List.map_map]
 have:((fun n:Int=>UInt8.ofNat n.toNat) ∘ fun b:UInt8=>(b.toNat:Int))=id:=by
  funext b;simp
 rw [this,List.map_id]
theorem gath_wide {out:List Sp} {i:Nat} (h:IsSet out (fun r=>Tells (gathOf i) r)):Wide out:=wide_set h (fun _ h=>h.1)
theorem propq_none {r0 rest dw:List Int} {o:Option Nat} (hq:propQ r0 rest=match needF 125 dw with
    | .err e x=>.err e x
    | .ok _ r2=>match o with
     | none=>.err 62 r0
     | some i=>.ok i r2) (ho:o=none):Out.u (propQ r0 rest)=failS 62 r0 (Out.u (needF 125 dw))∧∀ i x,propQ r0 rest=.ok i x→False:=by
 subst ho
 rw [hq]
 cases needF 125 dw with
 | err e x=>exact ⟨rfl,fun i x h=>by cases h⟩
 | ok u r2=>exact ⟨rfl,fun i x h=>by cases h⟩
theorem propq_some {r0 rest dw:List Int} {o:Option Nat} {i:Nat} (hq:propQ r0 rest=match needF 125 dw with
    | .err e x=>.err e x
    | .ok _ r2=>match o with
     | none=>.err 62 r0
     | some i=>.ok i r2) (ho:o=some i):Out.u (propQ r0 rest)=Out.u (needF 125 dw)∧∀ k x,propQ r0 rest=.ok k x→i=k:=by
 subst ho
 rw [hq]
 cases needF 125 dw with
 | err e x=>exact ⟨rfl,fun i x h=>by cases h⟩
 | ok u r2=>exact ⟨rfl,fun i x h=>by cases h;rfl⟩
def PropPost (R:Nat) (s:ByteArray) (dv:Value) (d f:Nat) (r0 r1:List Int) (W:World) (e:Ending) (W':World):Prop :=
 ∃ P c l,e=.returned (.slice P (List.length l) c)∧l.length≤104∧Wide l∧Sl W' P l∧(P=none→c=0)∧(∀ a,P=some a→W.heap.size≤a.block)∧(∀ i x,propQ r0 r1=.ok i x→∀ r,Tells l r↔Tells (gathOf i) r)∧Rs R W' s dv d f (Out.u (propQ r0 r1))∧Gr R W W'
set_option maxRecDepth 100000 in
set_option maxHeartbeats 4000000 in
theorem propq_c (r0:List Int) (h:Rr R W s dv rest d f):Calls Tryz.prog 145 #[.pointer (some ⟨R,0,none⟩),.int .i64 ((s.size:Int) - ((U.UtfM.wr r0).length:Nat))] W (PropPost R s dv d f r0 rest W):=by
 have hsm:=h.small
 have hlen:=h.len
 have HSC:=Lib.hid h.sc
 have HTL:=Lib.hid h.tl
 have HSM:=Lib.hid h.small
 have hbyte:∀ (j:Nat) (b:Int),(U.UtfM.wr rest)[j]? = some b→(bs s)[s.size - (U.UtfM.wr rest).length+j]? = some b:=fun j b hb=>by
  obtain ⟨pre,e⟩:=HTL.out
  have hl:=congrArg List.length e
  rw [bs_len,List.length_append] at hl
  rw [e,List.getElem?_append_right (by omega),show s.size - (U.UtfM.wr rest).length+j - pre.length=j from by omega]
  exact hb
 have HBY:=Lib.hid hbyte
 have hext:∀ k,bs (s.extract (s.size - (U.UtfM.wr rest).length) (s.size - (U.UtfM.wr rest).length+k))=(U.UtfM.wr rest).take k:=fun k=>ext_bs h _ k (by omega)
 have HEX:=Lib.hid hext
 have HRA:=Lib.hid h.toRa
 obtain ⟨zp,hzp⟩:∃ zp,zp=(s.size:Int) - ((U.UtfM.wr r0).length:Nat):=⟨_,rfl⟩
 rw [← hzp]
 have HZP:=Lib.hid hzp
 have hRl:=h.lt
 obtain ⟨i0,hi0⟩:∃ i0,i0=s.size - (U.UtfM.wr rest).length:=⟨_,rfl⟩
 rw [← hi0] at HBY HEX HRA
 obtain ⟨L,hL⟩:∃ L,L=(U.UtfM.wr rest).length:=⟨_,rfl⟩
 rw [← hL] at hi0 hlen
 have HL:=Lib.hid hL
 have hia:i0+L≤s.size:=by omega
 have hib:s.size≤i0+L:=by omega
 clear hi0
 have c1:W.cell? ⟨R,1,none⟩=some (.int .i64 i0):=HRA.out.cell 1
 clear hzp h hbyte hext hL
 go_enter Tryz.func145,Tryz.ntmps145
 go_wp2_with fail
 go_loopg [] L (fun g wx=>∃ j:Nat,j+g=L∧Hid (∀ x∈(U.UtfM.wr rest).take j,x≠125)∧Hid (Ra R wx s dv d f (i0+j))∧Hid (Gr R W wx))
 case atStart=>exact ⟨0,by omega,Lib.hid (by simp),HRA,Lib.hid (Gr.refl _ _)⟩
 case round =>
  obtain ⟨j,hjg,HNO,HR,HG⟩:=hrel
  clear c1
  by_cases hgo:j < L∧(U.UtfM.wr rest)[j]?≠some 125
  ·obtain ⟨hjl, hnb⟩ := hgo
   obtain ⟨g,rfl⟩:∃ g,gk=g+1:=⟨gk - 1,by omega⟩
   obtain ⟨b,hb⟩:∃ b,(U.UtfM.wr rest)[j]? = some b:=⟨_,List.getElem?_eq_getElem (by have:=HL.out;omega)⟩
   have hb125:b≠125:=fun e=>hnb (by rw [hb,e])
   have hbs:=HBY.out j b hb
   have hrg:=bs_rng s b (List.mem_of_getElem? hbs)
   have g1:b ≥ 0:=hrg.1
   have g2:(b == 125)=false:=by simp [hb125]
   have g3:(b != 125)=true:=by simp [hb125]
   have HSEE:=Lib.hid (fun Y (hY:Ra R Y s dv d f (i0+j))=>see_raw b (by omega) hbs hY)
   have HN2:Hid (∀ x∈(U.UtfM.wr rest).take (j+1),x≠125):=Lib.hid (fun x hx=>by
    rw [List.take_add_one,hb] at hx
    rcases List.mem_append.1 hx with h | h
    ·exact HNO.out x h
    ·simp at h;rw [h];exact hb125)
   clear hnb hb hbs hrg
   go_wp2_with fail
   refine (HSEE.out _ HR.out).mono ?_
   rintro e w1 ⟨rfl,b1⟩
   have HR1:=Lib.hid (HR.out.kept b1)
   have HG1:=Lib.hid (HG.out.trans (Gr.of b1))
   clear b1
   go_wp2_with fail
   refine (HSEE.out _ HR1.out).mono ?_
   rintro e w2 ⟨rfl,b1⟩
   have HR2:=Lib.hid (HR1.out.kept b1)
   have HG2:=Lib.hid (HG1.out.trans (Gr.of b1))
   have c1:w2.cell? ⟨R,1,none⟩=some (.int .i64 ((i0+j:Nat):Int)):=HR2.out.cell 1
   have kz:=HR2.out.fz 1
   have ew:IntKind.i64.wrap (((i0+j:Nat):Int)+1)=((i0+j:Nat):Int)+1:=IntWalk.i64_in _ (by omega)
   have HNX:Hid (Ra R (w2.setCell ⟨R,1,none⟩ (.int .i64 (((i0+j:Nat):Int)+1))) s dv d f (i0+(j+1))):=Lib.hid (by
    have:=HR2.out.next (i0+(j+1))
    have e:(((i0+(j+1):Nat):Nat):Int)=((i0+j:Nat):Int)+1:=by omega
    rw [e] at this
    exact this)
   obtain ⟨q,hq⟩:∃ q:Int,q=((i0+j:Nat):Int):=⟨_,rfl⟩
   rw [← hq] at c1 ew HNX
   clear b1 hq
   go_wp2
   go_roundg g
   case measure=>omega
   case rel=>exact ⟨j+1,by omega,HN2,HNX,Lib.hid (HG2.out.trans (Gr.set _ 1 _))⟩
  ·have hend:j=L∨(j < L∧(U.UtfM.wr rest)[j]? = some 125):=by
    by_cases hjl:j < L
    ·exact .inr ⟨hjl,Classical.byContradiction (fun e=>hgo ⟨hjl,e⟩)⟩
    ·exact .inl (by omega)
   have hcut:=prop_cut HSC.out (j:=j) (by have:=HL.out;omega) HNO.out (hend.imp (fun h=>h.trans HL.out) (fun h=>h.2))
   have HCUT:=Lib.hid hcut
   have HRR:Hid (∀ Y,Ra R Y s dv d f (i0+j)→Rr R Y s dv (rest.dropWhile not125) d f):=Lib.hid (fun Y hY=>by
    have e:(((i0+j:Nat):Nat):Int)=(s.size:Int) - ((U.UtfM.wr (rest.dropWhile not125)).length:Nat):=by have:=HCUT.out.2;have:=HL.out;omega
    refine ⟨by rw [← e];exact hY,?_,fun c hc=>HSC.out c ((List.dropWhile_sublist _).subset hc),HSM.out⟩
    obtain ⟨pre,e⟩:=HTL.out
    refine ⟨pre++U.UtfM.wr (rest.takeWhile not125),?_⟩
    rw [e,List.append_assoc,← U.UtfM.wr_append,List.takeWhile_append_dropWhile])
   have HU:Hid ((s.extract i0 (i0+j)).data.toList=bytesOf (rest.takeWhile not125)):=Lib.hid (bytesq_back ((HEX.out j).trans HCUT.out.1))
   have hj:j≤L:=by omega
   have HQ:Hid (propQ r0 rest=match needF 125 (rest.dropWhile not125) with
    | .err e x=>.err e x
    | .ok _ r2=>match whichF (looseL (s.extract i0 (i0+j)).data.toList) with
     | none=>.err 62 r0
     | some i=>.ok i r2):=Lib.hid (by unfold propQ;rw [HU.out])
   have hus:(s.extract i0 (i0+j)).data.toList.length≤1000000:=by
    have:(s.extract i0 (i0+j)).size=(s.extract i0 (i0+j)).data.toList.length:=rfl
    rw [← this,ByteArray.size_extract]
    omega
   have l1:(0:Int)≤(i0:Int):=by omega
   have l2:(i0:Int)≤((i0+j:Nat):Int):=by omega
   have l3:((i0+j:Nat):Int)≤(s.size:Int):=by omega
   obtain ⟨q,hq⟩:∃ q:Nat,q=i0+j:=⟨_,rfl⟩
   have hx1:((i0:Int)).toNat=i0:=by omega
   have hx2:((q:Int)).toNat=q:=by omega
   rw [← hq] at HR HRR HQ hus l2 l3
   have HUS:=Lib.hid hus
   have HQ0:=Lib.hid hq
   have hqa:q≤i0+j:=by omega
   have hqb:i0+j≤q:=by omega
   have HB2:=HBY
   clear hcut HCUT HU HEX HBY hgo HNO hus hq
   rcases hend with hend | ⟨_,hend⟩
   ·have HSEE := Lib.hid (fun Y (hY : Ra R Y s dv d f q) => see_rawe (i := q) (by omega) hY)
    clear hend
    go_wp2_with fail
    refine (HSEE.out _ HR.out).mono ?_
    rintro e w3 ⟨rfl,b1⟩
    have HR3:=Lib.hid (HR.out.kept b1)
    have HG3:=Lib.hid (HG.out.trans (Gr.of b1))
    clear b1 HSEE
    have c0:w3.cell? ⟨R,0,none⟩=some (.string s):=HR3.out.cell 0
    have c1:w3.cell? ⟨R,1,none⟩=some (.int .i64 (q:Int)):=HR3.out.cell 1
    go_wp2_with fail
    go_quiet (fail)
    have HR4:=Lib.hid (HRR.out _ (HR3.out.kept (drewN_below nq)))
    have HG4:=Lib.hid (HG3.out.trans (Gr.of (drewN_below nq)))
    clear c0 c1
    generalize w3.drewN nq=w4 at *
    have HMU:=Lib.hid (mu_c 125 (by decide) HR4.out)
    go_wp2_with fail
    refine HMU.out.mono ?_
    rintro e w6 ⟨rfl,h6,g6⟩
    replace h6:Rs R w6 s dv d f (Out.u (needF 125 (rest.dropWhile not125))):=h6
    have H6:=Lib.hid h6
    have G6:=Lib.hid (HG4.out.trans g6)
    clear h6 g6 HMU
    cases hw:whichF (looseL (s.extract i0 q).data.toList) with
    | none =>
     have HPQ:=Lib.hid (propq_none HQ.out hw)
     have HOF:=Lib.hid (rof_none (s.extract i0 q) HUS.out hw w6)
     clear hw
     go_wp2_with fail
     refine HOF.out.mono ?_
     rintro e w7 ⟨rfl,b7⟩
     have H7:=Lib.hid (H6.out.kept b7)
     have G7:=Lib.hid (G6.out.trans (Gr.of b7))
     have HF:=Lib.hid (fail_c 62 zp r0 (by omega) (fun _ _ _=>HZP.out) H7.out)
     clear b7
     go_wp2_with fail
     refine HF.out.mono ?_
     rintro e w8 ⟨rfl,h8,g8⟩
     have H8:=Lib.hid h8
     have G8:=Lib.hid (G7.out.trans g8)
     clear h8 g8
     go_wp2
     go_ret
     exact ⟨none,0,[],rfl,by simp,(fun s h=>by simp at h),(fun h=>absurd rfl h),(fun _=>rfl),(fun a h=>by cases h),fun i x h=>(HPQ.out.2 i x h).elim,by rw [HPQ.out.1];exact H8.out,G8.out⟩
    | some i =>
     have HPQ:=Lib.hid (propq_some HQ.out hw)
     have HOF:=Lib.hid (rofn_any (s.extract i0 q) HUS.out i hw w6)
     clear hw
     go_wp2_with fail
     refine HOF.out.mono ?_
     rintro e w7 ⟨P7,c7,o7,rfl,i7,n7,s7,z7,f7,b7⟩
     have H7:=Lib.hid (H6.out.kept b7)
     have G7:=Lib.hid (G6.out.trans (Gr.of b7))
     have HO7:=Lib.hid (And.intro i7 (And.intro s7 (And.intro n7 (And.intro z7 (fun a h=>Nat.le_trans G6.out.size (f7 a h))))))
     clear b7 i7 s7 z7 f7 n7
     go_wp2
     go_ret
     exact ⟨P7,c7,o7,rfl,HO7.out.2.2.1,gath_wide HO7.out.1,HO7.out.2.1,HO7.out.2.2.2.1,HO7.out.2.2.2.2,fun k x h=>(by rw [← HPQ.out.2 k x h];exact HO7.out.1.tells (fun _ h=>h.1)),by rw [HPQ.out.1];exact H7.out,G7.out⟩
   ·have HSEE := Lib.hid (fun Y (hY : Ra R Y s dv d f q) => see_raw (i := q) 125 (by omega) (by rw [HQ0.out]; exact HB2.out j 125 hend) hY)
    clear hend
    go_wp2_with fail
    refine (HSEE.out _ HR.out).mono ?_
    rintro e w2 ⟨rfl,b1⟩
    have HR2:=Lib.hid (HR.out.kept b1)
    have HG2:=Lib.hid (HG.out.trans (Gr.of b1))
    clear b1
    go_wp2_with fail
    refine (HSEE.out _ HR2.out).mono ?_
    rintro e w3 ⟨rfl,b1⟩
    have HR3:=Lib.hid (HR2.out.kept b1)
    have HG3:=Lib.hid (HG2.out.trans (Gr.of b1))
    clear b1 HSEE
    have c0:w3.cell? ⟨R,0,none⟩=some (.string s):=HR3.out.cell 0
    have c1:w3.cell? ⟨R,1,none⟩=some (.int .i64 (q:Int)):=HR3.out.cell 1
    go_wp2_with fail
    go_quiet (fail)
    have HR4:=Lib.hid (HRR.out _ (HR3.out.kept (drewN_below nq)))
    have HG4:=Lib.hid (HG3.out.trans (Gr.of (drewN_below nq)))
    clear c0 c1
    generalize w3.drewN nq=w4 at *
    have HMU:=Lib.hid (mu_c 125 (by decide) HR4.out)
    go_wp2_with fail
    refine HMU.out.mono ?_
    rintro e w6 ⟨rfl,h6,g6⟩
    replace h6:Rs R w6 s dv d f (Out.u (needF 125 (rest.dropWhile not125))):=h6
    have H6:=Lib.hid h6
    have G6:=Lib.hid (HG4.out.trans g6)
    clear h6 g6 HMU
    cases hw:whichF (looseL (s.extract i0 q).data.toList) with
    | none =>
     have HPQ:=Lib.hid (propq_none HQ.out hw)
     have HOF:=Lib.hid (rof_none (s.extract i0 q) HUS.out hw w6)
     clear hw
     go_wp2_with fail
     refine HOF.out.mono ?_
     rintro e w7 ⟨rfl,b7⟩
     have H7:=Lib.hid (H6.out.kept b7)
     have G7:=Lib.hid (G6.out.trans (Gr.of b7))
     have HF:=Lib.hid (fail_c 62 zp r0 (by omega) (fun _ _ _=>HZP.out) H7.out)
     clear b7
     go_wp2_with fail
     refine HF.out.mono ?_
     rintro e w8 ⟨rfl,h8,g8⟩
     have H8:=Lib.hid h8
     have G8:=Lib.hid (G7.out.trans g8)
     clear h8 g8
     go_wp2
     go_ret
     exact ⟨none,0,[],rfl,by simp,(fun s h=>by simp at h),(fun h=>absurd rfl h),(fun _=>rfl),(fun a h=>by cases h),fun i x h=>(HPQ.out.2 i x h).elim,by rw [HPQ.out.1];exact H8.out,G8.out⟩
    | some i =>
     have HPQ:=Lib.hid (propq_some HQ.out hw)
     have HOF:=Lib.hid (rofn_any (s.extract i0 q) HUS.out i hw w6)
     clear hw
     go_wp2_with fail
     refine HOF.out.mono ?_
     rintro e w7 ⟨P7,c7,o7,rfl,i7,n7,s7,z7,f7,b7⟩
     have H7:=Lib.hid (H6.out.kept b7)
     have G7:=Lib.hid (G6.out.trans (Gr.of b7))
     have HO7:=Lib.hid (And.intro i7 (And.intro s7 (And.intro n7 (And.intro z7 (fun a h=>Nat.le_trans G6.out.size (f7 a h))))))
     clear b7 i7 s7 z7 f7 n7
     go_wp2
     go_ret
     exact ⟨P7,c7,o7,rfl,HO7.out.2.2.1,gath_wide HO7.out.1,HO7.out.2.1,HO7.out.2.2.2.1,HO7.out.2.2.2.2,fun k x h=>(by rw [← HPQ.out.2 k x h];exact HO7.out.1.tells (fun _ h=>h.1)),by rw [HPQ.out.1];exact H7.out,G7.out⟩
end
end Go.Proofs.YtioahgklplbinaaGreatDoor

/- The document's reader: what stands behind a stroke; one sign of a class. -/
namespace Go.Proofs.YtioahgklplbinaaGreatDoor
open Go.RowKit Go.Shelf Go.Maps SetM PropsM RxM
section
variable {R:Nat} {W W':World} {s:ByteArray} {dv:Value} {rest r:List Int} {d f n:Nat} {z c:Int} {σ:Out Unit}
theorem tkp_no (p : ByteArray) (hp : Low (bs p)) (hz : p.size ≤ 10) (h : Rr R W s dv r d f) (hn : ¬ bs p <+: r) :
  Calls Tryz.prog 86 #[.pointer (some ⟨R,0,none⟩),.string p] W fun e W'=>e=.returned (.bool false)∧Rr R W' s dv r d f∧Gr R W W':=by
 refine (takesq_c (σ:= .ok () r) p hp hz h).mono ?_
 rintro e w ⟨rfl,h1,g⟩
 refine ⟨?_,?_,g⟩
 ·show Ending.returned (.bool (decide (bs p <+: r))) = _
  rw [decide_eq_false hn]
 ·have e : takesS (bs p) (.ok () r) = .ok () r := if_neg hn
  rw [e] at h1
  exact h1
theorem tkp_yes (p : ByteArray) (hp : Low (bs p)) (hz : p.size ≤ 10) (h : Rr R W s dv r d f) (hn : bs p <+: r) :
  Calls Tryz.prog 86 #[.pointer (some ⟨R,0,none⟩),.string p] W fun e W'=>e=.returned (.bool true)∧Rr R W' s dv (r.drop (bs p).length) d f∧Gr R W W':=by
 refine (takesq_c (σ:= .ok () r) p hp hz h).mono ?_
 rintro e w ⟨rfl,h1,g⟩
 refine ⟨?_,?_,g⟩
 ·show Ending.returned (.bool (decide (bs p <+: r))) = _
  rw [decide_eq_true hn]
 ·have e : takesS (bs p) (.ok () r) = .ok () (r.drop (bs p).length) := if_pos hn
  rw [e] at h1
  exact h1
theorem lowq2 (a b:UInt8) (ha:(a.toNat:Int) < 128) (hb:(b.toNat:Int) < 128):Low (bs ⟨#[a,b]⟩):=fun c hc=>by
 have:c=(a.toNat:Int)∨c=(b.toNat:Int):=by simpa [bs] using hc
 omega
def PcIs : Pc → List Sp → Int → Prop
 | .one x,l,k=>k=0∧l=[(x,x)]
 | .cls i,l,k=>k=1∧∀ r,Tells l r↔Tells (gathOf i) r
def PcPost (R:Nat) (s:ByteArray) (dv:Value) (d f:Nat) (o:Out Pc) (W:World) (e:Ending) (W':World):Prop :=
 ∃ P c l k,e=.returned (.tuple #[.slice P (List.length l) c,.int .i64 k])∧l.length≤104∧Wide l∧Sl W' P l∧(P=none→c=0)∧(∀ a,P=some a→W.heap.size≤a.block)∧(k=0→l=[]∨∃ g,P=some ⟨g,0,none⟩)∧(k=0∨k=1)∧(∀ p x,o=.ok p x→PcIs p l k)∧Rs R W' s dv d f (Out.u o)∧Gr R W W'
theorem num_of {r0 t:List Int} (h:at1 123 t=true):Out.u (byNumF r0 t)=Out.u (hexQ r0 t.tail)∧∀ p x,byNumF r0 t=.ok p x→∃ a,p=.one a∧hexQ r0 t.tail=.ok a x:=by
 unfold byNumF hexQ
 rw [needq_at,if_pos h]
 dsimp only
 by_cases h1:(runF isH 6 t.tail).1=[]
 ·rw [if_pos h1,if_pos h1];exact ⟨rfl,fun p x h=>by cases h⟩
 ·rw [if_neg h1, if_neg h1]
  cases needF 125 (runF isH 6 t.tail).2 with
  | err e x=>exact ⟨rfl,fun p x h=>by cases h⟩
  | ok u r2 =>
   dsimp only
   cases scB (hexN (runF isH 6 t.tail).1) with
   | true=>exact ⟨rfl,fun p x h=>by cases h;exact ⟨_,rfl,rfl⟩⟩
   | false=>exact ⟨rfl,fun p x h=>by cases h⟩
theorem num_no {r0 t:List Int} (h:at1 123 t=false):byNumF r0 t=.err 60 t:=by
 unfold byNumF
 rw [needq_at,if_neg (by rw [h];simp)]
theorem name_of {r0 t:List Int} (h:at1 123 t=true):Out.u (byNameF r0 t)=Out.u (propQ r0 t.tail)∧∀ p x,byNameF r0 t=.ok p x→∃ i,p=.cls i∧propQ r0 t.tail=.ok i x:=by
 unfold byNameF propQ
 rw [needq_at,if_pos h]
 dsimp only
 cases needF 125 (t.tail.dropWhile not125) with
 | err e x=>exact ⟨rfl,fun p x h=>by cases h⟩
 | ok u r2 =>
  dsimp only
  cases whichF (looseL (bytesOf (t.tail.takeWhile not125))) with
  | none=>exact ⟨rfl,fun p x h=>by cases h⟩
  | some i=>exact ⟨rfl,fun p x h=>by cases h;exact ⟨_,rfl,rfl⟩⟩
theorem name_no {r0 t:List Int} (h:at1 123 t=false):byNameF r0 t=.err 60 t:=by
 unfold byNameF
 rw [needq_at,if_neg (by rw [h];simp)]
theorem one_pre (a:Int) (r:List Int):([a] <+: r)↔∃ t,r=a::t:=by
 constructor
 ·rintro ⟨t,rfl⟩;exact ⟨t,rfl⟩
 ·rintro ⟨t,rfl⟩;exact ⟨t,rfl⟩
theorem two_pre (a b:Int) (c:Int) (t:List Int):([a,b] <+: c::t)↔(c=a∧at1 b t=true):=by
 rw [List.cons_prefix_cons,pre1]
 exact ⟨fun h=>⟨h.1.symm,h.2⟩,fun h=>⟨h.1.symm,h.2⟩⟩
theorem wide_pt (x:Int) (h:-9223372036854775808≤x):Wide [(x,x)]:=fun s hs=>by
 simp at hs
 subst hs
 exact h
set_option maxRecDepth 100000 in
set_option maxHeartbeats 4000000 in
theorem escape_q (r0:List Int) (h:Rr R W s dv rest d f):Calls Tryz.prog 132 #[.pointer (some ⟨R,0,none⟩),.int .i64 ((s.size:Int) - ((U.UtfM.wr r0).length:Nat))] W (PcPost R s dv d f (escF r0 rest) W):=by
 have hsm:=h.small
 have hlen:=h.len
 have HR:=Lib.hid h
 obtain ⟨z,hz⟩:∃ z,z=lookS (.ok () rest):=⟨_,rfl⟩
 have hlk:=lookq_c h
 rw [← hz] at hlk
 have HSEE:=Lib.hid (see_all (R:=R) (s:=s) (dv:=dv) (d:=d) (f:=f) z hz)
 clear hz h
 obtain ⟨o,ho⟩:∃ o,o=escF r0 rest:=⟨_,rfl⟩
 rw [← ho]
 by_cases hA:∃ t,rest=110::t
 ·obtain ⟨t, rfl⟩ := hA
  have HO:Hid (o=.ok (.one 10) t):=Lib.hid ho
  have HP:Hid (([110]:List Int) <+: 110::t):=Lib.hid ⟨t,rfl⟩
  clear ho hlk
  go_enter Tryz.func132,Tryz.ntmps132
  go_wp2_with fail
  refine (HSEE.out _ HR.out).mono ?_
  rintro e w1 ⟨rfl,b1⟩
  have HG:=Lib.hid (Gr.of (R:=R) b1)
  have HR:=Lib.hid (HR.out.kept b1)
  clear b1 HSEE
  have HT:=Lib.hid (tkp_yes ⟨#[110]⟩ (lowq1 110 (by decide)) (by decide) HR.out HP.out)
  go_wp2_with fail
  refine HT.out.mono ?_
  rintro e w1 ⟨rfl,h1,g1⟩
  have HR:=Lib.hid h1
  have HG:=Lib.hid (HG.out.trans g1)
  clear h1 g1 HT
  have HR:Hid (Rr R w1 s dv t d f):=Lib.hid HR.out
  go_wp2
  go_returns
  have hal:=(Below.refl w1.heap.size w1).alloc (Nat.le_refl _) (.cells #[.int .i64 10,.int .i64 10] 45)
  exact ⟨some ⟨w1.heap.size,0,none⟩,1,[(10,10)],0,rfl,by simp,wide_pt _ (by omega),sl_new w1 _ _,(fun h=>by cases h),fun a h=>(by cases h;exact HG.out.size),(fun _=>.inr ⟨_,rfl⟩),.inl rfl,fun p x h=>(by rw [HO.out] at h;cases h;exact ⟨rfl,rfl⟩),by rw [HO.out];exact Rr.kept HR.out hal,HG.out.trans (Gr.of hal)⟩
 have HNn:Hid (¬ ([110]:List Int) <+: rest):=Lib.hid (fun h=>hA ((one_pre _ _).1 h))
 by_cases hB:∃ t,rest=114::t
 ·obtain ⟨t, rfl⟩ := hB
  have HO:Hid (o=.ok (.one 13) t):=Lib.hid ho
  have HP:Hid (([114]:List Int) <+: 114::t):=Lib.hid ⟨t,rfl⟩
  clear ho hlk hA
  go_enter Tryz.func132,Tryz.ntmps132
  go_wp2_with fail
  refine (HSEE.out _ HR.out).mono ?_
  rintro e w1 ⟨rfl,b1⟩
  have HG:=Lib.hid (Gr.of (R:=R) b1)
  have HR:=Lib.hid (HR.out.kept b1)
  clear b1 HSEE
  have HT:=Lib.hid (tkp_no ⟨#[110]⟩ (lowq1 110 (by decide)) (by decide) HR.out HNn.out)
  go_wp2_with fail
  refine HT.out.mono ?_
  rintro e w1 ⟨rfl,h1,g1⟩
  have HR:=Lib.hid h1
  have HG:=Lib.hid (HG.out.trans g1)
  clear h1 g1 HT
  have HT:=Lib.hid (tkp_yes ⟨#[114]⟩ (lowq1 114 (by decide)) (by decide) HR.out HP.out)
  go_wp2_with fail
  refine HT.out.mono ?_
  rintro e w1 ⟨rfl,h1,g1⟩
  have HR:=Lib.hid h1
  have HG:=Lib.hid (HG.out.trans g1)
  clear h1 g1 HT
  have HR:Hid (Rr R w1 s dv t d f):=Lib.hid HR.out
  go_wp2
  go_returns
  have hal:=(Below.refl w1.heap.size w1).alloc (Nat.le_refl _) (.cells #[.int .i64 13,.int .i64 13] 45)
  exact ⟨some ⟨w1.heap.size,0,none⟩,1,[(13,13)],0,rfl,by simp,wide_pt _ (by omega),sl_new w1 _ _,(fun h=>by cases h),fun a h=>(by cases h;exact HG.out.size),(fun _=>.inr ⟨_,rfl⟩),.inl rfl,fun p x h=>(by rw [HO.out] at h;cases h;exact ⟨rfl,rfl⟩),by rw [HO.out];exact Rr.kept HR.out hal,HG.out.trans (Gr.of hal)⟩
 have HNr:Hid (¬ ([114]:List Int) <+: rest):=Lib.hid (fun h=>hB ((one_pre _ _).1 h))
 by_cases hC:∃ t,rest=116::t
 ·obtain ⟨t, rfl⟩ := hC
  have HO:Hid (o=.ok (.one 9) t):=Lib.hid ho
  have HP:Hid (([116]:List Int) <+: 116::t):=Lib.hid ⟨t,rfl⟩
  clear ho hlk hA hB
  go_enter Tryz.func132,Tryz.ntmps132
  go_wp2_with fail
  refine (HSEE.out _ HR.out).mono ?_
  rintro e w1 ⟨rfl,b1⟩
  have HG:=Lib.hid (Gr.of (R:=R) b1)
  have HR:=Lib.hid (HR.out.kept b1)
  clear b1 HSEE
  have HT:=Lib.hid (tkp_no ⟨#[110]⟩ (lowq1 110 (by decide)) (by decide) HR.out HNn.out)
  go_wp2_with fail
  refine HT.out.mono ?_
  rintro e w1 ⟨rfl,h1,g1⟩
  have HR:=Lib.hid h1
  have HG:=Lib.hid (HG.out.trans g1)
  clear h1 g1 HT
  have HT:=Lib.hid (tkp_no ⟨#[114]⟩ (lowq1 114 (by decide)) (by decide) HR.out HNr.out)
  go_wp2_with fail
  refine HT.out.mono ?_
  rintro e w1 ⟨rfl,h1,g1⟩
  have HR:=Lib.hid h1
  have HG:=Lib.hid (HG.out.trans g1)
  clear h1 g1 HT
  have HT:=Lib.hid (tkp_yes ⟨#[116]⟩ (lowq1 116 (by decide)) (by decide) HR.out HP.out)
  go_wp2_with fail
  refine HT.out.mono ?_
  rintro e w1 ⟨rfl,h1,g1⟩
  have HR:=Lib.hid h1
  have HG:=Lib.hid (HG.out.trans g1)
  clear h1 g1 HT
  have HR:Hid (Rr R w1 s dv t d f):=Lib.hid HR.out
  go_wp2
  go_returns
  have hal:=(Below.refl w1.heap.size w1).alloc (Nat.le_refl _) (.cells #[.int .i64 9,.int .i64 9] 45)
  exact ⟨some ⟨w1.heap.size,0,none⟩,1,[(9,9)],0,rfl,by simp,wide_pt _ (by omega),sl_new w1 _ _,(fun h=>by cases h),fun a h=>(by cases h;exact HG.out.size),(fun _=>.inr ⟨_,rfl⟩),.inl rfl,fun p x h=>(by rw [HO.out] at h;cases h;exact ⟨rfl,rfl⟩),by rw [HO.out];exact Rr.kept HR.out hal,HG.out.trans (Gr.of hal)⟩
 have HNt:Hid (¬ ([116]:List Int) <+: rest):=Lib.hid (fun h=>hC ((one_pre _ _).1 h))
 by_cases hD:∃ t,rest=120::t∧at1 123 t=true
 ·obtain ⟨t, rfl, h123⟩ := hD
  have HO:Hid (o=byNumF r0 t):=Lib.hid ho
  have HNO:=Lib.hid (num_of (r0:=r0) h123)
  have HP:Hid (([120,123]:List Int) <+: 120::t):=Lib.hid ((two_pre _ _ _ _).2 ⟨rfl,h123⟩)
  have HDR:Hid ((120::t).drop 2=t.tail):=Lib.hid (by simp)
  clear ho hlk hA hB hC h123
  go_enter Tryz.func132,Tryz.ntmps132
  go_wp2_with fail
  refine (HSEE.out _ HR.out).mono ?_
  rintro e w1 ⟨rfl,b1⟩
  have HG:=Lib.hid (Gr.of (R:=R) b1)
  have HR:=Lib.hid (HR.out.kept b1)
  clear b1 HSEE
  have HT:=Lib.hid (tkp_no ⟨#[110]⟩ (lowq1 110 (by decide)) (by decide) HR.out HNn.out)
  go_wp2_with fail
  refine HT.out.mono ?_
  rintro e w1 ⟨rfl,h1,g1⟩
  have HR:=Lib.hid h1
  have HG:=Lib.hid (HG.out.trans g1)
  clear h1 g1 HT
  have HT:=Lib.hid (tkp_no ⟨#[114]⟩ (lowq1 114 (by decide)) (by decide) HR.out HNr.out)
  go_wp2_with fail
  refine HT.out.mono ?_
  rintro e w1 ⟨rfl,h1,g1⟩
  have HR:=Lib.hid h1
  have HG:=Lib.hid (HG.out.trans g1)
  clear h1 g1 HT
  have HT:=Lib.hid (tkp_no ⟨#[116]⟩ (lowq1 116 (by decide)) (by decide) HR.out HNt.out)
  go_wp2_with fail
  refine HT.out.mono ?_
  rintro e w1 ⟨rfl,h1,g1⟩
  have HR:=Lib.hid h1
  have HG:=Lib.hid (HG.out.trans g1)
  clear h1 g1 HT
  have HT:=Lib.hid (tkp_yes ⟨#[120,123]⟩ (lowq2 120 123 (by decide) (by decide)) (by decide) HR.out HP.out)
  go_wp2_with fail
  refine HT.out.mono ?_
  rintro e w1 ⟨rfl,h1,g1⟩
  have HR:=Lib.hid h1
  have HG:=Lib.hid (HG.out.trans g1)
  clear h1 g1 HT
  have HR:Hid (Rr R w1 s dv t.tail d f):=Lib.hid (by have:=HR.out;rw [show (bs (⟨#[120,123]⟩:ByteArray)).length=2 from rfl,HDR.out] at this;exact this)
  have HX:=Lib.hid (hexq_c r0 HR.out)
  go_wp2_with fail
  refine HX.out.mono ?_
  rintro e w1 ⟨a,rfl,a0,a1,ha,h1,g1⟩
  have HR:=Lib.hid h1
  have HG:=Lib.hid (HG.out.trans g1)
  have HA:=Lib.hid ha
  clear h1 g1 ha HX
  go_wp2
  go_returns
  have hal:=(Below.refl w1.heap.size w1).alloc (Nat.le_refl _) (.cells #[.int .i64 a,.int .i64 a] 45)
  exact ⟨some ⟨w1.heap.size,0,none⟩,1,[(a,a)],0,rfl,by simp,wide_pt _ (by omega),sl_new w1 _ _,(fun h=>by cases h),fun a h=>(by cases h;exact HG.out.size),(fun _=>.inr ⟨_,rfl⟩),.inl rfl,fun p x h=>(by rw [HO.out] at h;obtain ⟨b,rfl,hb⟩:=HNO.out.2 p x h;rw [← HA.out b x hb];exact ⟨rfl,rfl⟩),by rw [HO.out,HNO.out.1];exact Rs.kept HR.out hal,HG.out.trans (Gr.of hal)⟩
 have HNx:Hid (¬ ([120,123]:List Int) <+: rest):=Lib.hid (fun h=>hD (by
  cases rest with
  | nil=>simp at h
  | cons c t=>exact ⟨t,by rw [((two_pre _ _ _ _).1 h).1],((two_pre _ _ _ _).1 h).2⟩))
 by_cases hE:∃ t,rest=112::t∧at1 123 t=true
 ·obtain ⟨t, rfl, h123⟩ := hE
  have HO:Hid (o=byNameF r0 t):=Lib.hid ho
  have HNO:=Lib.hid (name_of (r0:=r0) h123)
  have HP:Hid (([112,123]:List Int) <+: 112::t):=Lib.hid ((two_pre _ _ _ _).2 ⟨rfl,h123⟩)
  have HDR:Hid ((112::t).drop 2=t.tail):=Lib.hid (by simp)
  clear ho hlk hA hB hC hD h123
  go_enter Tryz.func132,Tryz.ntmps132
  go_wp2_with fail
  refine (HSEE.out _ HR.out).mono ?_
  rintro e w1 ⟨rfl,b1⟩
  have HG:=Lib.hid (Gr.of (R:=R) b1)
  have HR:=Lib.hid (HR.out.kept b1)
  clear b1 HSEE
  have HT:=Lib.hid (tkp_no ⟨#[110]⟩ (lowq1 110 (by decide)) (by decide) HR.out HNn.out)
  go_wp2_with fail
  refine HT.out.mono ?_
  rintro e w1 ⟨rfl,h1,g1⟩
  have HR:=Lib.hid h1
  have HG:=Lib.hid (HG.out.trans g1)
  clear h1 g1 HT
  have HT:=Lib.hid (tkp_no ⟨#[114]⟩ (lowq1 114 (by decide)) (by decide) HR.out HNr.out)
  go_wp2_with fail
  refine HT.out.mono ?_
  rintro e w1 ⟨rfl,h1,g1⟩
  have HR:=Lib.hid h1
  have HG:=Lib.hid (HG.out.trans g1)
  clear h1 g1 HT
  have HT:=Lib.hid (tkp_no ⟨#[116]⟩ (lowq1 116 (by decide)) (by decide) HR.out HNt.out)
  go_wp2_with fail
  refine HT.out.mono ?_
  rintro e w1 ⟨rfl,h1,g1⟩
  have HR:=Lib.hid h1
  have HG:=Lib.hid (HG.out.trans g1)
  clear h1 g1 HT
  have HT:=Lib.hid (tkp_no ⟨#[120,123]⟩ (lowq2 120 123 (by decide) (by decide)) (by decide) HR.out HNx.out)
  go_wp2_with fail
  refine HT.out.mono ?_
  rintro e w1 ⟨rfl,h1,g1⟩
  have HR:=Lib.hid h1
  have HG:=Lib.hid (HG.out.trans g1)
  clear h1 g1 HT
  have HT:=Lib.hid (tkp_yes ⟨#[112,123]⟩ (lowq2 112 123 (by decide) (by decide)) (by decide) HR.out HP.out)
  go_wp2_with fail
  refine HT.out.mono ?_
  rintro e w1 ⟨rfl,h1,g1⟩
  have HR:=Lib.hid h1
  have HG:=Lib.hid (HG.out.trans g1)
  clear h1 g1 HT
  have HR:Hid (Rr R w1 s dv t.tail d f):=Lib.hid (by have:=HR.out;rw [show (bs (⟨#[112,123]⟩:ByteArray)).length=2 from rfl,HDR.out] at this;exact this)
  have HX:=Lib.hid (propq_c r0 HR.out)
  go_wp2_with fail
  refine HX.out.mono ?_
  rintro e w5 ⟨P,cc,l,rfl,l1,l2,l3,l0,l4,l5,h1,g1⟩
  have HR:=Lib.hid h1
  have HL:=Lib.hid (And.intro l1 (And.intro l2 (And.intro l3 (And.intro (And.intro l0 (fun a h=>Nat.le_trans HG.out.size (l4 a h))) l5))))
  have HG:=Lib.hid (HG.out.trans g1)
  clear h1 g1 l1 l2 l3 l0 l4 l5 HX
  go_wp2
  go_returns
  exact ⟨P,cc,l,1,rfl,HL.out.1,HL.out.2.1,HL.out.2.2.1,HL.out.2.2.2.1.1,HL.out.2.2.2.1.2,(fun h=>absurd h (by decide)),.inr rfl,fun p x h=>(by rw [HO.out] at h;obtain ⟨b,rfl,hb⟩:=HNO.out.2 p x h;exact ⟨rfl,HL.out.2.2.2.2 b x hb⟩),by rw [HO.out,HNO.out.1];exact HR.out,HG.out⟩
 have HNp:Hid (¬ ([112,123]:List Int) <+: rest):=Lib.hid (fun h=>hE (by
  cases rest with
  | nil=>simp at h
  | cons c t=>exact ⟨t,by rw [((two_pre _ _ _ _).1 h).1],((two_pre _ _ _ _).1 h).2⟩))
 have HIN:=Lib.hid (fun Y=>in_c z ⟨#[124,40,41,91,93,123,125,42,43,63,46,92,94,45]⟩ (by decide) (W:=Y))
 have hbl:bs (⟨#[124,40,41,91,93,123,125,42,43,63,46,92,94,45]⟩:ByteArray)=escS:=rfl
 rw [hbl] at HIN
 clear hbl
 by_cases hF:inS escS z=true
 ·have hin := hF
  obtain ⟨t,rfl,hz0,hz1⟩:∃ t,rest=z::t∧0≤z∧z < 128:=by
   have hm:z∈escS:=List.contains_iff_mem.1 hF
   rcases hlk with ⟨h1,h2⟩ | ⟨c,t,rfl,⟨h1,h2,h3⟩ | ⟨h1,h2,h3⟩⟩
   ·rw [h2] at hm;simp [escS] at hm
   ·subst h1;exact ⟨t,rfl,h2,h3⟩
   ·simp [escS] at hm;omega
  have HO:Hid (o=.ok (.one z) t):=Lib.hid (by
   have hm:z∈escS:=List.contains_iff_mem.1 hF
   have h5:z≠110∧z≠114∧z≠116∧z≠120∧z≠112:=by simp [escS] at hm;omega
   rw [ho]
   unfold escF
   dsimp only
   rw [if_neg h5.1,if_neg h5.2.1,if_neg h5.2.2.1,if_neg h5.2.2.2.1,if_neg h5.2.2.2.2,if_pos hin])
  have hge:z ≥ 0:=hz0
  have hmv:(U.UtfM.wr (z::t)).length=(U.UtfM.wr t).length+1:=by rw [wr_head_low (HR.out.sc z (by simp)) (by omega)];simp
  have HM:=Lib.hid (fun Y (hU:Rr R Y s dv (z::t) d f)=>hU.move (p:=[z]) (rest':=t) (x:=(s.size:Int) - ((U.UtfM.wr (z::t)).length:Nat)+1) rfl (by omega))
  have ew:IntKind.i64.wrap ((s.size:Int) - ((U.UtfM.wr (z::t)).length:Nat)+1)=(s.size:Int) - ((U.UtfM.wr (z::t)).length:Nat)+1:=IntWalk.i64_in _ (by omega)
  clear ho hlk hA hB hC hD hE hF hmv
  go_enter Tryz.func132,Tryz.ntmps132
  go_wp2_with fail
  refine (HSEE.out _ HR.out).mono ?_
  rintro e w1 ⟨rfl,b1⟩
  have HG:=Lib.hid (Gr.of (R:=R) b1)
  have HR:=Lib.hid (HR.out.kept b1)
  clear b1 HSEE
  have HT:=Lib.hid (tkp_no ⟨#[110]⟩ (lowq1 110 (by decide)) (by decide) HR.out HNn.out)
  go_wp2_with fail
  refine HT.out.mono ?_
  rintro e w1 ⟨rfl,h1,g1⟩
  have HR:=Lib.hid h1
  have HG:=Lib.hid (HG.out.trans g1)
  clear h1 g1 HT
  have HT:=Lib.hid (tkp_no ⟨#[114]⟩ (lowq1 114 (by decide)) (by decide) HR.out HNr.out)
  go_wp2_with fail
  refine HT.out.mono ?_
  rintro e w1 ⟨rfl,h1,g1⟩
  have HR:=Lib.hid h1
  have HG:=Lib.hid (HG.out.trans g1)
  clear h1 g1 HT
  have HT:=Lib.hid (tkp_no ⟨#[116]⟩ (lowq1 116 (by decide)) (by decide) HR.out HNt.out)
  go_wp2_with fail
  refine HT.out.mono ?_
  rintro e w1 ⟨rfl,h1,g1⟩
  have HR:=Lib.hid h1
  have HG:=Lib.hid (HG.out.trans g1)
  clear h1 g1 HT
  have HT:=Lib.hid (tkp_no ⟨#[120,123]⟩ (lowq2 120 123 (by decide) (by decide)) (by decide) HR.out HNx.out)
  go_wp2_with fail
  refine HT.out.mono ?_
  rintro e w1 ⟨rfl,h1,g1⟩
  have HR:=Lib.hid h1
  have HG:=Lib.hid (HG.out.trans g1)
  clear h1 g1 HT
  have HT:=Lib.hid (tkp_no ⟨#[112,123]⟩ (lowq2 112 123 (by decide) (by decide)) (by decide) HR.out HNp.out)
  go_wp2_with fail
  refine HT.out.mono ?_
  rintro e w1 ⟨rfl,h1,g1⟩
  have HR:=Lib.hid h1
  have HG:=Lib.hid (HG.out.trans g1)
  clear h1 g1 HT
  go_wp2_with fail
  refine (HIN.out _).mono ?_
  rintro e w9 ⟨rfl,rfl⟩
  have c1:=HR.out.c1
  have kz:=HR.out.fz 1
  go_wp2
  go_returns
  have HR2:=HM.out _ HR.out
  have HG2:=HG.out.trans (Gr.set (R:=R) w1 1 (.int .i64 ((s.size:Int) - ((U.UtfM.wr (z::t)).length:Nat)+1)))
  have hal:=(Below.refl _ (w1.setCell ⟨R,1,none⟩ (.int .i64 ((s.size:Int) - ((U.UtfM.wr (z::t)).length:Nat)+1)))).alloc (Nat.le_refl _) (.cells #[.int .i64 z,.int .i64 z] 45)
  exact ⟨some ⟨w1.heap.size,0,none⟩,1,[(z,z)],0,rfl,by simp,wide_pt _ (by omega),by have h:=sl_new (w1.setCell ⟨R,1,none⟩ (.int .i64 ((s.size:Int) - ((U.UtfM.wr (z::t)).length:Nat)+1))) z z;rwa [World.size_setCell] at h,(fun h=>by cases h),fun a h=>(by cases h;exact HG.out.size),(fun _=>.inr ⟨_,rfl⟩),.inl rfl,fun p x h=>(by rw [HO.out] at h;cases h;exact ⟨rfl,rfl⟩),by rw [HO.out];exact Rr.kept HR2 hal,HG2.trans (Gr.of hal)⟩
 have hnF:inS escS z=false:=by simpa using hF
 by_cases hG:z=120∨z=112
 ·obtain ⟨t,rfl⟩:∃ t,rest=z::t:=by
   rcases hlk with ⟨h1,h2⟩ | ⟨c,t,rfl,⟨h1,h2,h3⟩ | ⟨h1,h2,h3⟩⟩
   ·omega
   ·subst h1;exact ⟨t,rfl⟩
   ·omega
  obtain ⟨r9,hr9⟩:∃ r9,r9=t:=⟨_,rfl⟩
  have HO:Hid (o=.err 60 r9):=Lib.hid (by
   rw [ho,hr9]
   rcases hG with rfl | rfl
   ·exact num_no (by cases hh:at1 123 t with
     | true=>exact absurd ⟨t,rfl,hh⟩ hD
     | false=>rfl)
   ·exact name_no (by cases hh:at1 123 t with
     | true=>exact absurd ⟨t,rfl,hh⟩ hE
     | false=>rfl))
  have hmv:(U.UtfM.wr (z::t)).length=(U.UtfM.wr t).length+1:=by rw [wr_head_low (HR.out.sc z (by simp)) (by omega)];simp
  have HZ9:Hid ((s.size:Int) - ((U.UtfM.wr (z::t)).length:Nat)+1=(s.size:Int) - ((U.UtfM.wr r9).length:Nat)):=Lib.hid (by rw [hr9];omega)
  have ew:IntKind.i64.wrap ((s.size:Int) - ((U.UtfM.wr (z::t)).length:Nat)+1)=(s.size:Int) - ((U.UtfM.wr (z::t)).length:Nat)+1:=IntWalk.i64_in _ (by omega)
  clear ho hlk hA hB hC hD hE hF hmv hr9
  obtain ⟨rest,hrest⟩:∃ rest,rest=z::t:=⟨_,rfl⟩
  rw [← hrest] at HR HSEE HNn HNr HNt HNx HNp HZ9 ew hlen
  clear hrest
  have hge:z ≥ 0:=by omega
  rcases hG with rfl | rfl
  all_goals
   go_enter Tryz.func132,Tryz.ntmps132
   go_wp2_with fail
   refine (HSEE.out _ HR.out).mono ?_
   rintro e w1 ⟨rfl,b1⟩
   have HG:=Lib.hid (Gr.of (R:=R) b1)
   have HR:=Lib.hid (HR.out.kept b1)
   clear b1 HSEE
   have HT:=Lib.hid (tkp_no ⟨#[110]⟩ (lowq1 110 (by decide)) (by decide) HR.out HNn.out)
   go_wp2_with fail
   refine HT.out.mono ?_
   rintro e w1 ⟨rfl,h1,g1⟩
   have HR:=Lib.hid h1
   have HG:=Lib.hid (HG.out.trans g1)
   clear h1 g1 HT
   have HT:=Lib.hid (tkp_no ⟨#[114]⟩ (lowq1 114 (by decide)) (by decide) HR.out HNr.out)
   go_wp2_with fail
   refine HT.out.mono ?_
   rintro e w1 ⟨rfl,h1,g1⟩
   have HR:=Lib.hid h1
   have HG:=Lib.hid (HG.out.trans g1)
   clear h1 g1 HT
   have HT:=Lib.hid (tkp_no ⟨#[116]⟩ (lowq1 116 (by decide)) (by decide) HR.out HNt.out)
   go_wp2_with fail
   refine HT.out.mono ?_
   rintro e w1 ⟨rfl,h1,g1⟩
   have HR:=Lib.hid h1
   have HG:=Lib.hid (HG.out.trans g1)
   clear h1 g1 HT
   have HT:=Lib.hid (tkp_no ⟨#[120,123]⟩ (lowq2 120 123 (by decide) (by decide)) (by decide) HR.out HNx.out)
   go_wp2_with fail
   refine HT.out.mono ?_
   rintro e w1 ⟨rfl,h1,g1⟩
   have HR:=Lib.hid h1
   have HG:=Lib.hid (HG.out.trans g1)
   clear h1 g1 HT
   have HT:=Lib.hid (tkp_no ⟨#[112,123]⟩ (lowq2 112 123 (by decide) (by decide)) (by decide) HR.out HNp.out)
   go_wp2_with fail
   refine HT.out.mono ?_
   rintro e w1 ⟨rfl,h1,g1⟩
   have HR:=Lib.hid h1
   have HG:=Lib.hid (HG.out.trans g1)
   clear h1 g1 HT
   go_wp2_with fail
   refine (HIN.out _).mono ?_
   rintro e w9 ⟨rfl,rfl⟩
   have HF:=Lib.hid (fail_c (σ:= .ok () rest) 60 ((s.size:Int) - ((U.UtfM.wr rest).length:Nat)+1) r9 (by omega) (fun _ _ _=>HZ9.out) HR.out)
   have c1:=HR.out.c1
   go_wp2_with fail
   refine HF.out.mono ?_
   rintro e w1 ⟨rfl,h1,g1⟩
   have HR:Hid (Rs R w1 s dv d f (.err 60 r9)):=Lib.hid h1
   have HG:=Lib.hid (HG.out.trans g1)
   clear h1 g1 HF c1
   go_wp2
   go_returns
   have hal:=(Below.refl w1.heap.size w1).alloc (Nat.le_refl _) (.cells #[.int .i64 0,.int .i64 0] 45)
   exact ⟨some ⟨w1.heap.size,0,none⟩,1,[(0,0)],0,rfl,by simp,wide_pt _ (by omega),sl_new w1 _ _,(fun h=>by cases h),fun a h=>(by cases h;exact HG.out.size),(fun _=>.inr ⟨_,rfl⟩),.inl rfl,fun p x h=>(by rw [HO.out] at h;cases h),by rw [HO.out];exact Rs.kept HR.out hal,HG.out.trans (Gr.of hal)⟩
 obtain ⟨r9,hr9⟩:∃ r9,r9=rest:=⟨_,rfl⟩
 have HO:Hid (o=.err 60 r9):=Lib.hid (by
  rw [ho,hr9]
  rcases hlk with ⟨h1,h2⟩ | ⟨c,t,rfl,h1⟩
  ·rw [h1];rfl
  ·have e1 : c ≠ 110 := fun e => hA ⟨t, by rw [e]⟩
   have e2:c≠114:=fun e=>hB ⟨t,by rw [e]⟩
   have e3:c≠116:=fun e=>hC ⟨t,by rw [e]⟩
   have e4:c≠120:=fun e=>hG (by rcases h1 with ⟨h1,_⟩ | ⟨_,_,h3⟩ <;> omega)
   have e5:c≠112:=fun e=>hG (by rcases h1 with ⟨h1,_⟩ | ⟨_,_,h3⟩ <;> omega)
   have e6:inS escS c=false:=by
    rcases h1 with ⟨h1,_⟩ | ⟨_,_,h3⟩
    ·rw [← h1];exact hnF
    ·rw [Bool.eq_false_iff]
     intro h
     have hm:c∈escS:=List.contains_iff_mem.1 h
     simp [escS] at hm
     omega
   unfold escF
   dsimp only
   rw [if_neg e1,if_neg e2,if_neg e3,if_neg e4,if_neg e5,if_neg (by rw [e6];simp)])
 have HZ9:Hid ((s.size:Int) - ((U.UtfM.wr rest).length:Nat)=(s.size:Int) - ((U.UtfM.wr r9).length:Nat)):=Lib.hid (by rw [hr9])
 have e1:¬ z=120:=fun e=>hG (.inl e)
 have e2:¬ z=112:=fun e=>hG (.inr e)
 have e3:(z == 120)=false:=by simp [e1]
 have e4:(z == 112)=false:=by simp [e2]
 clear ho hlk hA hB hC hD hE hF hG hr9
 by_cases hge:z ≥ 0
 ·go_enter Tryz.func132, Tryz.ntmps132
  go_wp2_with fail
  refine (HSEE.out _ HR.out).mono ?_
  rintro e w1 ⟨rfl,b1⟩
  have HG:=Lib.hid (Gr.of (R:=R) b1)
  have HR:=Lib.hid (HR.out.kept b1)
  clear b1 HSEE
  have HT:=Lib.hid (tkp_no ⟨#[110]⟩ (lowq1 110 (by decide)) (by decide) HR.out HNn.out)
  go_wp2_with fail
  refine HT.out.mono ?_
  rintro e w1 ⟨rfl,h1,g1⟩
  have HR:=Lib.hid h1
  have HG:=Lib.hid (HG.out.trans g1)
  clear h1 g1 HT
  have HT:=Lib.hid (tkp_no ⟨#[114]⟩ (lowq1 114 (by decide)) (by decide) HR.out HNr.out)
  go_wp2_with fail
  refine HT.out.mono ?_
  rintro e w1 ⟨rfl,h1,g1⟩
  have HR:=Lib.hid h1
  have HG:=Lib.hid (HG.out.trans g1)
  clear h1 g1 HT
  have HT:=Lib.hid (tkp_no ⟨#[116]⟩ (lowq1 116 (by decide)) (by decide) HR.out HNt.out)
  go_wp2_with fail
  refine HT.out.mono ?_
  rintro e w1 ⟨rfl,h1,g1⟩
  have HR:=Lib.hid h1
  have HG:=Lib.hid (HG.out.trans g1)
  clear h1 g1 HT
  have HT:=Lib.hid (tkp_no ⟨#[120,123]⟩ (lowq2 120 123 (by decide) (by decide)) (by decide) HR.out HNx.out)
  go_wp2_with fail
  refine HT.out.mono ?_
  rintro e w1 ⟨rfl,h1,g1⟩
  have HR:=Lib.hid h1
  have HG:=Lib.hid (HG.out.trans g1)
  clear h1 g1 HT
  have HT:=Lib.hid (tkp_no ⟨#[112,123]⟩ (lowq2 112 123 (by decide) (by decide)) (by decide) HR.out HNp.out)
  go_wp2_with fail
  refine HT.out.mono ?_
  rintro e w1 ⟨rfl,h1,g1⟩
  have HR:=Lib.hid h1
  have HG:=Lib.hid (HG.out.trans g1)
  clear h1 g1 HT
  go_wp2_with fail
  refine (HIN.out _).mono ?_
  rintro e w9 ⟨rfl,rfl⟩
  have HF:=Lib.hid (fail_c (σ:= .ok () rest) 60 ((s.size:Int) - ((U.UtfM.wr rest).length:Nat)) r9 (by omega) (fun _ _ _=>HZ9.out) HR.out)
  have c1:=HR.out.c1
  go_wp2_with fail
  refine HF.out.mono ?_
  rintro e w1 ⟨rfl,h1,g1⟩
  have HR:Hid (Rs R w1 s dv d f (.err 60 r9)):=Lib.hid h1
  have HG:=Lib.hid (HG.out.trans g1)
  clear h1 g1 HF c1
  go_wp2
  go_returns
  have hal:=(Below.refl w1.heap.size w1).alloc (Nat.le_refl _) (.cells #[.int .i64 0,.int .i64 0] 45)
  exact ⟨some ⟨w1.heap.size,0,none⟩,1,[(0,0)],0,rfl,by simp,wide_pt _ (by omega),sl_new w1 _ _,(fun h=>by cases h),fun a h=>(by cases h;exact HG.out.size),(fun _=>.inr ⟨_,rfl⟩),.inl rfl,fun p x h=>(by rw [HO.out] at h;cases h),by rw [HO.out];exact Rs.kept HR.out hal,HG.out.trans (Gr.of hal)⟩
 ·have hge' : ¬ 0 ≤ z := hge
  go_enter Tryz.func132,Tryz.ntmps132
  go_wp2_with fail
  refine (HSEE.out _ HR.out).mono ?_
  rintro e w1 ⟨rfl,b1⟩
  have HG:=Lib.hid (Gr.of (R:=R) b1)
  have HR:=Lib.hid (HR.out.kept b1)
  clear b1 HSEE
  have HT:=Lib.hid (tkp_no ⟨#[110]⟩ (lowq1 110 (by decide)) (by decide) HR.out HNn.out)
  go_wp2_with fail
  refine HT.out.mono ?_
  rintro e w1 ⟨rfl,h1,g1⟩
  have HR:=Lib.hid h1
  have HG:=Lib.hid (HG.out.trans g1)
  clear h1 g1 HT
  have HT:=Lib.hid (tkp_no ⟨#[114]⟩ (lowq1 114 (by decide)) (by decide) HR.out HNr.out)
  go_wp2_with fail
  refine HT.out.mono ?_
  rintro e w1 ⟨rfl,h1,g1⟩
  have HR:=Lib.hid h1
  have HG:=Lib.hid (HG.out.trans g1)
  clear h1 g1 HT
  have HT:=Lib.hid (tkp_no ⟨#[116]⟩ (lowq1 116 (by decide)) (by decide) HR.out HNt.out)
  go_wp2_with fail
  refine HT.out.mono ?_
  rintro e w1 ⟨rfl,h1,g1⟩
  have HR:=Lib.hid h1
  have HG:=Lib.hid (HG.out.trans g1)
  clear h1 g1 HT
  have HT:=Lib.hid (tkp_no ⟨#[120,123]⟩ (lowq2 120 123 (by decide) (by decide)) (by decide) HR.out HNx.out)
  go_wp2_with fail
  refine HT.out.mono ?_
  rintro e w1 ⟨rfl,h1,g1⟩
  have HR:=Lib.hid h1
  have HG:=Lib.hid (HG.out.trans g1)
  clear h1 g1 HT
  have HT:=Lib.hid (tkp_no ⟨#[112,123]⟩ (lowq2 112 123 (by decide) (by decide)) (by decide) HR.out HNp.out)
  go_wp2_with fail
  refine HT.out.mono ?_
  rintro e w1 ⟨rfl,h1,g1⟩
  have HR:=Lib.hid h1
  have HG:=Lib.hid (HG.out.trans g1)
  clear h1 g1 HT
  have HF:=Lib.hid (fail_c (σ:= .ok () rest) 60 ((s.size:Int) - ((U.UtfM.wr rest).length:Nat)) r9 (by omega) (fun _ _ _=>HZ9.out) HR.out)
  have c1:=HR.out.c1
  go_wp2_with fail
  refine HF.out.mono ?_
  rintro e w1 ⟨rfl,h1,g1⟩
  have HR:Hid (Rs R w1 s dv d f (.err 60 r9)):=Lib.hid h1
  have HG:=Lib.hid (HG.out.trans g1)
  clear h1 g1 HF c1
  go_wp2
  go_returns
  have hal:=(Below.refl w1.heap.size w1).alloc (Nat.le_refl _) (.cells #[.int .i64 0,.int .i64 0] 45)
  exact ⟨some ⟨w1.heap.size,0,none⟩,1,[(0,0)],0,rfl,by simp,wide_pt _ (by omega),sl_new w1 _ _,(fun h=>by cases h),fun a h=>(by cases h;exact HG.out.size),(fun _=>.inr ⟨_,rfl⟩),.inl rfl,fun p x h=>(by rw [HO.out] at h;cases h),by rw [HO.out];exact Rs.kept HR.out hal,HG.out.trans (Gr.of hal)⟩
set_option maxRecDepth 100000 in
set_option maxHeartbeats 4000000 in
theorem one_q (h:Rr R W s dv rest d f):Calls Tryz.prog 143 #[.pointer (some ⟨R,0,none⟩)] W (PcPost R s dv d f (pieceF rest) W):=by
 have hsm:=h.small
 have HR:=Lib.hid h
 have c1:=h.c1
 obtain ⟨o,ho⟩:∃ o,o=pieceF rest:=⟨_,rfl⟩
 rw [← ho]
 by_cases hA:∃ t,rest=92::t
 ·obtain ⟨t, ht⟩ := hA
  have HO:Hid (o=escF rest t):=Lib.hid (by rw [ho,ht];rfl)
  have HP:Hid (([92]:List Int) <+: rest):=Lib.hid ⟨t,ht.symm⟩
  have HDR:Hid (rest.drop 1=t):=Lib.hid (by rw [ht];rfl)
  have HG:Hid (Gr R W W):=Lib.hid (Gr.refl _ _)
  clear ho h ht
  go_enter Tryz.func143,Tryz.ntmps143
  go_wp2_with fail
  have HT:=Lib.hid (tkp_yes ⟨#[92]⟩ (lowq1 92 (by decide)) (by decide) HR.out HP.out)
  refine HT.out.mono ?_
  rintro e w1 ⟨rfl,h1,g1⟩
  have HR:=Lib.hid h1
  have HG:=Lib.hid (HG.out.trans g1)
  clear h1 g1 HT
  have HR:Hid (Rr R w1 s dv t d f):=Lib.hid (by have:=HR.out;rw [show (bs (⟨#[92]⟩:ByteArray)).length=1 from rfl,HDR.out] at this;exact this)
  have HX:=Lib.hid (escape_q rest HR.out)
  clear c1
  go_wp2_with fail
  refine HX.out.mono ?_
  rintro e w5 ⟨P,cc,l,k,rfl,l1,l2,l3,l4,l5,l6,l7,l8,h1,g1⟩
  have HR:=Lib.hid h1
  have HL:=Lib.hid (And.intro l1 (And.intro l2 (And.intro l3 (And.intro l4 (And.intro (fun a h=>Nat.le_trans HG.out.size (l5 a h)) (And.intro l6 (And.intro l7 l8)))))))
  have HG:=Lib.hid (HG.out.trans g1)
  clear h1 g1 l1 l2 l3 l4 l5 l6 l7 l8 HX
  go_wp2
  go_returns
  exact ⟨P,cc,l,k,rfl,HL.out.1,HL.out.2.1,HL.out.2.2.1,HL.out.2.2.2.1,HL.out.2.2.2.2.1,HL.out.2.2.2.2.2.1,HL.out.2.2.2.2.2.2.1,fun p x h=>(by rw [HO.out] at h;exact HL.out.2.2.2.2.2.2.2 p x h),by rw [HO.out];exact HR.out,HG.out⟩
 have HN:Hid (¬ ([92]:List Int) <+: rest):=Lib.hid (fun h=>hA ((one_pre _ _).1 h))
 have HG:Hid (Gr R W W):=Lib.hid (Gr.refl _ _)
 obtain ⟨z,hz⟩:∃ z,z=lookS (.ok () rest):=⟨_,rfl⟩
 have hlk:=lookq_c h
 rw [← hz] at hlk
 have HSEE:=Lib.hid (see_all (R:=R) (s:=s) (dv:=dv) (d:=d) (f:=f) z hz)
 have HIN:=Lib.hid (fun Y=>in_c z ⟨#[91,93,94,45]⟩ (by decide) (W:=Y))
 have hbl:bs (⟨#[91,93,94,45]⟩:ByteArray)=clsS:=rfl
 rw [hbl] at HIN
 clear hbl hz h
 by_cases hbad:z < 0∨inS clsS z=true
 ·obtain ⟨r9, hr9⟩ : ∃ r9, r9 = rest := ⟨_, rfl⟩
  have HO:Hid (o=.err 60 r9):=Lib.hid (by
   rw [ho,hr9]
   rcases hlk with ⟨h1,h2⟩ | ⟨c,t,rfl,⟨h1,h2,h3⟩ | ⟨h1,h2,h3⟩⟩
   ·rw [h1];rfl
   ·subst h1
    have h5:inS clsS z=true:=hbad.elim (fun h=>absurd h (by omega)) id
    have h6:z≠92:=fun e=>hA ⟨t,by rw [e]⟩
    unfold pieceF
    dsimp only
    rw [if_neg h6,if_pos h5]
   ·have h5 : inS clsS z = true := hbad.elim (fun h => absurd h (by omega)) id
    have hm:z∈clsS:=List.contains_iff_mem.1 h5
    simp [clsS] at hm
    omega)
  have HZ9:Hid ((s.size:Int) - ((U.UtfM.wr rest).length:Nat)=(s.size:Int) - ((U.UtfM.wr r9).length:Nat)):=Lib.hid (by rw [hr9])
  clear ho hlk hA hr9
  by_cases hz0:z < 0
  ·clear hbad
   go_enter Tryz.func143,Tryz.ntmps143
   go_wp2_with fail
   have HT:=Lib.hid (tkp_no ⟨#[92]⟩ (lowq1 92 (by decide)) (by decide) HR.out HN.out)
   refine HT.out.mono ?_
   rintro e w1 ⟨rfl,h1,g1⟩
   have HR:=Lib.hid h1
   have HG:=Lib.hid (HG.out.trans g1)
   clear h1 g1 HT
   clear c1
   go_wp2_with fail
   refine (HSEE.out _ HR.out).mono ?_
   rintro e w2 ⟨rfl,b1⟩
   have HG:=Lib.hid (HG.out.trans (Gr.of (R:=R) b1))
   have HR:=Lib.hid (HR.out.kept b1)
   clear b1
   have HF:=Lib.hid (fail_c (σ:= .ok () rest) 60 ((s.size:Int) - ((U.UtfM.wr rest).length:Nat)) r9 (by omega) (fun _ _ _=>HZ9.out) HR.out)
   have c1:=HR.out.c1
   go_wp2_with fail
   refine HF.out.mono ?_
   rintro e w4 ⟨rfl,h1,g1⟩
   have HR:Hid (Rs R w4 s dv d f (.err 60 r9)):=Lib.hid h1
   have HG:=Lib.hid (HG.out.trans g1)
   clear h1 g1 HF c1
   go_wp2
   go_returns
   exact ⟨none,0,[],0,rfl,by simp,(fun s h=>by simp at h),(fun h=>absurd rfl h),(fun _=>rfl),(fun a h=>by cases h),(fun _=>.inl rfl),.inl rfl,fun p x h=>(by rw [HO.out] at h;cases h),by rw [HO.out];exact HR.out,HG.out⟩
  ·have hz0' : ¬ z < 0 := hz0
   have hin:inS clsS z=true:=hbad.elim (fun h=>absurd h (by omega)) id
   rw [hin] at HIN
   clear hbad
   go_enter Tryz.func143,Tryz.ntmps143
   go_wp2_with fail
   have HT:=Lib.hid (tkp_no ⟨#[92]⟩ (lowq1 92 (by decide)) (by decide) HR.out HN.out)
   refine HT.out.mono ?_
   rintro e w1 ⟨rfl,h1,g1⟩
   have HR:=Lib.hid h1
   have HG:=Lib.hid (HG.out.trans g1)
   clear h1 g1 HT
   clear c1
   go_wp2_with fail
   refine (HSEE.out _ HR.out).mono ?_
   rintro e w2 ⟨rfl,b1⟩
   have HG:=Lib.hid (HG.out.trans (Gr.of (R:=R) b1))
   have HR:=Lib.hid (HR.out.kept b1)
   clear b1
   go_wp2_with fail
   refine (HSEE.out _ HR.out).mono ?_
   rintro e w2 ⟨rfl,b1⟩
   have HG:=Lib.hid (HG.out.trans (Gr.of (R:=R) b1))
   have HR:=Lib.hid (HR.out.kept b1)
   clear b1
   go_wp2_with fail
   refine (HIN.out _).mono ?_
   rintro e w9 ⟨rfl,rfl⟩
   have HF:=Lib.hid (fail_c (σ:= .ok () rest) 60 ((s.size:Int) - ((U.UtfM.wr rest).length:Nat)) r9 (by omega) (fun _ _ _=>HZ9.out) HR.out)
   have c1:=HR.out.c1
   go_wp2_with fail
   refine HF.out.mono ?_
   rintro e w4 ⟨rfl,h1,g1⟩
   have HR:Hid (Rs R w4 s dv d f (.err 60 r9)):=Lib.hid h1
   have HG:=Lib.hid (HG.out.trans g1)
   clear h1 g1 HF c1
   go_wp2
   go_returns
   exact ⟨none,0,[],0,rfl,by simp,(fun s h=>by simp at h),(fun h=>absurd rfl h),(fun _=>rfl),(fun a h=>by cases h),(fun _=>.inl rfl),.inl rfl,fun p x h=>(by rw [HO.out] at h;cases h),by rw [HO.out];exact HR.out,HG.out⟩
 ·have hz0 : ¬ z < 0 := fun h => hbad (.inl h)
  have hin:inS clsS z=false:=by
   cases hh:inS clsS z with
   | true=>exact absurd (.inr hh) hbad
   | false=>rfl
  rw [hin] at HIN
  obtain ⟨c,t,hr,hc⟩:∃ c t,rest=c::t∧inS clsS c=false:=by
   rcases hlk with ⟨h1,h2⟩ | ⟨c,t,rfl,⟨h1,h2,h3⟩ | ⟨h1,h2,h3⟩⟩
   ·omega
   ·exact ⟨c,t,rfl,by rw [← h1];exact hin⟩
   ·refine ⟨c, t, rfl, ?_⟩
    rw [Bool.eq_false_iff]
    intro h
    have hm:c∈clsS:=List.contains_iff_mem.1 h
    simp [clsS] at hm
    omega
  have HO:Hid (o=.ok (.one c) t):=Lib.hid (by
   rw [ho,hr]
   have h6:c≠92:=fun e=>hA ⟨t,by rw [hr,e]⟩
   unfold pieceF
   dsimp only
   rw [if_neg h6,if_neg (by rw [hc];simp)])
  have HRE:=Lib.hid hr
  have HSC:Hid (-9223372036854775808≤c):=Lib.hid (by have:=HR.out.sc c (by rw [hr];simp);unfold U.UtfM.Sc at this;omega)
  clear ho hlk hA hbad hin hr hc
  go_enter Tryz.func143,Tryz.ntmps143
  go_wp2_with fail
  have HT:=Lib.hid (tkp_no ⟨#[92]⟩ (lowq1 92 (by decide)) (by decide) HR.out HN.out)
  refine HT.out.mono ?_
  rintro e w1 ⟨rfl,h1,g1⟩
  have HR:=Lib.hid h1
  have HG:=Lib.hid (HG.out.trans g1)
  clear h1 g1 HT
  clear c1
  go_wp2_with fail
  refine (HSEE.out _ HR.out).mono ?_
  rintro e w2 ⟨rfl,b1⟩
  have HG:=Lib.hid (HG.out.trans (Gr.of (R:=R) b1))
  have HR:=Lib.hid (HR.out.kept b1)
  clear b1
  go_wp2_with fail
  refine (HSEE.out _ HR.out).mono ?_
  rintro e w2 ⟨rfl,b1⟩
  have HG:=Lib.hid (HG.out.trans (Gr.of (R:=R) b1))
  have HR:=Lib.hid (HR.out.kept b1)
  clear b1
  go_wp2_with fail
  refine (HIN.out _).mono ?_
  rintro e w9 ⟨rfl,rfl⟩
  have HR:Hid (Rr R w2 s dv (c::t) d f):=Lib.hid (by have:=HR.out;rw [HRE.out] at this;exact this)
  have HX:=Lib.hid (scalar_q HR.out)
  go_wp2_with fail
  refine HX.out.mono ?_
  rintro e w5 ⟨g,rfl,hg,hs,h1,g1⟩
  have HR:=Lib.hid h1
  have HS:=Lib.hid (And.intro hs (Nat.le_trans HG.out.size hg))
  have HG:=Lib.hid (HG.out.trans g1)
  clear h1 g1 hs hg HX
  go_wp2
  go_returns
  exact ⟨some ⟨g,0,none⟩,1,[(c,c)],0,rfl,by simp,wide_pt _ HSC.out,HS.out.1,(fun h=>by cases h),fun a h=>(by cases h;exact HS.out.2),(fun _=>.inr ⟨_,rfl⟩),.inl rfl,fun p x h=>(by rw [HO.out] at h;cases h;exact ⟨rfl,rfl⟩),by rw [HO.out];exact HR.out,HG.out⟩
end
end Go.Proofs.YtioahgklplbinaaGreatDoor
