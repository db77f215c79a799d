/- ZBuild, ZScal, ZLong, in one text. -/
import Derived.Test.YtioahgklplbinaaGreatDoorNBa
import Derived.Test.YtioahgklplbinaaGreatDoorGC
import Derived.Deep.RegionWith
import Derived.RegionTactic
import Derived.Test.YtioahgklplbinaaGreatDoorGA
import Derived.Test.YtioahgklplbinaaGreatDoorNKit
import Derived.Laws.AppendOwnNone
import Derived.Test.YtioahgklplbinaaGreatDoorTC
import Derived.Test.YtioahgklplbinaaGreatDoorTA
/- The law's build: a machine of patterns, and whether there is one. -/
namespace Go.Proofs.YtioahgklplbinaaGreatDoor
open Go.RowKit Go.Shelf Go.Maps SetM PropsM RxM WrM NfaM SimM
theorem results_lbuild {tmps : Array Value} {w : World} {B : Nat} {a b c : Value} {z : Bool} (h1 : tmps.getD 2 undef = .pointer (some ⟨B, 0, none⟩)) (h2 : tmps.getD 3 undef = .bool z)
  (b1:w.heap[B]? = some (.cells #[a,b,c] 29 (0,0))) :
  (results Tryz.f16 tmps).run Tryz.prog w=.ok (.tuple #[.agg #[a,b,c],.bool z]) w:=by
 have h1':tmps[2]?.getD undef=.pointer (some ⟨B,0,none⟩):=by simpa using h1
 have h2':tmps[3]?.getD undef=.bool z:=by simpa using h2
 have q0:w.cell? ⟨B,0,none⟩=some a:=cell_of_row w _ 0 _ _ _ b1
 have q1:w.cell? ⟨B,1,none⟩=some b:=cell_of_row w _ 1 _ _ _ b1
 have q2:w.cell? ⟨B,2,none⟩=some c:=cell_of_row w _ 2 _ _ _ b1
 simp [results,Tryz.results16,h1',h2',go_sem,q0,q1,q2]
theorem ret_lbuild {Q : Ending → World → Prop} {tmps : Array Value} {w1 : World} {B : Nat} {x y z a b c : Value} {n : Bool} (h1 : tmps.getD 2 undef = .pointer (some ⟨B, 0, none⟩)) (h2 : tmps.getD 3 undef = .bool n)
  (h3:w1.heap[B]? = some (.cells #[x,y,z] 29 (0,0))) (hQ:Q (.returned (.tuple #[.agg #[a,b,c],.bool n])) (put3 w1 B a b c)) :
  bodyPost Tryz.prog Tryz.f16 Q .ret { tmps:=tmps,defers:=[] } (((w1.setCell ⟨B,0,none⟩ a).setCell ⟨B,1,none⟩ b).setCell ⟨B,2,none⟩ c) :=
 bodyPost_ret (results_lbuild h1 h2 (put3_heap a b c h3)) rfl hQ
def LB (W':World) (us:List Ns) (v b:Value):Prop:=(whyF us=0∧b=.bool true∧∃ p0 p1 p2 c0 c1 c2 n,v=.agg #[.slice p0 n c0,.slice p1 n c1,.slice p2 n c2]∧MachV W' p0 p1 p2 n n n (buildF us 0 (stF NfaM.none0))∧sndM (buildF us 0 (stF NfaM.none0))=true)∨(whyF us≠0∧b=.bool false∧v=.agg #[.slice none 0 0,.slice none 0 0,.slice none 0 0])
theorem blt_mach {W:World} {us:List Ns} {v:Value} (h:BltM W us v) (hy:whyF us=0):∃ p0 p1 p2 c0 c1 c2 n,v=.agg #[.slice p0 n c0,.slice p1 n c1,.slice p2 n c2]∧MachV W p0 p1 p2 n n n (buildF us 0 (stF NfaM.none0))∧sndM (buildF us 0 (stF NfaM.none0))=true:=by
 obtain ⟨p0,c0,p1,c1,p2,c2,e,hm⟩:=h.form
 obtain ⟨hi,h1,h2,h3,h4⟩:=built_ok hy
 refine ⟨p0,p1,p2,c0,c1,c2,_,e,⟨hm,hi.wf.1.symm,hi.wf.2.symm,rfl,⟨fun i hlt=>⟨?_,h.sets i hlt⟩,fun i hlt=>?_,fun i hlt e he s hs=>?_⟩⟩,hi.snd h1 h2⟩
 ·have:=row_le (buildF us 0 (stF NfaM.none0)).ed i;unfold eds at h4;omega
 ·have:=row_le (buildF us 0 (stF NfaM.none0)).fr i;unfold frs at h3;omega
 ·obtain ⟨row, h5, h6⟩ := mem_getD he
  have:=norml_wide (hi.ed row h5 e h6).2.2 s hs
  omega
set_option maxRecDepth 100000 in
set_option maxHeartbeats 16000000 in
theorem lbuild_c {W : World} {P : Option Addr} {us : List Ns} {n pc : Nat} (HPB : Hid (∀ U, Below W.heap.size W U → Calls Tryz.prog 8 #[.slice P n pc] U (PBP U us))) :
  Calls Tryz.prog 16 #[.slice P n pc] W fun e W'=>∃ v b,e=.returned (.tuple #[v,b])∧LB W' us v b∧Below W.heap.size W W':=by
 obtain ⟨V,hV⟩:∃ V,V=W.alloc (.cells #[.slice none 0 0,.slice none 0 0,.slice none 0 0] 29):=⟨_,rfl⟩
 have hb:Below W.heap.size W V:=by rw [hV];exact (Below.refl _ _).alloc (Nat.le_refl _) _
 have x0:V.heap[W.heap.size]? = some (.cells #[.slice none 0 0,.slice none 0 0,.slice none 0 0] 29 (0,0)):=by rw [hV];exact heap_alloc_new W _
 have HB:=Lib.hid hb
 have HX:=Lib.hid x0
 have HLT:=Lib.hid (Array.getElem?_eq_some_iff.1 x0).1
 have HP:=Lib.hid (HPB.out V hb)
 clear hb x0 HPB
 go_enter Tryz.func16,Tryz.ntmps16
 go_upto_region 1 with fail
 rw [← hV]
 clear hV
 go_wp2_with fail
 refine HP.out.mono ?_
 rintro e w1 ⟨v,rfl,h0,h1,b1⟩
 by_cases hy:whyF us=0
 ·obtain ⟨R, B, hm, rfl, hR0, hB0⟩ := h0 hy
  obtain ⟨p0,p1,p2,c0,c1,c2,k,e0,hmv,hs⟩:=blt_mach hm.blt hy
  rw [hy,e0]
  obtain ⟨X,hX⟩:∃ X,X=w1.alloc (.cells #[.slice p0 k c0,.slice p1 k c1,.slice p2 k c2] 29):=⟨_,rfl⟩
  have hbX:Below w1.heap.size w1 X:=by rw [hX];exact (Below.refl _ _).alloc (Nat.le_refl _) _
  have x1:X.heap[w1.heap.size]? = some (.cells #[.slice p0 k c0,.slice p1 k c1,.slice p2 k c2] 29 (0,0)):=by rw [hX];exact heap_alloc_new w1 _
  have HBX:=Lib.hid (b1.trans (hbX.mono b1.size))
  have HBC:=Lib.hid (fun (U:World) (hU:Below X.heap.size X U)=>(cells3 ((hU.block _ (Array.getElem?_eq_some_iff.1 x1).1).trans x1)).1)
  have HBR:=Lib.hid (fun (U:World) (hU:Below X.heap.size X U)=>((hU.block _ (Nat.lt_of_lt_of_le HLT.out HBX.out.size)).trans ((HBX.out.block _ HLT.out).trans HX.out)))
  have HFN:Hid (∀ U,Below X.heap.size X U→LB (put3 U W.heap.size (.slice p0 k c0) (.slice p1 k c1) (.slice p2 k c2)) us (.agg #[.slice p0 k c0,.slice p1 k c1,.slice p2 k c2]) (.bool true)∧Below W.heap.size W (put3 U W.heap.size (.slice p0 k c0) (.slice p1 k c1) (.slice p2 k c2))):=Lib.hid (fun U hU=>by
   have hbU:Below w1.heap.size w1 U:=hbX.trans (hU.mono hbX.size)
   have hmU:=hm.kept hbU.size (fun k hk=>hbU.block k (hk.elim (fun h=>hm.fam.lt h) (fun h=>hm.bl k h)))
   have hk:=hmU.kept (W':=put3 U W.heap.size (.slice p0 k c0) (.slice p1 k c1) (.slice p2 k c2)) (by rw [put3_size];exact Nat.le_refl _) (fun k' hk=>put3_other _ _ _ _ _ _ (fun e=>by
    have:=HLT.out
    rcases hk with hk | hk
    ·have:=hR0 k' hk;omega
    ·have:=(hB0 k' hk).1;omega))
   have hbm:=hk.blt
   rw [e0] at hbm
   have hWU:=HB.out.trans ((b1.trans (hbU.mono b1.size)).mono HB.out.size)
   exact ⟨.inl ⟨hy,rfl,blt_mach hbm hy⟩,⟨hWU.os,hWU.tape,hWU.output,by rw [put3_size];exact hWU.size,fun k' hk'=>by rw [put3_other _ _ _ _ _ _ (by omega)];exact hWU.block k' hk'⟩⟩)
  have HSN:=Lib.hid (fun (U:World) (hU:Below X.heap.size X U)=>(by have:=((hmv.step hbX).step hU).sound (c0:=c0) (c1:=c1) (c2:=c2);rw [hs] at this;exact this:Calls Tryz.prog 12 #[.agg #[.slice p0 k c0,.slice p1 k c1,.slice p2 k c2]] U fun e W'=>e=.returned (.bool true)∧Below U.heap.size U W'))
  clear h0 h1 b1 hm e0 hmv hs hbX x1 HP hy hR0 hB0
  go_upto_region 2 with fail
  rw [← hX]
  clear hX
  have hr:Below X.heap.size X X.drew:=(Below.refl _ _).drew
  obtain ⟨a0,a1,a2⟩:=HBC.out _ (Below.refl _ _)
  obtain ⟨⟨d0,d1,d2⟩,d3,d4,d5⟩:=cells3 (HBR.out _ (Below.refl _ _))
  go_region_with (first
   | (go_at_call 12;(refine (HSN.out _ hr).mono ?_);rintro ee w6 ⟨rfl,b6⟩;have hr:=hr.trans (b6.mono hr.size);clear b6;obtain ⟨f0,f1,f2⟩:=HBC.out _ hr;obtain ⟨⟨g0,g1,g2⟩,g3,g4,g5⟩:=cells3 (HBR.out _ hr)))
  all_goals
   clear a0 a1 a2 d0 d1 d2 d3 d4 d5 f0 f1 f2 g0 g1 g2 g3 g4 g5
   go_wp2_with fail
   refine ret_lbuild rfl rfl (HBR.out _ hr) ?_
   exact ⟨_,_,rfl,(HFN.out _ hr).1,(HFN.out _ hr).2⟩
 ·have hv := h1 hy
  subst hv
  obtain ⟨X,hX⟩:∃ X,X=w1.alloc (.cells #[.slice none 0 0,.slice none 0 0,.slice none 0 0] 29):=⟨_,rfl⟩
  have hbX:Below w1.heap.size w1 X:=by rw [hX];exact (Below.refl _ _).alloc (Nat.le_refl _) _
  have x1:X.heap[w1.heap.size]? = some (.cells #[.slice none 0 0,.slice none 0 0,.slice none 0 0] 29 (0,0)):=by rw [hX];exact heap_alloc_new w1 _
  have HBX:=Lib.hid (b1.trans (hbX.mono b1.size))
  have HXX:Hid (X.heap[W.heap.size]? = some (.cells #[.slice none 0 0,.slice none 0 0,.slice none 0 0] 29 (0,0))):=Lib.hid ((HBX.out.block _ HLT.out).trans HX.out)
  have HFN:Hid (LB (put3 X.drew W.heap.size (.slice none 0 0) (.slice none 0 0) (.slice none 0 0)) us (.agg #[.slice none 0 0,.slice none 0 0,.slice none 0 0]) (.bool false)∧Below W.heap.size W (put3 X.drew W.heap.size (.slice none 0 0) (.slice none 0 0) (.slice none 0 0))):=Lib.hid (by
   have hWU:Below W.heap.size W X.drew:=(HB.out.trans (HBX.out.mono HB.out.size)).drew
   exact ⟨.inr ⟨hy,rfl,rfl⟩,⟨hWU.os,hWU.tape,hWU.output,by rw [put3_size];exact hWU.size,fun k' hk'=>by rw [put3_other _ _ _ _ _ _ (by omega)];exact hWU.block k' hk'⟩⟩)
  obtain ⟨⟨a0,a1,a2⟩,_⟩:=cells3 x1
  obtain ⟨⟨d0,d1,d2⟩,d3,d4,d5⟩:=cells3 HXX.out
  obtain ⟨y,hyy⟩:∃ y:Int,y=((whyF us:Nat):Int):=⟨_,rfl⟩
  rw [← hyy]
  have d9:(y == 0)=false:=by rw [beq_eq_false_iff_ne];intro e;apply hy;omega
  clear h0 h1 b1 hbX x1 HP hy hyy
  go_upto_region 2 with fail
  rw [← hX]
  clear hX
  go_region
  all_goals
   clear a0 a1 a2 d0 d1 d2 d3 d4 d5 d9
   go_wp2_with fail
   refine ret_lbuild rfl rfl (show X.drew.heap[W.heap.size]? = _ from HXX.out) ?_
   exact ⟨_,_,rfl,HFN.out.1,HFN.out.2⟩
end Go.Proofs.YtioahgklplbinaaGreatDoor

/- The law's row of scalars: what it is does not matter, but that it is short. -/
namespace Go.Proofs.YtioahgklplbinaaGreatDoor
open Go.RowKit Go.Shelf Go.Maps SetM PropsM RxM WrM NfaM SimM
set_option maxRecDepth 100000 in
set_option maxHeartbeats 8000000 in
theorem scal8_c {W:World} {A:Option Addr} {n ca:Nat} {cs:List Int} (hU:U8s W.heap.size W A cs) (hn:n=cs.length):Calls Tryz.prog 15 #[.slice A n ca] W fun e W'=>∃ v s,e=.returned v∧OwI W' W.heap.size v s∧s.length≤14∧Below W.heap.size W W':=by
 obtain ⟨i0,hi,hz0,hz1,hz2⟩:=info_parts infoIn
 obtain ⟨V,hV⟩:∃ V,V=W.alloc (.cells #[.int .i64 97,.int .i64 98,.int .i64 99,.int .i64 75,.int .i64 107,.int .i64 120,.int .i64 50,.int .i64 10,.int .i64 233,.int .i64 945,.int .i64 8490,.int .i64 46,.int .i64 122,.int .i64 76] 3):=⟨_,rfl⟩
 have hb0:Below W.heap.size W V:=by rw [hV];exact (Below.refl _ _).alloc (Nat.le_refl _) _
 have x0:V.heap[W.heap.size]? = some (.cells #[.int .i64 97,.int .i64 98,.int .i64 99,.int .i64 75,.int .i64 107,.int .i64 120,.int .i64 50,.int .i64 10,.int .i64 233,.int .i64 945,.int .i64 8490,.int .i64 46,.int .i64 122,.int .i64 76] 3 (0,0)):=by rw [hV];exact heap_alloc_new W _
 have HC:Hid (∀ U,Below V.heap.size V U→∀ k:Nat,k < 14→∃ y:Int,U.cell? ⟨W.heap.size,k,none⟩=some (.int .i64 y)):=Lib.hid (fun U hU k hk=>by
  have h:=(hU.block _ (Array.getElem?_eq_some_iff.1 x0).1).trans x0
  match k,hk with
  | 0,_=>exact ⟨_,cell_of_row U _ 0 _ _ _ h⟩
  | 1,_=>exact ⟨_,cell_of_row U _ 1 _ _ _ h⟩
  | 2,_=>exact ⟨_,cell_of_row U _ 2 _ _ _ h⟩
  | 3,_=>exact ⟨_,cell_of_row U _ 3 _ _ _ h⟩
  | 4,_=>exact ⟨_,cell_of_row U _ 4 _ _ _ h⟩
  | 5,_=>exact ⟨_,cell_of_row U _ 5 _ _ _ h⟩
  | 6,_=>exact ⟨_,cell_of_row U _ 6 _ _ _ h⟩
  | 7,_=>exact ⟨_,cell_of_row U _ 7 _ _ _ h⟩
  | 8,_=>exact ⟨_,cell_of_row U _ 8 _ _ _ h⟩
  | 9,_=>exact ⟨_,cell_of_row U _ 9 _ _ _ h⟩
  | 10,_=>exact ⟨_,cell_of_row U _ 10 _ _ _ h⟩
  | 11,_=>exact ⟨_,cell_of_row U _ 11 _ _ _ h⟩
  | 12,_=>exact ⟨_,cell_of_row U _ 12 _ _ _ h⟩
  | 13,_=>exact ⟨_,cell_of_row U _ 13 _ _ _ h⟩)
 have HU:=Lib.hid (And.intro (hU.below hb0) hn)
 have HB0:=Lib.hid hb0
 clear hU hn hb0 x0
 go_enter Tryz.func15,Tryz.ntmps15
 go_upto_region 2 with fail
 rw [← hV]
 clear hV
 go_wp2_with fail
 obtain ⟨cnt,hcnt⟩:∃ cnt,cnt=min n 14:=⟨_,rfl⟩
 go_loopg [4,5] cnt (fun gk s4 s5 wx=>∃ (r:Nat) (v:Value) (s:List Int),r+gk=cnt∧s5=.int .i64 r∧v=s4∧Hid (OwI wx V.heap.size v s∧s.length=r)∧Hid (Below V.heap.size V wx))
 case atStart=>exact ⟨0,_,[],by omega,rfl,rfl,Lib.hid ⟨OwI.nil _ _,rfl⟩,Lib.hid (Below.refl _ _)⟩
 case round =>
  obtain ⟨r,v3,s,hrg,rfl,rfl,HO,HB⟩:=hrel
  cases gk with
  | zero =>
   obtain rfl:r=cnt:=by omega
   have HE:=Lib.hid (HO.out.1.low HB0.out.size)
   have HL:Hid (s.length≤14):=Lib.hid (by rw [HO.out.2];omega)
   have HBE:=Lib.hid (HB0.out.trans (HB.out.mono HB0.out.size))
   by_cases hql:r < n
   ·have g1 : (r : Int) < (n : Int) := by omega
    have g2:¬ (r:Int) < 14:=by omega
    clear hcnt
    go_wp2_with fail
    go_ret
    exact ⟨_,rfl,s,HE.out,HL.out,HBE.out⟩
   ·have g1 : ¬ (r : Int) < (n : Int) := by omega
    clear hcnt
    go_wp2_with fail
    go_ret
    exact ⟨_,rfl,s,HE.out,HL.out,HBE.out⟩
  | succ gk =>
   have hlt:(r:Int) < (n:Int):=by omega
   have hlt2:(r:Int) < 14:=by omega
   have hrl:r < cs.length:=by have:=HU.out.2;omega
   have h0:(0:Int)≤(r:Int):=by omega
   have hwr:wrap64 ((r:Int)+1)=((r+1:Nat):Int):=by rw [IntWalk.wrap64_in _ (by omega)];omega
   obtain ⟨g,o,rfl,hg,hc⟩:=HU.out.1.2 (by intro e;rw [e] at hrl;cases hrl)
   have c1:=(HB.out.cell (p:=⟨g,o+r,none⟩) (Nat.lt_of_lt_of_le hg HB0.out.size)).trans (hc r hrl)
   have hxb:=HU.out.1.1 cs[r] (List.getElem_mem hrl)
   obtain ⟨x,hx⟩:∃ x,x=cs[r]:=⟨_,rfl⟩
   rw [← hx] at c1 hxb
   obtain ⟨hx0,hx1⟩:=hxb
   obtain ⟨y,c2⟩:=HC.out _ HB.out (x % 14).toNat (by omega)
   have q0:0≤x % 14:=by omega
   have q1:x % 14 < 14:=by omega
   have hown:=HO.out.1
   have HLN:=Lib.hid HO.out.2
   have hle:s.length≤14:=by rw [HO.out.2];omega
   unfold OwI at hown
   have hb:=HB.out
   have hwz:=hb.size
   clear hc hg hx hrl hcnt
   go_wp2_with (at_builtin;refine wpList_append_own _ rfl _ _ 27 rfl V.heap.size 3 i0 (.int .i64 0) 1 8 Tryz.underlying27 hi hz0 hz1 hz2 rfl (by decide) _ _ _ rfl (hown.alloc _) ⟨wr.heap.size,0,none⟩ 1 1 [.int .i64 y] rfl rfl (cell_news _ _ _) (by simp [Value.oneCell']) (by unfold maxLen;omega) (by omega) (by rw [World.size_alloc];omega) ?_;intro v' w2 hown' hgrow _)
   go_roundg gk
   case measure=>omega
   case rel=>exact ⟨r+1,_,s++[y],by omega,by first | rw [hwr] | rfl | simp,rfl,Lib.hid ⟨by unfold OwI;rw [List.map_append,List.length_append];exact hown',by rw [List.length_append,HLN.out];rfl⟩,Lib.hid ((hb.alloc hwz _).grown hgrow (by rw [World.size_alloc];omega) (fun j hj=>(hown.lt j hj).1))⟩
section
open Go.ChangeShapes Go.WideShapes Go.ChangeAt
variable {H:Type} {enc:TypeId×Value→H} {W:World} {base:Nat}
set_option maxRecDepth 100000 in
theorem open_u8b {v : Value} {d : DataW H} {p : List MemPlace} (hv : Value.okWide Tryz.prog W .any base 50 v) (h : DataW.Trod enc Tryz.prog W 0 (fun _ => true) true 50 v d p) :
  ∃ A cs ca,v=.slice A (List.length cs) ca∧U8s W.heap.size W A cs:=by
 obtain ⟨a0,len,cap,rfl⟩:=okWide_slice Tryz.underlying50 hv
 obtain ⟨fuel,hf⟩:=h
 obtain ⟨l,A,ca,e,hr⟩:=u8s_trod hf
 simp [Value.cells] at e
 obtain ⟨rfl,rfl,rfl⟩:=e
 exact ⟨_,l,_,rfl,hr⟩
end
end Go.Proofs.YtioahgklplbinaaGreatDoor

/- The walk of SimLongest. -/
namespace Go.Proofs.YtioahgklplbinaaGreatDoor
open Go.RowKit Go.Shelf Go.Maps SetM PropsM RxM WrM NfaM SimM
theorem why_shp {us:List Ns} (h:whyF us=0):∀ u∈us,Shp u:=fun u hu=>by
 have h2:SndL us:=by
  refine Classical.byContradiction (fun h2=>?_)
  rw [why_bad h2] at h
  cases h
 exact (h2 u hu).1
def InB (us:List Ns) (s:List Int) (r a:Nat) (b:Int) (k a2:Nat) (b2:Int):Prop:=(a2=a∧b2=b∧k≤s.length∧∀ h:r < us.length,∀ k',k < k'→k'≤s.length→¬ Lg us[r] (s.take k'))∨(a2=k+1∧Bs us s (r+1) a2 b2)
theorem inb_start (us:List Ns) (s:List Int) (r a:Nat) (b:Int):InB us s r a b s.length a b:= .inl ⟨rfl,rfl,Nat.le_refl _,fun _ k' h1 h2=>by omega⟩
theorem inb_end {us:List Ns} {s:List Int} {r a:Nat} {b:Int} {k a2:Nat} {b2:Int} (h:InB us s r a b k a2 b2) (hB:Bs us s r a b) (hr:r < us.length) (hk:¬ a2 < k):Bs us s (r+1) a2 b2:=by
 rcases h with ⟨rfl,rfl,h1,h2⟩ | ⟨_,h⟩
 ·exact hB.no hr (fun k' h3 h4=>h2 hr k' (by omega) h4)
 ·exact h
theorem inb_yes {us:List Ns} {s:List Int} {r a:Nat} {b:Int} {k a2:Nat} {b2:Int} (h:InB us s r a b (k+1) a2 b2) (hB:Bs us s r a b) (hr:r < us.length) (hk:a2 < k+1) (hl:Lg us[r] (s.take (k+1))):InB us s r a b k (k+1) (r:Int):=by
 rcases h with ⟨rfl,rfl,h1,h2⟩ | ⟨h,_⟩
 ·exact .inr ⟨rfl,hB.yes hr hk h1 hl (h2 hr)⟩
 ·omega
theorem inb_no {us:List Ns} {s:List Int} {r a:Nat} {b:Int} {k a2:Nat} {b2:Int} (h:InB us s r a b (k+1) a2 b2) (hr:r < us.length) (hk:a2 < k+1) (hl:¬ Lg us[r] (s.take (k+1))):InB us s r a b k a2 b2:=by
 rcases h with ⟨rfl,rfl,h1,h2⟩ | ⟨h,_⟩
 ·refine .inl ⟨rfl, rfl, by omega, fun _ k' h3 h4 => ?_⟩
  by_cases e:k'=k+1
  ·subst e;exact hl
  ·exact h2 hr k' (by omega) h4
 ·omega
theorem inb_le {us:List Ns} {s:List Int} {r a:Nat} {b:Int} {k a2:Nat} {b2:Int} (h:InB us s r a b k a2 b2) (hk:a2 < k):k≤s.length:=by
 rcases h with ⟨_,_,h1,_⟩ | ⟨h,_⟩
 ·exact h1
 ·omega
theorem pl_front (L:List Int→Prop) (s:List Int) {k:Nat} (hk:k≤s.length):Pl L s 0 k↔L (s.take k):=by
 unfold Pl
 rw [List.drop_zero]
 exact ⟨fun h=>h.2.2,fun h=>⟨Nat.zero_le _,hk,h⟩⟩
set_option maxRecDepth 100000 in
set_option maxHeartbeats 16000000 in
theorem simLongest_any {W : World} {A B : Option Addr} {n ca k cb : Nat} {rows : List (List Int)} {cs : List Int} (hU : UssR W A rows) (hn : n = rows.length) (h8 : n ≤ 9223372036854775807) (hC : U8s W.heap.size W B cs) (hk : k = cs.length) (hA : Ar W) :
  Calls Tryz.prog 6 #[.slice A n ca,.slice B k cb] W fun e W'=>e=.returned (.bool true)∧Below W.heap.size W W':=by
 have HLS:=Lib.hid (list_f (ca:=ca) hU hn h8)
 have HA:=Lib.hid hA
 have HKN:=Lib.hid (fun (U:World) (hU:Below W.heap.size W U)=>known9 (W:=U) ⟨(hA.step hU).areas,(hA.step hU).pos⟩)
 have HSC:=Lib.hid (fun (U:World) (hU:Below W.heap.size W U)=>scal8_c (W:=U) (ca:=cb) ((hC.below hU).up hU.size) hk)
 clear hU hn hA hC hk h8
 go_enter Tryz.func6,Tryz.ntmps6
 go_wp2_with fail
 refine HLS.out.mono ?_
 rintro e w1 ⟨v,rfl,hrow,b1⟩
 obtain ⟨P1,d1,us,rfl,hxl,_,_⟩:=list_x hrow b1
 obtain ⟨l1,hl1⟩:∃ l1,l1=us.length:=⟨_,rfl⟩
 rw [← hl1]
 have HXL:=Lib.hid hxl
 have HL1:=Lib.hid hl1
 have hl8:l1≤1000:=by rw [hl1];exact hxl.l8
 have HB1:=Lib.hid b1
 clear hrow b1 hxl HLS hl1
 go_wp2_with fail
 refine (HSC.out w1 HB1.out).mono ?_
 rintro e w2 ⟨v2,s,rfl,hO2,hs14,b2⟩
 obtain ⟨Q2,k2,rfl,hI2,-,-,-⟩:=hO2.form
 obtain ⟨ls,hls⟩:∃ ls,ls=s.length:=⟨_,rfl⟩
 rw [← hls]
 have HLS:=Lib.hid (And.intro hls (show ls≤14 by omega))
 have HI2:=Lib.hid hI2
 have HB2:=Lib.hid (HB1.out.trans (b2.mono HB1.out.size))
 have HW12:=Lib.hid b2
 have HBU:=Lib.hid (lbuild_c (W:=w2) (P:=P1) (us:=us) (n:=l1) (pc:=d1) (Lib.hid (fun U hU=>pbuild_c (W:=U) (HXL.out.nb.step (HW12.out.trans (hU.mono HW12.out.size))).toL (fun hne=>by
  obtain ⟨g,e1,e2⟩:=HXL.out.al hne
  exact ⟨g,e1,e2.step (HW12.out.trans (hU.mono HW12.out.size))⟩) (HA.out.step (HB2.out.trans (hU.mono HB2.out.size))) HL1.out (by omega))))
 clear hO2 hs14 b2 hI2 hls
 go_wp2_with fail
 refine HBU.out.mono ?_
 rintro e w3 ⟨v,b,rfl,hLB,b3⟩
 have HB3:=Lib.hid (HB2.out.trans (b3.mono HB2.out.size))
 have HW3:=Lib.hid b3
 clear b3 HBU
 rcases hLB with ⟨hy,rfl,p0,p1,p2,c0,c1,c2,nn,rfl,hmv,hsn⟩ | ⟨hy,rfl,rfl⟩
 ·obtain ⟨X, hX⟩ : ∃ X, X = w3.alloc (.cells #[.slice p0 nn c0, .slice p1 nn c1, .slice p2 nn c2] 29) := ⟨_, rfl⟩
  have hbX:Below w3.heap.size w3 X:=by rw [hX];exact (Below.refl _ _).alloc (Nat.le_refl _) _
  have x1:X.heap[w3.heap.size]? = some (.cells #[.slice p0 nn c0,.slice p1 nn c1,.slice p2 nn c2] 29 (0,0)):=by rw [hX];exact heap_alloc_new w3 _
  have HBC:=Lib.hid (fun (U:World) (hU:Below X.heap.size X U)=>(cells3 ((hU.block _ (Array.getElem?_eq_some_iff.1 x1).1).trans x1)).1)
  have HMV:=Lib.hid (fun (U:World) (hU:Below X.heap.size X U)=>(hmv.step hbX).step hU)
  have HBX:=Lib.hid (HB3.out.trans (hbX.mono HB3.out.size))
  have HW1X:=Lib.hid ((HW12.out.trans (HW3.out.mono HW12.out.size)).trans (hbX.mono (Nat.le_trans HW12.out.size HW3.out.size)))
  have HIX:=Lib.hid (fun (U:World) (hU:Below X.heap.size X U)=>InR.step (InR.step (InR.step HI2.out HW3.out) hbX) hU)
  have HSH:=Lib.hid (why_shp hy)
  have HSN:=Lib.hid hsn
  clear hmv hbX x1 hy hsn
  go_upto_region 4 with fail
  rw [← hX]
  clear hX
  go_wp2_with fail
  refine (HKN.out X HBX.out).mono ?_
  rintro e w4 ⟨rfl,b4⟩
  have HX4:=Lib.hid b4
  clear b4
  go_wp2_with fail
  go_loopg [9,10,11,12,13] l1 (fun gk s9 s10 s11 s12 s13 wx=>∃ (r a:Nat) (b:Int),r+gk=l1∧s11=.int .i64 r∧s9=.int .i64 a∧s10=.int .i64 b∧Hid (Bs us s r a b)∧Hid (Below X.heap.size X wx))
  case atStart=>exact ⟨0,0,-1,by omega,rfl,rfl,rfl,Lib.hid (Bs.start us s),HX4⟩
  case round =>
   obtain ⟨r,a,b,hrg,rfl,rfl,rfl,HBS,HW⟩:=hrel
   clear HX4
   cases gk with
   | zero =>
    obtain rfl:r=l1:=by omega
    have hlt:¬ (r:Int) < (r:Int):=by omega
    have HLN:Hid (Lng (buildF us 0 (stF NfaM.none0)) s s.length a b):=Lib.hid (Bs.lng HSH.out (by have:=HBS.out;rw [HL1.out] at this;exact this))
    have HG:=Lib.hid (plong_c (c0:=c0) (c1:=c1) (c2:=c2) (c:=k2) ⟨(HA.out.step (HBX.out.trans (HW.out.mono HBX.out.size))).areas,(HA.out.step (HBX.out.trans (HW.out.mono HBX.out.size))).pos⟩ (HMV.out _ HW.out) (HIX.out _ HW.out) HLS.out.1 (by have:=HLS.out.2;omega))
    obtain ⟨a0,a1,a2⟩:=HBC.out _ HW.out
    go_wp2_with fail
    refine HG.out.mono ?_
    rintro e w5 ⟨x,y,rfl,hg1,_,b5⟩
    obtain ⟨rfl,rfl⟩:=HLN.out.unique (hg1 HSN.out)
    have HE:=Lib.hid (HBX.out.trans ((HW.out.trans (b5.mono HW.out.size)).mono HBX.out.size))
    clear hg1 b5 HG a0 a1 a2
    go_wp2_with fail
    go_ret
    exact ⟨rfl,HE.out⟩
   | succ gko =>
    have hlt:(r:Int) < (l1:Int):=by omega
    have h0:(0:Int)≤(r:Int):=by omega
    have hwr:wrap64 ((r:Int)+1)=((r+1:Nat):Int):=by rw [IntWalk.wrap64_in _ (by omega)];omega
    have hru:r < us.length:=by have:=HL1.out;omega
    obtain ⟨g,f0,f1,f2,f3,f4,rfl,hg,hv,r0,r1,r2,r3,r4⟩:=HXL.out.nb.toL r hru
    have hW1:Below w1.heap.size w1 wr:=HW1X.out.trans (HW.out.mono HW1X.out.size)
    have q0:=(hW1.cell (p:=⟨g,r*5,none⟩) hg).trans r0
    have q1:=(hW1.cell (p:=⟨g,r*5+1,none⟩) hg).trans r1
    have q2:=(hW1.cell (p:=⟨g,r*5+2,none⟩) hg).trans r2
    have q3:=(hW1.cell (p:=⟨g,r*5+3,none⟩) hg).trans r3
    have q4:=(hW1.cell (p:=⟨g,r*5+4,none⟩) hg).trans r4
    have htl:=tells_c (s:=s) (c:=k2) (by have:=HLS.out;omega) (HSH.out _ (List.getElem_mem hru)) (hv.step hW1) (HIX.out _ HW.out) HLS.out.1
    obtain ⟨N,hN⟩:∃ N:Nat,N=ls+1:=⟨_,rfl⟩
    rw [← hN] at htl
    have HTL:=Lib.hid htl
    have HN:=Lib.hid hN
    clear htl hN
    have HRU:=Lib.hid hru
    clear hg hv r0 r1 r2 r3 r4 hW1
    go_wp2_with fail
    refine HTL.out.mono ?_
    rintro e w5 ⟨gt,rfl,ht,b5⟩
    have HT:=Lib.hid ht
    have HW5:=Lib.hid (HW.out.trans (b5.mono HW.out.size))
    clear ht b5 q0 q1 q2 q3 q4 HTL
    go_wp2_with fail
    go_loopg [9,10,13] ls (fun gk s9 s10 s13 wx=>∃ (a2:Nat) (b2:Int),s13=.int .i64 gk∧s9=.int .i64 a2∧s10=.int .i64 b2∧gk≤ls∧Hid (InB us s r a b gk a2 b2)∧wx=w5)
    case atStart=>exact ⟨a,b,rfl,rfl,rfl,Nat.le_refl _,Lib.hid (by rw [HLS.out.1];exact inb_start us s r a b),rfl⟩
    case round =>
     obtain ⟨a2,b2,rfl,rfl,rfl,hgl,HIN,rfl⟩:=hrel
     by_cases hgo:a2 < gk
     ·obtain ⟨kk, rfl⟩ : ∃ x, gk = x + 1 := ⟨gk - 1, by omega⟩
      have hgt:(a2:Int) < ((kk+1:Nat):Int):=by omega
      have hk0:(0:Int)≤((kk+1:Nat):Int):=by omega
      have hkN:((kk+1:Nat):Int) < (N:Int):=by have:=HN.out;omega
      have hwk:wrap64 (((kk+1:Nat):Int) - 1)=(kk:Int):=by rw [IntWalk.wrap64_in _ (by have:=HLS.out.2;omega)];omega
      have c1:=mk01_cell HT.out (j:=kk+1) (by have:=HN.out;omega)
      have hks:=inb_le HIN.out hgo
      have HGL:Hid (kk≤ls):=Lib.hid (by omega)
      have hpf:=pl_front (Lg (us[r]'HRU.out)) s hks
      obtain ⟨K,hK⟩:∃ K:Nat,K=kk+1:=⟨_,rfl⟩
      by_cases ht:Lg (us[r]'HRU.out) (s.take (kk+1))
      ·have HIN2 := Lib.hid (inb_yes HIN.out HBS.out HRU.out hgo ht)
       rw [bt_yes (hpf.2 ht)] at c1
       clear hpf ht hks
       rw [← hK] at c1 hgt hk0 hkN hwk HIN2 ⊢
       have HK:=Lib.hid hK
       clear hK hgl hgo
       have d1:((1:Int) == 1)=true:=rfl
       go_wp2_with fail
       go_roundg kk
       case measure=>have:=HK.out;omega
       case rel=>exact ⟨K,(r:Int),by first | rw [hwk] | rfl | simp,rfl,rfl,HGL.out,HIN2,rfl⟩
      ·have HIN2 := Lib.hid (inb_no HIN.out HRU.out hgo ht)
       rw [bt_no (fun h=>ht (hpf.1 h))] at c1
       clear hpf ht hks
       rw [← hK] at c1 hgt hk0 hkN hwk ⊢
       have HK:=Lib.hid hK
       clear hK hgl hgo
       have d1:((0:Int) == 1)=false:=rfl
       go_wp2_with fail
       go_roundg kk
       case measure=>have:=HK.out;omega
       case rel=>exact ⟨a2,b2,by first | rw [hwk] | rfl | simp,rfl,rfl,HGL.out,HIN2,rfl⟩
     ·have hgt : ¬ (a2 : Int) < (gk : Int) := by omega
      have HBN:=Lib.hid (inb_end HIN.out HBS.out HRU.out hgo)
      go_wp2_with fail
      go_roundg gko
      case measure=>omega
      case rel=>exact ⟨r+1,a2,b2,by omega,by first | rw [hwr] | rfl | simp,rfl,rfl,HBN,HW5⟩
 ·obtain ⟨X, hX⟩ : ∃ X, X = w3.alloc (.cells #[.slice none 0 0, .slice none 0 0, .slice none 0 0] 29) := ⟨_, rfl⟩
  have hbX:Below w3.heap.size w3 X:=by rw [hX];exact (Below.refl _ _).alloc (Nat.le_refl _) _
  have HBX:=Lib.hid (HB3.out.trans (hbX.mono HB3.out.size))
  clear hbX
  go_upto_region 4 with fail
  rw [← hX]
  clear hX
  go_wp2_with fail
  refine (HKN.out X HBX.out).mono ?_
  rintro e w4 ⟨rfl,b4⟩
  have HE:=Lib.hid (HBX.out.trans (b4.mono HBX.out.size))
  clear b4
  go_wp2_with fail
  go_ret
  exact ⟨rfl,HE.out⟩
end Go.Proofs.YtioahgklplbinaaGreatDoor
