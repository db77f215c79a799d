/- QRd, QNum, in one text. -/
import Derived.Test.YtioahgklplbinaaGreatDoorRA
import Derived.BigQuiet
namespace Go.Proofs.YtioahgklplbinaaGreatDoor
open Go.RowKit Go.Shelf Go.Maps SetM PropsM RxM
open U.UtfM (wr enc)
structure Rr (R : Nat) (W : World) (s : ByteArray) (dv : Value) (rest : List Int) (d f : Nat) : Prop where
 blk:W.heap[R]? = some (.cells #[.string s,.int .i64 ((s.size:Int) - ((wr rest).length:Nat)),dv,.int .i64 d,.int .i64 f,.int .i64 0,.int .i64 0] 106 (0,0))
 tl:∃ pre,bs s=pre++wr rest
 sc:∀ c∈rest,U.UtfM.Sc c
 small:s.size≤200
structure Re (R : Nat) (W : World) (s : ByteArray) (dv : Value) (d f n : Nat) (z : Int) : Prop where
 blk:∃ i:Nat,i≤s.size∧W.heap[R]? = some (.cells #[.string s,.int .i64 i,dv,.int .i64 d,.int .i64 f,.int .i64 n,.int .i64 z] 106 (0,0))
 ne:n≠0∧n≤100
 small:s.size≤200
def Rs (R : Nat) (W : World) (s : ByteArray) (dv : Value) (d f : Nat) : Out Unit → Prop
 | .ok _ r=>Rr R W s dv r d f
 | .err n r=>Re R W s dv d f n ((s.size:Int) - ((wr r).length:Nat))
def lookS : Out Unit → Int
 | .ok _ r=>(wr r).headD (-1)
 | .err _ _=>-1
def takesB (p : List Int) : Out Unit → Bool
 | .ok _ r=>decide (p <+: r)
 | .err _ _=>false
def takesS (p : List Int) : Out Unit → Out Unit
 | .ok _ r=>if p <+: r then .ok () (r.drop p.length) else .ok () r
 | .err n r=>.err n r
def failS (n : Nat) (r0 : List Int) : Out Unit → Out Unit
 | .ok _ _=>.err n r0
 | .err n r=>.err n r
def mustS (p : List Int) : Out Unit → Out Unit
 | .ok _ r=>if p <+: r then .ok () (r.drop p.length) else .err 60 r
 | .err n r=>.err n r
section
variable {R:Nat} {W W':World} {s:ByteArray} {dv:Value} {rest:List Int} {d f n:Nat} {z:Int} {σ:Out Unit}
theorem Rr.lt (h:Rr R W s dv rest d f):R < W.heap.size:=(Array.getElem?_eq_some_iff.1 h.blk).1
theorem Re.lt (h:Re R W s dv d f n z):R < W.heap.size:=let ⟨_,_,e⟩:=h.blk;(Array.getElem?_eq_some_iff.1 e).1
theorem Rs.lt (h:Rs R W s dv d f σ):R < W.heap.size:=by
 cases σ with
 | ok u r=>exact Rr.lt h
 | err n r=>exact Re.lt h
theorem Rs.small (h:Rs R W s dv d f σ):s.size≤200:=by
 cases σ with
 | ok u r=>exact Rr.small h
 | err n r=>exact Re.small h
theorem Rr.kept (h:Rr R W s dv rest d f) (hb:Below W.heap.size W W'):Rr R W' s dv rest d f :=
 ⟨(hb.block R h.lt).trans h.blk,h.tl,h.sc,h.small⟩
theorem Re.kept (h:Re R W s dv d f n z) (hb:Below W.heap.size W W'):Re R W' s dv d f n z:=by
 have hl:=h.lt
 obtain ⟨i,hi,e⟩:=h.blk
 exact ⟨⟨i,hi,(hb.block R hl).trans e⟩,h.ne,h.small⟩
theorem Rs.kept (h:Rs R W s dv d f σ) (hb:Below W.heap.size W W'):Rs R W' s dv d f σ:=by
 cases σ with
 | ok u r=>exact Rr.kept h hb
 | err n r=>exact Re.kept h hb
theorem Rr.cell (h:Rr R W s dv rest d f) (i:Nat):W.cell? ⟨R,i,none⟩=(#[.string s,.int .i64 ((s.size:Int) - ((wr rest).length:Nat)),dv,.int .i64 d,.int .i64 f,.int .i64 0,.int .i64 0]:Array Value)[i]?:=cell_of_row W R i _ _ _ h.blk
theorem Rr.fz (h:Rr R W s dv rest d f) (i:Nat):W.frozen? ⟨R,i,none⟩=false:=by simp [World.frozen?,h.blk]
theorem Rr.len (h:Rr R W s dv rest d f):(wr rest).length≤s.size:=by
 obtain ⟨pre,hp⟩:=h.tl
 have:=congrArg List.length hp
 rw [bs_len,List.length_append] at this
 omega
theorem Rs.cells (h:Rs R W s dv d f σ):∃ (i n:Nat) (z:Int),i≤s.size∧n≤100∧(∀ V,Below W.heap.size W V→V.cell? ⟨R,0,none⟩=some (.string s)∧V.cell? ⟨R,1,none⟩=some (.int .i64 (i:Int))∧V.cell? ⟨R,2,none⟩=some dv∧V.cell? ⟨R,3,none⟩=some (.int .i64 d)∧V.cell? ⟨R,4,none⟩=some (.int .i64 f)∧V.cell? ⟨R,5,none⟩=some (.int .i64 n)∧V.cell? ⟨R,6,none⟩=some (.int .i64 z)∧∀ j,V.frozen? ⟨R,j,none⟩=false) ∧
  (∀ u r,σ=.ok u r→n=0∧z=0∧i+(wr r).length=s.size)∧(∀ e r,σ=.err e r→n=e∧n≠0∧z=(s.size:Int) - ((wr r).length:Nat)):=by
 cases σ with
 | ok u r =>
  have hl:=Rr.len h
  refine ⟨s.size - (wr r).length,0,0,by omega,by omega,fun V hV=>?_,fun u' r' e=>by cases e;exact ⟨rfl,rfl,by omega⟩,fun e r' e'=>by cases e'⟩
  have hk:=Rr.kept h hV
  have e:(((s.size - (wr r).length:Nat):Nat):Int)=(s.size:Int) - ((wr r).length:Nat):=by omega
  rw [e]
  exact ⟨hk.cell 0,hk.cell 1,hk.cell 2,hk.cell 3,hk.cell 4,hk.cell 5,hk.cell 6,hk.fz⟩
 | err e r =>
  obtain ⟨i,hi,hb⟩:=Re.blk h
  refine ⟨i,e,_,hi,(Re.ne h).2,fun V hV=>?_,fun u' r' e=>by (cases e),fun e r' e'=>by cases e';exact ⟨rfl,(Re.ne h).1,rfl⟩⟩
  have hk:=(hV.block R (Re.lt h)).trans hb
  have hc:=fun j=>cell_of_row V R j _ _ _ hk
  exact ⟨hc 0,hc 1,hc 2,hc 3,hc 4,hc 5,hc 6,fun j=>by simp [World.frozen?,hk]⟩
theorem Rr.byte (h : Rr R W s dv rest d f) (i m : Nat) (hi : i + (wr rest).length = s.size) (b : Int) (hb : (wr rest)[m]? = some b) :
  ∀ w,(Instr.index 9 (.string s) (.int .i64 ((i+m:Nat):Int))).run Tryz.prog w=.ok (.int .u8 b) w:=by
 intro w
 obtain ⟨pre,e⟩:=h.tl
 have hn:m < (wr rest).length:=(List.getElem?_eq_some_iff.1 hb).1
 have hl:=congrArg List.length e
 rw [bs_len,List.length_append] at hl
 have e1:i=pre.length:=by omega
 subst e1
 have hk:pre.length+m < s.data.toList.length:=by have:s.size=s.data.toList.length:=rfl;omega
 rw [str_ix s (pre.length+m) hk w]
 have e2:(bs s)[pre.length+m]? = some b:=by rw [e,List.getElem?_append_right (by omega),Nat.add_sub_cancel_left];exact hb
 have e3:(bs s)[pre.length+m]? = some ((s.data.toList[pre.length+m].toNat:Nat):Int):=by
  unfold bs
  rw [List.getElem?_map,List.getElem?_eq_getElem hk];rfl
 rw [e2] at e3
 cases e3
 rfl
theorem bs_rng (s:ByteArray):∀ b∈bs s,0≤b∧b≤255:=by
 intro b hb
 obtain ⟨x,_,rfl⟩:=List.mem_map.1 hb
 have:=x.toNat_lt
 omega
theorem Rr.rng (h:Rr R W s dv rest d f):∀ b∈wr rest,0≤b∧b≤255:=by
 obtain ⟨pre,e⟩:=h.tl
 intro b hb
 exact bs_rng s b (by rw [e];exact List.mem_append_right _ hb)
set_option maxRecDepth 100000 in
set_option maxHeartbeats 1000000 in
theorem see_q (h:Rs R W s dv d f σ):Calls Tryz.prog 100 #[.pointer (some ⟨R,0,none⟩)] W fun e W'=>e=.returned (.int .i64 (lookS σ))∧∃ m,W'=W.drewN m:=by
 have hsm:=h.small
 obtain ⟨i,n,z,hi,hn,hc,hok,herr⟩:=h.cells
 obtain ⟨c0,c1,_,_,_,c5,_,_⟩:=hc W (Below.refl _ _)
 clear hc
 have i0:(0:Int)≤(i:Int):=by omega
 cases σ with
 | err e r =>
  obtain ⟨he,hne,_⟩:=herr e r rfl
  have g:¬ (n:Int)=0:=by omega
  have g':((n:Int) == 0)=false:=by simp;omega
  have gb:((n:Int) != 0)=true:=by simp;omega
  clear he
  clear h hok herr
  go_enter Tryz.func100,Tryz.ntmps100
  go_wp2_with fail
  go_quiet (fail)
  go_wp2
  go_ret
  exact ⟨rfl,_,rfl⟩
 | ok u r =>
  obtain ⟨rfl,rfl,hl⟩:=hok u r rfl
  cases hw:wr r with
  | nil =>
   rw [hw] at hl
   have g:(i:Int) ≥ (s.size:Int):=by simp at hl;omega
   have hlk:lookS (.ok u r) = -1:=by show (wr r).headD (-1) = -1;rw [hw];rfl
   rw [hlk]
   clear h hok herr
   go_enter Tryz.func100,Tryz.ntmps100
   go_wp2_with fail
   go_quiet (fail)
   go_wp2
   go_ret
   exact ⟨rfl,_,rfl⟩
  | cons b t =>
   have hlk:lookS (.ok u r)=b:=by show (wr r).headD (-1)=b;rw [hw];rfl
   rw [hlk]
   have hix:=Rr.byte h i 0 hl b (by rw [hw];rfl)
   have hr:=Rr.rng h b (by rw [hw];simp)
   rw [hw] at hl
   have g:¬ (i:Int) ≥ (s.size:Int):=by simp at hl;omega
   have g':¬ (s.size:Int)≤(i:Int):=g
   have g2:(i:Int) < (s.size:Int):=by omega
   have hwb:wrap64 b=b:=IntWalk.wrap64_in _ (by omega)
   rw [Nat.add_zero] at hix
   clear h hok herr
   go_enter Tryz.func100,Tryz.ntmps100
   go_wp2_with fail
   go_quiet (fail)
   go_wp2_with fail
   go_quiet (fail)
   go_wp2
   go_ret
   exact ⟨by simp,_,World.drewN_drewN _ _ _⟩
theorem see_c (h:Rs R W s dv d f σ):Calls Tryz.prog 100 #[.pointer (some ⟨R,0,none⟩)] W fun e W'=>e=.returned (.int .i64 (lookS σ))∧Below W.heap.size W W' :=
 (see_q h).mono (fun e W' ⟨h1,m,h2⟩=>⟨h1,by rw [h2];exact drewN_below m⟩)
theorem Rr.move {p rest':List Int} {x:Int} (h:Rr R W s dv rest d f) (hp:rest=p++rest') (hx:x=(s.size:Int) - ((wr rest').length:Nat)):Rr R (W.setCell ⟨R,1,none⟩ (.int .i64 x)) s dv rest' d f:=by
 subst hx
 refine ⟨heap_setR W R _ _ h.blk 1 _,?_,fun c hc=>h.sc c (by rw [hp];exact List.mem_append_right _ hc),h.small⟩
 obtain ⟨pre,e⟩:=h.tl
 exact ⟨pre++wr p,by rw [e,hp,U.UtfM.wr_append,List.append_assoc]⟩
theorem Rs.deeper (h:Rs R W s dv d f σ) (d':Nat):Rs R (W.setCell ⟨R,3,none⟩ (.int .i64 d')) s dv d' f σ:=by
 cases σ with
 | ok u r=>exact ⟨heap_setR W R _ _ (Rr.blk h) 3 _,Rr.tl h,Rr.sc h,Rr.small h⟩
 | err n r=>obtain ⟨i,hi,e⟩:=Re.blk h;exact ⟨⟨i,hi,heap_setR W R _ _ e 3 _⟩,Re.ne h,Re.small h⟩
theorem Rs.folded (h:Rs R W s dv d f σ) (f':Nat):Rs R (W.setCell ⟨R,4,none⟩ (.int .i64 f')) s dv d f' σ:=by
 cases σ with
 | ok u r=>exact ⟨heap_setR W R _ _ (Rr.blk h) 4 _,Rr.tl h,Rr.sc h,Rr.small h⟩
 | err n r=>obtain ⟨i,hi,e⟩:=Re.blk h;exact ⟨⟨i,hi,heap_setR W R _ _ e 4 _⟩,Re.ne h,Re.small h⟩
theorem Rr.wrong (h:Rr R W s dv rest d f) {n:Nat} {z:Int} (hn:n≠0∧n≤100):Re R ((W.setCell ⟨R,5,none⟩ (.int .i64 n)).setCell ⟨R,6,none⟩ (.int .i64 z)) s dv d f n z:=by
 have hl:=h.len
 refine ⟨⟨s.size - (wr rest).length,by omega,?_⟩,hn,h.small⟩
 have e:=heap_setR _ R _ _ (heap_setR W R _ _ h.blk 5 (.int .i64 n)) 6 (.int .i64 z)
 have e2:(((s.size - (wr rest).length:Nat):Nat):Int)=(s.size:Int) - ((wr rest).length:Nat):=by omega
 rw [e2]
 exact e
set_option maxRecDepth 100000 in
set_option maxHeartbeats 1000000 in
theorem fail_c (m : Nat) (z : Int) (r0 : List Int) (hm : m ≠ 0 ∧ m ≤ 100) (hz : ∀ u r, σ = .ok u r → z = (s.size : Int) - ((wr r0).length : Nat)) (h : Rs R W s dv d f σ) :
  Calls Tryz.prog 59 #[.pointer (some ⟨R,0,none⟩),.int .i64 m,.int .i64 z] W fun e W'=>e=.returned (.tuple #[])∧Rs R W' s dv d f (failS m r0 σ)∧Gr R W W':=by
 obtain ⟨i,n,zz,hi,hn,hc,hok,herr⟩:=h.cells
 obtain ⟨c0,c1,_,_,_,c5,c6,cz⟩:=hc W (Below.refl _ _)
 have z5:=cz 5
 have z6:=cz 6
 clear hc cz
 cases σ with
 | err e r =>
  obtain ⟨he,hne,_⟩:=herr e r rfl
  have g:¬ (n:Int)=0:=by omega
  have g':((n:Int) == 0)=false:=by simp;omega
  have gb:((n:Int) != 0)=true:=by simp;omega
  clear he
  have HR:=Lib.hid h
  clear h hok herr
  go_enter Tryz.func59,Tryz.ntmps59
  go_wp2
  go_returns
  exact ⟨rfl,HR.out,Gr.refl _ _⟩
 | ok u r =>
  obtain ⟨rfl,rfl,hl⟩:=hok u r rfl
  have hzz:=hz u r rfl
  have HW:=Lib.hid (fun U (hU:Rr R U s dv r d f)=>hU.wrong (n:=m) (z:=z) hm)
  have HR:=Lib.hid h
  have HE:=Lib.hid hzz
  clear h hok herr hz hzz
  go_enter Tryz.func59,Tryz.ntmps59
  go_wp2
  go_returns
  refine ⟨rfl,?_,(Gr.set _ 5 _).trans (Gr.set _ 6 _)⟩
  have:=HW.out W HR.out
  rw [HE.out] at this ⊢
  exact this
theorem ext_bs (h:Rr R W s dv rest d f) (i k:Nat) (hi:i+(wr rest).length=s.size):bs (s.extract i (i+k))=(wr rest).take k:=by
 obtain ⟨pre,e⟩:=h.tl
 have hl:=congrArg List.length e
 rw [bs_len,List.length_append] at hl
 have e1:i=pre.length:=by omega
 have e3:(bs s).drop i=wr rest:=by rw [e,e1,List.drop_left]
 rw [← e3]
 unfold bs
 rw [← List.map_drop,← List.map_take]
 congr 1
 rw [ByteArray.data_extract,Array.toList_extract,List.extract_eq_take_drop,Nat.add_sub_cancel_left]
theorem bs_inj0 {a b:ByteArray} (h:bs a=bs b):a=b:=by
 apply ByteArray.ext
 apply Array.toList_inj.1
 unfold bs at h
 exact List.map_inj_right (fun x y hxy=>UInt8.toNat_inj.1 (by omega)) |>.1 h
theorem pre_take {p:List Int} (hp:Low p) {r:List Int} (hs:∀ c∈r,U.UtfM.Sc c):(wr r).take p.length=p↔p <+: r:=by
 rw [← pre_low p hp r hs,List.prefix_iff_eq_take]
 exact ⟨Eq.symm,Eq.symm⟩
set_option maxRecDepth 100000 in
set_option maxHeartbeats 2000000 in
theorem takesq_c (p : ByteArray) (hp : Low (bs p)) (hz : p.size ≤ 10) (h : Rs R W s dv d f σ) :
  Calls Tryz.prog 86 #[.pointer (some ⟨R,0,none⟩),.string p] W fun e W'=>e=.returned (.bool (takesB (bs p) σ))∧Rs R W' s dv d f (takesS (bs p) σ)∧Gr R W W':=by
 have hsm:=h.small
 obtain ⟨i,n,zz,hi,hn,hc,hok,herr⟩:=h.cells
 obtain ⟨c0,c1,_,_,_,c5,_,cz⟩:=hc W (Below.refl _ _)
 have i0:(0:Int)≤(i:Int):=by omega
 have hw1:IntKind.i64.wrap ((s.size:Int) - (i:Int))=(s.size:Int) - (i:Int):=IntWalk.i64_in _ (by omega)
 have hw2:IntKind.i64.wrap ((i:Int)+(p.size:Int))=(i:Int)+(p.size:Int):=IntWalk.i64_in _ (by omega)
 cases σ with
 | err e r =>
  obtain ⟨he,hne,_⟩:=herr e r rfl
  have g:¬ (n:Int)=0:=by omega
  have g':((n:Int) == 0)=false:=by simp;omega
  have gb:((n:Int) != 0)=true:=by simp;omega
  clear he
  have HR:=Lib.hid h
  clear h hok herr hc
  go_enter Tryz.func86,Tryz.ntmps86
  go_wp2_with fail
  go_quiet (fail)
  go_wp2
  go_ret
  exact ⟨rfl,HR.out.kept (drewN_below _),Gr.of (drewN_below _)⟩
 | ok u r =>
  obtain ⟨rfl,rfl,hl⟩:=hok u r rfl
  by_cases hlt:(wr r).length < p.size
  ·have hnp:¬ bs p <+: r:=fun hpre=>by
    have h1:=(pre_take hp (Rr.sc h)).2 hpre
    have:=congrArg List.length h1
    rw [List.length_take,bs_len] at this
    omega
   have hb:takesB (bs p) (.ok u r)=false:=decide_eq_false hnp
   have hS:takesS (bs p) (.ok u r)=.ok () r:=if_neg hnp
   rw [hb,hS]
   have g:(s.size:Int) - (i:Int) < (p.size:Int):=by omega
   have HR:=Lib.hid h
   clear h hok herr hc hb hS hnp
   go_enter Tryz.func86,Tryz.ntmps86
   go_wp2_with fail
   go_quiet (fail)
   go_wp2
   go_ret
   exact ⟨rfl,Rs.kept (σ:= .ok () r) HR.out (drewN_below _),Gr.of (drewN_below _)⟩
  ·have g : ¬ (s.size : Int) - (i : Int) < (p.size : Int) := by omega
   have l2:(i:Int)≤(i:Int)+(p.size:Int):=by omega
   have l3:(i:Int)+(p.size:Int)≤(s.size:Int):=by omega
   have l4:((i:Int)+(p.size:Int)).toNat=i+p.size:=by omega
   have hx:=ext_bs h i p.size hl
   by_cases hpre:bs p <+: r
   ·have hb : takesB (bs p) (.ok u r) = true := decide_eq_true hpre
    have hS:takesS (bs p) (.ok u r)=.ok () (r.drop (bs p).length):=if_pos hpre
    rw [hb,hS]
    have he:s.extract i (i+p.size)=p:=by
     apply bs_inj0
     rw [hx,← bs_len p]
     exact (pre_take hp (Rr.sc h)).2 hpre
    have heq:(s.extract i (i+p.size)).toList=p.toList:=by rw [he]
    have hne:((s.extract i (i+p.size)).toList == p.toList)=true:=by rw [heq];exact beq_self_eq_true _
    have hra:r=bs p++r.drop (bs p).length:=by
     obtain ⟨t,rfl⟩:=hpre
     rw [List.drop_left]
    have hxx:(i:Int)+(p.size:Int)=(s.size:Int) - ((wr (r.drop (bs p).length)).length:Nat):=by
     have:=congrArg (fun x=>(wr x).length) hra
     simp only [U.UtfM.wr_append,List.length_append,wr_low _ hp,bs_len] at this
     rw [bs_len]
     omega
    have k1:∀ n,(W.drewN n).cell? ⟨R,1,none⟩=some (.int .i64 (i:Int)):=fun m=>(hc _ (drewN_below m)).2.1
    have kz:∀ n,(W.drewN n).frozen? ⟨R,1,none⟩=false:=fun m=>(hc _ (drewN_below m)).2.2.2.2.2.2.2 1
    have HM:=Lib.hid (fun U (hU:Rr R U s dv r d f)=>hU.move (p:=bs p) (rest':=r.drop (bs p).length) (x:=(i:Int)+(p.size:Int)) hra hxx)
    have HR:=Lib.hid h
    clear h hok herr hc hb hS hpre hra hxx hx he
    go_enter Tryz.func86,Tryz.ntmps86
    go_wp2_with fail
    go_quiet (fail)
    go_wp2
    go_ret
    exact ⟨rfl,HM.out _ (Rr.kept HR.out (drewN_below _)),(Gr.of (drewN_below nq)).trans (Gr.set _ 1 _)⟩
   ·have hb : takesB (bs p) (.ok u r) = false := decide_eq_false hpre
    have hS:takesS (bs p) (.ok u r)=.ok () r:=if_neg hpre
    rw [hb,hS]
    have hne:((s.extract i (i+p.size)).toList == p.toList)=false:=by
     rw [beq_eq_false_iff_ne]
     intro e
     rw [Lib.toList_data,Lib.toList_data] at e
     have he:s.extract i (i+p.size)=p:=ByteArray.ext (Array.toList_inj.1 e)
     rw [he] at hx
     exact hpre ((pre_take hp (Rr.sc h)).1 (by rw [bs_len];exact hx.symm))
    have HR:=Lib.hid h
    clear h hok herr hc hb hS hpre hx
    go_enter Tryz.func86,Tryz.ntmps86
    go_wp2_with fail
    go_quiet (fail)
    go_wp2
    go_ret
    exact ⟨rfl,Rs.kept (σ:= .ok () r) HR.out (drewN_below _),Gr.of (drewN_below _)⟩
set_option maxRecDepth 100000 in
set_option maxHeartbeats 1000000 in
theorem must_c (p : ByteArray) (hp : Low (bs p)) (hz : p.size ≤ 10) (h : Rs R W s dv d f σ) :
  Calls Tryz.prog 136 #[.pointer (some ⟨R,0,none⟩),.string p] W fun e W'=>e=.returned (.tuple #[])∧Rs R W' s dv d f (mustS (bs p) σ)∧Gr R W W':=by
 have HT:=Lib.hid (takesq_c p hp hz h)
 have hM:(takesB (bs p) σ=true∧mustS (bs p) σ=takesS (bs p) σ)∨(takesB (bs p) σ=false∧∃ r0,mustS (bs p) σ=failS 60 r0 (takesS (bs p) σ)∧∀ u r,takesS (bs p) σ=.ok u r→r=r0):=by
  cases σ with
  | err n r=>exact .inr ⟨rfl,r,rfl,fun u r e=>by cases e⟩
  | ok u r =>
   by_cases hpre:bs p <+: r
   ·exact .inl ⟨decide_eq_true hpre,rfl.trans (by simp [mustS,takesS,hpre])⟩
   ·exact .inr ⟨decide_eq_false hpre,r,by simp [mustS,takesS,failS,hpre],fun u' r' e=>by simp [takesS,hpre] at e;exact e.symm⟩
 clear h hp hz
 rcases hM with ⟨hb,hS⟩ | ⟨hb,r0,hS,hr0⟩
 ·rw [hb] at HT
  rw [hS]
  clear hS hb
  go_enter Tryz.func136,Tryz.ntmps136
  go_wp2_with fail
  refine HT.out.mono ?_
  rintro e w1 ⟨rfl,h1,g1⟩
  have H1:=Lib.hid h1
  have G1:=Lib.hid g1
  clear h1 g1
  go_wp2
  go_returns
  exact ⟨rfl,H1.out,G1.out⟩
 ·rw [hb] at HT
  rw [hS]
  have HR0:=Lib.hid hr0
  clear hS hb hr0
  go_enter Tryz.func136,Tryz.ntmps136
  go_wp2_with fail
  refine HT.out.mono ?_
  rintro e w1 ⟨rfl,h1,g1⟩
  obtain ⟨i,n,zz,hi,hn,hc,hok,herr⟩:=h1.cells
  obtain ⟨c0,c1,_,_,_,c5,_,cz⟩:=hc w1 (Below.refl _ _)
  have HF:=Lib.hid (fun (U:World) (hU:Rs R U s dv d f (takesS (bs p) σ))=>fail_c 60 (i:Int) r0 (by omega) (fun u r e=>by have:=(hok u r e).2.2;rw [← HR0.out u r e];omega) hU)
  have H1:=Lib.hid h1
  have G1:=Lib.hid g1
  clear h1 g1 hc hok herr cz
  go_wp2_with fail
  refine (HF.out _ (H1.out.kept (by first | exact drewN_below _ | exact Below.refl _ _))).mono ?_
  rintro e w2 ⟨rfl,h2,g2⟩
  have H2:=Lib.hid h2
  have G2:=Lib.hid (G1.out.trans ((Gr.of (by first | exact drewN_below _ | exact Below.refl _ _)).trans g2))
  clear h2 g2
  go_wp2
  go_returns
  exact ⟨rfl,H2.out,G2.out⟩
end
end Go.Proofs.YtioahgklplbinaaGreatDoor
namespace Go.Proofs.YtioahgklplbinaaGreatDoor
open Go.RowKit Go.Shelf Go.Maps SetM PropsM RxM
open U.UtfM (wr enc)
section
variable {R:Nat} {W W':World} {s:ByteArray} {dv:Value} {rest r:List Int} {d f n:Nat} {z c:Int} {σ:Out Unit}
theorem Rr.c0 (h:Rr R W s dv rest d f):W.cell? ⟨R,0,none⟩=some (.string s):=h.cell 0
theorem Rr.c1 (h:Rr R W s dv rest d f):W.cell? ⟨R,1,none⟩=some (.int .i64 ((s.size:Int) - ((wr rest).length:Nat))):=h.cell 1
theorem Rr.c2 (h:Rr R W s dv rest d f):W.cell? ⟨R,2,none⟩=some dv:=h.cell 2
theorem Rr.c3 (h:Rr R W s dv rest d f):W.cell? ⟨R,3,none⟩=some (.int .i64 d):=h.cell 3
theorem Rr.c4 (h:Rr R W s dv rest d f):W.cell? ⟨R,4,none⟩=some (.int .i64 f):=h.cell 4
theorem Rr.c5 (h:Rr R W s dv rest d f):W.cell? ⟨R,5,none⟩=some (.int .i64 0):=h.cell 5
theorem Rr.few (h:Rr R W s dv rest d f):rest.length≤200:=by
 have h1:=h.len
 have h2:=h.small
 have h3:∀ (r:List Int),(∀ c∈r,U.UtfM.Sc c)→r.length≤(wr r).length:=by
  intro r
  induction r with
  | nil=>simp
  | cons c t ih =>
   intro hs
   have:=wr_len_pos (hs c (by simp)) t
   have:=ih (fun x hx=>hs x (by simp [hx]))
   simp only [List.length_cons]
   omega
 have:=h3 rest h.sc
 omega
theorem lookq_c (h:Rr R W s dv r d f):(r=[]∧lookS (.ok () r) = -1)∨∃ c t,r=c::t∧((lookS (.ok () r)=c∧0≤c∧c < 128)∨(192≤lookS (.ok () r)∧lookS (.ok () r)≤255∧128≤c)):=by
 cases r with
 | nil=>exact .inl ⟨rfl,rfl⟩
 | cons c t =>
  have hs:=h.sc c (by simp)
  obtain ⟨b,l,e,b0,b1,hh⟩:=wr_head hs t
  have hl:lookS (.ok () (c::t))=b:=by show (wr (c::t)).headD (-1)=b;rw [e];rfl
  refine .inr ⟨c,t,rfl,?_⟩
  rw [hl]
  unfold U.UtfM.Sc at hs
  rcases hh with ⟨h1,h2⟩ | ⟨h1,h2⟩
  ·exact .inl ⟨h1,by omega,h2⟩
  ·exact .inr ⟨h1,b1,h2⟩
def Out.u {α : Type} : Out α → Out Unit
 | .ok _ r=>.ok () r
 | .err n r=>.err n r
theorem pre1 (c:Int) (r:List Int):[c] <+: r↔at1 c r=true:=by
 cases r with
 | nil=>simp [at1]
 | cons b t =>
  simp only [at1,List.cons_prefix_cons,List.nil_prefix,and_true,decide_eq_true_iff]
  exact ⟨Eq.symm,Eq.symm⟩
theorem takesB1 (c:Int) (r:List Int):takesB [c] (.ok () r)=at1 c r:=by
 rw [Bool.eq_iff_iff]
 show decide ([c] <+: r)=true↔_
 rw [decide_eq_true_iff,pre1]
theorem takesS1 (c:Int) (r:List Int):takesS [c] (.ok () r)=.ok () (if at1 c r then r.tail else r):=by
 show (if [c] <+: r then _ else _)=_
 by_cases h:at1 c r=true
 ·rw [if_pos ((pre1 c r).2 h),if_pos h];simp
 ·rw [if_neg (fun hh=>h ((pre1 c r).1 hh)),if_neg h]
theorem mustS1 (c:Int) (r:List Int):mustS [c] (.ok () r)=if at1 c r then .ok () r.tail else .err 60 r:=by
 show (if [c] <+: r then _ else _)=_
 by_cases h:at1 c r=true
 ·rw [if_pos ((pre1 c r).2 h),if_pos h];simp
 ·rw [if_neg (fun hh=>h ((pre1 c r).1 hh)),if_neg h]
theorem needq_at (c:Int) (r:List Int):(needF c r)=if at1 c r then .ok () r.tail else .err 60 r:=by
 cases r with
 | nil=>simp [needF,at1]
 | cons b t=>simp [needF,at1]
theorem lowq1 (b:UInt8) (hb:(b.toNat:Int) < 128):Low (bs ⟨#[b]⟩):=fun c hc=>by
 have:c=(b.toNat:Int):=by simpa [bs] using hc
 omega
theorem tk_yes (b : UInt8) (hb : (b.toNat : Int) < 128) (h : Rr R W s dv r d f) (ha : at1 (b.toNat : Int) r = true) :
  Calls Tryz.prog 86 #[.pointer (some ⟨R,0,none⟩),.string ⟨#[b]⟩] W fun e W'=>e=.returned (.bool true)∧Rr R W' s dv r.tail d f∧Gr R W W':=by
 refine (takesq_c (σ:= .ok () r) ⟨#[b]⟩ (lowq1 b hb) (by show (1:Nat)≤10;omega) h).mono ?_
 rintro e w ⟨rfl,h1,g⟩
 have e1:bs (⟨#[b]⟩:ByteArray)=[(b.toNat:Int)]:=rfl
 rw [e1,takesS1,ha] at h1
 refine ⟨?_,h1,g⟩
 rw [e1,takesB1,ha]
theorem tk_no (b : UInt8) (hb : (b.toNat : Int) < 128) (h : Rr R W s dv r d f) (ha : at1 (b.toNat : Int) r = false) :
  Calls Tryz.prog 86 #[.pointer (some ⟨R,0,none⟩),.string ⟨#[b]⟩] W fun e W'=>e=.returned (.bool false)∧Rr R W' s dv r d f∧Gr R W W':=by
 refine (takesq_c (σ:= .ok () r) ⟨#[b]⟩ (lowq1 b hb) (by show (1:Nat)≤10;omega) h).mono ?_
 rintro e w ⟨rfl,h1,g⟩
 have e1:bs (⟨#[b]⟩:ByteArray)=[(b.toNat:Int)]:=rfl
 rw [e1,takesS1,ha] at h1
 refine ⟨?_,h1,g⟩
 rw [e1,takesB1,ha]
theorem tk_err (p : ByteArray) (hp : Low (bs p)) (hz : p.size ≤ 10) {m : Nat} {x : List Int} (h : Rs R W s dv d f (.err m x)) :
  Calls Tryz.prog 86 #[.pointer (some ⟨R,0,none⟩),.string p] W fun e W'=>e=.returned (.bool false)∧Rs R W' s dv d f (.err m x)∧Gr R W W':=takesq_c p hp hz h
theorem mu_c (b : UInt8) (hb : (b.toNat : Int) < 128) (h : Rr R W s dv r d f) :
  Calls Tryz.prog 136 #[.pointer (some ⟨R,0,none⟩),.string ⟨#[b]⟩] W fun e W'=>e=.returned (.tuple #[])∧Rs R W' s dv d f (Out.u (needF (b.toNat:Int) r))∧Gr R W W':=by
 refine (must_c (σ:= .ok () r) ⟨#[b]⟩ (lowq1 b hb) (by show (1:Nat)≤10;omega) h).mono ?_
 rintro e w ⟨rfl,h1,g⟩
 have e1:bs (⟨#[b]⟩:ByteArray)=[(b.toNat:Int)]:=rfl
 rw [e1,mustS1] at h1
 refine ⟨rfl,?_,g⟩
 rw [needq_at]
 cases hx:at1 (b.toNat:Int) r with
 | true=>rw [hx] at h1;exact h1
 | false=>rw [hx] at h1;exact h1
theorem mu_err (p : ByteArray) (hp : Low (bs p)) (hz : p.size ≤ 10) {m : Nat} {x : List Int} (h : Rs R W s dv d f (.err m x)) :
  Calls Tryz.prog 136 #[.pointer (some ⟨R,0,none⟩),.string p] W fun e W'=>e=.returned (.tuple #[])∧Rs R W' s dv d f (.err m x)∧Gr R W W':=must_c p hp hz h
theorem see_all (z:Int) (hz:z=lookS σ):∀ U,Rs R U s dv d f σ→Calls Tryz.prog 100 #[.pointer (some ⟨R,0,none⟩)] U fun e W'=>e=.returned (.int .i64 z)∧Below U.heap.size U W':=fun U hU=>by rw [hz];exact see_c hU
set_option maxRecDepth 100000 in
set_option maxHeartbeats 1000000 in
theorem in_c (c:Int) (l:ByteArray) (hl:l.size≤100):Calls Tryz.prog 133 #[.int .i64 c,.string l] W fun e W'=>e=.returned (.bool (inS (bs l) c))∧W=W':=by
 obtain ⟨n,hn⟩:∃ n,n=l.size:=⟨_,rfl⟩
 have hlen:(bs l).length=n:=by rw [bs_len,hn]
 have HX:Hid (∀ k,k < n→∃ x:Int,(∀ w,(Instr.index 9 (.string l) (.int .i64 (k:Int))).run Tryz.prog w=.ok (.int .u8 x) w)∧wrap64 x=x∧(bs l)[k]? = some x):=Lib.hid (by
  intro k hk
  have hk':k < l.data.toList.length:=by simp;exact hn ▸ hk
  refine ⟨_,str_ix l k hk',IntWalk.wrap64_in _ (by have:=(l.data.toList[k]'hk').toNat_lt;omega),?_⟩
  unfold bs
  rw [List.getElem?_map,List.getElem?_eq_getElem hk'];rfl)
 have hnz:(l.size:Int)=(n:Int):=by omega
 obtain ⟨B,hB⟩:∃ B,B=bs l:=⟨_,rfl⟩
 rw [← hB] at HX hlen ⊢
 clear hn hB
 have HL:=Lib.hid hlen
 clear hlen
 go_enter Tryz.func133,Tryz.ntmps133
 go_wp2_with fail
 go_loopg [5] n (fun g s5 wx=>∃ (k:Nat),k+g=n∧s5=.int .i64 k∧Hid (∀ j,j < k→B[j]?≠some c)∧W=wx)
 case atStart=>exact ⟨0,by omega,rfl,Lib.hid (fun j hj=>by omega),rfl⟩
 case round =>
  obtain ⟨k,hkg,rfl,HN,rfl⟩:=hrel
  cases gk with
  | zero =>
   have hl:¬ ((k:Int) < (n:Int)):=by omega
   have hno:inS B c=false:=by
    unfold inS
    rw [Bool.eq_false_iff]
    intro h
    obtain ⟨j,hj,e⟩:=List.mem_iff_getElem.1 (List.contains_iff_mem.1 h)
    exact HN.out j (by have:=HL.out;omega) (by rw [List.getElem?_eq_getElem hj,e])
   go_wp2
   go_ret
   exact ⟨rfl,rfl⟩
  | succ gk =>
   have hl:(k:Int) < (n:Int):=by omega
   obtain ⟨x,hx,hwx,hxe⟩:=HX.out k (by omega)
   by_cases hcx:c=x
   ·have hb : (c == x) = true := by simp [hcx]
    have hd:decide (c=x)=true:=decide_eq_true hcx
    have hyes:inS B c=true:=by
     unfold inS
     exact List.contains_iff_mem.2 (by rw [hcx];exact List.mem_of_getElem? hxe)
    clear hxe
    go_wp2
    go_ret
    exact ⟨by first | rfl | (rw [hyes];rfl),rfl⟩
   ·have hb : (c == x) = false := by simp [hcx]
    have hd:decide (c=x)=false:=decide_eq_false hcx
    have HXE:=Lib.hid hxe
    clear hxe
    go_wp2
    go_roundg gk
    case measure=>omega
    case rel=>exact ⟨k+1,by omega,rfl,Lib.hid (fun j hj=>by
     rcases Nat.lt_or_ge j k with h | h
     ·exact HN.out j h
     ·have : j = k := by omega
      subst this
      rw [HXE.out]
      intro e
      exact hcx (Option.some.inj e).symm),rfl⟩
def valD (l:List Int):Int:=l.foldl (fun n c=>n*10+(c - 48)) 0
theorem valD_push (l:List Int) (c:Int):valD (l++[c])=valD l*10+(c - 48):=by unfold valD;rw [List.foldl_append];rfl
theorem run_end {P:Int→Bool} {k:Nat} {r:List Int} (h:k=0∨r=[]∨sees P r=false):runF P k r=([],r):=by
 cases k with
 | zero=>rfl
 | succ k =>
  cases r with
  | nil=>rfl
  | cons c t =>
   rcases h with h | h | h
   ·omega
   ·cases h
   ·have : P c = false := h
    simp [runF,this]
theorem num_at {rest pre r:List Int} (h:runF isD 2 rest=(pre,r)):numF rest=if pre=[] then .err 60 rest else .ok (valD pre) r:=by
 unfold numF valD
 rw [h]
set_option maxRecDepth 100000 in
set_option maxHeartbeats 2000000 in
theorem digitsq_c (h:Rr R W s dv rest d f):Calls Tryz.prog 135 #[.pointer (some ⟨R,0,none⟩)] W fun e W'=>∃ a:Int,e=.returned (.int .i64 a)∧0≤a∧a≤99∧(∀ b x,numF rest=.ok b x→a=b)∧(∀ b x,numF rest=.err b x→a=0)∧Rs R W' s dv d f (Out.u (numF rest))∧Gr R W W':=by
 have hsm:=h.small
 have HR:=Lib.hid h
 have HLEN:Hid ((U.UtfM.wr rest).length≤s.size):=Lib.hid h.len
 clear h
 go_enter Tryz.func135,Tryz.ntmps135
 go_wp2_with fail
 go_loopg [3,4] 2 (fun g s3 s4 wx=>∃ (k:Nat) (pre r:List Int) (v:Int),k+g=2∧s3=.int .i64 v∧s4=.int .i64 k∧(k=0→v=0)∧(k≤1→v≤9)∧0≤v∧v≤99∧Hid (pre.length=k∧v=valD pre∧rest=pre++r∧runF isD 2 rest=(pre++(runF isD (2 - k) r).1,(runF isD (2 - k) r).2))∧Hid (Rr R wx s dv r d f)∧Hid (Gr R W wx))
 case atStart=>exact ⟨0,[],rest,0,by omega,rfl,rfl,fun _=>rfl,by omega,by omega,by omega,Lib.hid ⟨rfl,rfl,rfl,rfl⟩,HR,Lib.hid (Gr.refl _ _)⟩
 case round =>
  obtain ⟨k,pre,r,v,hkg,rfl,rfl,hk0,hk1,hv0,hv9,HP,HR,HG⟩:=hrel
  obtain ⟨z,hz⟩:∃ z,z=lookS (.ok () r):=⟨_,rfl⟩
  have hlk:=lookq_c HR.out
  rw [← hz] at hlk
  have HSEE:=Lib.hid (see_all (R:=R) (s:=s) (dv:=dv) (d:=d) (f:=f) z hz)
  clear hz
  have hz255:-1≤z∧z≤255:=by rcases hlk with ⟨_,h⟩ | ⟨c,t,_,h | h⟩ <;> omega
  have hdig:(48≤z∧z≤57∧∃ t,r=z::t∧isD z=true)∨((z < 48∨57 < z)∧(r=[]∨sees isD r=false)):=by
   rcases hlk with ⟨h1,h2⟩ | ⟨c,t,rfl,⟨h1,h2,h3⟩ | ⟨h1,h2,h3⟩⟩
   ·exact .inr ⟨by omega,.inl h1⟩
   ·by_cases hd : 48 ≤ z ∧ z ≤ 57
    ·exact .inl ⟨hd.1,hd.2,t,by rw [h1],by simp [isD,hd]⟩
    ·refine .inr ⟨by omega, .inr ?_⟩
     show isD c=false
     rw [← h1]
     simp only [isD,decide_eq_false_iff_not]
     omega
   ·refine .inr ⟨by omega, .inr ?_⟩
    show isD c=false
    simp only [isD,decide_eq_false_iff_not]
    omega
  clear hlk
  by_cases hstop:k=2∨z < 48∨57 < z
  ·have hend:runF isD 2 rest=(pre,r):=by
    obtain ⟨_,_,_,h4⟩:=HP.out
    have:runF isD (2 - k) r=([],r):=run_end (by
     rcases hstop with h | h
     ·exact .inl (by omega)
     ·rcases hdig with ⟨h1, h2, _⟩ | ⟨_, h⟩
      ·omega
      ·exact .inr h)
    rw [this] at h4
    simpa using h4
   have hnum:=num_at hend
   have HN:Hid ((k=0→numF rest=.err 60 rest∧r=rest)∧(k≠0→numF rest=.ok v r)):=Lib.hid (by
    obtain ⟨h1,h2,h3,_⟩:=HP.out
    constructor
    ·intro hk
     have:pre=[]:=List.length_eq_zero_iff.1 (by omega)
     subst this
     exact ⟨by rw [hnum,if_pos rfl],h3.symm⟩
    ·intro hk
     rw [hnum,if_neg (fun e=>by subst e;simp at h1;omega),h2])
   clear hend hnum hdig
   by_cases h48:z ≥ 48
   ·by_cases h57 : z ≤ 57
    ·have hk2 : k = 2 := by omega
     have hkl:¬ (k:Int) < 2:=by omega
     go_wp2_with fail
     refine (HSEE.out _ HR.out).mono ?_
     rintro e w1 ⟨rfl,b1⟩
     have HR1:=Lib.hid (HR.out.kept b1)
     have HG1:=Lib.hid (HG.out.trans (Gr.of b1))
     clear b1
     go_wp2_with fail
     refine (HSEE.out _ HR1.out).mono ?_
     rintro e w1 ⟨rfl,b1⟩
     have HR2:=Lib.hid (HR1.out.kept b1)
     have HG2:=Lib.hid (HG1.out.trans (Gr.of b1))
     clear b1
     have hk00:k≠0:=by omega
     have hkz:¬ (k:Int)=0:=by omega
     have hkb:((k:Int) == 0)=false:=by simp;omega
     have hne:=HN.out.2 hk00
     have HNE:=Lib.hid hne
     clear hne
     go_wp2
     go_ret
     exact ⟨v,rfl,by omega,by omega,fun b x e=>(by rw [HNE.out] at e;cases e;rfl),fun b x e=>(by rw [HNE.out] at e;cases e),by rw [HNE.out];exact HR2.out,HG2.out⟩
    ·go_wp2_with fail
     refine (HSEE.out _ HR.out).mono ?_
     rintro e w1 ⟨rfl,b1⟩
     have HR1:=Lib.hid (HR.out.kept b1)
     have HG1:=Lib.hid (HG.out.trans (Gr.of b1))
     clear b1
     go_wp2_with fail
     refine (HSEE.out _ HR1.out).mono ?_
     rintro e w1 ⟨rfl,b1⟩
     have HR2:=Lib.hid (HR1.out.kept b1)
     have HG2:=Lib.hid (HG1.out.trans (Gr.of b1))
     clear b1
     by_cases hk00:k=0
     ·obtain rfl := hk0 hk00
      subst hk00
      have hrr:=(HN.out.1 rfl).2
      have hne:=(HN.out.1 rfl).1
      have c1:=HR2.out.c1
      have HF:=Lib.hid (fail_c (σ:= .ok () r) 60 ((s.size:Int) - ((U.UtfM.wr r).length:Nat)) rest (by omega) (fun _ _ _=>by rw [hrr]) HR2.out)
      have HNE:=Lib.hid hne
      clear hrr hne
      go_wp2_with fail
      refine HF.out.mono ?_
      rintro e w5 ⟨rfl,h5,g5⟩
      have H5:=Lib.hid h5
      have G5:=Lib.hid (HG2.out.trans g5)
      clear h5 g5
      go_wp2
      go_ret
      exact ⟨0,rfl,by omega,by omega,fun b x e=>(by rw [HNE.out] at e;cases e),fun b x e=>rfl,by rw [HNE.out];exact H5.out,G5.out⟩
     ·have hkz : ¬ (k : Int) = 0 := by omega
      have hkb:((k:Int) == 0)=false:=by simp;omega
      have hne:=HN.out.2 hk00
      have HNE:=Lib.hid hne
      clear hne
      go_wp2
      go_ret
      exact ⟨v,rfl,by omega,by omega,fun b x e=>(by rw [HNE.out] at e;cases e;rfl),fun b x e=>(by rw [HNE.out] at e;cases e),by rw [HNE.out];exact HR2.out,HG2.out⟩
   ·go_wp2_with fail
    refine (HSEE.out _ HR.out).mono ?_
    rintro e w1 ⟨rfl,b1⟩
    have HR2:=Lib.hid (HR.out.kept b1)
    have HG2:=Lib.hid (HG.out.trans (Gr.of b1))
    clear b1
    by_cases hk00:k=0
    ·obtain rfl := hk0 hk00
     subst hk00
     have hrr:=(HN.out.1 rfl).2
     have hne:=(HN.out.1 rfl).1
     have c1:=HR2.out.c1
     have HF:=Lib.hid (fail_c (σ:= .ok () r) 60 ((s.size:Int) - ((U.UtfM.wr r).length:Nat)) rest (by omega) (fun _ _ _=>by rw [hrr]) HR2.out)
     have HNE:=Lib.hid hne
     clear hrr hne
     go_wp2_with fail
     refine HF.out.mono ?_
     rintro e w5 ⟨rfl,h5,g5⟩
     have H5:=Lib.hid h5
     have G5:=Lib.hid (HG2.out.trans g5)
     clear h5 g5
     go_wp2
     go_ret
     exact ⟨0,rfl,by omega,by omega,fun b x e=>(by rw [HNE.out] at e;cases e),fun b x e=>rfl,by rw [HNE.out];exact H5.out,G5.out⟩
    ·have hkz : ¬ (k : Int) = 0 := by omega
     have hkb:((k:Int) == 0)=false:=by simp;omega
     have hne:=HN.out.2 hk00
     have HNE:=Lib.hid hne
     clear hne
     go_wp2
     go_ret
     exact ⟨v,rfl,by omega,by omega,fun b x e=>(by rw [HNE.out] at e;cases e;rfl),fun b x e=>(by rw [HNE.out] at e;cases e),by rw [HNE.out];exact HR2.out,HG2.out⟩
  ·obtain ⟨h48,h57,t,rfl,hD⟩:48≤z∧z≤57∧∃ t,r=z::t∧isD z=true:=by
    rcases hdig with h | ⟨h,_⟩
    ·exact h
    ·omega
   have g48:z ≥ 48:=h48
   have hkl:(k:Int) < 2:=by omega
   have hv9:v≤9:=hk1 (by omega)
   obtain ⟨gk,rfl⟩:∃ g,gk=g+1:=⟨gk - 1,by omega⟩
   have HP2:Hid ((pre++[z]).length=k+1∧v*10+(z - 48)=valD (pre++[z])∧rest=pre++[z]++t∧runF isD 2 rest=(pre++[z]++(runF isD (2 - (k+1)) t).1,(runF isD (2 - (k+1)) t).2)):=Lib.hid (by
    obtain ⟨h1,h2,h3,h4⟩:=HP.out
    refine ⟨by simp [h1],by rw [valD_push,h2],by rw [h3];simp,?_⟩
    have e:runF isD (2 - k) (z::t)=(z::(runF isD (2 - (k+1)) t).1,(runF isD (2 - (k+1)) t).2):=by
     have e2:2 - k=(2 - (k+1))+1:=by omega
     rw [e2]
     simp [runF,hD]
    rw [h4,e]
    simp)
   have hlen:=HR.out.len
   have hmv:(U.UtfM.wr (z::t)).length=(U.UtfM.wr t).length+1:=by rw [wr_head_low (HR.out.sc z (by simp)) (by omega)];simp
   have HM:=Lib.hid (fun Y (hU:Rr R Y s dv (z::t) d f)=>hU.move (p:=[z]) (rest':=t) (x:=(s.size:Int) - ((U.UtfM.wr (z::t)).length:Nat)+1) rfl (by omega))
   have ew:IntKind.i64.wrap ((s.size:Int) - ((U.UtfM.wr (z::t)).length:Nat)+1)=(s.size:Int) - ((U.UtfM.wr (z::t)).length:Nat)+1:=IntWalk.i64_in _ (by omega)
   have e1:IntKind.i64.wrap (10*v)=10*v:=IntWalk.i64_in _ (by omega)
   have e2:IntKind.i64.wrap (10*v+z)=10*v+z:=IntWalk.i64_in _ (by omega)
   have e3:IntKind.i64.wrap (10*v+z - 48)=10*v+z - 48:=IntWalk.i64_in _ (by omega)
   have e4:IntKind.i64.wrap ((k:Int)+1)=(k:Int)+1:=IntWalk.i64_in _ (by omega)
   clear hdig hstop hD hlen hmv
   go_wp2_with fail
   refine (HSEE.out _ HR.out).mono ?_
   rintro e w1 ⟨rfl,b1⟩
   have HR1:=Lib.hid (HR.out.kept b1)
   have HG1:=Lib.hid (HG.out.trans (Gr.of b1))
   clear b1
   go_wp2_with fail
   refine (HSEE.out _ HR1.out).mono ?_
   rintro e w2 ⟨rfl,b1⟩
   have HR2:=Lib.hid (HR1.out.kept b1)
   have HG2:=Lib.hid (HG1.out.trans (Gr.of b1))
   clear b1
   go_wp2_with fail
   refine (HSEE.out _ HR2.out).mono ?_
   rintro e w3 ⟨rfl,b1⟩
   have HR3:=Lib.hid (HR2.out.kept b1)
   have HG3:=Lib.hid (HG2.out.trans (Gr.of b1))
   have c1:=HR3.out.c1
   have kz:=HR3.out.fz 1
   clear b1
   go_wp2
   go_roundg gk
   case measure=>omega
   case rel=>exact ⟨k+1,pre++[z],t,v*10+(z - 48),by omega,by congr 1;omega,by simp,by omega,by omega,by omega,by omega,HP2,Lib.hid (HM.out _ HR3.out),Lib.hid (HG3.out.trans (Gr.set _ 1 _))⟩
end
end Go.Proofs.YtioahgklplbinaaGreatDoor
