/- ZMat, ZOps, ZBeh, in one text. -/
import Derived.Test.YtioahgklplbinaaGreatDoorGA
import Derived.RegionTactic
import Derived.BigQuiet
import Derived.StillTailTactics
/- Square tables of numbers 0 and 1, in memory; the document's tables: none, still. -/
namespace Go.Proofs.YtioahgklplbinaaGreatDoor
open Go.RowKit Go.Shelf SetM NfaM SimM
open Classical in
noncomputable def bt (P:Prop):Int:=if P then 1 else 0
theorem bt_yes {P:Prop} (h:P):bt P=1:=by unfold bt;rw [if_pos h]
theorem bt_no {P:Prop} (h:¬ P):bt P=0:=by unfold bt;rw [if_neg h]
theorem bt_max (P Q:Prop):max (bt P) (bt Q)=bt (P∨Q):=by
 by_cases hp:P <;> by_cases hq:Q
 ·rw [bt_yes hp,bt_yes hq,bt_yes (.inl hp)];decide
 ·rw [bt_yes hp,bt_no hq,bt_yes (.inl hp)];decide
 ·rw [bt_no hp,bt_yes hq,bt_yes (.inr hq)];decide
 ·rw [bt_no hp,bt_no hq,bt_no (fun h=>h.elim hp hq)];decide
theorem mks_put {n:Nat} {M:Nat→Prop} {j:Nat} (hj:j < n) (P:Prop):(mksV (.int .i64 1) (.int .i64 0) n M).set j (.int .i64 (bt P))=mksV (.int .i64 1) (.int .i64 0) n (fun k=>(k=j∧P)∨(k≠j∧M k)):=by
 refine List.ext_getElem? (fun i=>?_)
 rw [List.getElem?_set]
 by_cases e:j=i
 ·subst e
  rw [if_pos rfl,if_pos (by rw [mks_len];exact hj)]
  by_cases hp:P
  ·rw [mks_yes hj (.inl ⟨rfl,hp⟩),bt_yes hp]
  ·rw [mks_no hj (fun h=>h.elim (fun h=>hp h.2) (fun h=>h.1 rfl)),bt_no hp]
 ·rw [if_neg e]
  by_cases hi:i < n
  ·by_cases hm : M i
   ·rw [mks_yes hi hm,mks_yes hi (.inr ⟨fun h=>e h.symm,hm⟩)]
   ·rw [mks_no hi hm,mks_no hi (fun h=>h.elim (fun h=>e h.1.symm) (fun h=>hm h.2))]
  ·rw [List.getElem?_eq_none (by rw [mks_len];omega),List.getElem?_eq_none (by rw [mks_len];omega)]
abbrev Mk01 (W:World) (base g n:Nat) (M:Nat→Prop):Prop:=MkG 3 (.int .i64 1) (.int .i64 0) W base g n M
theorem mk01_cell {W:World} {base g n:Nat} {M:Nat→Prop} (h:Mk01 W base g n M) {j:Nat} (hj:j < n):W.cell? ⟨g,j,none⟩=some (.int .i64 (bt (M j))):=by
 by_cases hm:M j
 ·rw [h.yes hj hm,bt_yes hm]
 ·rw [h.no hj hm,bt_no hm]
theorem mk01_put {W:World} {base g n:Nat} {M:Nat→Prop} (h:Mk01 W base g n M) {j:Nat} (hj:j < n) (P:Prop):Mk01 (W.setCell ⟨g,j,none⟩ (.int .i64 (bt P))) base g n (fun k=>(k=j∧P)∨(k≠j∧M k))∧W.grownBy (W.setCell ⟨g,j,none⟩ (.int .i64 (bt P))) (some g):=by
 have:=World.ownsRow.stored h j (.int .i64 (bt P))
 rw [mks_put hj P] at this
 exact this
structure Mx (W : World) (base g N : Nat) (f : Nat → Nat) (R : Nat → Nat → Prop) : Prop where
 top:W.ownsRow base 27 1 (.slice (some ⟨g,0,none⟩) N N) N ((List.range N).map fun i=>.slice (some ⟨f i,0,none⟩) N N)
 row:∀ i,i < N→Mk01 W base (f i) N (R i)
 ne:∀ i,i < N→f i≠g
 inj:∀ i j,i < N→j < N→f i=f j→i=j
def upR (R:Nat→Nat→Prop) (i j:Nat) (P:Prop):Nat→Nat→Prop:=fun x y=>(x=i∧y=j∧P)∨(¬ (x=i∧y=j)∧R x y)
section
variable {W W':World} {base g N:Nat} {f:Nat→Nat} {R:Nat→Nat→Prop}
theorem Mx.at_ (h:Mx W base g N f R) {i:Nat} (hi:i < N):W.cell? ⟨g,i,none⟩=some (.slice (some ⟨f i,0,none⟩) N N):=by
 rw [World.ownsRow.cellAt h.top i (by omega)]
 simp [hi]
theorem Mx.get (h:Mx W base g N f R) {i j:Nat} (hi:i < N) (hj:j < N):W.cell? ⟨f i,j,none⟩=some (.int .i64 (bt (R i j))):=mk01_cell (h.row i hi) hj
theorem Mx.frz (h:Mx W base g N f R) {i:Nat} (hi:i < N) (j:Nat):W.frozen? ⟨f i,j,none⟩=false:=(h.row i hi).frz j
theorem Mx.lt (h:Mx W base g N f R):base≤g∧g < W.heap.size:=World.ownsRow.lt h.top g rfl
theorem Mx.kept (h:Mx W base g N f R) {row:Option Nat} (hg:W.grownBy W' row) (h1:row≠some g) (h2:∀ i,i < N→row≠some (f i)):Mx W' base g N f R :=
 ⟨World.ownsRow.kept h.top hg (.inr (fun e=>h1 e.symm)),fun i hi=>(h.row i hi).kept hg (h2 i hi),h.ne,h.inj⟩
theorem Mx.step (h:Mx W base g N f R) (hb:Below W.heap.size W W'):Mx W' base g N f R :=
 h.kept (row:=none) ⟨hb.os,hb.tape,hb.output,hb.size,fun k hk _=>hb.block k hk⟩ (by simp) (fun _ _=>by simp)
theorem Mx.low (h:Mx W base g N f R) {base':Nat} (hl:base'≤base):Mx W base' g N f R:=by
 refine ⟨⟨h.top.1,?_⟩,fun i hi=>(h.row i hi).low hl,h.ne,h.inj⟩
 rcases h.top.2 with ⟨h1,_⟩ | ⟨g',cap,cur,h1,h2,h3⟩
 ·cases h1
 ·exact .inr ⟨g',cap,cur,h1,by omega,h3⟩
theorem Mx.congr (h:Mx W base g N f R) {R':Nat→Nat→Prop} (he:∀ i j,i < N→j < N→(R i j↔R' i j)):Mx W base g N f R' :=
 ⟨h.top,fun i hi=>(h.row i hi).congr (fun j hj=>he i j hi hj),h.ne,h.inj⟩
theorem Mx.put (h:Mx W base g N f R) {i j:Nat} (hi:i < N) (hj:j < N) (P:Prop):Mx (W.setCell ⟨f i,j,none⟩ (.int .i64 (bt P))) base g N f (upR R i j P)∧W.grownBy (W.setCell ⟨f i,j,none⟩ (.int .i64 (bt P))) (some (f i)):=by
 obtain ⟨h1,h2⟩:=mk01_put (h.row i hi) hj P
 refine ⟨⟨World.ownsRow.kept h.top h2 (.inr (fun e=>h.ne i hi (Option.some.inj e).symm)),fun x hx=>?_,h.ne,h.inj⟩,h2⟩
 by_cases e:x=i
 ·subst e
  refine h1.congr (fun y _=>?_)
  unfold upR
  constructor
  ·rintro (⟨a, b⟩ | ⟨a, b⟩)
   ·exact .inl ⟨rfl,a,b⟩
   ·exact .inr ⟨fun c=>a c.2,b⟩
  ·rintro (⟨_, a, b⟩ | ⟨a, b⟩)
   ·exact .inl ⟨a,b⟩
   ·exact .inr ⟨fun c=>a ⟨rfl,c⟩,b⟩
 ·refine ((h.row x hx).kept h2 (fun e' => e (h.inj x i hx hi (Option.some.inj e').symm))).congr (fun y _ => ?_)
  unfold upR
  exact ⟨fun a=>.inr ⟨fun c=>e c.1,a⟩,fun a=>a.elim (fun c=>absurd c.1 e) (fun c=>c.2)⟩
end
theorem infoIs':(Tryz.prog.info? 27).map (fun i=>(i.zero,i.size,i.bytes))=some (some (.slice none 0 0),1,24):=by kernel_rfl
theorem make_row {t e : TypeId} {z : Value} {b : Nat} (ht : Tryz.prog.underlying t = some (.slice e)) (hinfo : (Tryz.prog.info? e).map (fun i => (i.zero, i.size, i.bytes)) = some (some z, 1, b)) (hb : b ≤ 64) (hz : ∀ k, (madeCells z.cells (k * 1)).toList = List.replicate k z) (n : Nat) (hn : n ≤ 100000) (W : World) :
  ∃ W',(Instr.makeSlice t (.int .i64 n) (.int .i64 n)).run Tryz.prog W=.ok (.slice (some ⟨W.heap.size,0,none⟩) n n) W'∧W'.ownsRow W.heap.size e 1 (.slice (some ⟨W.heap.size,0,none⟩) n n) n (List.replicate n z)∧Below W.heap.size W W':=by
 obtain ⟨i0,hi,hz0,hz1,hz2⟩:=info_parts hinfo
 obtain ⟨W1,hmk,h2,h3⟩:=run_makeSlice_full (P:=Tryz.prog) (w:=W) 0 t e i0 _ 1 ht hi hz0 hz1 .i64 .i64 n (by omega) (by rw [hz2,Nat.mul_comm];have:=Nat.mul_le_mul hn hb;omega) (by unfold maxLen;omega) (Nat.zero_le _)
 rw [hz] at h2
 refine ⟨W1,hmk,⟨h2.1,?_⟩,⟨h3.os,h3.tape,h3.output,h3.size,fun k hk=>h3.block k hk (fun e=>by cases e)⟩⟩
 rcases h2.2 with ⟨h4,_⟩ | ⟨g',cap,cur,h4,_,h6⟩
 ·cases h4
 ·have h5 := h4
  simp only [Value.slice.injEq,Option.some.injEq,Addr.mk.injEq,and_true,true_and] at h5
  exact .inr ⟨g',cap,cur,h4,by omega,h6⟩
theorem make_top (n:Nat) (hn:n≤100000):∃ F:World→World,∀ W,(Instr.makeSlice 26 (.int .i64 n) (.int .i64 n)).run Tryz.prog W=.ok (.slice (some ⟨W.heap.size,0,none⟩) n n) (F W)∧(F W).ownsRow W.heap.size 27 1 (.slice (some ⟨W.heap.size,0,none⟩) n n) n (List.replicate n (.slice none 0 0))∧Below W.heap.size W (F W) :=
 Classical.axiomOfChoice (r:=fun W W'=>(Instr.makeSlice 26 (.int .i64 n) (.int .i64 n)).run Tryz.prog W=.ok (.slice (some ⟨W.heap.size,0,none⟩) n n) W'∧W'.ownsRow W.heap.size 27 1 (.slice (some ⟨W.heap.size,0,none⟩) n n) n (List.replicate n (.slice none 0 0))∧Below W.heap.size W W') (fun W=>make_row Tryz.underlying26 infoIs' (by decide) (fun k=>by rw [Nat.mul_one];exact toList_madeCells_one _ _) n hn W)
theorem make_ints (n:Nat) (hn:n≤100000):∃ F:World→World,∀ W,(Instr.makeSlice 27 (.int .i64 n) (.int .i64 n)).run Tryz.prog W=.ok (.slice (some ⟨W.heap.size,0,none⟩) n n) (F W)∧Mk01 (F W) W.heap.size W.heap.size n (fun _=>False)∧Below W.heap.size W (F W) :=
 Classical.axiomOfChoice (r:=fun W W'=>(Instr.makeSlice 27 (.int .i64 n) (.int .i64 n)).run Tryz.prog W=.ok (.slice (some ⟨W.heap.size,0,none⟩) n n) W'∧Mk01 W' W.heap.size W.heap.size n (fun _=>False)∧Below W.heap.size W W') (fun W=>by
  obtain ⟨W',h1,h2,h3⟩:=make_row Tryz.underlying27 infoIn (by decide) (fun k=>by rw [Nat.mul_one];exact toList_madeCells_one _ _) n hn W
  exact ⟨W',h1,by unfold Mk01 MkG;rw [mks_none];exact h2,h3⟩)
structure Mp (W : World) (base g N r : Nat) (f : Nat → Nat) : Prop where
 top:W.ownsRow base 27 1 (.slice (some ⟨g,0,none⟩) N N) N ((List.range N).map fun i=>if i < r then .slice (some ⟨f i,0,none⟩) N N else .slice none 0 0)
 row:∀ i,i < r→Mk01 W base (f i) N (fun _=>False)
 ne:∀ i,i < r→f i≠g
 inj:∀ i j,i < r→j < r→f i=f j→i=j
theorem Mp.start {W:World} {base g N:Nat} (h:W.ownsRow base 27 1 (.slice (some ⟨g,0,none⟩) N N) N (List.replicate N (.slice none 0 0))):Mp W base g N 0 (fun _=>0):=by
 refine ⟨?_,fun i hi=>absurd hi (Nat.not_lt_zero i),fun i hi=>absurd hi (Nat.not_lt_zero i),fun i _ hi=>absurd hi (Nat.not_lt_zero i)⟩
 have e:((List.range N).map fun i=>if i < 0 then Value.slice (some ⟨(fun _=>0) i,0,none⟩) N N else .slice none 0 0)=List.replicate N (.slice none 0 0):=by
  refine List.ext_getElem? (fun i=>?_)
  by_cases hi:i < N <;> simp [hi]
 rw [e]
 exact h
theorem Mp.next {W W1 : World} {base g N r : Nat} {f : Nat → Nat} (h : Mp W base g N r f) (hr : r < N) (hbase : base ≤ W.heap.size) (hm : Mk01 W1 W.heap.size W.heap.size N (fun _ => False)) (hb : Below W.heap.size W W1) :
  Mp (W1.setCell ⟨g,r,none⟩ (.slice (some ⟨W.heap.size,0,none⟩) N N)) base g N (r+1) (fun i=>if i=r then W.heap.size else f i)∧W1.grownBy (W1.setCell ⟨g,r,none⟩ (.slice (some ⟨W.heap.size,0,none⟩) N N)) (some g)∧base≤g∧W1.frozen? ⟨g,r,none⟩=false∧∃ u,W1.cell? ⟨g,r,none⟩=some u:=by
 have hgW:=(World.ownsRow.lt h.top g rfl)
 have hg1:W.grownBy W1 none:=below_grown hb rfl
 have ht:=World.ownsRow.kept h.top hg1 (.inr (fun e=>by cases e))
 obtain ⟨s1,s2⟩:=World.ownsRow.stored ht r (.slice (some ⟨W.heap.size,0,none⟩) N N)
 have hfl:∀ i,i < r→f i < W.heap.size:=fun i hi=>(h.row i hi).lt.2
 have e:(((List.range N).map fun i=>if i < r then Value.slice (some ⟨f i,0,none⟩) N N else .slice none 0 0).set r (.slice (some ⟨W.heap.size,0,none⟩) N N))=(List.range N).map fun i=>if i < r+1 then Value.slice (some ⟨(fun i=>if i=r then W.heap.size else f i) i,0,none⟩) N N else .slice none 0 0:=by
  refine List.ext_getElem? (fun i=>?_)
  rw [List.getElem?_set]
  by_cases hi:i < N
  ·by_cases e : r = i
   ·subst e;simp [hi]
   ·by_cases hl : i < r
    ·simp [hi,e,hl,show i < r+1 by omega,Ne.symm e]
    ·simp [hi,e,hl,show ¬ i < r+1 by omega]
  ·by_cases e : r = i
   ·omega
   ·simp [hi,e]
 rw [e] at s1
 refine ⟨⟨s1,fun i hi=>?_,fun i hi=>?_,fun i j hi hj=>?_⟩,s2,hgW.1,World.ownsRow.frozenAt ht r,?_⟩
 ·by_cases e : i = r
  ·rw [if_pos e]
   exact (hm.kept s2 (fun e=>by have:=Option.some.inj e;omega)).low hbase
  ·rw [if_neg e]
   exact ((h.row i (by omega)).step hb).kept s2 (fun e'=>h.ne i (by omega) (Option.some.inj e').symm)
 ·by_cases e : i = r
  ·rw [if_pos e];omega
  ·rw [if_neg e];exact h.ne i (by omega)
 ·by_cases e1 : i = r <;> by_cases e2 : j = r
  ·rw [if_pos e1,if_pos e2];omega
  ·rw [if_pos e1,if_neg e2];have:=hfl j (by omega);omega
  ·rw [if_neg e1,if_pos e2];have:=hfl i (by omega);omega
  ·rw [if_neg e1,if_neg e2];exact h.inj i j (by omega) (by omega)
 ·rw [World.ownsRow.cellAt ht r (by omega)]
  simp [hr]
theorem Mp.full {W:World} {base g N:Nat} {f:Nat→Nat} (h:Mp W base g N N f):Mx W base g N f (fun _ _=>False):=by
 refine ⟨?_,h.row,h.ne,h.inj⟩
 have e:((List.range N).map fun i=>if i < N then Value.slice (some ⟨f i,0,none⟩) N N else .slice none 0 0)=(List.range N).map fun i=>Value.slice (some ⟨f i,0,none⟩) N N :=
  List.map_congr_left (fun i hi=>by rw [if_pos (List.mem_range.1 hi)])
 rw [← e]
 exact h.top
set_option maxRecDepth 100000 in
set_option maxHeartbeats 8000000 in
theorem empty_c {W : World} {N : Nat} (hN : N ≤ 100000) :
  Calls Tryz.prog 64 #[.int .i64 N] W fun e W'=>∃ g f,e=.returned (.slice (some ⟨g,0,none⟩) N N)∧Mx W' W.heap.size g N f (fun _ _=>False)∧Below W.heap.size W W':=by
 obtain ⟨F,hF⟩:=make_top N hN
 obtain ⟨G,hG⟩:=make_ints N hN
 have hmF:=fun U=>(hF U).1
 have hmG:=fun U=>(hG U).1
 have HF:=Lib.hid (hF W)
 have HG:=Lib.hid hG
 clear hF hG
 go_enter Tryz.func64,Tryz.ntmps64
 go_wp2_with fail
 have HP:Hid (Mp (F W) W.heap.size W.heap.size N 0 (fun _=>0)):=Lib.hid (Mp.start HF.out.2.1)
 have HB:=Lib.hid HF.out.2.2
 clear HF hmF
 obtain ⟨g,hg⟩:∃ g,g=W.heap.size:=⟨_,rfl⟩
 rw [← hg]
 have HP:Hid (Mp (F W) W.heap.size g N 0 (fun _=>0)):=Lib.hid (by rw [hg];have:=HP.out;exact this)
 clear hg
 go_loopg [4] N (fun gk s4 wx=>∃ (r:Nat) (f:Nat→Nat),r+gk=N∧s4=.int .i64 r∧Hid (Mp wx W.heap.size g N r f)∧Hid (Below W.heap.size W wx))
 case atStart=>exact ⟨0,_,by omega,rfl,HP,HB⟩
 case round =>
  obtain ⟨r,f,hrg,rfl,HM,HW⟩:=hrel
  cases gk with
  | zero =>
   obtain rfl:r=N:=by omega
   have hlt:¬ (r:Int) < (r:Int):=by omega
   clear HP HB hmG
   go_wp2_with fail
   go_ret
   exact ⟨g,rfl,⟨f,HM.out.full⟩,HW.out⟩
  | succ gk =>
   have hlt:(r:Int) < (N:Int):=by omega
   have h0:(0:Int)≤(r:Int):=by omega
   have hwr:wrap64 ((r:Int)+1)=((r+1:Nat):Int):=by rw [IntWalk.wrap64_in _ (by omega)];omega
   obtain ⟨k1,k2,k3,k4,u,k5⟩:=HM.out.next (by omega) HW.out.size (HG.out wr).2.1 (HG.out wr).2.2
   have HN:=Lib.hid k1
   have HBN:=Lib.hid ((HW.out.trans ((HG.out wr).2.2.mono HW.out.size)).grown k2 (HW.out.trans ((HG.out wr).2.2.mono HW.out.size)).size (fun j hj=>by obtain rfl:=Option.some.inj hj;exact k3))
   clear k1 k2 k3 HP HB
   go_wp2_with fail
   go_roundg gk
   case measure=>omega
   case rel=>exact ⟨r+1,_,by omega,by first | rw [hwr] | rfl | simp,HN,HBN⟩
end Go.Proofs.YtioahgklplbinaaGreatDoor

/- The document's tables: still, both, behind. -/
namespace SimM
def BehP (A B:Nat→Nat→Prop) (i k j:Nat):Nat→Nat→Prop:=fun x y=>∃ c,x≤c∧c≤y∧A x c∧B c y∧(x < i∨(x=i∧(c < k∨(c=k∧y < j))))
def Beh (A B:Nat→Nat→Prop):Nat→Nat→Prop:=fun x y=>∃ c,x≤c∧c≤y∧A x c∧B c y
theorem beh_zero (A B:Nat→Nat→Prop) (x y:Nat):False↔BehP A B 0 0 0 x y:=by
 constructor
 ·exact False.elim
 ·rintro ⟨c,h1,h2,h3,h4,h5⟩;omega
theorem beh_put {A B:Nat→Nat→Prop} {i k j:Nat} (hik:i≤k) (hkj:k≤j) (hA:A i k) (x y:Nat):((x=i∧y=j∧(BehP A B i k j i j∨B k j))∨(¬ (x=i∧y=j)∧BehP A B i k j x y))↔BehP A B i k (j+1) x y:=by
 constructor
 ·rintro (⟨rfl, rfl, h | h⟩ | ⟨_, c, h1, h2, h3, h4, h5⟩)
  ·obtain ⟨c, h1, h2, h3, h4, h5⟩ := h
   exact ⟨c,h1,h2,h3,h4,by omega⟩
  ·exact ⟨k,hik,hkj,hA,h,by omega⟩
  ·exact ⟨c,h1,h2,h3,h4,by omega⟩
 ·rintro ⟨c, h1, h2, h3, h4, h5⟩
  by_cases e:x=i∧y=j
  ·obtain ⟨rfl, rfl⟩ := e
   left
   refine ⟨rfl,rfl,?_⟩
   by_cases e:c < k
   ·exact .inl ⟨c,h1,h2,h3,h4,by omega⟩
   ·obtain rfl : c = k := by omega
    exact .inr h4
  ·exact .inr ⟨e,c,h1,h2,h3,h4,by omega⟩
theorem beh_no {A B:Nat→Nat→Prop} {i k j:Nat} (hA:¬ A i k) (x y:Nat):BehP A B i k j x y↔BehP A B i (k+1) (k+1) x y:=by
 constructor
 ·rintro ⟨c, h1, h2, h3, h4, h5⟩
  exact ⟨c,h1,h2,h3,h4,by omega⟩
 ·rintro ⟨c, h1, h2, h3, h4, h5⟩
  refine ⟨c,h1,h2,h3,h4,?_⟩
  by_cases e:x=i∧c=k
  ·obtain ⟨rfl,rfl⟩:=e;exact absurd h3 hA
  ·omega
theorem beh_end {A B:Nat→Nat→Prop} {i k N:Nat} {x y:Nat} (hy:y < N):BehP A B i k N x y↔BehP A B i (k+1) (k+1) x y:=by
 constructor
 ·rintro ⟨c, h1, h2, h3, h4, h5⟩
  exact ⟨c,h1,h2,h3,h4,by omega⟩
 ·rintro ⟨c, h1, h2, h3, h4, h5⟩
  exact ⟨c,h1,h2,h3,h4,by omega⟩
theorem beh_row {A B:Nat→Nat→Prop} {i j N:Nat} {x y:Nat} (hy:y < N):BehP A B i N j x y↔BehP A B (i+1) (i+1) (i+1) x y:=by
 constructor
 ·rintro ⟨c, h1, h2, h3, h4, h5⟩
  exact ⟨c,h1,h2,h3,h4,by omega⟩
 ·rintro ⟨c, h1, h2, h3, h4, h5⟩
  exact ⟨c,h1,h2,h3,h4,by omega⟩
theorem beh_full {A B:Nat→Nat→Prop} {k j N:Nat} {x y:Nat} (hx:x < N):BehP A B N k j x y↔Beh A B x y:=by
 constructor
 ·rintro ⟨c, h1, h2, h3, h4, _⟩
  exact ⟨c,h1,h2,h3,h4⟩
 ·rintro ⟨c, h1, h2, h3, h4⟩
  exact ⟨c,h1,h2,h3,h4,by omega⟩
def OrP (A B:Nat→Nat→Prop) (i j:Nat):Nat→Nat→Prop:=fun x y=>(x < i∨(x=i∧y < j))∧(A x y∨B x y)
theorem or_put {A B:Nat→Nat→Prop} {i j:Nat} (x y:Nat):((x=i∧y=j∧(A i j∨B i j))∨(¬ (x=i∧y=j)∧OrP A B i j x y))↔OrP A B i (j+1) x y:=by
 unfold OrP
 constructor
 ·rintro (⟨rfl, rfl, h⟩ | ⟨_, h1, h2⟩)
  ·exact ⟨by omega,h⟩
  ·exact ⟨by omega,h2⟩
 ·rintro ⟨h1, h2⟩
  by_cases e:x=i∧y=j
  ·obtain ⟨rfl,rfl⟩:=e;exact .inl ⟨rfl,rfl,h2⟩
  ·exact .inr ⟨e,by omega,h2⟩
def NewP (A B:Nat→Nat→Prop) (N i j:Nat) (q:Bool):Prop:=q=true↔∃ x y,y < N∧(x < i∨(x=i∧y < j))∧B x y∧¬ A x y
theorem new_zero (A B:Nat→Nat→Prop) (N:Nat):NewP A B N 0 0 false:=by
 unfold NewP
 constructor
 ·intro h;cases h
 ·rintro ⟨x,y,_,h,_⟩;omega
theorem new_row {A B:Nat→Nat→Prop} {N i:Nat} {q:Bool} (h:NewP A B N i N q):NewP A B N (i+1) 0 q:=by
 unfold NewP at h ⊢
 rw [h]
 constructor
 ·rintro ⟨x,y,h1,h2,h3⟩;exact ⟨x,y,h1,by omega,h3⟩
 ·rintro ⟨x,y,h1,h2,h3⟩;exact ⟨x,y,h1,by omega,h3⟩
theorem new_true {A B:Nat→Nat→Prop} {N i j:Nat} (h:NewP A B N i j true):NewP A B N i (j+1) true:=by
 unfold NewP at h ⊢
 obtain ⟨x,y,h1,h2,h3⟩:=h.1 rfl
 exact ⟨fun _=>⟨x,y,h1,by omega,h3⟩,fun _=>rfl⟩
theorem new_yes {A B:Nat→Nat→Prop} {N i j:Nat} (hj:j < N) (hc:B i j∧¬ A i j):NewP A B N i (j+1) true:=by
 unfold NewP
 exact ⟨fun _=>⟨i,j,hj,by omega,hc⟩,fun _=>rfl⟩
theorem new_no {A B:Nat→Nat→Prop} {N i j:Nat} (h:NewP A B N i j false) (hc:¬ (B i j∧¬ A i j)):NewP A B N i (j+1) false:=by
 unfold NewP at h ⊢
 constructor
 ·intro h;cases h
 ·rintro ⟨x, y, h1, h2, h3⟩
  by_cases e:x=i∧y=j
  ·obtain ⟨rfl,rfl⟩:=e;exact absurd h3 hc
  ·exact h.2 ⟨x,y,h1,by omega,h3⟩
end SimM
namespace Go.Proofs.YtioahgklplbinaaGreatDoor
open Go.RowKit Go.Shelf SetM NfaM SimM
def BothQ (A B:Nat→Nat→Prop) (N:Nat) (v:Value):Prop:=∃ q:Bool,v=.bool q∧(q=true↔∃ i j,i < N∧j < N∧B i j∧¬ A i j)
set_option maxRecDepth 100000 in
set_option maxHeartbeats 8000000 in
theorem still_c {W : World} {N : Nat} (hN : N ≤ 100000) :
  Calls Tryz.prog 63 #[.int .i64 N] W fun e W'=>∃ g f,e=.returned (.slice (some ⟨g,0,none⟩) N N)∧Mx W' W.heap.size g N f (fun i j=>i=j)∧Below W.heap.size W W':=by
 have HE:=Lib.hid (empty_c (W:=W) hN)
 go_enter Tryz.func63,Tryz.ntmps63
 go_wp2_with fail
 refine HE.out.mono ?_
 rintro e w1 ⟨g,f,rfl,h1,b1⟩
 have HM:=Lib.hid (h1.congr (R':=fun i j=>i=j∧i < 0) (fun i j _ _=>by constructor;exact False.elim;rintro ⟨_,h⟩;omega))
 have HB:=Lib.hid b1
 have HG:=Lib.hid h1.lt.1
 clear h1 b1 HE
 go_wp2_with fail
 go_loopg [4] N (fun gk s4 wx=>∃ r:Nat,r+gk=N∧s4=.int .i64 r∧Hid (Mx wx W.heap.size g N f (fun i j=>i=j∧i < r))∧Hid (Below W.heap.size W wx))
 case atStart=>exact ⟨0,by omega,rfl,HM,HB⟩
 case round =>
  obtain ⟨r,hrg,rfl,HR,HW⟩:=hrel
  clear HM HB
  cases gk with
  | zero =>
   obtain rfl:r=N:=by omega
   have hlt:¬ (r:Int) < (r:Int):=by omega
   have HF:=Lib.hid (HR.out.congr (R':=fun i j=>i=j) (fun i j hi _=>⟨fun h=>h.1,fun h=>⟨h,hi⟩⟩))
   go_wp2_with fail
   go_ret
   exact ⟨g,rfl,⟨f,HF.out⟩,HW.out⟩
  | succ gk =>
   have hlt:(r:Int) < (N:Int):=by omega
   have h0:(0:Int)≤(r:Int):=by omega
   have hwr:wrap64 ((r:Int)+1)=((r+1:Nat):Int):=by rw [IntWalk.wrap64_in _ (by omega)];omega
   have hrN:r < N:=by omega
   have c1:=HR.out.at_ hrN
   have c2:=HR.out.get hrN hrN
   have c3:=HR.out.frz hrN r
   obtain ⟨p1,p2⟩:=HR.out.put hrN hrN True
   rw [bt_yes trivial] at p1 p2
   have HN:=Lib.hid (p1.congr (R':=fun i j=>i=j∧i < r+1) (fun i j _ _=>by
    unfold upR
    constructor
    ·rintro (⟨rfl, rfl, _⟩ | ⟨_, rfl, h⟩)
     ·exact ⟨rfl,by omega⟩
     ·exact ⟨rfl,by omega⟩
    ·rintro ⟨rfl, h⟩
     by_cases e:i=r
     ·exact .inl ⟨e,e,trivial⟩
     ·exact .inr ⟨fun h=>e h.1,rfl,by omega⟩))
   have HBN:=Lib.hid (HW.out.grown p2 HW.out.size (fun j hj=>by obtain rfl:=Option.some.inj hj;exact (HR.out.row r hrN).lt.1))
   clear p1 p2
   go_wp2_with fail
   go_roundg gk
   case measure=>omega
   case rel=>exact ⟨r+1,by omega,by first | rw [hwr] | rfl | simp,HN,HBN⟩
set_option maxRecDepth 100000 in
set_option maxHeartbeats 16000000 in
theorem both_c {W : World} {N ba ga bb gb : Nat} {fa fb : Nat → Nat} {A B : Nat → Nat → Prop} (hN : N ≤ 100000) (ha : Mx W ba ga N fa A) (hb : Mx W bb gb N fb B) :
  Calls Tryz.prog 67 #[.slice (some ⟨ga,0,none⟩) N N,.slice (some ⟨gb,0,none⟩) N N] W fun e W'=>∃ g f b,e=.returned (.tuple #[.slice (some ⟨g,0,none⟩) N N,b])∧Mx W' W.heap.size g N f (fun i j=>A i j∨B i j)∧BothQ A B N b∧Below W.heap.size W W':=by
 have HE:=Lib.hid (empty_c (W:=W) hN)
 have HA:=Lib.hid ha
 have HBB:=Lib.hid hb
 clear ha hb
 go_enter Tryz.func67,Tryz.ntmps67
 go_wp2_with fail
 refine HE.out.mono ?_
 rintro e w1 ⟨g,f,rfl,h1,b1⟩
 have HM:=Lib.hid (h1.congr (R':=OrP A B 0 0) (fun i j _ _=>by unfold OrP;constructor;exact False.elim;rintro ⟨h,_⟩;omega))
 have HB:=Lib.hid b1
 clear h1 b1 HE
 go_wp2_with fail
 go_loopg [7,8,9] N (fun gk s7 s8 s9 wx=>∃ (r:Nat) (q:Bool),r+gk=N∧s8=.int .i64 r∧s7=.bool q∧Hid (Mx wx W.heap.size g N f (OrP A B r 0))∧Hid (NewP A B N r 0 q)∧Hid (Below W.heap.size W wx))
 case atStart=>exact ⟨0,false,by omega,rfl,rfl,HM,Lib.hid (new_zero A B N),HB⟩
 case round =>
  obtain ⟨r,q,hrg,rfl,rfl,HR,HQ,HW⟩:=hrel
  clear HM HB
  cases gk with
  | zero =>
   obtain rfl:r=N:=by omega
   have hlt:¬ (r:Int) < (r:Int):=by omega
   have HF:=Lib.hid (HR.out.congr (R':=fun i j=>A i j∨B i j) (fun i j hi _=>⟨fun h=>h.2,fun h=>⟨.inl hi,h⟩⟩))
   have HQ2:Hid (BothQ A B r (.bool q)):=Lib.hid ⟨q,rfl,(HQ.out.trans ⟨fun ⟨x,y,h1,h2,h3⟩=>⟨x,y,by omega,h1,h3⟩,fun ⟨x,y,h1,h2,h3⟩=>⟨x,y,h2,.inl h1,h3⟩⟩)⟩
   go_wp2_with fail
   go_ret2
   first
    | exact ⟨g,f,_,rfl,HF.out,HQ2.out,HW.out⟩
    | exact ⟨g,_,rfl,⟨f,HF.out⟩,HQ2.out,HW.out⟩
    | exact ⟨g,.bool q,rfl,⟨f,HF.out⟩,HQ2.out,HW.out⟩
  | succ gko =>
   have hlt:(r:Int) < (N:Int):=by omega
   have h0:(0:Int)≤(r:Int):=by omega
   have hwr:wrap64 ((r:Int)+1)=((r+1:Nat):Int):=by rw [IntWalk.wrap64_in _ (by omega)];omega
   have hrN:r < N:=by omega
   go_wp2_with fail
   go_loopg [7,9] N (fun gk s7 s9 wx=>∃ (j:Nat) (q:Bool),j+gk=N∧s9=.int .i64 j∧s7=.bool q∧Hid (Mx wx W.heap.size g N f (OrP A B r j))∧Hid (NewP A B N r j q)∧Hid (Below W.heap.size W wx))
   case atStart=>exact ⟨0,q,by omega,rfl,rfl,HR,HQ,HW⟩
   case round =>
    obtain ⟨j,q2,hjg,rfl,rfl,HR2,HQ2,HW2⟩:=hrel
    clear HR HQ HW
    cases gk with
    | zero =>
     obtain rfl:j=N:=by omega
     have hlt2:¬ (j:Int) < (j:Int):=by omega
     have HR3:=Lib.hid (HR2.out.congr (R':=OrP A B (r+1) 0) (fun x y _ hy=>by unfold OrP;constructor <;> (rintro ⟨h1,h2⟩;exact ⟨by omega,h2⟩)))
     have HQ3:=Lib.hid (new_row HQ2.out)
     go_wp2_with fail
     go_roundg gko
     case measure=>omega
     case rel=>exact ⟨r+1,q2,by omega,by first | rw [hwr] | rfl | simp,rfl,HR3,HQ3,HW2⟩
    | succ gk =>
     have hlt2:(j:Int) < (N:Int):=by omega
     have hj0:(0:Int)≤(j:Int):=by omega
     have hwj:wrap64 ((j:Int)+1)=((j+1:Nat):Int):=by rw [IntWalk.wrap64_in _ (by omega)];omega
     have hjN:j < N:=by omega
     obtain ⟨w2,hw2⟩:∃ w2,w2=wr.drew:=⟨_,rfl⟩
     have hbd:Below wr.heap.size wr w2:=by rw [hw2];exact (Below.refl _ _).drew
     have HR2:=Lib.hid (HR2.out.step hbd)
     have HWd:=Lib.hid (HW2.out.trans (hbd.mono HW2.out.size))
     obtain ⟨p1,p2⟩:=HR2.out.put hrN hjN (A r j∨B r j)
     have c1:wr.cell? ⟨g,r,none⟩=some (.slice (some ⟨f r,0,none⟩) N N):=by have:=HR2.out.at_ hrN;rw [hw2] at this;exact this
     have c2:=HR2.out.get hrN hjN
     have c4:wr.cell? ⟨f r,j,none⟩=some (.int .i64 (bt (OrP A B r j r j))):=by rw [hw2] at c2;exact c2
     have c3:=HR2.out.frz hrN j
     have a1:=(HA.out.step HW2.out).at_ hrN
     have a2:=(HA.out.step HW2.out).get hrN hjN
     have b1:=(HBB.out.step HW2.out).at_ hrN
     have b2:=(HBB.out.step HW2.out).get hrN hjN
     obtain ⟨X,hX⟩:∃ X,X=w2.setCell ⟨f r,j,none⟩ (.int .i64 (bt (A r j∨B r j))):=⟨_,rfl⟩
     rw [← hX] at p1 p2
     have HR3:=Lib.hid (p1.congr (R':=OrP A B r (j+1)) (fun x y _ _=>or_put x y))
     have HW3:=Lib.hid (HWd.out.grown p2 HWd.out.size (fun k hk=>by obtain rfl:=Option.some.inj hk;exact (HR2.out.row r hrN).lt.1))
     have hmx:=bt_max (A r j) (B r j)
     clear p1 p2 hbd
     go_wp2
     go_still_tail 21,(by kernel_rfl)
     change wpList _ _ _ _ _ wr.drew
     rw [← hw2]
     clear hw2
     go_wp2
     rw [← hX]
     clear hX c1 c2 c3 c4 a1 a2 b1 b2 hmx
     have a1:=(HA.out.step HW3.out).at_ hrN
     have a2:=(HA.out.step HW3.out).get hrN hjN
     have b1:=(HBB.out.step HW3.out).at_ hrN
     have b2:=(HBB.out.step HW3.out).get hrN hjN
     have HR4:=Lib.hid (HR3.out.step (Below.refl _ _).drew)
     have HW4:=Lib.hid (HW3.out.drew)
     cases q2 with
     | true =>
      have HQ3:=Lib.hid (new_true HQ2.out)
      clear a1 a2 b1 b2
      go_region
      all_goals
       go_wp2_with fail
       go_roundg gk
       case measure=>omega
       case rel=>exact ⟨j+1,true,by omega,by first | rw [hwj] | rfl | simp,rfl,HR4,HQ3,HW4⟩
     | false =>
      by_cases hc:B r j∧¬ A r j
      ·have HQ3 := Lib.hid (new_yes hjN hc)
       rw [bt_yes hc.1] at b2
       rw [bt_no hc.2] at a2
       clear hc
       go_region
       all_goals
        clear a1 a2 b1 b2
        go_wp2_with fail
        go_roundg gk
        case measure=>omega
        case rel=>exact ⟨j+1,true,by omega,by first | rw [hwj] | rfl | simp,rfl,HR4,HQ3,HW4⟩
      ·have HQ3 := Lib.hid (new_no HQ2.out hc)
       have hd:¬ (bt (A r j) < bt (B r j)):=by
        by_cases h1:A r j
        ·rw [bt_yes h1]; by_cases h2 : B r j
         ·rw [bt_yes h2];decide
         ·rw [bt_no h2];decide
        ·rw [bt_no h1,bt_no (fun h2=>hc ⟨h2,h1⟩)];decide
       obtain ⟨u,hu⟩:∃ u,u=bt (A r j):=⟨_,rfl⟩
       obtain ⟨v,hv⟩:∃ v,v=bt (B r j):=⟨_,rfl⟩
       rw [← hu] at a2 hd
       rw [← hv] at b2 hd
       clear hu hv
       clear hc
       go_region
       all_goals
        clear a1 a2 b1 b2 hd
        go_wp2_with fail
        go_roundg gk
        case measure=>omega
        case rel=>exact ⟨j+1,false,by omega,by first | rw [hwj] | rfl | simp,rfl,HR4,HQ3,HW4⟩
end Go.Proofs.YtioahgklplbinaaGreatDoor

/- The document's tables: one behind the other. -/
namespace Go.Proofs.YtioahgklplbinaaGreatDoor
open Go.RowKit Go.Shelf SetM NfaM SimM
set_option maxRecDepth 100000 in
set_option maxHeartbeats 16000000 in
theorem behind_c {W : World} {N ba ga bb gb : Nat} {fa fb : Nat → Nat} {A B : Nat → Nat → Prop} (hN : N ≤ 100000) (ha : Mx W ba ga N fa A) (hb : Mx W bb gb N fb B) :
  Calls Tryz.prog 66 #[.slice (some ⟨ga,0,none⟩) N N,.slice (some ⟨gb,0,none⟩) N N] W fun e W'=>∃ g f,e=.returned (.slice (some ⟨g,0,none⟩) N N)∧Mx W' W.heap.size g N f (Beh A B)∧Below W.heap.size W W':=by
 have HE:=Lib.hid (empty_c (W:=W) hN)
 have HA:=Lib.hid ha
 have HBB:=Lib.hid hb
 clear ha hb
 go_enter Tryz.func66,Tryz.ntmps66
 go_wp2_with fail
 refine HE.out.mono ?_
 rintro e w1 ⟨g,f,rfl,h1,b1⟩
 have HM:=Lib.hid (h1.congr (R':=BehP A B 0 0 0) (fun i j _ _=>beh_zero A B i j))
 have HB:=Lib.hid b1
 clear h1 b1 HE
 go_wp2_with fail
 go_loopg [6,7,8] N (fun gk s6 s7 s8 wx=>∃ r:Nat,r+gk=N∧s6=.int .i64 r∧Hid (Mx wx W.heap.size g N f (BehP A B r r r))∧Hid (Below W.heap.size W wx))
 case atStart=>exact ⟨0,by omega,rfl,HM,HB⟩
 case round =>
  obtain ⟨r,hrg,rfl,HR,HW⟩:=hrel
  clear HM HB
  cases gk with
  | zero =>
   obtain rfl:r=N:=by omega
   have hlt:¬ (r:Int) < (r:Int):=by omega
   have HF:=Lib.hid (HR.out.congr (R':=Beh A B) (fun i j hi _=>beh_full hi))
   go_wp2_with fail
   go_ret
   exact ⟨g,rfl,⟨f,HF.out⟩,HW.out⟩
  | succ gko =>
   have hlt:(r:Int) < (N:Int):=by omega
   have h0:(0:Int)≤(r:Int):=by omega
   have hwr:wrap64 ((r:Int)+1)=((r+1:Nat):Int):=by rw [IntWalk.wrap64_in _ (by omega)];omega
   have hrN:r < N:=by omega
   go_wp2_with fail
   go_loopg [7,8] (N - r) (fun gk s7 s8 wx=>∃ k:Nat,k+gk=N∧r≤k∧s7=.int .i64 k∧Hid (Mx wx W.heap.size g N f (BehP A B r k k))∧Hid (Below W.heap.size W wx))
   case atStart=>exact ⟨r,by omega,Nat.le_refl _,rfl,HR,HW⟩
   case round =>
    obtain ⟨k,hkg,hrk,rfl,HR2,HW2⟩:=hrel
    clear HR HW
    cases gk with
    | zero =>
     obtain rfl:k=N:=by omega
     have hlt2:¬ (k:Int) < (k:Int):=by omega
     have HR3:=Lib.hid (HR2.out.congr (R':=BehP A B (r+1) (r+1) (r+1)) (fun x y _ hy=>beh_row hy))
     go_wp2_with fail
     go_roundg gko
     case measure=>omega
     case rel=>exact ⟨r+1,by omega,by first | rw [hwr] | rfl | simp,HR3,HW2⟩
    | succ gkm =>
     have hlt2:(k:Int) < (N:Int):=by omega
     have hk0:(0:Int)≤(k:Int):=by omega
     have hwk:wrap64 ((k:Int)+1)=((k+1:Nat):Int):=by rw [IntWalk.wrap64_in _ (by omega)];omega
     have hkN:k < N:=by omega
     go_wp2_with fail
     go_loopg [8] (N - k) (fun gk s8 wx=>∃ j:Nat,j+gk=N∧k≤j∧s8=.int .i64 j∧Hid (Mx wx W.heap.size g N f (BehP A B r k j))∧Hid (Below W.heap.size W wx))
     case atStart=>exact ⟨k,by omega,Nat.le_refl _,rfl,HR2,HW2⟩
     case round =>
      obtain ⟨j,hjg,hkj,rfl,HR3,HW3⟩:=hrel
      clear HR2 HW2
      have a1:=(HA.out.step HW3.out).at_ hrN
      have a2:=(HA.out.step HW3.out).get hrN hkN
      by_cases hAk:A r k
      ·rw [bt_yes hAk] at a2
       cases gk with
       | zero =>
        obtain rfl:j=N:=by omega
        have hlt3:¬ (j:Int) < (j:Int):=by omega
        have HR4:=Lib.hid (HR3.out.congr (R':=BehP A B r (k+1) (k+1)) (fun x y _ hy=>beh_end hy))
        clear a1 a2 hAk
        go_wp2_with fail
        go_roundg gkm
        case measure=>omega
        case rel=>exact ⟨k+1,by omega,by omega,by first | rw [hwk] | rfl | simp,HR4,HW3⟩
       | succ gk =>
        have hlt3:(j:Int) < (N:Int):=by omega
        have hj0:(0:Int)≤(j:Int):=by omega
        have hwj:wrap64 ((j:Int)+1)=((j+1:Nat):Int):=by rw [IntWalk.wrap64_in _ (by omega)];omega
        have hjN:j < N:=by omega
        have d1:((1:Int) == 1)=true:=rfl
        obtain ⟨w2,hw2⟩:∃ w2,w2=wr.drew:=⟨_,rfl⟩
        have hbd:Below wr.heap.size wr w2:=by rw [hw2];exact (Below.refl _ _).drew
        have HR4:=Lib.hid (HR3.out.step hbd)
        have HWd:=Lib.hid (HW3.out.trans (hbd.mono HW3.out.size))
        obtain ⟨p1,p2⟩:=HR4.out.put hrN hjN (BehP A B r k j r j∨B k j)
        have c1:wr.cell? ⟨g,r,none⟩=some (.slice (some ⟨f r,0,none⟩) N N):=by have:=HR4.out.at_ hrN;rw [hw2] at this;exact this
        have c2:=HR4.out.get hrN hjN
        have c4:wr.cell? ⟨f r,j,none⟩=some (.int .i64 (bt (BehP A B r k j r j))):=by rw [hw2] at c2;exact c2
        have c3:=HR4.out.frz hrN j
        have e1:=(HBB.out.step HW3.out).at_ hkN
        have e2:=(HBB.out.step HW3.out).get hkN hjN
        obtain ⟨X,hX⟩:∃ X,X=w2.setCell ⟨f r,j,none⟩ (.int .i64 (bt (BehP A B r k j r j∨B k j))):=⟨_,rfl⟩
        rw [← hX] at p1 p2
        have HR5:=Lib.hid (p1.congr (R':=BehP A B r k (j+1)) (fun x y _ _=>beh_put hrk hkj hAk x y))
        have HW5:=Lib.hid (HWd.out.grown p2 HWd.out.size (fun k hk=>by obtain rfl:=Option.some.inj hk;exact (HR4.out.row r hrN).lt.1))
        have hmx:=bt_max (BehP A B r k j r j) (B k j)
        obtain ⟨u,hu⟩:∃ u,u=bt (BehP A B r k j r j):=⟨_,rfl⟩
        obtain ⟨v,hv⟩:∃ v,v=bt (B k j):=⟨_,rfl⟩
        obtain ⟨z,hz⟩:∃ z,z=bt (BehP A B r k j r j∨B k j):=⟨_,rfl⟩
        rw [← hu] at c2 c4 hmx
        rw [← hv] at e2 hmx
        rw [← hz] at hX hmx
        clear p1 p2 hbd hu hv hz hAk
        go_wp2
        go_still_tail 21,(by kernel_rfl)
        change wpList _ _ _ _ _ wr.drew
        rw [← hw2]
        clear hw2
        go_wp2_with fail
        rw [← hX]
        clear hX c1 c2 c3 c4 a1 a2 e1 e2 hmx d1
        go_roundg gk
        case measure=>omega
        case rel=>exact ⟨j+1,by omega,by omega,by first | rw [hwj] | rfl | simp,HR5,HW5⟩
      ·rw [bt_no hAk] at a2
       have HR4:=Lib.hid (HR3.out.congr (R':=BehP A B r (k+1) (k+1)) (fun x y _ _=>beh_no hAk x y))
       have d1:((0:Int) == 1)=false:=rfl
       clear hAk
       by_cases hjN:j < N
       ·have hlt3 : (j : Int) < (N : Int) := by omega
        go_wp2_with fail
        go_roundg gkm
        case measure=>omega
        case rel=>exact ⟨k+1,by omega,by omega,by first | rw [hwk] | rfl | simp,HR4,HW3⟩
       ·have hlt3 : ¬ (j : Int) < (N : Int) := by omega
        go_wp2_with fail
        go_roundg gkm
        case measure=>omega
        case rel=>exact ⟨k+1,by omega,by omega,by first | rw [hwk] | rfl | simp,HR4,HW3⟩
end Go.Proofs.YtioahgklplbinaaGreatDoor
