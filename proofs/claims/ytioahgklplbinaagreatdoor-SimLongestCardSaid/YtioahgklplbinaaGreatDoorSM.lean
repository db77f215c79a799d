/- Sort, Marks, in one text. -/
import Derived.Test.YtioahgklplbinaaGreatDoorPURE
import Derived.Test.YtioahgklplbinaaGreatDoorShelf
import Derived.WalkKit
import Derived.Maps.AppendAt
import Derived.Lib.Hide
import Derived.Test.YtioahgklplbinaaGreatDoorWE
namespace Go.Proofs.YtioahgklplbinaaGreatDoor
open Go.RowKit Go.Shelf Go.Sort SetM
def encM (m:Mk):List Value:=[.int .i64 m.1,.int .i64 m.2.1,.int .i64 m.2.2]
def cellsM (l:List Mk):List Value:=l.flatMap encM
theorem cellsM_append (a b:List Mk):cellsM (a++b)=cellsM a++cellsM b:=by simp [cellsM]
theorem cellsM_len (l:List Mk):(cellsM l).length=l.length*3:=by
 induction l with
 | nil=>rfl
 | cons m t ih =>
  have:cellsM (m::t)=encM m++cellsM t:=rfl
  rw [this,List.length_append,ih];simp [encM];omega
theorem cellsM_get : ∀ (l : List Mk) (j : Nat), j < l.length * 3 → (cellsM l)[j]? = (encM (l[j / 3]?.getD default))[j % 3]?
 | [],j,h=>by simp at h
 | m::t,j,h=>by
  have e:cellsM (m::t)=encM m++cellsM t:=rfl
  rw [e]
  by_cases hj:j < 3
  ·rw [List.getElem?_append_left (by simpa [encM] using hj),Nat.div_eq_of_lt hj,Nat.mod_eq_of_lt hj];simp
  ·rw [List.getElem?_append_right (by simp [encM]; omega)]
   have h3:(encM m).length=3:=rfl
   rw [h3,cellsM_get t (j - 3) (by simp at h;omega),show j / 3=(j - 3) / 3+1 from by omega,show (j - 3) % 3=j % 3 from by omega]
   simp
theorem flat_get (l:List Mk) (j:Nat) (h:j < l.length*3):(cellsM l)[j]? = some (id (flatK encM 3 l.toArray)[j]!):=by
 rw [cellsM_get l j h,id,get_flatK encM 3 l.toArray j (by simpa using h)]
 have h1:j / 3 < l.length:=by omega
 have h2:j % 3 < 3:=Nat.mod_lt _ (by omega)
 rw [getElem!_pos l.toArray (j / 3) (by simpa using h1),List.getElem_toArray,List.getElem?_eq_getElem h1,Option.getD_some,
  getElem!_pos (encM l[j / 3]) (j % 3) (by simpa [encM] using h2),List.getElem?_eq_getElem]
theorem holdsM {w:World} {g:Nat} {cur:Array Value} {e:TypeId} {l:List Mk} (hb:w.heap[g]? = some (.cells cur e (0,0))) (ht:cur.toList.take (l.length*3)=cellsM l):HoldsK encM 3 w g 0 l.toArray:=by
 intro j hj
 have hj':j < l.length*3:=by simpa using hj
 refine ⟨?_,by simp [World.frozen?,hb]⟩
 have h1:(cur.toList.take (l.length*3))[j]? = (cellsM l)[j]?:=by rw [ht]
 rw [List.getElem?_take_of_lt hj',flat_get l j hj'] at h1
 simp only [World.cell?,hb,Nat.zero_add]
 simp only [Option.isSome_none,Bool.false_eq_true,if_false]
 rw [← Array.getElem?_toList,h1]
theorem heapM {w : World} {g n : Nat} {os : Array Obj} {cur : Array Value} {e : TypeId} {fr : Nat × Nat} (d : Array Mk) (hb : w.heap[g]? = some (.cells cur e fr)) :
  (sortWorldK encM 3 w g 0 n d os).heap[g]? = some (.cells (putCells id 0 (flatK encM 3 d) cur) e fr):=by
 have hg:g < w.heap.size:=(Array.getElem?_eq_some_iff.1 hb).1
 unfold sortWorldK putRowK
 rw [heap_grow_old _ _ (by simpa using hg)]
 simp [putRow,mapBlock,Sort.ahead,Array.getElem?_modify,hb,onCells]
theorem grownM {w:World} {g n:Nat} {os:Array Obj} (d:Array Mk):w.grownBy (sortWorldK encM 3 w g 0 n d os) (some g):=by
 unfold sortWorldK putRowK
 refine ⟨rfl,rfl,rfl,by simp,fun k hk hne=>?_⟩
 rw [heap_grow_old _ _ (by simpa using hk)]
 have:g≠k:=fun e=>hne (by rw [e])
 simp [putRow,mapBlock,Sort.ahead,Array.getElem?_modify,this]
theorem take_putM (cur:Array Value) (ts:List Mk) (h:ts.length*3≤cur.size):(putCells id 0 (flatK encM 3 ts.toArray) cur).toList.take (ts.length*3)=cellsM ts:=by
 apply List.ext_getElem?
 intro j
 by_cases hj:j < ts.length*3
 ·rw [List.getElem?_take_of_lt hj, Array.getElem?_toList, flat_get ts j hj]
  simp [putCells,hj,show j < cur.size by omega]
 ·rw [List.getElem?_take_eq_none (by omega),List.getElem?_eq_none (by rw [cellsM_len];omega)]
theorem ownsM {w : World} {base g cap n : Nat} {e : TypeId} {os : Array Obj} {cur : Array Value} {ss ts : List Mk} (hl : ts.length = ss.length) (hbase : base ≤ g) (hb : w.heap[g]? = some (.cells cur e (0, 0)))
  (h1:ss.length≤cap) (h2:cap≤maxLen) (h3:cur.size=cap*3) :
  (sortWorldK encM 3 w g 0 n ts.toArray os).ownsRow base e 3 (.slice (some ⟨g,0,none⟩) ss.length cap) ss.length (cellsM ts) :=
 ⟨by rw [cellsM_len,hl],.inr ⟨g,cap,_,rfl,hbase,heapM _ hb,h1,h2,by simp [putCells,h3],by rw [← hl];exact take_putM cur ts (by omega)⟩⟩
theorem ltM (x y:Mk):ltOf (fun x y:Mk=>Lib.compareInt x.1 y.1) x y=decide (x.1 < y.1):=by
 unfold ltOf Lib.compareInt
 by_cases h1:x.1 < y.1
 ·simp [h1]
 ·by_cases h2:y.1 < x.1 <;> simp [h1,h2]
theorem swoM : SWO (ltOf fun x y : Mk => Lib.compareInt x.1 y.1) where
 irrefl x:=by rw [ltM];simp
 trans x y z h1 h2:=by rw [ltM] at *;simp at *;omega
 ntrans x y z h1 h2:=by rw [ltM] at *;simp at *;omega
set_option maxHeartbeats 1000000 in
theorem closureM (x y:Mk) (W:World):Calls Tryz.prog 139 #[.agg #[.int .i64 x.1,.int .i64 x.2.1,.int .i64 x.2.2],.agg #[.int .i64 y.1,.int .i64 y.2.1,.int .i64 y.2.2]] W fun e w'=>e=.returned (.int .i64 (Lib.compareInt x.1 y.1))∧∃ q os',w'=grow (W.drewN q) os':=by
 have hcon:=fun W'=>AnyG.cmp_Compare_int Tryz.cmpInt x.1 y.1 W'
 change ∀ W',Calls Tryz.prog 140 _ _ _ at hcon
 generalize Lib.compareInt x.1 y.1=r at hcon ⊢
 go_enter Tryz.func139,Tryz.ntmps139
 go_wp2_with (go_at_call 140;refine (hcon _).mono ?_;rintro e w' ⟨rfl,rfl⟩)
 go_ret
 exact ⟨rfl,0,_,by rw [alloc_eq_grow,alloc_eq_grow,grow_grow];rfl⟩
theorem isAggM (w:World):(isAgg 180).run Tryz.prog w=.ok true w:=by kernel_rfl
theorem sizeOfM (w:World):(Go.sizeOf 180).run Tryz.prog w=.ok 3 w:=by kernel_rfl
def SortPost (W:World) (base:Nat) (v:Value) (ms:List Mk) (e:Ending) (w':World):Prop :=
 e=.returned (.tuple #[])∧∃ row,List.Perm ms row∧Rises row∧w'.ownsRow base 180 3 v row.length (cellsM row)∧W.grownBy w' v.ownBlock
theorem perm_of_in {l:List Mk} {d:Array Mk} (h:PermIn 0 l.toArray.size l.toArray d):List.Perm l d.toList:=by
 obtain ⟨h1,_,h3⟩:=h
 have e1:(d.extract 0 l.toArray.size)=d:=by rw [← h1];simp
 have e2:(l.toArray.extract 0 l.toArray.size)=l.toArray:=by simp
 rw [e1,e2] at h3
 exact h3.symm
theorem rises_of_in {n:Nat} {d:Array Mk} (hn:d.size=n) (h:SortedIn (ltOf fun x y:Mk=>Lib.compareInt x.1 y.1) 0 n d):Rises d.toList:=by
 refine List.pairwise_iff_getElem.2 (fun i j hi hj hij=>?_)
 have:=h i j (Nat.zero_le _) hij (by simpa [← hn] using hj)
 rw [ltM,decide_eq_false_iff_not] at this
 rw [getElem!_pos d j (by simpa using hj),getElem!_pos d i (by simpa using hi)] at this
 simp only [Array.getElem_toList]
 omega
set_option maxHeartbeats 1000000 in
theorem insertion_none (p : Option Addr) (cap : Nat) (fv : Value) (w : World) :
  Calls Tryz.prog 151 #[.slice p 0 cap,.int .i64 0,.int .i64 0,fv] w fun e w'=>e=.returned (.tuple #[])∧w=w':=by
 go_enter Tryz.func151,Tryz.ntmps151
 go_wp2
 refine wp_loop_rounds 1 ?_
 rw [rounds_succ]
 go_wp2
 go_end0
 exact ⟨rfl,rfl⟩
set_option maxHeartbeats 1000000 in
theorem pdq_none (p : Option Addr) (cap : Nat) (lim : Int) (fv : Value) (w : World) :
  Calls Tryz.prog 146 #[.slice p 0 cap,.int .i64 0,.int .i64 0,.int .i64 lim,fv] w fun e w'=>e=.returned (.tuple #[])∧w=w':=by
 go_enter Tryz.func146,Tryz.ntmps146
 go_wp2
 refine wp_loop_rounds 1 ?_
 rw [rounds_succ]
 go_wp2_with (go_at_call 151;refine (insertion_none _ _ _ _).mono ?_;rintro e w' ⟨rfl,rfl⟩)
 (try simp only [Exit.inBlock,Exit.then]);refine bodyPost_ret (results_none rfl _ _ _) rfl ?_
 exact ⟨rfl,rfl⟩
set_option maxHeartbeats 1000000 in
theorem sort_none (fv:Value) (w:World):Calls Tryz.prog 138 #[.slice none 0 0,fv] w fun e w'=>e=.returned (.tuple #[])∧w=w':=by
 have hl:∀ W,Calls Tryz.prog 92 #[.int .u64 0] W fun e w'=>e=.returned (.int .i64 (Lib.bitLen 0:Nat))∧w'=W:=fun W=>by
  have L:=Tryz.sortM
  have h:=Any.bits_Len (SlLaysF0.n15.bits (P:=Tryz.prog) (ρ:=Tryz.sortM_ren) { L with }) 0 W (by omega) (by omega)
  exact h
 have HL:=Lib.hid hl
 clear hl
 go_enter Tryz.func138,Tryz.ntmps138
 go_wp2_with (first | (go_at_call 92;refine (HL.out _).mono ?_;rintro e w' ⟨rfl,rfl⟩) | (go_at_call 146;refine (pdq_none _ _ _ _ _).mono ?_;rintro e w' ⟨rfl,rfl⟩))
 go_end0
 exact ⟨rfl,rfl⟩
theorem sort_any (base : Nat) (v : Value) (ms : List Mk) (hsz : ms.length < 4611686018427387904) (W : World) (hown : W.ownsRow base 180 3 v ms.length (cellsM ms)) :
  Calls Tryz.prog 138 #[v,.func (.func 139) #[] #[]] W (SortPost W base v ms):=by
 rcases hown.2 with ⟨rfl,h0⟩ | ⟨g,cap,cur,rfl,hbase,hb,h1,h2,h3,h4⟩
 ·have hm : ms = [] := List.eq_nil_of_length_eq_zero h0
  refine (sort_none _ W).mono ?_
  rintro e w' ⟨rfl,rfl⟩
  exact ⟨rfl,[],by rw [hm],List.Pairwise.nil,World.ownsRow_nil _ _ _ _,⟨rfl,rfl,rfl,Nat.le_refl _,fun _ _ _=>rfl⟩⟩
 have eg:∀ args w,(callFunc 139 args).run Tryz.prog w=.ok (.enter 139 args) w:=enters_of Tryz.func139 (by kernel_rfl) rfl
 have hcon := AnyQ.slices_SortFunc Tryz.sortM 3 isAggM sizeOfM encM (fun _ => rfl) (fun x v hv => by simp [encM] at hv; rcases hv with rfl | rfl | rfl <;> rfl) (fun x y => Lib.compareInt x.1 y.1) swoM 139 #[] g 0 cap ms.toArray W eg
  (fun _ _ _ _ x y=>closureM x y _) (holdsM hb h4) (Array.getElem?_eq_some_iff.1 hb).1 (by simpa using hsz)
 refine hcon.mono ?_
 rintro e w' ⟨rfl,d',n,os,hp,hs,rfl⟩
 have hsd:d'.size=ms.length:=by simpa using hp.1
 refine ⟨rfl,d'.toList,perm_of_in hp,rises_of_in (by simpa using hp.1) hs,?_,grownM d'⟩
 have hl:d'.toList.length=ms.length:=by simpa using hsd
 have:=ownsM (n:=n) (os:=os) hl hbase hb h1 h2 h3
 rw [hl]
 exact this
end Go.Proofs.YtioahgklplbinaaGreatDoor
namespace Go.Proofs.YtioahgklplbinaaGreatDoor
open Go.RowKit Go.Shelf SetM
attribute [local go_sem] Oper.semAt_some
def MarksPost (w:World) (a b:List Sp) (e:Ending) (w':World):Prop :=
 ∃ (v:Value) (row:List Mk),e=.returned v∧List.Perm (raw a b) row∧Rises row∧w'.ownsRow w.heap.size 180 3 v row.length (cellsM row)∧Below w.heap.size w w'
theorem infoM:(Tryz.prog.info? 180).map (fun i=>(i.zero,i.size,i.bytes))=some (some (.agg #[.int .i64 0,.int .i64 0,.int .i64 0]),3,24):=by kernel_rfl
def MI (w:World) (Bo Bs:Nat) (acc:List Mk) (side:Int) (pre:List End) (W:World):Prop :=
 (∃ v,Boxed W Bo 177 v∧W.ownsRow w.heap.size 180 3 v (acc++rawOf side (pre.map (·.1))).length (cellsM (acc++rawOf side (pre.map (·.1)))))∧Boxed W Bs 3 (.int .i64 side)
theorem endsE_len (l:List Sp):(endsE l).length≤2*l.length:=by
 have:=endsL_len l
 rw [← endsE_val,List.length_map] at this
 exact this
theorem MI_own (w:World) (Bo Bs:Nat) (acc:List Mk) (side:Int):Own (MI w Bo Bs acc side):=by
 intro s X Y row hs hg hr
 obtain ⟨⟨v,h1,h2⟩,h3⟩:=hs
 obtain ⟨v',h1',h2',_⟩:=holdsRow_own (β:=Unit) w.heap.size Bo 177 180 3 (fun _=>(acc++rawOf side (s.map (·.1))).length) (fun _=>cellsM (acc++rawOf side (s.map (·.1)))) (fun _ _=>True) () X Y row ⟨v,h1,h2,trivial⟩ hg hr
 exact ⟨⟨v',h1',h2'⟩,boxed_kept h3 hg hr⟩
theorem kp_appended {W w1 : World} {n₀ Bo k : Nat} {v v' : Value} {xs : List Value} {tmp : Obj} (hv : Boxed W Bo 177 v) (hrow : W.ownsRow n₀ 180 3 v k xs)
  (hgrow:(W.alloc tmp).grownBy w1 v.ownBlock) (hb:Below n₀ W (w1.setCell ⟨Bo,0,none⟩ v')):Kp n₀ W (w1.setCell ⟨Bo,0,none⟩ v'):=by
 refine ⟨hb,fun j cs fr e=>?_⟩
 have hlt:j < W.heap.size:=(Array.getElem?_eq_some_iff.1 e).1
 have e1:(W.alloc tmp).heap[j]? = some (.cells cs 45 fr):=(Below.heap_alloc W tmp j hlt).trans e
 have hne:some j≠v.ownBlock:=fun he=>by
  rcases hrow.2 with ⟨rfl,_⟩ | ⟨g,cap,cur,rfl,_,hgb,_⟩
  ·simp [Value.ownBlock] at he
  ·obtain rfl : j = g := by simpa [Value.ownBlock] using he
   rw [e] at hgb
   injection hgb with hgb
   injection hgb with _ ht
   exact absurd ht (by decide)
 have e2:=(hgrow.block j (by simp;omega) hne).trans e1
 have hjb:j≠Bo:=fun he=>by
  subst he
  have h2:W.heap[j]? = _:=hv
  rw [e] at h2
  injection h2 with h2
  injection h2 with _ ht
  exact absurd ht (by decide)
 exact (Below.heap_setCell w1 ⟨Bo,0,none⟩ v' j hjb).trans e2
theorem keptD_own {B D:Nat} {o:Obj} (hD:D < B):OwnFrom B (fun (_:List End) W=>W.heap[D]? = some o):=fun _ X Y row hs hg hr=>by
 have hlt:D < X.heap.size:=(Array.getElem?_eq_some_iff.1 hs).1
 exact (hg.block D hlt (fun e=>by have:=(hr _ e.symm).1;omega)).trans hs
theorem own_ne {W:World} {base:Nat} {e:TypeId} {size k:Nat} {v:Value} {xs:List Value} (h:W.ownsRow base e size v k xs) {l:Nat} {o:Obj} (hl:W.heap[l]? = some o) (ho:o.isCells=false):some l≠v.ownBlock:=fun he=>by
 rcases h.2 with ⟨rfl,_⟩ | ⟨g,cap,cur,rfl,_,hgb,_⟩
 ·simp [Value.ownBlock] at he
 ·obtain rfl : l = g := by simpa [Value.ownBlock] using he
  rw [hgb] at hl;cases hl;cases ho
theorem cell_news (w:World) (l:List Value) (t:TypeId):∀ j u,l[j]? = some u→(w.alloc (.cells l.toArray t)).cell? ((⟨w.heap.size,0,none⟩:Addr).add j)=some u:=by
 intro j u hj
 have:((⟨w.heap.size,0,none⟩:Addr).add j)=⟨w.heap.size,j,none⟩:=by unfold Addr.add;split <;> simp_all
 rw [this,cell_of_row _ w.heap.size j l.toArray t (0,0) (World.alloc_heap_new w _)]
 simpa using hj
theorem rawOf_snoc (side:Int) (pre:List End) (x:End):rawOf side ((pre++[x]).map (·.1))=rawOf side (pre.map (·.1))++marksOf side x.1:=by
 simp [rawOf]
set_option maxRecDepth 100000 in
set_option maxHeartbeats 2000000 in
theorem marks_in (A B : Option Addr) (ca cb : Nat) (xs ys : List Sp) (hla : xs.length ≤ 1073741824) (hlb : ys.length ≤ 1073741824) (w : World) (h0 : 0 < w.heap.size) (hA : Areas w) (hSa : Spans w.heap.size w A xs) (hSb : Spans w.heap.size w B ys) :
  CallsIn Fence.wide 3 Tryz.prog 126 #[.slice A xs.length ca,.slice B ys.length cb] w (MarksPost w xs ys):=by
 obtain ⟨F,hFw⟩:∃ F,F=Fence.wide:=⟨_,rfl⟩
 have hro:F.round=none:=by rw [hFw];rfl
 have hF:∀ f,F.fn f:=fun f=>by rw [hFw];trivial
 rw [← hFw]
 have h15:=hF 126
 have h35:=hF 90
 have h46:=hF 102
 have h50:=hF 138
 have HFw:=Lib.hid hFw
 clear hF hFw
 obtain ⟨i0,hi,hz0,hz1,hz2⟩:=info_parts infoM
 refine callsIn_of_wp_marks Tryz.func126 rfl h15 ?_ hro
 simp only [Tryz.ntmps126,List.size_toArray,List.length_cons,List.length_nil,Nat.reduceAdd,Nat.reduceSub,Array.replicate_succ,Array.replicate_zero,List.push_toArray,List.append_toArray,List.nil_append,List.cons_append]
 have hix0:∀ w,(Instr.index 190 (.agg #[.slice A xs.length ca,.slice B ys.length cb]) (.int .i64 0)).run Tryz.prog w=.ok (.slice A xs.length ca) w:=fun _=>by kernel_rfl
 have hix1:∀ w,(Instr.index 190 (.agg #[.slice A xs.length ca,.slice B ys.length cb]) (.int .i64 1)).run Tryz.prog w=.ok (.slice B ys.length cb) w:=fun _=>by kernel_rfl
 gi_wp2
 refine wpIn_loop_rounds 3 ?_
 rw [roundsIn_succ]
 gi_wp2_with (gi_at_call 90;refine (toIn (n:=2) HFw (ends_any _ _ _ _)).mono ?_;rintro e w' ⟨rfl,rfl⟩)
 have bO:=Boxed.new w 177 (.slice none 0 0)
 have bS:=Boxed.new (w.alloc (.cells #[.slice none 0 0] 177)) 3 (.int .i64 0)
 have bN:=Boxed.new ((w.alloc (.cells #[.slice none 0 0] 177)).alloc (.cells #[.int .i64 0] 3)) 41 (.slice A xs.length ca)
 rw [World.size_alloc] at bS
 rw [World.size_alloc,World.size_alloc] at bN
 have hB0:Below w.heap.size w (((w.alloc (.cells #[.slice none 0 0] 177)).alloc (.cells #[.int .i64 0] 3)).alloc (.cells #[.slice A xs.length ca] 41)):=(((Below.refl _ w).alloc (Nat.le_refl _) _).alloc (by simp) _).alloc (by simp;omega) _
 have hsz0:(((w.alloc (.cells #[.slice none 0 0] 177)).alloc (.cells #[.int .i64 0] 3)).alloc (.cells #[.slice A xs.length ca] 41)).heap.size=w.heap.size+1+1+1:=by simp only [World.size_alloc]
 have HSZ0:=Lib.hid hsz0
 have mi0:MI w w.heap.size (w.heap.size+1) [] 0 [] (((w.alloc (.cells #[.slice none 0 0] 177)).alloc (.cells #[.int .i64 0] 3)).alloc (.cells #[.slice A xs.length ca] 41)):=⟨⟨_,(bO.alloc _).alloc _,World.ownsRow_nil _ _ _ _⟩,bS.alloc _⟩
 clear bO bS hsz0
 generalize (((w.alloc (.cells #[.slice none 0 0] 177)).alloc (.cells #[.int .i64 0] 3)).alloc (.cells #[.slice A xs.length ca] 41))=W0 at *
 refine wpIn_rangeFunc_ownG (α := End) hro (by omega) (gf := 102) (lb := #[.pointer (some ⟨w.heap.size + 1 + 1, 0, none⟩)]) rfl h46 (enters_of Tryz.func102 (by kernel_rfl) rfl)
  (ends_stopsF HFw 2 (w.heap.size+1+1) w.heap.size h0 A ca xs hla _ bN.lt hB0.size bN.cell (hA.below hB0 h0) (hSa.below hB0)) Kp.trans (Kp.put hB0.size) (Below.refl _ _) (fun _=>rfl)
  (fun pre W=>MI w w.heap.size (w.heap.size+1) [] 0 pre W∧Below w.heap.size w W) (fun _ _ _=>False)
  (OwnFrom.and (Own.from (MI_own _ _ _ _ _) _) (ownFrom_below (Nat.le_refl _) hB0.size)) (fun _ _ _ _ _ hs _ _=>hs)
  ⟨mi0,hB0⟩
  (fun x=>{ tmps:=#[.slice A xs.length ca,.slice B ys.length cb,undef,undef,.slice none 0 0,.pointer (some ⟨w.heap.size,0,none⟩),.pointer (some ⟨w.heap.size+1,0,none⟩),.slice A xs.length ca,.int .i64 x.1.1,.int .i64 x.1.2,.slice A xs.length ca,.slice B ys.length cb,.agg #[.slice A xs.length ca,.slice B ys.length cb],.int .i64 0,.bool true,.int .i64 0,.slice A xs.length ca,.slice A xs.length ca,.func (.func 102) #[] #[.pointer (some ⟨w.heap.size+1+1,0,none⟩)],.int .i64 x.1.1,.int .i64 x.1.2,undef,undef,undef,undef,undef,undef,undef,undef,undef,undef,undef,undef,undef,undef],defers:=[] }) ?assign ?body ?done ?stop
 case assign =>
  intro l x W K hK
  simp only [endE]
  gi_wp2
  exact hK
 case body =>
  clear mi0 bN
  rintro l pre x W ⟨⟨⟨v,bO,hrow⟩,bS⟩,hB⟩ hpl
  have hpl2:=endsE_len xs
  have hlen:=rawOf_len 0 (pre.map (·.1))
  rw [List.length_map] at hlen
  have hco:=bO.cell
  have hfo:=bO.frozen
  have hcs:=bS.cell
  obtain ⟨x0,x1,x2⟩:=x.2
  generalize hms:[]++rawOf 0 (pre.map (·.1))=ms at hrow
  have hmsl:ms.length≤2147483648*2:=by rw [← hms,List.nil_append];omega
  have HMS:=Lib.hid hms
  clear hms hlen
  gi_wp2_with (gi_at_builtin;refine wpListIn_append_own _ rfl _ _ 177 rfl w.heap.size 180 i0 (.agg #[.int .i64 0,.int .i64 0,.int .i64 0]) 3 24 Tryz.underlying177 hi hz0 hz1 hz2 rfl (by decide) _ _ _ rfl (hrow.alloc _) ⟨W.heap.size,0,none⟩ 2 2 [.int .i64 x.1.1,.int .i64 0,.int .i64 1,.int .i64 (x.1.2+1),.int .i64 0,.int .i64 (-1)] rfl rfl (cell_news _ _ _) (by simp [Value.oneCell']) (by unfold maxLen;omega) (by omega) (by have:=hB.size;simp;omega) ?_;intro v' w1 hown' hgrow _;obtain ⟨g',cap',rfl⟩:=ownsRow_succ hown';obtain ⟨hv1,hv2,hr2,hk2,hb2⟩:=bO.appended (by decide) hrow hB.size (Nat.le_refl _) hown' hgrow;have hc1:=hv1.cell;have hf1:=hv1.frozen)
  have bS2:=((bS.alloc (.cells #[.int .i64 x.1.1,.int .i64 0,.int .i64 1,.int .i64 (x.1.2+1),.int .i64 0,.int .i64 (-1)] 180)).kept hgrow (bS.not_row (by decide) hrow)).kept (grownBy_setCell' w1 w.heap.size (.slice (some ⟨g',0,none⟩) (ms.length+1+1) cap')) (by simp)
  have hnew:[]++rawOf 0 ((pre++[x]).map (·.1))=ms++marksOf 0 x.1:=by rw [rawOf_snoc,← HMS.out,List.append_assoc]
  exact ⟨hk2.from _,kp_appended bO hrow hgrow hb2,⟨⟨_,hv2,by rw [hnew,cellsM_append,List.length_append];exact hr2⟩,bS2⟩,hB.trans hb2⟩
 case done =>
  rintro D1 zs W1 hD rfl ⟨mi1,hB1⟩ hK
  clear mi0 bN
  obtain ⟨⟨v1,bO1,hrow1⟩,_⟩:=mi1
  rw [List.nil_append,endsE_val] at hrow1
  gi_wp2
  rw [roundsIn_succ]
  gi_wp2_with (gi_at_call 90;refine (toIn (n:=2) HFw (ends_any _ _ _ _)).mono ?_;rintro e w' ⟨rfl,rfl⟩)
  have bS:=Boxed.new W1 3 (.int .i64 1)
  have bN:=Boxed.new (W1.alloc (.cells #[.int .i64 1] 3)) 41 (.slice B ys.length cb)
  rw [World.size_alloc] at bN
  have hB2:Below w.heap.size w ((W1.alloc (.cells #[.int .i64 1] 3)).alloc (.cells #[.slice B ys.length cb] 41)):=(hB1.alloc hB1.size _).alloc (by have:=hB1.size;simp;omega) _
  have mi2:MI w w.heap.size W1.heap.size (rawOf 0 (endsL xs)) 1 [] ((W1.alloc (.cells #[.int .i64 1] 3)).alloc (.cells #[.slice B ys.length cb] 41)):=⟨⟨v1,(bO1.alloc _).alloc _,by rw [show rawOf 0 (endsL xs)++rawOf 1 (([]:List End).map (·.1))=rawOf 0 (endsL xs) from by simp [rawOf]];exact (hrow1.alloc _).alloc _⟩,bS.alloc _⟩
  have hDl:D1 < W1.heap.size:=(Array.getElem?_eq_some_iff.1 hK).1
  have hK2:((W1.alloc (.cells #[.int .i64 1] 3)).alloc (.cells #[.slice B ys.length cb] 41)).heap[D1]? = some (.deferred (some [])):=(Below.heap_alloc _ _ _ (by simp;omega)).trans ((Below.heap_alloc _ _ _ hDl).trans hK)
  have hD2:D1 < ((W1.alloc (.cells #[.int .i64 1] 3)).alloc (.cells #[.slice B ys.length cb] 41)).heap.size:=by simp;omega
  have hdn:w.heap.size≤D1:=by have:=HSZ0.out;omega
  clear bS bO1 hrow1 hK
  generalize ((W1.alloc (.cells #[.int .i64 1] 3)).alloc (.cells #[.slice B ys.length cb] 41))=W2 at *
  refine wpIn_rangeFunc_ownG (α := End) hro (by omega) (gf := 102) (lb := #[.pointer (some ⟨W1.heap.size + 1, 0, none⟩)]) rfl h46 (enters_of Tryz.func102 (by kernel_rfl) rfl)
   (ends_stopsF HFw 2 (W1.heap.size+1) w.heap.size h0 B cb ys hlb _ bN.lt hB2.size bN.cell (hA.below hB2 h0) (hSb.below hB2)) Kp.trans (Kp.put hB2.size) (Below.refl _ _) (fun _=>rfl)
   (fun pre W=>(MI w w.heap.size W1.heap.size (rawOf 0 (endsL xs)) 1 pre W∧W.heap[D1]? = some (.deferred (some [])))∧Below w.heap.size w W) (fun _ _ _=>False)
   (OwnFrom.and (OwnFrom.and (Own.from (MI_own _ _ _ _ _) _) (keptD_own hD2)) (ownFrom_below (Nat.le_refl _) hB2.size)) (fun _ _ _ _ _ hs _ _=>hs)
   ⟨⟨mi2,hK2⟩,hB2⟩
   (fun x=>{ tmps:=#[.slice A xs.length ca,.slice B ys.length cb,undef,undef,.slice none 0 0,.pointer (some ⟨w.heap.size,0,none⟩),.pointer (some ⟨W1.heap.size,0,none⟩),.slice B ys.length cb,.int .i64 x.1.1,.int .i64 x.1.2,.slice A xs.length ca,.slice B ys.length cb,.agg #[.slice A xs.length ca,.slice B ys.length cb],.int .i64 1,.bool true,.int .i64 1,.slice B ys.length cb,.slice B ys.length cb,.func (.func 102) #[] #[.pointer (some ⟨W1.heap.size+1,0,none⟩)],.int .i64 x.1.1,.int .i64 x.1.2,undef,undef,undef,undef,undef,undef,undef,undef,undef,undef,.int .i64 1,undef,undef,undef],defers:=[] }) ?assign2 ?body2 ?done2 ?stop2
  case assign2 =>
   intro l x W K hK
   simp only [endE]
   gi_wp2
   exact hK
  case body2 =>
   clear mi2 bN hK2
   rintro l pre x W ⟨⟨⟨⟨v,bO,hrow⟩,bS⟩,hKd⟩,hB⟩ hpl
   have hpl2:=endsE_len ys
   have hlen:=rawOf_len 1 (pre.map (·.1))
   rw [List.length_map] at hlen
   have hco:=bO.cell
   have hfo:=bO.frozen
   have hcs:=bS.cell
   obtain ⟨x0,x1,x2⟩:=x.2
   have hl1:=rawOf_len 0 (endsL xs)
   have hl2:=endsL_len xs
   generalize hms:rawOf 0 (endsL xs)++rawOf 1 (pre.map (·.1))=ms at hrow
   have hmsl:ms.length≤2147483648*4:=by rw [← hms,List.length_append];omega
   have HMS:=Lib.hid hms
   clear hms hlen hl1 hl2
   gi_wp2_with (gi_at_builtin;refine wpListIn_append_own _ rfl _ _ 177 rfl w.heap.size 180 i0 (.agg #[.int .i64 0,.int .i64 0,.int .i64 0]) 3 24 Tryz.underlying177 hi hz0 hz1 hz2 rfl (by decide) _ _ _ rfl (hrow.alloc _) ⟨W.heap.size,0,none⟩ 2 2 [.int .i64 x.1.1,.int .i64 1,.int .i64 1,.int .i64 (x.1.2+1),.int .i64 1,.int .i64 (-1)] rfl rfl (cell_news _ _ _) (by simp [Value.oneCell']) (by unfold maxLen;omega) (by omega) (by have:=hB.size;simp;omega) ?_;intro v' w1 hown' hgrow _;obtain ⟨g',cap',rfl⟩:=ownsRow_succ hown';obtain ⟨hv1,hv2,hr2,hk2,hb2⟩:=bO.appended (by decide) hrow hB.size (Nat.le_refl _) hown' hgrow;have hc1:=hv1.cell;have hf1:=hv1.frozen)
   have bS2:=((bS.alloc (.cells #[.int .i64 x.1.1,.int .i64 1,.int .i64 1,.int .i64 (x.1.2+1),.int .i64 1,.int .i64 (-1)] 180)).kept hgrow (bS.not_row (by decide) hrow)).kept (grownBy_setCell' w1 w.heap.size (.slice (some ⟨g',0,none⟩) (ms.length+1+1) cap')) (by have:=hB1.size;simp;omega)
   have hnew:rawOf 0 (endsL xs)++rawOf 1 ((pre++[x]).map (·.1))=ms++marksOf 1 x.1:=by rw [rawOf_snoc,← HMS.out,List.append_assoc]
   exact ⟨hk2.from _,kp_appended bO hrow hgrow hb2,⟨⟨⟨_,hv2,by rw [hnew,cellsM_append,List.length_append];exact hr2⟩,bS2⟩,hk2.same D1 _ hKd rfl⟩,hB.trans hb2⟩
  case done2 =>
   rintro E zs W3 hE rfl ⟨⟨mi3,hK3⟩,hB3⟩ hKe
   clear mi2 bN hK2
   obtain ⟨⟨v3,bO3,hrow3⟩,_⟩:=mi3
   rw [endsE_val] at hrow3
   have hraw:rawOf 0 (endsL xs)++rawOf 1 (endsL ys)=raw xs ys:=rfl
   rw [hraw] at hrow3
   have hc3:=bO3.cell
   gi_wp2
   rw [roundsIn_succ]
   have hlr:=raw_len xs ys
   gi_wp2_with (gi_at_call 138;refine (toIn (n:=2) HFw (sort_any w.heap.size v3 (raw xs ys) (by omega) W3 hrow3)).mono ?_;rintro e w4 ⟨rfl,row,hperm,hrise,hrow4,hg4⟩;have hc4:=(bO3.kept hg4 (bO3.not_row (by decide) hrow3)).cell)
   have hEl:E < W3.heap.size:=(Array.getElem?_eq_some_iff.1 hKe).1
   have hDl3:D1 < W3.heap.size:=(Array.getElem?_eq_some_iff.1 hK3).1
   have hKe4:=(hg4.block E hEl (own_ne hrow3 hKe rfl)).trans hKe
   have hK4:=(hg4.block D1 hDl3 (own_ne hrow3 hK3 rfl)).trans hK3
   have hne:D1≠E:=by omega
   have hK5:(w4.putObj E (.deferred none)).heap[D1]? = some (.deferred (some [])):=((grownBy_putObj' w4 E (.deferred none)).block D1 (Array.getElem?_eq_some_iff.1 hK4).1 (by simpa using hne)).trans hK4
   have hB4:=hB3.grown hg4 hB3.size (fun k e=>(hrow3.lt k e).1)
   have hEw:w.heap.size≤E:=by have:=hB2.size;omega
   refine ⟨by simp,.inl ⟨_,_,rfl,run_takeDeferred hKe4,?_⟩⟩
   refine ⟨by simp,.inl ⟨_,_,rfl,run_takeDeferred hK5,?_⟩⟩
   exact ⟨_,results_tmp rfl _ _ _,v3,row,rfl,hperm,hrise,ownsRow_putObj (ownsRow_putObj hrow4 _ hKe4 rfl) _ hK5 rfl,
    (hB4.trans (belowK_b (w:=w) (Nat.le_refl _) _ E _ _ hEw hKe4 rfl rfl)).trans (belowK_b (w:=w) (Nat.le_refl _) _ D1 _ _ hdn hK5 rfl rfl)⟩
  case stop2 =>
   rintro E c pre W3 _ _ h _
   exact h.elim
 case stop =>
  rintro D c pre W _ _ h _
  exact h.elim
theorem marks_any (A B : Option Addr) (ca cb : Nat) (xs ys : List Sp) (hla : xs.length ≤ 1073741824) (hlb : ys.length ≤ 1073741824) (w : World) (h0 : 0 < w.heap.size) (hA : Areas w) (hSa : Spans w.heap.size w A xs) (hSb : Spans w.heap.size w B ys) :
  Calls Tryz.prog 126 #[.slice A xs.length ca,.slice B ys.length cb] w (MarksPost w xs ys):=callsIn_wide.1 (marks_in A B ca cb xs ys hla hlb w h0 hA hSa hSb)
end Go.Proofs.YtioahgklplbinaaGreatDoor
