/- The document's Of. -/
import Derived.Test.YtioahgklplbinaaGreatDoorPA
import Derived.Test.YtioahgklplbinaaGreatDoorRQ
namespace Go.Proofs.YtioahgklplbinaaGreatDoor
open Go.RowKit Go.Shelf SetM PropsM
theorem rnames_any (w:World):Calls Tryz.prog 160 #[] w fun e w'=>∃ P c,e=.returned (.slice P 13 c)∧Strs w'.heap.size w' P namesL∧Below w.heap.size w w':=by
 go_enter Tryz.func160,Tryz.ntmps160
 go_wp2
 go_ret
 exact ⟨_,_,rfl,strs_new w namesL 9,(Below.refl _ w).alloc (Nat.le_refl _) _⟩
theorem rows_new (W : World) (vs : List Value) (ls : List (List Sp)) (T : TypeId) (h : ∀ j (hj : j < ls.length), ∃ P c, vs[j]? = some (.slice P ls[j].length c) ∧ Sl W P ls[j] ∧ (P = none → c = 0)) :
  RowsAt (W.alloc (.cells vs.toArray T)).heap.size (W.alloc (.cells vs.toArray T)) (some ⟨W.heap.size,0,none⟩) ls:=fun _ =>
 ⟨W.heap.size,0,rfl,by rw [World.size_alloc];omega,fun j hj=>by
  obtain ⟨P,c,h1,h2,h3⟩:=h j hj
  exact ⟨P,c,by rw [cell_of_row _ W.heap.size _ _ _ _ (heap_alloc_new W _),List.getElem?_toArray,Nat.zero_add,h1],Sl.step h2 ((Below.refl _ W).alloc (Nat.le_refl _) _),h3⟩⟩
theorem sl_grown {W W':World} {g:Nat} {P:Option Addr} {l:List Sp} (hg:W.grownBy W' (some g)) (cur:Array Value) (t:TypeId) (fz:Nat×Nat) (hh:W.heap[g]? = some (.cells cur t fz)) (hv:∀ v∈cur.toList,∀ n,v≠.int .i64 n) (hs:Sl W P l):Sl W' P l:=fun hl=>by
 obtain ⟨b,off,e,hb,hc⟩:=hs hl
 have hne:b≠g:=by
  rintro rfl
  have hp:=List.length_pos_iff.2 hl
  have h1:=(hc 0 hp).1
  rw [cell_of_row W b _ cur t fz hh] at h1
  exact hv _ (Array.mem_toList_iff.2 (Array.mem_of_getElem? h1)) _ rfl
 have hk:W'.heap[b]? = W.heap[b]?:=hg.block b hb (fun e=>hne (by injection e))
 exact ⟨b,off,e,by have:=hg.size;omega,fun j hj=>⟨(World.cell?_of_block (w:=W) hk).trans (hc j hj).1,(World.cell?_of_block (w:=W) hk).trans (hc j hj).2⟩⟩
theorem rows_of {W : World} {base : Nat} {v : Value} {vs : List Value} {ls : List (List Sp)} {T : TypeId} (ho : W.ownsRow base T 1 v ls.length vs) (h : ∀ j (hj : j < ls.length), ∃ P c, vs[j]? = some (.slice P ls[j].length c) ∧ Sl W P ls[j] ∧ (P = none → c = 0)) :
  ∃ A c,v=.slice A ls.length c∧RowsAt W.heap.size W A ls:=by
 rcases ho.2 with ⟨rfl,h0⟩ | ⟨g,cap,cur,rfl,hb,hg,h1,h2,h3,h4⟩
 ·exact ⟨none,0,by rw [h0],fun hne=>absurd (List.eq_nil_of_length_eq_zero h0) hne⟩
 ·refine ⟨_, cap, rfl, fun _ => ⟨g, 0, rfl, (Array.getElem?_eq_some_iff.1 hg).1, fun j hj => ?_⟩⟩
  obtain ⟨P,c,e1,e2,e3⟩:=h j hj
  refine ⟨P,c,?_,e2,e3⟩
  rw [Nat.zero_add,cell_of_row W g j cur _ _ hg,← Array.getElem?_toList,← e1,← h4,List.getElem?_take_of_lt (by omega)]
theorem runs_wide (i:Nat) (hi:i < 13):Wide (runsOf i):=by
 unfold Wide
 rcases (show i=0∨i=1∨i=2∨i=3∨i=4∨i=5∨i=6∨i=7∨i=8∨i=9∨i=10∨i=11∨i=12 by omega) with rfl | rfl | rfl | rfl | rfl | rfl | rfl | rfl | rfl | rfl | rfl | rfl | rfl <;> decide
theorem gath_leaf (i:Nat) (h9:i≠9) (h12:i≠12):gathOf i=runsOf i:=by unfold gathOf;rw [if_neg h9,if_neg h12]
theorem tells_app (a b:List Sp) (r:Int):Tells (a++b) r↔Tells a r∨Tells b r:=by
 unfold Tells;rw [mem_append]
 constructor
 ·rintro ⟨p, q | q⟩
  ·exact .inl ⟨p,q⟩
  ·exact .inr ⟨p,q⟩
 ·rintro (⟨p, q⟩ | ⟨p, q⟩)
  ·exact ⟨p,.inl q⟩
  ·exact ⟨p,.inr q⟩
theorem name_ne (i j:Nat) (hi:i < 13) (hj:j < 13) (h:i≠j):(nameOf i == nameOf j)=false:=by
 have:∀ i:Fin 13,∀ j:Fin 13,i≠j→(nameOf i == nameOf j)=false:=by decide
 exact this ⟨i,hi⟩ ⟨j,hj⟩ (fun e=>h (Fin.mk.inj_iff.1 e))
theorem names_at' (k:Nat) (hk:k < namesL.length):namesL[k]=nameOf k:=by unfold nameOf;rw [List.getD_eq_getElem?_getD,List.getElem?_eq_getElem hk];rfl
set_option maxRecDepth 100000 in
set_option maxHeartbeats 1000000 in
theorem rof_none (s : ByteArray) (hs : s.data.toList.length ≤ 1000000) (hi : whichF (looseL s.data.toList) = none) (w : World) :
  Calls Tryz.prog 150 #[.string s] w fun e w'=>e=.returned (.tuple #[.slice none 0 0,.bool false])∧Below w.heap.size w w':=by
 have HW:=Lib.hid (which_none hi)
 clear hi
 have HL:=Lib.hid (rloose_any s hs)
 generalize looseL s.data.toList=l at *
 go_enter Tryz.func150,Tryz.ntmps150
 go_wp2_with fail
 refine (HL.out _).mono ?_
 rintro e w1 ⟨rfl,b1⟩
 go_wp2_with fail
 refine (rnames_any _).mono ?_
 rintro e w2 ⟨PN,cN,rfl,sN,b2'⟩
 have b2:=b1.trans (b2'.mono b1.size)
 have HSN:=Lib.hid sN
 have HB2:=Lib.hid b2
 clear b1 b2' b2 sN HL
 obtain ⟨bN,oN,rfl,hbN,hcN⟩:=HSN.out (by decide)
 have HCN:=Lib.hid hcN
 clear hcN HSN
 go_wp2
 go_loopg [6] 13 (fun g s6 wx=>∃ k:Nat,k+g=13∧s6=.int .i64 k∧wx=w2)
 case atStart=>exact ⟨0,by omega,rfl,rfl⟩
 case round =>
  obtain ⟨k,hkg,rfl,rfl⟩:=hrel
  cases gk with
  | zero =>
   have hkz:¬ ((k:Int) < 13):=by omega
   go_wp2
   go_ret2
   exact ⟨rfl,HB2.out⟩
  | succ g =>
   have hk:k < 13:=by omega
   have hkz:(k:Int) < 13:=by omega
   have cN:=HCN.out k hk
   rw [names_at' k hk] at cN
   have hne:(nameOf k == l)=false:=by simpa using HW.out k hk
   go_wp2
   go_roundg g
   case measure=>omega
   case rel=>exact ⟨k+1,by omega,by go_num,rfl⟩
theorem or6 {a b c d e f:Prop}:(a∨((b∨c)∨d)∨e)∨f↔b∨c∨d∨e∨f∨a:=by
 constructor
 ·rintro ((h | (((h | h) | h) | h)) | h) <;> simp [h]
 ·rintro (h | h | h | h | h | h) <;> simp [h]
theorem infoSl:(Tryz.prog.info? 41).map (fun i=>(i.zero,i.size,i.bytes))=some (some (.slice none 0 0),1,24):=by kernel_rfl
end Go.Proofs.YtioahgklplbinaaGreatDoor
