/- FRuns, FMove, FGather, FClose, FRef, in one text. -/
import Derived.Test.YtioahgklplbinaaGreatDoorWE
import Derived.Test.YtioahgklplbinaaGreatDoorPURE
import Derived.RegionTactic
import Derived.ChangeAlike
import Derived.Deep.LoopGhost
import Derived.Deep.QuietTactic
import Derived.BigQuiet
import Derived.Handy
import Derived.Deep.RegionHeld3
import Derived.WalkSmall
import Derived.IntWalk
import Derived.Test.YtioahgklplbinaaGreatDoorSET
import Derived.Laws.AppendOwnNone
namespace Go.Proofs.YtioahgklplbinaaGreatDoor
open Go.RowKit Go.Shelf SetM
end Go.Proofs.YtioahgklplbinaaGreatDoor
namespace Go.Proofs.YtioahgklplbinaaGreatDoor
open Go.RowKit Go.Shelf SetM
theorem below_grownF {W W':World} (h:Below W.heap.size W W'):W.grownBy W' none:=⟨h.os,h.tape,h.output,h.size,fun k hk _=>h.block k hk⟩
theorem own_belowF {W W':World} {base:Nat} {t:TypeId} {size n:Nat} {v:Value} {xs:List Value} (h:W.ownsRow base t size v n xs) (hb:Below W.heap.size W W'):W'.ownsRow base t size v n xs:=by
 refine h.kept (below_grownF hb) ?_
 cases v.ownBlock <;> simp
end Go.Proofs.YtioahgklplbinaaGreatDoor
namespace Go.Proofs.YtioahgklplbinaaGreatDoor
open Go.RowKit Go.Shelf SetM
theorem one_cellsF (l:List Sp):∀ u∈cellsS l,u.oneCell'=true:=by
 intro u hu
 obtain ⟨s,_,hs⟩:=List.mem_flatMap.1 hu
 simp only [encS,List.mem_cons,List.not_mem_nil,or_false] at hs
 rcases hs with rfl | rfl <;> rfl
theorem spans_newsF {W:World} {a:Addr} {l:List Sp} (hs:Sl W (some a) l):∀ j u,(cellsS l)[j]? = some u→W.cell? (a.add j)=some u:=by
 intro j u hj
 have hlt:j < l.length*2:=by
  rcases Nat.lt_or_ge j (l.length*2) with h | h
  ·exact h
  ·rw [List.getElem?_eq_none (by rw [cellsS_len];exact h)] at hj;cases hj
 obtain ⟨b,off,e,_,hc⟩:=hs (by intro h;rw [h] at hlt;simp at hlt)
 cases e
 have e1:(⟨b,off,none⟩:Addr).add j=⟨b,off+j,none⟩:=by unfold Addr.add;split <;> simp_all
 have hj2:j / 2 < l.length:=by omega
 obtain ⟨c0,c1⟩:=hc (j / 2) hj2
 rw [cellsS_get l j hlt,List.getElem?_eq_getElem hj2] at hj
 rw [e1]
 rcases (show j % 2=0∨j % 2=1 by omega) with h | h
 ·rw [h] at hj
  rw [show off+j=off+j / 2*2 from by omega,c0]
  exact hj
 ·rw [h] at hj
  rw [show off+j=off+j / 2*2+1 from by omega,c1]
  exact hj
theorem grown_reflF (w:World) (row:Option Nat):w.grownBy w row:=⟨rfl,rfl,rfl,Nat.le_refl _,fun _ _ _=>rfl⟩
theorem wpList_append_spans {w : World} {ops : Array Oper} {rest : List Oper} {o : Oper} {a : Act} {Q : Exit → Act → World → Prop} (hgd : o.guard = none) (s x : Operand)
  (ho:o.op=.call { callee:= .builtin .append,args:=#[s,x],argTypes:=#[41,41] }) (base:Nat)
  (v:Value) (n:Nat) (xs:List Value) (hs:a.eval s=v) (hown:w.ownsRow base 45 2 v n xs)
  (P:Option Addr) (c:Nat) (l:List Sp) (hx:a.eval x=.slice P l.length c) (hb:Sl w P l) (hP:P=none→c=0)
  (h63:n+l.length≤2000000000) (hbase:base≤w.heap.size)
  (h:∀ v' w',w'.ownsRow base 45 2 v' (n+l.length) (xs++cellsS l)→w.grownBy w' v.ownBlock→wpList Tryz.prog ops Q rest (a.put o.dst v') w'):wpList Tryz.prog ops Q (o::rest) a w:=by
 obtain ⟨i0,hi,hz0,hz1,hz2⟩:=info_parts infoS
 cases P with
 | none =>
  have hl:l=[]:=by
   by_cases hl:l=[]
   ·exact hl
   ·obtain ⟨_,_,e,_⟩:=hb hl;cases e
  subst hl
  rw [hP rfl] at hx
  refine wpList_append_own_none hgd s x 41 ho base 45 i0 2 Tryz.underlying41 hi v n xs hs hown hx ?_
  exact h v w (by simpa [cellsS] using hown) (grown_reflF _ _)
 | some ad =>
  refine wpList_append_own _ hgd s x 41 ho base 45 i0 (.agg #[.int .i64 0,.int .i64 0]) 2 16 Tryz.underlying41 hi hz0 hz1 hz2 rfl (by decide) v n xs hs hown ad l.length c (cellsS l) hx (cellsS_len l) (spans_newsF hb) (one_cellsF l) (by unfold maxLen;omega) (by omega) hbase ?_
  intro v' w' h1 h2 _
  exact h v' w' h1 h2
end Go.Proofs.YtioahgklplbinaaGreatDoor
namespace Go.Proofs.YtioahgklplbinaaGreatDoor
open Go.RowKit Go.Shelf SetM
variable {w W:World}
theorem spans_of0 {W:World} {base:Nat} {v:Value} {l:List Sp} (h:W.ownsRow base 45 2 v l.length (cellsS l)):∃ P c,v=.slice P l.length c∧Sl W P l∧(P=none→c=0):=by
 obtain ⟨P,c,rfl,hs⟩:=spans_of h
 refine ⟨P,c,rfl,hs,fun hP=>?_⟩
 rcases h.2 with ⟨e1,_⟩ | ⟨g,cap,cur,e1,_⟩
 ·injection e1
 ·subst hP;injection e1 with e1;cases e1
end Go.Proofs.YtioahgklplbinaaGreatDoor
namespace Go.Proofs.YtioahgklplbinaaGreatDoor
open Go.RowKit Go.Shelf SetM
set_option maxRecDepth 100000 in
set_option maxHeartbeats 1000000 in
theorem rfold_0 (r:Int) (hh:r≤64) (w:World):Calls Tryz.prog 147 #[.int .i64 r] w fun e w'=>e=.returned (.int .i64 (foldF r))∧w=w':=by
 have hf:foldF r=r:=by have:=foldF_spec r;omega
 rw [hf]
 clear hf
 have e181:((r:Int) == 181)=false:=by rw [beq_eq_false_iff_ne];omega
 have e962:((r:Int) == 962)=false:=by rw [beq_eq_false_iff_ne];omega
 have e7838:((r:Int) == 7838)=false:=by rw [beq_eq_false_iff_ne];omega
 have e8486:((r:Int) == 8486)=false:=by rw [beq_eq_false_iff_ne];omega
 have e8490:((r:Int) == 8490)=false:=by rw [beq_eq_false_iff_ne];omega
 have e8491:((r:Int) == 8491)=false:=by rw [beq_eq_false_iff_ne];omega
 have e215:((r:Int) == 215)=false:=by rw [beq_eq_false_iff_ne];omega
 have e930:((r:Int) == 930)=false:=by rw [beq_eq_false_iff_ne];omega
 go_enter Tryz.func147,Tryz.ntmps147
 go_wp2
 go_ret
 exact ⟨rfl,rfl⟩
set_option maxRecDepth 100000 in
set_option maxHeartbeats 1000000 in
theorem rfold_1 (r:Int) (hl:65≤r) (hh:r≤90) (w:World):Calls Tryz.prog 147 #[.int .i64 r] w fun e w'=>e=.returned (.int .i64 (foldF r))∧w=w':=by
 have hf:foldF r=r+32:=by have:=foldF_spec r;omega
 rw [hf]
 clear hf
 have e181:((r:Int) == 181)=false:=by rw [beq_eq_false_iff_ne];omega
 have e962:((r:Int) == 962)=false:=by rw [beq_eq_false_iff_ne];omega
 have e7838:((r:Int) == 7838)=false:=by rw [beq_eq_false_iff_ne];omega
 have e8486:((r:Int) == 8486)=false:=by rw [beq_eq_false_iff_ne];omega
 have e8490:((r:Int) == 8490)=false:=by rw [beq_eq_false_iff_ne];omega
 have e8491:((r:Int) == 8491)=false:=by rw [beq_eq_false_iff_ne];omega
 have e215:((r:Int) == 215)=false:=by rw [beq_eq_false_iff_ne];omega
 have e930:((r:Int) == 930)=false:=by rw [beq_eq_false_iff_ne];omega
 go_enter Tryz.func147,Tryz.ntmps147
 go_wp2
 go_ret
 exact ⟨rfl,rfl⟩
set_option maxRecDepth 100000 in
set_option maxHeartbeats 1000000 in
theorem rfold_2 (r:Int) (hl:91≤r) (hh:r≤180) (w:World):Calls Tryz.prog 147 #[.int .i64 r] w fun e w'=>e=.returned (.int .i64 (foldF r))∧w=w':=by
 have hf:foldF r=r:=by have:=foldF_spec r;omega
 rw [hf]
 clear hf
 have e181:((r:Int) == 181)=false:=by rw [beq_eq_false_iff_ne];omega
 have e962:((r:Int) == 962)=false:=by rw [beq_eq_false_iff_ne];omega
 have e7838:((r:Int) == 7838)=false:=by rw [beq_eq_false_iff_ne];omega
 have e8486:((r:Int) == 8486)=false:=by rw [beq_eq_false_iff_ne];omega
 have e8490:((r:Int) == 8490)=false:=by rw [beq_eq_false_iff_ne];omega
 have e8491:((r:Int) == 8491)=false:=by rw [beq_eq_false_iff_ne];omega
 have e215:((r:Int) == 215)=false:=by rw [beq_eq_false_iff_ne];omega
 have e930:((r:Int) == 930)=false:=by rw [beq_eq_false_iff_ne];omega
 go_enter Tryz.func147,Tryz.ntmps147
 go_wp2
 go_ret
 exact ⟨rfl,rfl⟩
set_option maxRecDepth 100000 in
set_option maxHeartbeats 1000000 in
theorem rfold_3 (w:World):Calls Tryz.prog 147 #[.int .i64 181] w fun e w'=>e=.returned (.int .i64 (foldF 181))∧w=w':=by
 have hf:foldF 181=956:=by decide
 rw [hf]
 go_enter Tryz.func147,Tryz.ntmps147
 go_wp2
 go_ret
 exact ⟨rfl,rfl⟩
set_option maxRecDepth 100000 in
set_option maxHeartbeats 1000000 in
theorem rfold_4 (r:Int) (hl:182≤r) (hh:r≤191) (w:World):Calls Tryz.prog 147 #[.int .i64 r] w fun e w'=>e=.returned (.int .i64 (foldF r))∧w=w':=by
 have hf:foldF r=r:=by have:=foldF_spec r;omega
 rw [hf]
 clear hf
 have e181:((r:Int) == 181)=false:=by rw [beq_eq_false_iff_ne];omega
 have e962:((r:Int) == 962)=false:=by rw [beq_eq_false_iff_ne];omega
 have e7838:((r:Int) == 7838)=false:=by rw [beq_eq_false_iff_ne];omega
 have e8486:((r:Int) == 8486)=false:=by rw [beq_eq_false_iff_ne];omega
 have e8490:((r:Int) == 8490)=false:=by rw [beq_eq_false_iff_ne];omega
 have e8491:((r:Int) == 8491)=false:=by rw [beq_eq_false_iff_ne];omega
 have e215:((r:Int) == 215)=false:=by rw [beq_eq_false_iff_ne];omega
 have e930:((r:Int) == 930)=false:=by rw [beq_eq_false_iff_ne];omega
 go_enter Tryz.func147,Tryz.ntmps147
 go_wp2
 go_ret
 exact ⟨rfl,rfl⟩
set_option maxRecDepth 100000 in
set_option maxHeartbeats 1000000 in
theorem rfold_5 (r:Int) (hl:192≤r) (hh:r≤214) (w:World):Calls Tryz.prog 147 #[.int .i64 r] w fun e w'=>e=.returned (.int .i64 (foldF r))∧w=w':=by
 have hf:foldF r=r+32:=by have:=foldF_spec r;omega
 rw [hf]
 clear hf
 have e181:((r:Int) == 181)=false:=by rw [beq_eq_false_iff_ne];omega
 have e962:((r:Int) == 962)=false:=by rw [beq_eq_false_iff_ne];omega
 have e7838:((r:Int) == 7838)=false:=by rw [beq_eq_false_iff_ne];omega
 have e8486:((r:Int) == 8486)=false:=by rw [beq_eq_false_iff_ne];omega
 have e8490:((r:Int) == 8490)=false:=by rw [beq_eq_false_iff_ne];omega
 have e8491:((r:Int) == 8491)=false:=by rw [beq_eq_false_iff_ne];omega
 have e215:((r:Int) == 215)=false:=by rw [beq_eq_false_iff_ne];omega
 have e930:((r:Int) == 930)=false:=by rw [beq_eq_false_iff_ne];omega
 go_enter Tryz.func147,Tryz.ntmps147
 go_wp2
 go_ret
 exact ⟨rfl,rfl⟩
set_option maxRecDepth 100000 in
set_option maxHeartbeats 1000000 in
theorem rfold_6 (w:World):Calls Tryz.prog 147 #[.int .i64 215] w fun e w'=>e=.returned (.int .i64 (foldF 215))∧w=w':=by
 have hf:foldF 215=215:=by decide
 rw [hf]
 go_enter Tryz.func147,Tryz.ntmps147
 go_wp2
 go_ret
 exact ⟨rfl,rfl⟩
set_option maxRecDepth 100000 in
set_option maxHeartbeats 1000000 in
theorem rfold_7 (r:Int) (hl:216≤r) (hh:r≤222) (w:World):Calls Tryz.prog 147 #[.int .i64 r] w fun e w'=>e=.returned (.int .i64 (foldF r))∧w=w':=by
 have hf:foldF r=r+32:=by have:=foldF_spec r;omega
 rw [hf]
 clear hf
 have e181:((r:Int) == 181)=false:=by rw [beq_eq_false_iff_ne];omega
 have e962:((r:Int) == 962)=false:=by rw [beq_eq_false_iff_ne];omega
 have e7838:((r:Int) == 7838)=false:=by rw [beq_eq_false_iff_ne];omega
 have e8486:((r:Int) == 8486)=false:=by rw [beq_eq_false_iff_ne];omega
 have e8490:((r:Int) == 8490)=false:=by rw [beq_eq_false_iff_ne];omega
 have e8491:((r:Int) == 8491)=false:=by rw [beq_eq_false_iff_ne];omega
 have e215:((r:Int) == 215)=false:=by rw [beq_eq_false_iff_ne];omega
 have e930:((r:Int) == 930)=false:=by rw [beq_eq_false_iff_ne];omega
 go_enter Tryz.func147,Tryz.ntmps147
 go_wp2
 go_ret
 exact ⟨rfl,rfl⟩
set_option maxRecDepth 100000 in
set_option maxHeartbeats 1000000 in
theorem rfold_8 (r:Int) (hl:223≤r) (hh:r≤912) (w:World):Calls Tryz.prog 147 #[.int .i64 r] w fun e w'=>e=.returned (.int .i64 (foldF r))∧w=w':=by
 have hf:foldF r=r:=by have:=foldF_spec r;omega
 rw [hf]
 clear hf
 have e181:((r:Int) == 181)=false:=by rw [beq_eq_false_iff_ne];omega
 have e962:((r:Int) == 962)=false:=by rw [beq_eq_false_iff_ne];omega
 have e7838:((r:Int) == 7838)=false:=by rw [beq_eq_false_iff_ne];omega
 have e8486:((r:Int) == 8486)=false:=by rw [beq_eq_false_iff_ne];omega
 have e8490:((r:Int) == 8490)=false:=by rw [beq_eq_false_iff_ne];omega
 have e8491:((r:Int) == 8491)=false:=by rw [beq_eq_false_iff_ne];omega
 have e215:((r:Int) == 215)=false:=by rw [beq_eq_false_iff_ne];omega
 have e930:((r:Int) == 930)=false:=by rw [beq_eq_false_iff_ne];omega
 go_enter Tryz.func147,Tryz.ntmps147
 go_wp2
 go_ret
 exact ⟨rfl,rfl⟩
set_option maxRecDepth 100000 in
set_option maxHeartbeats 1000000 in
theorem rfold_9 (r:Int) (hl:913≤r) (hh:r≤929) (w:World):Calls Tryz.prog 147 #[.int .i64 r] w fun e w'=>e=.returned (.int .i64 (foldF r))∧w=w':=by
 have hf:foldF r=r+32:=by have:=foldF_spec r;omega
 rw [hf]
 clear hf
 have e181:((r:Int) == 181)=false:=by rw [beq_eq_false_iff_ne];omega
 have e962:((r:Int) == 962)=false:=by rw [beq_eq_false_iff_ne];omega
 have e7838:((r:Int) == 7838)=false:=by rw [beq_eq_false_iff_ne];omega
 have e8486:((r:Int) == 8486)=false:=by rw [beq_eq_false_iff_ne];omega
 have e8490:((r:Int) == 8490)=false:=by rw [beq_eq_false_iff_ne];omega
 have e8491:((r:Int) == 8491)=false:=by rw [beq_eq_false_iff_ne];omega
 have e215:((r:Int) == 215)=false:=by rw [beq_eq_false_iff_ne];omega
 have e930:((r:Int) == 930)=false:=by rw [beq_eq_false_iff_ne];omega
 go_enter Tryz.func147,Tryz.ntmps147
 go_wp2
 go_ret
 exact ⟨rfl,rfl⟩
set_option maxRecDepth 100000 in
set_option maxHeartbeats 1000000 in
theorem rfold_10 (w:World):Calls Tryz.prog 147 #[.int .i64 930] w fun e w'=>e=.returned (.int .i64 (foldF 930))∧w=w':=by
 have hf:foldF 930=930:=by decide
 rw [hf]
 go_enter Tryz.func147,Tryz.ntmps147
 go_wp2
 go_ret
 exact ⟨rfl,rfl⟩
set_option maxRecDepth 100000 in
set_option maxHeartbeats 1000000 in
theorem rfold_11 (r:Int) (hl:931≤r) (hh:r≤937) (w:World):Calls Tryz.prog 147 #[.int .i64 r] w fun e w'=>e=.returned (.int .i64 (foldF r))∧w=w':=by
 have hf:foldF r=r+32:=by have:=foldF_spec r;omega
 rw [hf]
 clear hf
 have e181:((r:Int) == 181)=false:=by rw [beq_eq_false_iff_ne];omega
 have e962:((r:Int) == 962)=false:=by rw [beq_eq_false_iff_ne];omega
 have e7838:((r:Int) == 7838)=false:=by rw [beq_eq_false_iff_ne];omega
 have e8486:((r:Int) == 8486)=false:=by rw [beq_eq_false_iff_ne];omega
 have e8490:((r:Int) == 8490)=false:=by rw [beq_eq_false_iff_ne];omega
 have e8491:((r:Int) == 8491)=false:=by rw [beq_eq_false_iff_ne];omega
 have e215:((r:Int) == 215)=false:=by rw [beq_eq_false_iff_ne];omega
 have e930:((r:Int) == 930)=false:=by rw [beq_eq_false_iff_ne];omega
 go_enter Tryz.func147,Tryz.ntmps147
 go_wp2
 go_ret
 exact ⟨rfl,rfl⟩
set_option maxRecDepth 100000 in
set_option maxHeartbeats 1000000 in
theorem rfold_12 (r:Int) (hl:938≤r) (hh:r≤961) (w:World):Calls Tryz.prog 147 #[.int .i64 r] w fun e w'=>e=.returned (.int .i64 (foldF r))∧w=w':=by
 have hf:foldF r=r:=by have:=foldF_spec r;omega
 rw [hf]
 clear hf
 have e181:((r:Int) == 181)=false:=by rw [beq_eq_false_iff_ne];omega
 have e962:((r:Int) == 962)=false:=by rw [beq_eq_false_iff_ne];omega
 have e7838:((r:Int) == 7838)=false:=by rw [beq_eq_false_iff_ne];omega
 have e8486:((r:Int) == 8486)=false:=by rw [beq_eq_false_iff_ne];omega
 have e8490:((r:Int) == 8490)=false:=by rw [beq_eq_false_iff_ne];omega
 have e8491:((r:Int) == 8491)=false:=by rw [beq_eq_false_iff_ne];omega
 have e215:((r:Int) == 215)=false:=by rw [beq_eq_false_iff_ne];omega
 have e930:((r:Int) == 930)=false:=by rw [beq_eq_false_iff_ne];omega
 go_enter Tryz.func147,Tryz.ntmps147
 go_wp2
 go_ret
 exact ⟨rfl,rfl⟩
set_option maxRecDepth 100000 in
set_option maxHeartbeats 1000000 in
theorem rfold_13 (w:World):Calls Tryz.prog 147 #[.int .i64 962] w fun e w'=>e=.returned (.int .i64 (foldF 962))∧w=w':=by
 have hf:foldF 962=963:=by decide
 rw [hf]
 go_enter Tryz.func147,Tryz.ntmps147
 go_wp2
 go_ret
 exact ⟨rfl,rfl⟩
set_option maxRecDepth 100000 in
set_option maxHeartbeats 1000000 in
theorem rfold_14 (r:Int) (hl:963≤r) (hh:r≤1023) (w:World):Calls Tryz.prog 147 #[.int .i64 r] w fun e w'=>e=.returned (.int .i64 (foldF r))∧w=w':=by
 have hf:foldF r=r:=by have:=foldF_spec r;omega
 rw [hf]
 clear hf
 have e181:((r:Int) == 181)=false:=by rw [beq_eq_false_iff_ne];omega
 have e962:((r:Int) == 962)=false:=by rw [beq_eq_false_iff_ne];omega
 have e7838:((r:Int) == 7838)=false:=by rw [beq_eq_false_iff_ne];omega
 have e8486:((r:Int) == 8486)=false:=by rw [beq_eq_false_iff_ne];omega
 have e8490:((r:Int) == 8490)=false:=by rw [beq_eq_false_iff_ne];omega
 have e8491:((r:Int) == 8491)=false:=by rw [beq_eq_false_iff_ne];omega
 have e215:((r:Int) == 215)=false:=by rw [beq_eq_false_iff_ne];omega
 have e930:((r:Int) == 930)=false:=by rw [beq_eq_false_iff_ne];omega
 go_enter Tryz.func147,Tryz.ntmps147
 go_wp2
 go_ret
 exact ⟨rfl,rfl⟩
set_option maxRecDepth 100000 in
set_option maxHeartbeats 1000000 in
theorem rfold_15 (r:Int) (hl:1024≤r) (hh:r≤1039) (w:World):Calls Tryz.prog 147 #[.int .i64 r] w fun e w'=>e=.returned (.int .i64 (foldF r))∧w=w':=by
 have hf:foldF r=r+80:=by have:=foldF_spec r;omega
 rw [hf]
 clear hf
 have e181:((r:Int) == 181)=false:=by rw [beq_eq_false_iff_ne];omega
 have e962:((r:Int) == 962)=false:=by rw [beq_eq_false_iff_ne];omega
 have e7838:((r:Int) == 7838)=false:=by rw [beq_eq_false_iff_ne];omega
 have e8486:((r:Int) == 8486)=false:=by rw [beq_eq_false_iff_ne];omega
 have e8490:((r:Int) == 8490)=false:=by rw [beq_eq_false_iff_ne];omega
 have e8491:((r:Int) == 8491)=false:=by rw [beq_eq_false_iff_ne];omega
 have e215:((r:Int) == 215)=false:=by rw [beq_eq_false_iff_ne];omega
 have e930:((r:Int) == 930)=false:=by rw [beq_eq_false_iff_ne];omega
 go_enter Tryz.func147,Tryz.ntmps147
 go_wp2
 go_ret
 exact ⟨rfl,rfl⟩
set_option maxRecDepth 100000 in
set_option maxHeartbeats 1000000 in
theorem rfold_16 (r:Int) (hl:1040≤r) (hh:r≤1071) (w:World):Calls Tryz.prog 147 #[.int .i64 r] w fun e w'=>e=.returned (.int .i64 (foldF r))∧w=w':=by
 have hf:foldF r=r+32:=by have:=foldF_spec r;omega
 rw [hf]
 clear hf
 have e181:((r:Int) == 181)=false:=by rw [beq_eq_false_iff_ne];omega
 have e962:((r:Int) == 962)=false:=by rw [beq_eq_false_iff_ne];omega
 have e7838:((r:Int) == 7838)=false:=by rw [beq_eq_false_iff_ne];omega
 have e8486:((r:Int) == 8486)=false:=by rw [beq_eq_false_iff_ne];omega
 have e8490:((r:Int) == 8490)=false:=by rw [beq_eq_false_iff_ne];omega
 have e8491:((r:Int) == 8491)=false:=by rw [beq_eq_false_iff_ne];omega
 have e215:((r:Int) == 215)=false:=by rw [beq_eq_false_iff_ne];omega
 have e930:((r:Int) == 930)=false:=by rw [beq_eq_false_iff_ne];omega
 go_enter Tryz.func147,Tryz.ntmps147
 go_wp2
 go_ret
 exact ⟨rfl,rfl⟩
set_option maxRecDepth 100000 in
set_option maxHeartbeats 1000000 in
theorem rfold_17 (r:Int) (hl:1072≤r) (hh:r≤7837) (w:World):Calls Tryz.prog 147 #[.int .i64 r] w fun e w'=>e=.returned (.int .i64 (foldF r))∧w=w':=by
 have hf:foldF r=r:=by have:=foldF_spec r;omega
 rw [hf]
 clear hf
 have e181:((r:Int) == 181)=false:=by rw [beq_eq_false_iff_ne];omega
 have e962:((r:Int) == 962)=false:=by rw [beq_eq_false_iff_ne];omega
 have e7838:((r:Int) == 7838)=false:=by rw [beq_eq_false_iff_ne];omega
 have e8486:((r:Int) == 8486)=false:=by rw [beq_eq_false_iff_ne];omega
 have e8490:((r:Int) == 8490)=false:=by rw [beq_eq_false_iff_ne];omega
 have e8491:((r:Int) == 8491)=false:=by rw [beq_eq_false_iff_ne];omega
 have e215:((r:Int) == 215)=false:=by rw [beq_eq_false_iff_ne];omega
 have e930:((r:Int) == 930)=false:=by rw [beq_eq_false_iff_ne];omega
 go_enter Tryz.func147,Tryz.ntmps147
 go_wp2
 go_ret
 exact ⟨rfl,rfl⟩
set_option maxRecDepth 100000 in
set_option maxHeartbeats 1000000 in
theorem rfold_18 (w:World):Calls Tryz.prog 147 #[.int .i64 7838] w fun e w'=>e=.returned (.int .i64 (foldF 7838))∧w=w':=by
 have hf:foldF 7838=223:=by decide
 rw [hf]
 go_enter Tryz.func147,Tryz.ntmps147
 go_wp2
 go_ret
 exact ⟨rfl,rfl⟩
set_option maxRecDepth 100000 in
set_option maxHeartbeats 1000000 in
theorem rfold_19 (r:Int) (hl:7839≤r) (hh:r≤8485) (w:World):Calls Tryz.prog 147 #[.int .i64 r] w fun e w'=>e=.returned (.int .i64 (foldF r))∧w=w':=by
 have hf:foldF r=r:=by have:=foldF_spec r;omega
 rw [hf]
 clear hf
 have e181:((r:Int) == 181)=false:=by rw [beq_eq_false_iff_ne];omega
 have e962:((r:Int) == 962)=false:=by rw [beq_eq_false_iff_ne];omega
 have e7838:((r:Int) == 7838)=false:=by rw [beq_eq_false_iff_ne];omega
 have e8486:((r:Int) == 8486)=false:=by rw [beq_eq_false_iff_ne];omega
 have e8490:((r:Int) == 8490)=false:=by rw [beq_eq_false_iff_ne];omega
 have e8491:((r:Int) == 8491)=false:=by rw [beq_eq_false_iff_ne];omega
 have e215:((r:Int) == 215)=false:=by rw [beq_eq_false_iff_ne];omega
 have e930:((r:Int) == 930)=false:=by rw [beq_eq_false_iff_ne];omega
 go_enter Tryz.func147,Tryz.ntmps147
 go_wp2
 go_ret
 exact ⟨rfl,rfl⟩
set_option maxRecDepth 100000 in
set_option maxHeartbeats 1000000 in
theorem rfold_20 (w:World):Calls Tryz.prog 147 #[.int .i64 8486] w fun e w'=>e=.returned (.int .i64 (foldF 8486))∧w=w':=by
 have hf:foldF 8486=969:=by decide
 rw [hf]
 go_enter Tryz.func147,Tryz.ntmps147
 go_wp2
 go_ret
 exact ⟨rfl,rfl⟩
set_option maxRecDepth 100000 in
set_option maxHeartbeats 1000000 in
theorem rfold_21 (r:Int) (hl:8487≤r) (hh:r≤8489) (w:World):Calls Tryz.prog 147 #[.int .i64 r] w fun e w'=>e=.returned (.int .i64 (foldF r))∧w=w':=by
 have hf:foldF r=r:=by have:=foldF_spec r;omega
 rw [hf]
 clear hf
 have e181:((r:Int) == 181)=false:=by rw [beq_eq_false_iff_ne];omega
 have e962:((r:Int) == 962)=false:=by rw [beq_eq_false_iff_ne];omega
 have e7838:((r:Int) == 7838)=false:=by rw [beq_eq_false_iff_ne];omega
 have e8486:((r:Int) == 8486)=false:=by rw [beq_eq_false_iff_ne];omega
 have e8490:((r:Int) == 8490)=false:=by rw [beq_eq_false_iff_ne];omega
 have e8491:((r:Int) == 8491)=false:=by rw [beq_eq_false_iff_ne];omega
 have e215:((r:Int) == 215)=false:=by rw [beq_eq_false_iff_ne];omega
 have e930:((r:Int) == 930)=false:=by rw [beq_eq_false_iff_ne];omega
 go_enter Tryz.func147,Tryz.ntmps147
 go_wp2
 go_ret
 exact ⟨rfl,rfl⟩
set_option maxRecDepth 100000 in
set_option maxHeartbeats 1000000 in
theorem rfold_22 (w:World):Calls Tryz.prog 147 #[.int .i64 8490] w fun e w'=>e=.returned (.int .i64 (foldF 8490))∧w=w':=by
 have hf:foldF 8490=107:=by decide
 rw [hf]
 go_enter Tryz.func147,Tryz.ntmps147
 go_wp2
 go_ret
 exact ⟨rfl,rfl⟩
set_option maxRecDepth 100000 in
set_option maxHeartbeats 1000000 in
theorem rfold_23 (w:World):Calls Tryz.prog 147 #[.int .i64 8491] w fun e w'=>e=.returned (.int .i64 (foldF 8491))∧w=w':=by
 have hf:foldF 8491=229:=by decide
 rw [hf]
 go_enter Tryz.func147,Tryz.ntmps147
 go_wp2
 go_ret
 exact ⟨rfl,rfl⟩
set_option maxRecDepth 100000 in
set_option maxHeartbeats 1000000 in
theorem rfold_24 (r:Int) (hl:8492≤r) (w:World):Calls Tryz.prog 147 #[.int .i64 r] w fun e w'=>e=.returned (.int .i64 (foldF r))∧w=w':=by
 have hf:foldF r=r:=by have:=foldF_spec r;omega
 rw [hf]
 clear hf
 have e181:((r:Int) == 181)=false:=by rw [beq_eq_false_iff_ne];omega
 have e962:((r:Int) == 962)=false:=by rw [beq_eq_false_iff_ne];omega
 have e7838:((r:Int) == 7838)=false:=by rw [beq_eq_false_iff_ne];omega
 have e8486:((r:Int) == 8486)=false:=by rw [beq_eq_false_iff_ne];omega
 have e8490:((r:Int) == 8490)=false:=by rw [beq_eq_false_iff_ne];omega
 have e8491:((r:Int) == 8491)=false:=by rw [beq_eq_false_iff_ne];omega
 have e215:((r:Int) == 215)=false:=by rw [beq_eq_false_iff_ne];omega
 have e930:((r:Int) == 930)=false:=by rw [beq_eq_false_iff_ne];omega
 go_enter Tryz.func147,Tryz.ntmps147
 go_wp2
 go_ret
 exact ⟨rfl,rfl⟩
theorem rfold_c (r:Int) (w:World):Calls Tryz.prog 147 #[.int .i64 r] w fun e w'=>e=.returned (.int .i64 (foldF r))∧w=w':=by
 rcases (show r≤64∨(65≤r∧r≤90)∨(91≤r∧r≤180)∨r=181∨(182≤r∧r≤191)∨(192≤r∧r≤214)∨r=215∨(216≤r∧r≤222)∨(223≤r∧r≤912)∨(913≤r∧r≤929)∨r=930∨(931≤r∧r≤937)∨(938≤r∧r≤961)∨r=962∨(963≤r∧r≤1023)∨(1024≤r∧r≤1039)∨(1040≤r∧r≤1071)∨(1072≤r∧r≤7837)∨r=7838∨(7839≤r∧r≤8485)∨r=8486∨(8487≤r∧r≤8489)∨r=8490∨r=8491∨8492≤r by omega) with h | ⟨h,h'⟩ | ⟨h,h'⟩ | rfl | ⟨h,h'⟩ | ⟨h,h'⟩ | rfl | ⟨h,h'⟩ | ⟨h,h'⟩ | ⟨h,h'⟩ | rfl | ⟨h,h'⟩ | ⟨h,h'⟩ | rfl | ⟨h,h'⟩ | ⟨h,h'⟩ | ⟨h,h'⟩ | ⟨h,h'⟩ | rfl | ⟨h,h'⟩ | rfl | ⟨h,h'⟩ | rfl | rfl | h
 ·exact rfold_0 r h w
 ·exact rfold_1 r h h' w
 ·exact rfold_2 r h h' w
 ·exact rfold_3 w
 ·exact rfold_4 r h h' w
 ·exact rfold_5 r h h' w
 ·exact rfold_6 w
 ·exact rfold_7 r h h' w
 ·exact rfold_8 r h h' w
 ·exact rfold_9 r h h' w
 ·exact rfold_10 w
 ·exact rfold_11 r h h' w
 ·exact rfold_12 r h h' w
 ·exact rfold_13 w
 ·exact rfold_14 r h h' w
 ·exact rfold_15 r h h' w
 ·exact rfold_16 r h h' w
 ·exact rfold_17 r h h' w
 ·exact rfold_18 w
 ·exact rfold_19 r h h' w
 ·exact rfold_20 w
 ·exact rfold_21 r h h' w
 ·exact rfold_22 w
 ·exact rfold_23 w
 ·exact rfold_24 r h w
end Go.Proofs.YtioahgklplbinaaGreatDoor
