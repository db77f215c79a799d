/- NPm, NPMemo, NPCnt, NPLn, NPB, NPSt, NPFr, NPEd, NPEe, in one text. -/
import Derived.Test.YtioahgklplbinaaGreatDoorNMA
import Derived.LaidEql
import Derived.Laws.StructEq
import Derived.MapKept
import Derived.WideKeyRuns
import Derived.Test.YtioahgklplbinaaGreatDoorVSH
import Derived.Test.YtioahgklplbinaaGreatDoorNQ
import Derived.Deep.RegionHeld3
import Derived.Deep.RegionLaw
import Derived.Deep.DeepCutAuto
import Derived.Laws.IdiomCopy
import Derived.Laws.OwnMore
/- What the program's counting and laying come to, as plain things. Nothing of a program stands here. -/
namespace NfaM
open SetM WrM
theorem build_snoc : ∀ (l : List Ns) (x : Ns) (i : Nat) (m : Mc), buildF (l ++ [x]) i m = tgF (forkB (laidF x) (buildF l i m) 0).1 (forkB (laidF x) (buildF l i m) 0).2 ((i + l.length : Nat) : Int)
 | [],x,i,m=>by rw [List.nil_append,buildF,buildF,buildF];rfl
 | y::l,x,i,m=>by
  rw [List.cons_append,buildF,buildF,build_snoc l x]
  congr 2
  simp only [List.length_cons]
  omega
theorem len_tg (m:Mc) (i:Nat) (t:Int):(tgF m i t).len=m.len:=by simp [tgF,Mc.len]
def cntB : List Ns → Nat
 | []=>0
 | u::l=>cntB l+(1+cntS u)
theorem cntb_snoc : ∀ (l : List Ns) (u : Ns), cntB (l ++ [u]) = cntB l + (1 + cntS u)
 | [],u=>by rw [List.nil_append,cntB,cntB,cntB]
 | y::l,u=>by rw [List.cons_append,cntB,cntB,cntb_snoc l u];omega
theorem cntb_take (l:List Ns) (r:Nat) (h:r < l.length):cntB (l.take r)+(1+cntS l[r])≤cntB l:=by
 have h1:∀ (a b:List Ns),cntB a≤cntB (a++b):=fun a b=>by
  induction a with
  | nil=>rw [cntB];exact Nat.zero_le _
  | cons y a ih=>rw [List.cons_append,cntB,cntB];omega
 rw [← cntb_snoc,← List.take_succ_eq_append_getElem h]
 have:=h1 (l.take (r+1)) (l.drop (r+1))
 rw [List.take_append_drop] at this
 exact this
theorem build_stp : ∀ (l : List Ns) (m : Mc), 0 < m.len → frs m ≤ 2 * m.len → eds m ≤ m.len → ∀ i, (buildF l i m).len = m.len + cntB l ∧ frs (buildF l i m) ≤ 2 * (buildF l i m).len ∧ eds (buildF l i m) ≤ (buildF l i m).len
 | [],m,h0,h1,h2,i=>by rw [buildF,cntB];exact ⟨rfl,h1,h2⟩
 | x::l,m,h0,h1,h2,i=>by
  rw [buildF,cntB]
  have hs:=(fork_stp (laid_stp x) m 0).to
  have a:=hs.len
  have b:=hs.fr
  have c:=hs.ed
  have e1:(tgF (forkB (laidF x) m 0).1 (forkB (laidF x) m 0).2 i).len=(forkB (laidF x) m 0).1.len:=len_tg _ _ _
  have e2:frs (tgF (forkB (laidF x) m 0).1 (forkB (laidF x) m 0).2 i)=frs (forkB (laidF x) m 0).1:=rfl
  have e3:eds (tgF (forkB (laidF x) m 0).1 (forkB (laidF x) m 0).2 i)=eds (forkB (laidF x) m 0).1:=rfl
  have h:=build_stp l (tgF (forkB (laidF x) m 0).1 (forkB (laidF x) m 0).2 i) (by omega) (by omega) (by omega) (i+1)
  omega
def cutP (n:Nat):Nat:=min n 2001
theorem cutP_le (n:Nat):cutP n≤2001:=by unfold cutP;omega
theorem cutP_pos {a b:Nat} (h:cutP a=cutP b):0 < a↔0 < b:=by unfold cutP at h;omega
theorem cutP_add {a b c d:Nat} (h:cutP a=cutP b) (k:cutP c=cutP d):cutP (a+c)=cutP (b+d):=by unfold cutP at h k ⊢;omega
theorem cutP_idem (a:Nat):cutP (cutP a)=cutP a:=by unfold cutP;omega
theorem cutP_mul {a b:Nat} (h:cutP a=cutP b) (t:Nat) (ht:t≤21):cutP (t*a)=cutP (t*b):=by
 rcases Nat.eq_zero_or_pos t with h0 | h0
 ·subst h0;simp
 ·unfold cutP at h ⊢
  by_cases ha:a < 2001
  ·have hb : b = a := by omega
   rw [hb]
  ·have hb : 2001 ≤ b := by omega
   have h1:a≤t*a:=Nat.le_mul_of_pos_left a h0
   have h2:b≤t*b:=Nat.le_mul_of_pos_left b h0
   omega
def plF : List Ns → Nat → List Nat
 | [],_=>[]
 | x::l,i=>if 0 < cntS x then i::plF l (i+1) else plF l (i+1)
theorem pl_snoc : ∀ (l : List Ns) (x : Ns) (i : Nat), plF (l ++ [x]) i = plF l i ++ (if 0 < cntS x then [i + l.length] else [])
 | [],x,i=>by rw [List.nil_append,plF,plF,plF];simp
 | y::l,x,i=>by
  rw [List.cons_append,plF,plF,pl_snoc l x]
  have e:i+1+l.length=i+(y::l).length:=by simp only [List.length_cons];omega
  split <;> simp [e]
theorem pl_le : ∀ (l : List Ns) (i : Nat), (plF l i).length ≤ l.length
 | [],i=>by rw [plF];simp
 | x::l,i=>by
  have:=pl_le l (i+1)
  rw [plF]
  split
  ·simp only [List.length_cons];omega
  ·simp only [List.length_cons];omega
def keptF (l:List Ns):List Ns:=l.filter (fun x=>decide (0 < cntS x))
theorem pl_kept : ∀ (l : List Ns) (i : Nat), (plF l i).length = (keptF l).length ∧ ∀ r (h : r < (plF l i).length), ∃ k, (plF l i)[r] = i + k ∧ l[k]? = (keptF l)[r]?
 | [],i=>⟨rfl,fun r h=>by rw [plF] at h;cases h⟩
 | x::l,i=>by
  obtain ⟨h1,h2⟩:=pl_kept l (i+1)
  unfold keptF at h1 h2 ⊢
  rw [plF]
  by_cases hx:0 < cntS x
  ·rw [if_pos hx, List.filter_cons_of_pos (by simpa using hx)]
   refine ⟨by simp only [List.length_cons];rw [h1],fun r h=>?_⟩
   cases r with
   | zero=>exact ⟨0,rfl,rfl⟩
   | succ r =>
    obtain ⟨k,e1,e2⟩:=h2 r (by simpa using h)
    refine ⟨k+1,?_,?_⟩
    ·simp only [List.getElem_cons_succ];rw [e1];omega
    ·simpa using e2
  ·rw [if_neg hx, List.filter_cons_of_neg (by simpa using hx)]
   refine ⟨h1,fun r h=>?_⟩
   obtain ⟨k,e1,e2⟩:=h2 r h
   exact ⟨k+1,by rw [e1];omega,by simpa using e2⟩
mutual
theorem laid_zero : ∀ (u : Ns) (m : Mc) (i : Nat), cntS u = 0 → laidF u m i = (m, i)
 | .mk k sl kids mn mx,m,i,h=>by
  rw [cntS] at h
  rw [laidF]
  split at h
  ·omega
  ·rw [if_neg ‹_›]
   split at h
   ·rw [if_pos ‹_›];exact cat_zero kids m i h
   ·rw [if_neg ‹_›]
    split at h
    ·omega
    ·rw [if_neg ‹_›]
     split at h
     ·rw [if_pos ‹_›];exact rep_zero kids mn mx m i h
     ·rw [if_neg ‹_›]
theorem cat_zero : ∀ (l : List Ns) (m : Mc) (i : Nat), cntC l = 0 → catF l m i = (m, i)
 | [],m,i,_=>by rw [catF]
 | x::l,m,i,h=>by
  rw [cntC] at h
  rw [catF,laid_zero x m i (by omega)]
  exact cat_zero l m i (by omega)
theorem rep_zero : ∀ (l : List Ns) (mn mx : Int) (m : Mc) (i : Nat), cntR l mn mx = 0 → repF l mn mx m i = (m, i)
 | [],mn,mx,m,i,_=>by rw [repF]
 | x::l,mn,mx,m,i,h=>by rw [cntR] at h;unfold timesN at h;omega
end
theorem cat_kept : ∀ (l : List Ns) (m : Mc) (i : Nat), catF (keptF l) m i = catF l m i
 | [],m,i=>rfl
 | x::l,m,i=>by
  unfold keptF
  by_cases hx:0 < cntS x
  ·rw [List.filter_cons_of_pos (by simpa using hx), catF, catF]
   exact cat_kept l _ _
  ·rw [List.filter_cons_of_neg (by simpa using hx), catF, laid_zero x m i (by omega)]
   exact cat_kept l m i
theorem cntc_kept : ∀ (l : List Ns), cntC (keptF l) = cntC l
 | []=>rfl
 | x::l=>by
  have ih:=cntc_kept l
  unfold keptF at ih ⊢
  by_cases hx:0 < cntS x
  ·rw [List.filter_cons_of_pos (by simpa using hx),cntC,cntC,ih]
  ·rw [List.filter_cons_of_neg (by simpa using hx),cntC,ih];omega
theorem cntO_C : ∀ (l : List Ns), cntO l = l.length + cntC l
 | []=>rfl
 | x::l=>by rw [cntO,cntC,cntO_C l];simp only [List.length_cons];omega
theorem cntB_C : ∀ (l : List Ns), cntB l = l.length + cntC l
 | []=>rfl
 | x::l=>by rw [cntB,cntC,cntB_C l];simp only [List.length_cons];omega
theorem cntc_snoc' : ∀ (l : List Ns) (x : Ns), cntC (l ++ [x]) = cntC l + cntS x
 | [],x=>by rw [List.nil_append,cntC,cntC,cntC];omega
 | y::l,x=>by rw [List.cons_append,cntC,cntC,cntc_snoc' l x];omega
end NfaM

/- The builder's map of rows of nodes that were counted: an address and a number each; what was found. -/
namespace Go.Proofs.YtioahgklplbinaaGreatDoor
open Go.RowKit Go.Shelf Go.Maps SetM PropsM RxM WrM
theorem prowU:Tryz.prog.underlying 131 = some (.struct (Tryz.prog.fieldsOf 131)):=by kernel_rfl
theorem prowH:Tryz.prog.stoodInHeld 131 = false:=by kernel_rfl
theorem pptrU:Tryz.prog.underlying 127 = some (.pointer 48):=by kernel_rfl
theorem pintU:Tryz.prog.underlying 3 = some (.int .i64):=by kernel_rfl
theorem pmapU:Tryz.prog.underlying 62 = some (.map 131 96):=by kernel_rfl
theorem psizeK:(Tryz.prog.info? 48).map (·.size)=some 5:=by kernel_rfl
abbrev prowFs : Array Field := #[{ name := "first", type := 127, offset := 0, embedded := false, tag := "", pkgPath := "glyphcutter/nfa", byteOffset := 0 }, { name := "n", type := 3, offset := 1, embedded := false, tag := "", pkgPath := "glyphcutter/nfa", byteOffset := 8 }]
theorem prowF:Tryz.prog.fieldsOf 131 = prowFs:=by kernel_rfl
theorem pnodeI:∃ j,Tryz.prog.info? 48 = some j∧j.size=5:=by
 have:=psizeK
 cases h:Tryz.prog.info? 48 with
 | none=>rw [h] at this;cases this
 | some j=>rw [h] at this;exact ⟨j,rfl,by simpa using this⟩
theorem ppartP (w:World) (g n:Nat):(part 127 #[.pointer (some ⟨g,0,none⟩),.int .i64 n] 0).run Tryz.prog w=.ok (.pointer (some ⟨g,0,none⟩)) w:=by
 simp [part]
theorem ppartI (w:World) (g n:Nat):(part 3 #[.pointer (some ⟨g,0,none⟩),.int .i64 n] 1).run Tryz.prog w=.ok (.int .i64 n) w:=by
 simp [part]
theorem pchkP (w:World) (e:Bool) (n g:Nat):(Instr.checkKey e (n+1) 127 (.pointer (some ⟨g,0,none⟩))).run Tryz.prog w=.ok () w:=by
 simp [Instr.checkKey,run_underlying pptrU]
theorem pchkI (w:World) (e:Bool) (n m:Nat):(Instr.checkKey e (n+1) 3 (.int .i64 m)).run Tryz.prog w=.ok () w:=by
 simp [Instr.checkKey,run_underlying pintU]
theorem pchk (w:World) (e:Bool) (d g n:Nat):(Instr.checkKey e (d+2) 131 (kV g n)).run Tryz.prog w=.ok () w:=by
 unfold kV
 rw [Instr.checkKey]
 simp only [Sem.run_bind,run_underlying prowU,Result.andThen_ok]
 rw [prowF,← Array.forIn_toList]
 simp [ppartP,ppartI,pchkP,pchkI]
theorem peqP {w : World} {a b : Nat} {ca cb : Array Value} {ta tb : TypeId} (d : Nat) (ha : w.heap[a]? = some (.cells ca ta (0, 0))) (hb : w.heap[b]? = some (.cells cb tb (0, 0))) :
  (Op.equalIn (d+1) 127 (.pointer (some ⟨a,0,none⟩)) (.pointer (some ⟨b,0,none⟩))).run Tryz.prog w=.ok (decide (a=b)) w:=by
 obtain ⟨j,hj,hs⟩:=pnodeI
 by_cases hab:a=b
 ·subst hab
  simp [Op.equalIn,run_underlying pptrU,sizeOf,typeInfo,hj,run_sameAddr_same]
 ·have h := run_sameAddr_other (P := Tryz.prog) w (a := ⟨a, 0, none⟩) (b := ⟨b, 0, none⟩) (by intro e; cases e; exact hab rfl) ha hb
  simp [Op.equalIn,run_underlying pptrU,sizeOf,typeInfo,hj,hs,h,hab]
theorem peqI (w:World) (d n m:Nat):(Op.equalIn (d+1) 3 (.int .i64 n) (.int .i64 m)).run Tryz.prog w=.ok (decide (n=m)) w:=by
 have e:((n:Int) == (m:Int))=decide (n=m):=by
  by_cases h:n=m
  ·subst h;simp
  ·rw [decide_eq_false h,beq_eq_false_iff_ne];omega
 simp [Op.equalIn,run_underlying pintU,e]
theorem peqK {w : World} {a b n m : Nat} {ca cb : Array Value} {ta tb : TypeId} (d : Nat) (ha : w.heap[a]? = some (.cells ca ta (0, 0))) (hb : w.heap[b]? = some (.cells cb tb (0, 0))) :
  (Op.equalIn (d+2) 131 (kV a n) (kV b m)).run Tryz.prog w=.ok (decide (a=b∧n=m)) w:=by
 unfold kV
 have hP:=peqP d ha hb
 have hI:=peqI w d n m
 rw [run_equalIn_agg w (d+1) _ _ _ prowU prowH,prowF]
 by_cases hab:a=b
 ·rw [decide_eq_true hab] at hP
  by_cases hnm:n=m
  ·rw [decide_eq_true hnm] at hI
   rw [decide_eq_true ⟨hab,hnm⟩]
   simp [Op.eqFields,ppartP,ppartI,hP,hI]
  ·rw [decide_eq_false hnm] at hI
   rw [decide_eq_false (fun h=>hnm h.2)]
   simp [Op.eqFields,ppartP,ppartI,hP,hI]
 ·rw [decide_eq_false hab] at hP
  rw [decide_eq_false (fun h=>hab h.1)]
  simp [Op.eqFields,ppartP,hP]
/-! The map. -/
abbrev pMq:=Nat×Nat×Value×Nat
def pEnt (q:pMq):MapEntry:={ key:=kV q.1 q.2.1,val:=q.2.2.1,born:=q.2.2.2 }
def pFindM (g n : Nat) : List pMq → Nat → Option (Nat × Value)
 | [],_=>none
 | q::l,i=>if g=q.1∧n=q.2.1 then some (i,q.2.2.1) else pFindM g n l (i+1)
theorem pFind_c {w : World} {g n : Nat} (hg : Alive w g) : ∀ (l : List pMq) (i : Nat), (∀ q ∈ l, Alive w q.1) → (Instr.findAsking 131 (kV g n) (l.map pEnt) i).run Tryz.prog w = .ok ((pFindM g n l i).map fun r => (r.1, r.2)) w
 | [],i,_=>by simp [Instr.findAsking,pFindM]
 | q::l,i,h=>by
  obtain ⟨ca,ha⟩:=hg
  obtain ⟨cb,hb⟩:=h q (by simp)
  have he:=peqK (n:=n) (m:=q.2.1) 9998 ha hb
  have ih:=pFind_c (n:=n) ⟨ca,ha⟩ l (i+1) (fun x hx=>h x (by simp [hx]))
  by_cases hq:g=q.1∧n=q.2.1
  ·rw [decide_eq_true hq] at he
   simp only [List.map_cons,Instr.findAsking,Op.equal,Op.maxDepth,Sem.run_bind,pEnt,he,Result.andThen_ok,pFindM,if_pos hq]
   rfl
  ·rw [decide_eq_false hq] at he
   simp only [List.map_cons,Instr.findAsking,Op.equal,Op.maxDepth,Sem.run_bind,pEnt,he,Result.andThen_ok,pFindM,if_neg hq]
   exact ih
theorem pFind_some {g n : Nat} : ∀ (l : List pMq) (i j : Nat) (m : Value), pFindM g n l i = some (j, m) → i ≤ j ∧ ∃ q, l[j - i]? = some q ∧ q.1 = g ∧ q.2.1 = n ∧ q.2.2.1 = m
 | [],_,_,_,h=>by cases h
 | q::l,i,j,m,h=>by
  unfold pFindM at h
  split at h
  ·rename_i hq
   cases h
   exact ⟨Nat.le_refl _,q,by simp,hq.1.symm,hq.2.symm,rfl⟩
  ·obtain ⟨h1, q', h2, h3⟩ := pFind_some l (i + 1) j m h
   refine ⟨by omega,q',?_,h3⟩
   rw [show j - i=(j - (i+1))+1 by omega]
   exact h2
def pMapAt (w:World) (M:Nat) (l:List pMq):Prop:=∃ es c,w.heap[M]? = some (.map es c)∧es.toList=l.map pEnt
theorem plook_c {w : World} {M g n : Nat} {l : List pMq} (hm : pMapAt w M l) (hg : Alive w g) (hl : ∀ q ∈ l, Alive w q.1) :
  (Instr.lookup 62 (.map (some M)) (kV g n) true).run Tryz.prog w=.ok (match pFindM g n l 0 with
   | some r=>.tuple #[r.2,.bool true]
   | none=>.tuple #[.agg #[.int .i64 0,.slice none 0 0],.bool false]) w:=by
 obtain ⟨es,c,hb,he⟩:=hm
 have hz:(zeroValue 96).run Tryz.prog w=.ok (.agg #[.int .i64 0,.slice none 0 0]) w:=by
  simp [zeroValue,go_sem]
  rfl
 have hc:=pchk w es.isEmpty 9998 g n
 have hf:=pFind_c (n:=n) hg l 0 hl
 have hrun:(Instr.findKey 131 (kV g n) es.toList).run Tryz.prog w=.ok ((pFindM g n l 0).map fun r=>(r.1,r.2)) w:=by
  rw [run_findKey_eq w (by rw [prowU]),he,hf]
 simp only [Instr.lookup,Sem.run_bind,run_underlying pmapU,Result.andThen_ok,MapKept.run_getObj_map hb]
 cases hq:pFindM g n l 0 with
 | none=>rw [hq] at hrun;simp [hc,hrun,hz]
 | some r=>rw [hq] at hrun;simp [hc,hrun]
theorem pupd_c {w : World} {M g n : Nat} {v : Value} {l : List pMq} (hm : pMapAt w M l) (hg : Alive w g) (hl : ∀ q ∈ l, Alive w q.1) :
  ∃ w',(Instr.mapUpdate 62 (.map (some M)) (kV g n) v).run Tryz.prog w=.ok () w'∧(∃ l',pMapAt w' M l'∧∀ q∈l',q∈l∨(q.1=g∧q.2.1=n∧q.2.2.1=v))∧w'.os=w.os∧w'.tape=w.tape∧w'.output=w.output∧w'.heap.size=w.heap.size∧∀ k,k≠M→w'.heap[k]? = w.heap[k]?:=by
 obtain ⟨es,c,hb,he⟩:=hm
 have hlt:=(Array.getElem?_eq_some_iff.1 hb).1
 have hc:=pchk w false 9998 g n
 have hf:=pFind_c (n:=n) hg l 0 hl
 have hrun:(Instr.findKey 131 (kV g n) es.toList).run Tryz.prog w=.ok ((pFindM g n l 0).map fun r=>(r.1,r.2)) w:=by
  rw [run_findKey_eq w (by rw [prowU]),he,hf]
 cases hq:pFindM g n l 0 with
 | none =>
  rw [hq] at hrun
  refine ⟨{ w with heap:=w.heap.setIfInBounds M (.map (es.push { key:=kV g n,val:=v,born:=c }) (c+1)) },?_,⟨l++[(g,n,v,c)],⟨es.push { key:=kV g n,val:=v,born:=c },c+1,by simp [hlt],by simp [he,pEnt]⟩,fun q hq=>?_⟩,rfl,rfl,rfl,by simp,fun k hk=>by simp [Ne.symm hk]⟩
  ·simp only [Instr.mapUpdate, Sem.run_bind, run_underlying pmapU, Result.andThen_ok, MapKept.run_getObj_map hb]
   simp [hc,hrun,MapKept.run_setObj_map _ hb]
  ·rcases List.mem_append.1 hq with h | h
   ·exact .inl h
   ·simp at h;subst h;exact .inr ⟨rfl,rfl,rfl⟩
 | some r =>
  obtain ⟨j,m⟩:=r
  rw [hq] at hrun
  obtain ⟨_,q0,h1,h2,h3,h4⟩:=pFind_some l 0 j m hq
  have hej:es[j]? = some (pEnt q0):=by
   rw [← Array.getElem?_toList,he,List.getElem?_map]
   simp at h1;rw [h1];rfl
  have hkey:(pEnt q0).key=kV g n:=by show kV q0.1 q0.2.1=_;rw [h2,h3]
  refine ⟨{ w with heap:=w.heap.setIfInBounds M (.map (es.modify j fun e=>{ e with key:=kV g n,val:=v }) c) },?_,⟨l.modify j (fun q=>(g,n,v,q.2.2.2)),⟨es.modify j fun e=>{ e with key:=kV g n,val:=v },c,by simp [hlt],?_⟩,fun q hq=>?_⟩,rfl,rfl,rfl,by simp,fun k hk=>by simp [Ne.symm hk]⟩
  ·have hst:(Instr.keyThatStays (kV g n) (kV g n)).run Tryz.prog w=.ok (kV g n) w:=by
    simp [Instr.keyThatStays,Instr.sameBits,kV]
   simp only [Instr.mapUpdate,Sem.run_bind,run_underlying pmapU,Result.andThen_ok,MapKept.run_getObj_map hb]
   simp [hc,hrun,hej,hkey,hst,MapKept.run_setObj_map _ hb]
  ·refine List.ext_getElem? (fun i => ?_)
   rw [Array.getElem?_toList,Array.getElem?_modify,List.getElem?_map,List.getElem?_modify]
   have hi:es[i]? = (l[i]?).map pEnt:=by rw [← Array.getElem?_toList,he,List.getElem?_map]
   rw [hi]
   by_cases hij:j=i
   ·subst hij
    simp only [if_true]
    cases l[j]? with
    | none=>rfl
    | some q=>rfl
   ·simp only [if_neg hij]
    cases l[i]? with
    | none=>rfl
    | some q=>rfl
  ·obtain ⟨i, hi, rfl⟩ := List.mem_iff_getElem.1 hq
   rw [List.getElem_modify]
   split
   ·exact .inr ⟨rfl,rfl,rfl⟩
   ·exact .inl (List.getElem_mem _)
end Go.Proofs.YtioahgklplbinaaGreatDoor

/- The program's counts of states: a row of nodes, each row once. -/
namespace Go.Proofs.YtioahgklplbinaaGreatDoor
open Go.RowKit Go.Shelf Go.Maps SetM PropsM RxM WrM NfaM
def PlR (W:World) (Z:Nat→Prop) (P:Option Addr) (l:List Nat):Prop:=l≠[]→∃ k,P=some ⟨k,0,none⟩∧k < W.heap.size∧¬ Z k∧∀ j (h:j < l.length),W.cell? ⟨k,j,none⟩=some (.int .i64 (l[j]:Nat))
theorem PlR.kept {W W':World} {Z Z':Nat→Prop} {P:Option Addr} {l:List Nat} (h:PlR W Z P l) (hs:W.heap.size≤W'.heap.size) (hz:∀ k,k < W.heap.size→¬ Z k→¬ Z' k∧W'.heap[k]? = W.heap[k]?):PlR W' Z' P l:=fun hne=>by
 obtain ⟨k,e,hk,hZ,hc⟩:=h hne
 obtain ⟨a,b⟩:=hz k hk hZ
 exact ⟨k,e,Nat.lt_of_lt_of_le hk hs,a,fun j hj=>(World.cell?_of_block (a:=⟨k,j,none⟩) b).trans (hc j hj)⟩
def PGood (W0 W:World) (Z:Nat→Prop) (q:pMq):Prop:=Alive W0 q.1∧∃ kids:List Ns,kids≠[]∧kids.length=q.2.1∧RowR W0 q.1 kids∧∃ P c,q.2.2.1=.agg #[.int .i64 (cutP (cntC kids):Nat),.slice P (plF kids 0).length c]∧PlR W Z P (plF kids 0)
def PMo (W0 W:World) (Z:Nat→Prop) (M:Nat):Prop:=∃ l,pMapAt W M l∧∀ q∈l,PGood W0 W Z q
theorem PMo.kept {W0 W W':World} {Z Z':Nat→Prop} {M:Nat} (h:PMo W0 W Z M) (hm:W'.heap[M]? = W.heap[M]?) (hs:W.heap.size≤W'.heap.size) (hz:∀ k,k < W.heap.size→¬ Z k→¬ Z' k∧W'.heap[k]? = W.heap[k]?):PMo W0 W' Z' M:=by
 obtain ⟨l,⟨es,c,h1,h2⟩,h3⟩:=h
 refine ⟨l,⟨es,c,hm.trans h1,h2⟩,fun q hq=>?_⟩
 obtain ⟨a,kids,b,d,e,P,c,f,g⟩:=h3 q hq
 exact ⟨a,kids,b,d,e,P,c,f,g.kept hs hz⟩
theorem PMo.lt {W0 W:World} {Z:Nat→Prop} {M:Nat} (h:PMo W0 W Z M):M < W.heap.size:=by
 obtain ⟨l,⟨es,c,h1,h2⟩,h3⟩:=h
 exact (Array.getElem?_eq_some_iff.1 h1).1
theorem PMo.imp {W0 W:World} {Z Z':Nat→Prop} {M:Nat} (h:PMo W0 W Z M) (hz:∀ k,k < W.heap.size→Z' k→Z k):PMo W0 W Z' M :=
 h.kept rfl (Nat.le_refl _) (fun k hk hn=>⟨fun h=>hn (hz k hk h),rfl⟩)
theorem PMo.step {W0 W W':World} {Z:Nat→Prop} {M:Nat} (h:PMo W0 W Z M) (hb:Below W.heap.size W W'):PMo W0 W' Z M :=
 h.kept (hb.block M h.lt) hb.size (fun k hk hn=>⟨hn,hb.block k hk⟩)
theorem PMo.new {W0 W:World} {Z:Nat→Prop} {M c:Nat} (h:W.heap[M]? = some (.map #[] c)):PMo W0 W Z M:=⟨[],⟨#[],c,h,rfl⟩,fun q hq=>by cases hq⟩
def LnC (u:Ns):Prop:=∀ (W0 W:World) (M:Nat) (Z:Nat→Prop) (v:Value),Shp u→RV W0 v u→Below W0.heap.size W0 W→W0.heap.size≤M→(∀ k,Z k→k < W.heap.size)→Z M→PMo W0 W Z M →
 Calls Tryz.prog 77 #[.map (some M),v] W fun e W'=>∃ q:Nat,e=.returned (.int .i64 q)∧cutP q=cutP (cntS u)∧q≤100000∧PMo W0 W' Z M∧Gr M W W'
def OfP (W0 W:World) (M:Nat) (Z:Nat→Prop) (kids:List Ns) (e:Ending) (W':World):Prop :=
 ∃ P c,e=.returned (.agg #[.int .i64 (cutP (cntC kids):Nat),.slice P (plF kids 0).length c])∧PlR W' Z P (plF kids 0)∧PMo W0 W' Z M∧Gr M W W'
def put2 (W:World) (B:Nat) (a b:Value):World:=(W.setCell ⟨B,0,none⟩ a).setCell ⟨B,1,none⟩ b
theorem put2_heap {W:World} {B:Nat} {x y:Value} {t:TypeId} (a b:Value) (h:W.heap[B]? = some (.cells #[x,y] t (0,0))):(put2 W B a b).heap[B]? = some (.cells #[a,b] t (0,0)) :=
 heap_setC _ B _ _ (heap_setC W B _ _ h 0 a) 1 b
theorem put2_other (W:World) (B:Nat) (a b:Value) (k:Nat) (hk:k≠B):(put2 W B a b).heap[k]? = W.heap[k]?:=by
 unfold put2
 rw [heap_setCell_other _ ⟨B,1,none⟩ k b hk,heap_setCell_other _ ⟨B,0,none⟩ k a hk]
theorem put2_size (W:World) (B:Nat) (a b:Value):(put2 W B a b).heap.size=W.heap.size:=by
 unfold put2
 simp only [World.size_setCell]
theorem cells2 {W:World} {b:Nat} {x y:Value} {t:TypeId} (h:W.heap[b]? = some (.cells #[x,y] t (0,0))):(W.cell? ⟨b,0,none⟩=some x∧W.cell? ⟨b,1,none⟩=some y)∧W.frozen? ⟨b,0,none⟩=false∧W.frozen? ⟨b,1,none⟩=false :=
 ⟨⟨cell_of_row W _ 0 _ _ _ h,cell_of_row W _ 1 _ _ _ h⟩,frozen_of_row W _ 0 _ _ h,frozen_of_row W _ 1 _ _ h⟩
theorem sizeNd:(Tryz.prog.info? 96).map (·.size)=some 2:=by kernel_rfl
theorem ret_need {fn : Func} {p : Tmp} {Q : Ending → World → Prop} {tmps : Array Value} {w1 : World} {B : Nat} {x y a b : Value} (hf : fn.results = #[.cell p 96]) (hp : tmps.getD p undef = .pointer (some ⟨B, 0, none⟩))
  (h3:w1.heap[B]? = some (.cells #[x,y] 96 (0,0))) (hQ:Q (.returned (.agg #[a,b])) (put2 w1 B a b)) :
  bodyPost Tryz.prog fn Q .ret { tmps:=tmps,defers:=[] } ((w1.setCell ⟨B,0,none⟩ a).setCell ⟨B,1,none⟩ b) :=
 bodyPost_ret (results_cell_row hf tmps _ B _ #[a,b] (0,0) _ hp (put2_heap a b h3) Tryz.underlying96 rfl sizeNd) rfl hQ
structure CW (W0 W : World) (M : Nat) (Z : Nat → Prop) (g kn : Nat) (X : World) (st : Nat) (v : Value) (l : List Nat) : Prop where
 b0:X.heap[W.heap.size]? = some (.cells #[.int .i64 0,.slice none 0 0] 96 (0,0))
 b1:X.heap[W.heap.size+1]? = some (.cells #[.pointer (some ⟨g,0,none⟩),.int .i64 kn] 131 (0,0))
 b3:X.heap[W.heap.size+3]? = some (.cells #[.int .i64 st,v] 96 (0,0))
 row:(⟨3,1,v,l.length,l.map (fun i=>Value.int .i64 (i:Nat))⟩:Rw).ok X
 own:∀ k,v.ownBlock=some k→W.heap.size+4≤k
 mo:PMo W0 X (fun k=>Z k∨(W.heap.size≤k∧k < W.heap.size+4)∨v.ownBlock=some k) M
 gr:Gr M W X
 sz:W.heap.size+4≤X.heap.size
theorem CW.z {W0 W X:World} {M:Nat} {Z:Nat→Prop} {g kn st:Nat} {v:Value} {l:List Nat} (h:CW W0 W M Z g kn X st v l) (hZ:∀ k,Z k→k < W.heap.size):∀ k,(Z k∨(W.heap.size≤k∧k < W.heap.size+4)∨v.ownBlock=some k)→k < X.heap.size:=fun k hk=>by
 have hs:=h.sz
 rcases hk with hk | hk | hk
 ·have:=hZ k hk;omega
 ·omega
 ·exact h.row.lt hk
theorem CW.step {W0 W X X':World} {M:Nat} {Z:Nat→Prop} {g kn st:Nat} {v:Value} {l:List Nat} (h:CW W0 W M Z g kn X st v l) (hb:Below X.heap.size X X'):CW W0 W M Z g kn X' st v l:=by
 have hs:=h.sz
 exact ⟨(hb.block _ (by omega)).trans h.b0,(hb.block _ (by omega)).trans h.b1,(hb.block _ (by omega)).trans h.b3,h.row.of_block (fun k hk=>hb.block k (h.row.lt hk)),h.own,h.mo.step hb,h.gr.trans (Gr.of hb),by have:=hb.size;omega⟩
theorem CW.call {W0 W X X':World} {M:Nat} {Z:Nat→Prop} {g kn st:Nat} {v:Value} {l:List Nat} (h:CW W0 W M Z g kn X st v l) (hM:M < W.heap.size) (hm:PMo W0 X' (fun k=>Z k∨(W.heap.size≤k∧k < W.heap.size+4)∨v.ownBlock=some k) M) (hg:Gr M X X'):CW W0 W M Z g kn X' st v l:=by
 have hs:=h.sz
 have e:∀ k,k < X.heap.size→k≠M→X'.heap[k]? = X.heap[k]?:=fun k hk hn=>hg.block k hk (fun e=>hn (by cases e;rfl))
 exact ⟨(e _ (by omega) (by omega)).trans h.b0,(e _ (by omega) (by omega)).trans h.b1,(e _ (by omega) (by omega)).trans h.b3,h.row.of_block (fun k hk=>e k (h.row.lt hk) (by have:=h.own k hk;omega)),h.own,hm,h.gr.trans hg,by have:=hg.size;omega⟩
theorem CW.app {W0 W X X' : World} {M : Nat} {Z : Nat → Prop} {g kn st : Nat} {v : Value} {l : List Nat} (h : CW W0 W M Z g kn X st v l) (hM : M < W.heap.size) (hZ : ∀ k, Z k → k < W.heap.size) {q cap i : Nat}
  (k1:((⟨3,1,v,l.length,l.map (fun i=>Value.int .i64 (i:Nat))⟩:Rw).more q cap [.int .i64 (i:Nat)]).ok X') (k2:X.grownBy X' v.ownBlock) (k3:v.ownBlock=some q∨q=X.heap.size) :
  CW W0 W M Z g kn ((X'.setCell ⟨W.heap.size+3,1,none⟩ (.slice (some ⟨q,0,none⟩) (l.length+1) cap))) st (.slice (some ⟨q,0,none⟩) (l.length+1) cap) (l++[i]):=by
 have hs:=h.sz
 have hz:=k2.size
 have hq:W.heap.size+4≤q:=by
  rcases k3 with e | e
  ·exact h.own q e
  ·omega
 have hx:∀ k,k < X.heap.size→v.ownBlock≠some k→X'.heap[k]? = X.heap[k]?:=fun k hk hn=>k2.block k hk (fun e=>hn e.symm)
 have ho:∀ k,k≠W.heap.size+3→∀ u,(X'.setCell ⟨W.heap.size+3,1,none⟩ u).heap[k]? = X'.heap[k]?:=fun k hk u=>heap_setCell_other X' ⟨W.heap.size+3,1,none⟩ k u hk
 have hn:∀ k,k < W.heap.size+4→v.ownBlock≠some k:=fun k hk e=>by have:=h.own k e;omega
 refine ⟨?_,?_,?_,?_,?_,?_,?_,?_⟩
 ·rw [ho _ (by omega),hx _ (by omega) (hn _ (by omega))];exact h.b0
 ·rw [ho _ (by omega),hx _ (by omega) (hn _ (by omega))];exact h.b1
 ·exact heap_setC X' _ _ _ ((hx _ (by omega) (hn _ (by omega))).trans h.b3) 1 _
 ·have e : (⟨3, 1, .slice (some ⟨q, 0, none⟩) (l.length + 1) cap, (l ++ [i]).length, (l ++ [i]).map (fun i => Value.int .i64 (i : Nat))⟩ : Rw) = (⟨3, 1, v, l.length, l.map (fun i => Value.int .i64 (i : Nat))⟩ : Rw).more q cap [.int .i64 (i : Nat)] := by simp [Rw.more]
  rw [e]
  refine k1.of_block (fun k hk=>ho k ?_ _)
  have hk':some q=some k:=hk
  cases hk'
  omega
 ·intro k hk
  have hk':some q=some k:=hk
  cases hk'
  exact hq
 ·refine h.mo.kept ?_ (by rw [World.size_setCell]; exact hz) (fun k hk hZk => ⟨?_, ?_⟩)
  ·rw [ho _ (by omega),hx _ (by omega) (hn _ (by omega))]
  ·rintro (h1 | h1 | h1)
   ·exact hZk (.inl h1)
   ·exact hZk (.inr (.inl h1))
   ·have hk' : some q = some k := h1
    cases hk'
    rcases k3 with e | e
    ·exact hZk (.inr (.inr e))
    ·omega
  ·rw [ho _ (fun e=>hZk (.inr (.inl (by omega)))),hx _ hk (fun e=>hZk (.inr (.inr e)))]
 ·exact ⟨k2.os.trans h.gr.os,k2.tape.trans h.gr.tape,k2.output.trans h.gr.output,by rw [World.size_setCell];omega,fun k hk hm=>by rw [ho _ (by omega),hx _ (by omega) (hn _ (by omega))];exact h.gr.block k hk hm⟩
 ·rw [World.size_setCell];omega
theorem CW.cnt {W0 W X:World} {M:Nat} {Z:Nat→Prop} {g kn st:Nat} {v:Value} {l:List Nat} (h:CW W0 W M Z g kn X st v l) (hM:M < W.heap.size) (s2:Nat):CW W0 W M Z g kn (X.setCell ⟨W.heap.size+3,0,none⟩ (.int .i64 s2)) s2 v l:=by
 have hs:=h.sz
 have ho:∀ k,k≠W.heap.size+3→∀ u,(X.setCell ⟨W.heap.size+3,0,none⟩ u).heap[k]? = X.heap[k]?:=fun k hk u=>heap_setCell_other X ⟨W.heap.size+3,0,none⟩ k u hk
 refine ⟨?_,?_,?_,?_,h.own,?_,?_,by rw [World.size_setCell];exact hs⟩
 ·rw [ho _ (by omega)];exact h.b0
 ·rw [ho _ (by omega)];exact h.b1
 ·exact heap_setC X _ _ _ h.b3 0 _
 ·exact h.row.of_block (fun k hk=>ho k (by have:=h.own k hk;omega) _)
 ·exact h.mo.kept (ho _ (by omega) _) (by rw [World.size_setCell];exact Nat.le_refl _) (fun k hk hZk=>⟨hZk,ho k (fun e=>hZk (.inr (.inl (by omega)))) _⟩)
 ·exact ⟨h.gr.os,h.gr.tape,h.gr.output,by rw [World.size_setCell];exact h.gr.size,fun k hk hn=>by rw [ho _ (by omega)];exact h.gr.block k hk hn⟩
theorem cut_min {s q a b s2:Nat} (h1:s=cutP a) (h2:cutP q=cutP b) (h3:s2=min (s+q) 2001):s2=cutP (a+b):=by
 unfold cutP at *
 omega
theorem min_z {s q s2:Nat} (h3:s2=min (s+q) 2001):min ((s:Int)+(q:Int)) 2001=(s2:Int):=by omega
theorem min_z8 {s q s2:Nat} (h3:s2=min (s+q) 2001):s2≤2001:=by omega
theorem CW.mid {W0 W X X':World} {M:Nat} {Z:Nat→Prop} {g kn st:Nat} {v:Value} {l:List Nat} (h:CW W0 W M Z g kn X st v l) (k2:X.grownBy X' v.ownBlock):X'.heap[W.heap.size+3]? = some (.cells #[.int .i64 st,v] 96 (0,0)) :=
 (k2.block _ (by have:=h.sz;omega) (fun e=>by have:=h.own _ e.symm;omega)).trans h.b3
theorem CW.form {W0 W X:World} {M:Nat} {Z:Nat→Prop} {g kn st:Nat} {v:Value} {l:List Nat} (h:CW W0 W M Z g kn X st v l):∃ p c,v=.slice p l.length c:=Rw.ok.slice h.row
theorem PlR.of {X:World} {Z:Nat→Prop} {p:Option Addr} {c:Nat} {l:List Nat} (h:(⟨3,1,.slice p l.length c,l.length,l.map (fun i=>Value.int .i64 (i:Nat))⟩:Rw).ok X) (hz:∀ k,Value.ownBlock (.slice p l.length c)=some k→¬ Z k):PlR X Z p l:=fun hne=>by
 have hl:=List.length_pos_iff.2 hne
 have hok:=h
 unfold Rw.ok at hok
 rcases h.2 with ⟨_,b⟩ | ⟨g,cap,cur,a,_⟩
 ·have b' : l.length = 0 := b
  omega
 ·have a' : Value.slice p l.length c = .slice (some ⟨g, 0, none⟩) l.length cap := a
  injection a' with e1 e2 e3
  subst e1
  refine ⟨g,rfl,h.lt rfl,hz g rfl,fun j hj=>?_⟩
  have h1:=World.ownsRow.cellAt hok j (by show j < l.length*1;omega)
  rw [h1]
  simp [hj]
theorem pl_last {l:List Ns} {r:Nat} (h:r < l.length):plF (l.take (r+1)) 0=plF (l.take r) 0++(if 0 < cntS l[r] then [r] else []):=by
 rw [List.take_succ_eq_append_getElem h,pl_snoc,List.length_take]
 have:min r l.length=r:=by omega
 rw [this,Nat.zero_add]
theorem cnt_last {l:List Ns} {r:Nat} (h:r < l.length):cntC (l.take (r+1))=cntC (l.take r)+cntS l[r]:=by
 rw [List.take_succ_eq_append_getElem h,cntc_snoc']
set_option maxRecDepth 100000 in
set_option maxHeartbeats 16000000 in
theorem of_k (kids : List Ns) (ih : ∀ u ∈ kids, LnC u) (hsh : ∀ u ∈ kids, Shp u) (W0 W : World) (M g kn pc : Nat) (Z : Nat → Prop) (hne : kids ≠ []) (hkn : kn = kids.length) (h8 : kn ≤ 1000000) (hal : Alive W0 g) (hrow : RowR W0 g kids) (hW : Below W0.heap.size W0 W) (hM : W0.heap.size ≤ M)
  (hZ:∀ k,Z k→k < W.heap.size) (hZM:Z M) (hmo:PMo W0 W Z M):Calls Tryz.prog 50 #[.map (some M),.slice (some ⟨g,0,none⟩) kn pc] W (OfP W0 W M Z kids):=by
 obtain ⟨V0,hV0⟩:∃ V,V=W.alloc (.cells #[.int .i64 0,.slice none 0 0] 96):=⟨_,rfl⟩
 obtain ⟨V1,hV1⟩:∃ V,V=V0.alloc (.cells #[.pointer (some ⟨g,0,none⟩),.int .i64 kn] 131):=⟨_,rfl⟩
 have z0:V0.heap.size=W.heap.size+1:=by rw [hV0,World.size_alloc]
 have z1:V1.heap.size=W.heap.size+2:=by rw [hV1,World.size_alloc,z0]
 have hb0:Below W.heap.size W V0:=by rw [hV0];exact (Below.refl _ _).alloc (Nat.le_refl _) _
 have hb1:Below W.heap.size W V1:=by rw [hV1];exact hb0.alloc (by omega) _
 have y0:V1.heap[W.heap.size]? = some (.cells #[.int .i64 0,.slice none 0 0] 96 (0,0)):=by rw [hV1,Lib.alloc_old _ _ _ (by omega),hV0];exact heap_alloc_new W _
 have y1:V1.heap[W.heap.size+1]? = some (.cells #[.pointer (some ⟨g,0,none⟩),.int .i64 kn] 131 (0,0)):=by rw [hV1,← z0];exact heap_alloc_new V0 _
 have hpos:(0:Int) < (kn:Int):=by have:=List.length_pos_iff.2 hne;omega
 obtain ⟨l,⟨mes,mc,hmap1,hmap2⟩,hgood⟩:=hmo
 have hmap:pMapAt V1 M l:=⟨mes,mc,(hb1.block M (Array.getElem?_eq_some_iff.1 hmap1).1).trans hmap1,hmap2⟩
 have hmo:PMo W0 W Z M:=⟨l,⟨mes,mc,hmap1,hmap2⟩,hgood⟩
 have hbw:=hW.trans (hb1.mono hW.size)
 have HLK:=Lib.hid (plook_c (n:=kn) hmap (hal.step hbw) (fun q hq=>(hgood q hq).1.step hbw))
 have HGD:=Lib.hid hgood
 have HMO:=Lib.hid hmo
 have HAL:=Lib.hid hal
 have HROW:=Lib.hid hrow
 have HW:=Lib.hid hW
 have HM:=Lib.hid hM
 have HZ:=Lib.hid hZ
 have HZM:=Lib.hid hZM
 have HKN:=Lib.hid hkn
 have HI:=Lib.hid ih
 have HSHP:=Lib.hid hsh
 have HNE:=Lib.hid hne
 have HML:=Lib.hid hmo.lt
 have HY:=Lib.hid (And.intro y0 y1)
 have HB1:=Lib.hid hb1
 have HZ1:=Lib.hid z1
 have HZ0:=Lib.hid z0
 have c0:V1.cell? ⟨W.heap.size+1,0,none⟩=some (.pointer (some ⟨g,0,none⟩)):=cell_of_row V1 _ 0 _ _ _ y1
 have c1:V1.cell? ⟨W.heap.size+1,1,none⟩=some (.int .i64 kn):=cell_of_row V1 _ 1 _ _ _ y1
 clear hmap1 hmap2 hmap hgood hbw hmo hal hrow hW hM hZ hZM hkn ih hsh hne y0 y1 hb0 hb1 z0 z1
 go_enter Tryz.func50,Tryz.ntmps50
 go_upto_region 2 with fail
 rw [← hV0,← hV1]
 clear hV1 hV0
 have hlook:=HLK.out
 unfold kV at hlook
 cases hq:pFindM g kn l 0 with
 | some r =>
  obtain ⟨j,mv⟩:=r
  rw [hq] at hlook
  dsimp only at hlook
  obtain ⟨_,q,h1,h2,h3,h4⟩:=pFind_some l 0 j mv hq
  have hqm:q∈l:=List.mem_of_getElem? h1
  obtain ⟨_,kids',hne,hlen,hrow,P,c,hval,hpl⟩:=HGD.out q hqm
  have hkk:kids'=kids:=row_same (by rw [← h2];exact hrow) HROW.out (by rw [hlen,h3];exact HKN.out)
  subst hkk
  rw [h4] at hval
  subst hval
  obtain ⟨X,hX⟩:∃ X,X=V1.alloc (.cells #[.int .i64 (cutP (cntC kids'):Nat),.slice P (plF kids' 0).length c] 96):=⟨_,rfl⟩
  have hbX:Below V1.heap.size V1 X:=by rw [hX];exact (Below.refl _ _).alloc (Nat.le_refl _) _
  have x2:X.heap[V1.heap.size]? = some (.cells #[.int .i64 (cutP (cntC kids'):Nat),.slice P (plF kids' 0).length c] 96 (0,0)):=by rw [hX];exact heap_alloc_new V1 _
  have x0:=(hbX.block _ (by have:=HZ1.out;omega)).trans HY.out.1
  have HX0:=Lib.hid x0
  have hbWX:=HB1.out.trans (hbX.mono HB1.out.size)
  have HQ:Hid (OfP W0 W M Z kids' (.returned (.agg #[.int .i64 (cutP (cntC kids'):Nat),.slice P (plF kids' 0).length c])) (put2 X W.heap.size (.int .i64 (cutP (cntC kids'):Nat)) (.slice P (plF kids' 0).length c))):=Lib.hid (by
   have h0:∀ k,k < W.heap.size→(put2 X W.heap.size (.int .i64 (cutP (cntC kids'):Nat)) (.slice P (plF kids' 0).length c)).heap[k]? = V1.heap[k]?:=fun k hk=>by
    rw [put2_other _ _ _ _ _ (by omega)]
    exact hbX.block k (by have:=HZ1.out;omega)
   have hs2:W.heap.size≤(put2 X W.heap.size (.int .i64 (cutP (cntC kids'):Nat)) (.slice P (plF kids' 0).length c)).heap.size:=by rw [put2_size];exact hbWX.size
   refine ⟨P,c,rfl,?_,?_,⟨hbWX.os,hbWX.tape,hbWX.output,hs2,fun k hk _=>(h0 k hk).trans (HB1.out.block k hk)⟩⟩
   ·exact hpl.kept hs2 (fun k hk hn=>⟨hn,(h0 k hk).trans (HB1.out.block k hk)⟩)
   ·exact HMO.out.kept ((h0 M HML.out).trans (HB1.out.block M HML.out)) hs2 (fun k hk hn=>⟨hn,(h0 k hk).trans (HB1.out.block k hk)⟩))
  obtain ⟨d0,d1⟩:=(cells2 x2).1
  obtain ⟨_,f0,f1⟩:=cells2 x0
  obtain ⟨e0,e1⟩:=(cells2 x0).1
  generalize cutP (cntC kids')=q1 at *
  generalize (plF kids' 0).length=q2 at *
  clear hq h1 h2 h3 h4 hqm hne hlen hrow HGD
  go_upto_region 4 with fail
  rw [← hX]
  clear hX
  go_wp2
  exact ret_need rfl rfl HX0.out HQ.out
 | none =>
  rw [hq] at hlook
  dsimp only at hlook
  clear hq
  obtain ⟨V2,hV2⟩:∃ V,V=V1.alloc (.cells #[.int .i64 0,.slice none 0 0] 96):=⟨_,rfl⟩
  obtain ⟨V3,hV3⟩:∃ V,V=V2.alloc (.cells #[.int .i64 0,.slice none 0 0] 96):=⟨_,rfl⟩
  have z2:V2.heap.size=W.heap.size+3:=by rw [hV2,World.size_alloc,HZ1.out]
  have z3:V3.heap.size=W.heap.size+4:=by rw [hV3,World.size_alloc,z2]
  have hb3:Below V1.heap.size V1 V3:=by rw [hV3,hV2];exact ((Below.refl _ _).alloc (Nat.le_refl _) _).alloc (by rw [World.size_alloc];omega) _
  have y3:V3.heap[W.heap.size+3]? = some (.cells #[.int .i64 0,.slice none 0 0] 96 (0,0)):=by rw [hV3,← z2];exact heap_alloc_new V2 _
  have HC:Hid (CW W0 W M Z g kn V3 0 (.slice none 0 0) []):=Lib.hid (by
   have a:=HZ1.out
   have hbw:=HB1.out.trans (hb3.mono HB1.out.size)
   exact ⟨(hb3.block _ (by omega)).trans HY.out.1,(hb3.block _ (by omega)).trans HY.out.2,y3,Rw.nil_ok V3 _ _,fun k hk=>(by cases hk),HMO.out.kept (hbw.block M HML.out) hbw.size (fun k hk hn=>⟨fun h=>(by
    rcases h with h | h | h
    ·exact hn h
    ·omega
    ·cases h),hbw.block k hk⟩),Gr.of hbw,by omega⟩)
  go_upto_region 6 with fail
  rw [← hV2,← hV3,HZ1.out]
  have ha3:W.heap.size+2+1=W.heap.size+3:=rfl
  rw [ha3]
  clear hV3 hV2 z2 z3 y3 hb3 ha3 c0 c1 hlook HLK HGD
  go_wp2_with fail
  go_loopg [27] kn (fun gk s27 wx=>∃ (r st:Nat) (v:Value),r+gk=kn∧s27=.int .i64 r∧st≤2001∧Hid (st=cutP (cntC (kids.take r))∧CW W0 W M Z g kn wx st v (plF (kids.take r) 0)))
  case atStart=>exact ⟨0,0,.slice none 0 0,by omega,rfl,by omega,Lib.hid ⟨rfl,HC.out⟩⟩
  case round =>
   obtain ⟨r,st,v,hrg,rfl,hst,HR⟩:=hrel
   obtain ⟨⟨x0,x1⟩,f0,f1⟩:=cells2 HR.out.2.b3
   obtain ⟨p,cp,rfl⟩:=HR.out.2.form
   cases gk with
   | zero =>
    obtain rfl:r=kn:=by omega
    have hlt:¬ (r:Int) < (r:Int):=by omega
    have hk:kids.take r=kids:=List.take_of_length_le (by have:=HKN.out;omega)
    obtain ⟨he,hcw⟩:=HR.out
    rw [hk] at he hcw x1
    obtain ⟨l',hmap,hgood⟩:=hcw.mo
    have hbx:Below W0.heap.size W0 wr:=hcw.gr.below HW.out HM.out
    obtain ⟨w',hupd,⟨l2,hm2,hl2⟩,e1,e2,e3,e4,e5⟩:=pupd_c (n:=r) (v:= .agg #[.int .i64 st,.slice p (plF kids 0).length cp]) hmap (HAL.out.step hbx) (fun q hq=>(hgood q hq).1.step hbx)
    unfold kV at hupd
    have hsz:=hcw.sz
    have hML:=HML.out
    have k0:=(e5 _ (show W.heap.size≠M by omega)).trans hcw.b0
    have k3:=(e5 _ (show W.heap.size+3≠M by omega)).trans hcw.b3
    have k1:=cells2 hcw.b1
    obtain ⟨⟨y0,y1⟩,_⟩:=k1
    obtain ⟨⟨u0,u1⟩,_⟩:=cells2 k3
    have HK0:=Lib.hid k0
    have HQ:Hid (OfP W0 W M Z kids (.returned (.agg #[.int .i64 st,.slice p (plF kids 0).length cp])) (put2 w' W.heap.size (.int .i64 st) (.slice p (plF kids 0).length cp))):=Lib.hid (by
     have hp2:∀ k,k≠W.heap.size→k≠M→(put2 w' W.heap.size (.int .i64 st) (.slice p (plF kids 0).length cp)).heap[k]? = wr.heap[k]?:=fun k h1 h2=>(put2_other _ _ _ _ _ h1).trans (e5 k h2)
     have hpl:PlR wr (fun k=>Z k∨k=W.heap.size∨k=M) p (plF kids 0):=PlR.of hcw.row (fun k hk hz=>by
      have a:=hcw.own k hk
      rcases hz with h | h | h
      ·have:=HZ.out k h;omega
      ·omega
      ·omega)
     have hpl2:=hpl.kept (W':=put2 w' W.heap.size (.int .i64 st) (.slice p (plF kids 0).length cp)) (Z':=Z) (by rw [put2_size];omega) (fun k _ hn=>⟨fun h=>hn (.inl h),hp2 k (fun h=>hn (.inr (.inl h))) (fun h=>hn (.inr (.inr h)))⟩)
     refine ⟨p,cp,by rw [he],hpl2,?_,⟨?_,?_,?_,?_,?_⟩⟩
     ·obtain ⟨es, c, m1, m2⟩ := hm2
      refine ⟨l2,⟨es,c,by rw [put2_other _ _ _ _ _ (by omega)];exact m1,m2⟩,fun q hq=>?_⟩
      rcases hl2 q hq with h | ⟨h1,h2,h3⟩
      ·obtain ⟨a, kids', b, d, f, P, c', i, j⟩ := hgood q h
       refine ⟨a,kids',b,d,f,P,c',i,?_⟩
       exact j.kept (by rw [put2_size];omega) (fun k _ hn=>⟨fun h=>hn (.inl h),hp2 k (fun h=>hn (.inr (.inl (by omega)))) (fun h=>hn (.inl (by rw [h];exact HZM.out)))⟩)
      ·exact ⟨by rw [h1];exact HAL.out,kids,HNE.out,by rw [h2];exact HKN.out.symm,by rw [h1];exact HROW.out,p,cp,by rw [h3,he],hpl2⟩
     ·exact e1.trans hcw.gr.os
     ·exact e2.trans hcw.gr.tape
     ·exact e3.trans hcw.gr.output
     ·rw [put2_size];omega
     ·intro k hk hn
      have hkM:k≠M:=fun e=>hn (by rw [e])
      rw [hp2 k (by omega) hkM]
      exact hcw.gr.block k hk hn)
    obtain ⟨_,v0,v1⟩:=cells2 k0
    generalize (plF kids 0).length=q2 at *
    clear hk hmap hgood hm2 hl2 e1 e2 e3 e4 e5 hcw he HR k0 k3
    go_wp2
    exact ret_need rfl rfl HK0.out HQ.out
   | succ gk =>
    have hlt:(r:Int) < (kn:Int):=by omega
    have h0:(0:Int)≤(r:Int):=by omega
    have hrl:r < kids.length:=by have:=HKN.out;omega
    obtain ⟨pl,hpl⟩:∃ pl,pl=plF (kids.take r) 0:=⟨_,rfl⟩
    rw [← hpl] at HR x1
    obtain ⟨u,hu,hc⟩:=HROW.out r hrl
    have hBw:=HR.out.2.gr.below HW.out HM.out
    obtain ⟨x,hx⟩:∃ x,x=kids[r]:=⟨_,rfl⟩
    rw [← hx] at hu
    have HXM:Hid (x∈kids):=Lib.hid (by rw [hx];exact List.getElem_mem hrl)
    obtain ⟨kk,sp,sn,sc,kp,kn2,kc,mn,mx,rfl⟩:=RV.form5 hu
    have hgl:g < W0.heap.size:=by obtain ⟨cs,hcs⟩:=HAL.out;exact (Array.getElem?_eq_some_iff.1 hcs).1
    have d0:=(hBw.cell (p:=⟨g,r*5+0,none⟩) hgl).trans (hc 0 (by omega))
    have d1:=(hBw.cell (p:=⟨g,r*5+1,none⟩) hgl).trans (hc 1 (by omega))
    have d2:=(hBw.cell (p:=⟨g,r*5+2,none⟩) hgl).trans (hc 2 (by omega))
    have d3:=(hBw.cell (p:=⟨g,r*5+3,none⟩) hgl).trans (hc 3 (by omega))
    have d4:=(hBw.cell (p:=⟨g,r*5+4,none⟩) hgl).trans (hc 4 (by omega))
    simp only [kidParts,Nat.add_zero] at d0 d1 d2 d3 d4
    simp at d0 d1 d2 d3 d4
    obtain ⟨Y,hY⟩:∃ Y,Y=wr.alloc (.cells #[.int .u8 kk,.slice sp sn sc,.slice kp kn2 kc,.int .i64 mn,.int .i64 mx] 48):=⟨_,rfl⟩
    have hbY:Below wr.heap.size wr Y:=by rw [hY];exact (Below.refl _ _).alloc (Nat.le_refl _) _
    have hcy:=HR.out.2.step hbY
    have hyn:Y.heap[wr.heap.size]? = some (.cells #[.int .u8 kk,.slice sp sn sc,.slice kp kn2 kc,.int .i64 mn,.int .i64 mx] 48 (0,0)):=by rw [hY];exact heap_alloc_new wr _
    have HLN:=Lib.hid (HI.out x HXM.out W0 Y M _ _ (HSHP.out x HXM.out) hu (hcy.gr.below HW.out HM.out) HM.out (hcy.z HZ.out) (.inl HZM.out) hcy.mo)
    have HCY:=Lib.hid hcy
    have HPL:Hid (plF (kids.take (r+1)) 0=pl++(if 0 < cntS x then [r] else [])∧cntC (kids.take (r+1))=cntC (kids.take r)+cntS x):=Lib.hid ⟨by rw [hx,hpl];exact pl_last hrl,by rw [hx];exact cnt_last hrl⟩
    have HST:=Lib.hid HR.out.1
    obtain ⟨e0,e1,e2,e3,e4⟩:=cells5 hyn
    have hwr:wrap64 ((r:Int)+1)=((r+1:Nat):Int):=by rw [IntWalk.wrap64_in _ (by omega)];omega
    have hpl8:pl.length≤1000000:=by rw [hpl];have:=pl_le (kids.take r) 0;rw [List.length_take] at this;omega
    clear hu hc hBw hx hbY hcy hyn HR hgl hpl x0 x1 f0 f1
    go_upto_region 9 with fail
    rw [← hY]
    clear hY d0 d1 d2 d3 d4
    go_wp2_with fail
    refine HLN.out.mono ?_
    rintro ee w5 ⟨q,rfl,hq1,hq8,hm5,hg5⟩
    have hc5:=HCY.out.call HML.out hm5 hg5
    have hws:wrap64 ((st:Int)+(q:Int))=(st:Int)+(q:Int):=IntWalk.wrap64_in _ (by omega)
    obtain ⟨s2,hs2⟩:∃ s2,s2=min (st+q) 2001:=⟨_,rfl⟩
    have hmin:min ((st:Int)+(q:Int)) 2001=(s2:Int):=min_z hs2
    have hs28:s2≤2001:=min_z8 hs2
    have HNX:Hid (s2=cutP (cntC (kids.take (r+1)))):=Lib.hid (by
     rw [HPL.out.2]
     exact cut_min HST.out hq1 hs2)
    clear hs2
    have HQ1:=Lib.hid hq1
    clear hq1 hm5 hg5 HLN HCY e0 e1 e2 e3 e4
    by_cases hq0:0 < q
    ·have hqi : (0 : Int) < (q : Int) := by omega
     have HPN:Hid (plF (kids.take (r+1)) 0=pl++[r]):=Lib.hid (by rw [HPL.out.1,if_pos ((cutP_pos HQ1.out).1 hq0)])
     obtain ⟨⟨x0,x1⟩,f0,f1⟩:=cells2 hc5.b3
     have hal5:=(Below.refl w5.heap.size w5).alloc (Nat.le_refl _) (.cells #[.int .i64 (r:Nat)] 3)
     have hc6:=hc5.step hal5
     have hok:(⟨3,1,.slice p pl.length cp,pl.length,pl.map (fun i=>Value.int .i64 (i:Nat))⟩:Rw).ok (w5.alloc (.cells #[.int .i64 (r:Nat)] 3)):=hc6.row
     have hnew:=heap_alloc_new w5 (.cells #[.int .i64 (r:Nat)] 3)
     have HC6:=Lib.hid hc6
     clear hc5 hc6 hal5
     go_upto_region 12 with (at_builtin;refine wpList_fam rfl _ _ 27 rfl ⟨3,1,.slice p pl.length cp,pl.length,pl.map (fun i=>Value.int .i64 (i:Nat))⟩ Tryz.underlying27 infoI8 rfl Nat.zero_lt_one (by decide) hok rfl w5.heap.size rfl [.int .i64 (r:Nat)] hnew rfl (by simp [Value.oneCell']) hpl8 ?_;intro g2 cap2 w6 k1 k2 k3;have HCA:=Lib.hid (HC6.out.app HML.out HZ.out k1 k2 k3);obtain ⟨_,y0,y1⟩:=cells2 (HC6.out.mid k2);clear k1 k2 k3)
     obtain ⟨X6,hX6⟩:∃ X6,X6=w6.setCell ⟨W.heap.size+3,1,none⟩ (.slice (some ⟨g2,0,none⟩) (pl.length+1) cap2):=⟨_,rfl⟩
     rw [← hX6] at HCA ⊢
     clear hX6 x0 x1 f0 f1 y0 y1 hok hnew HC6
     have HCB:=Lib.hid (HCA.out.cnt HML.out s2)
     rw [← HPN.out] at HCB
     obtain ⟨⟨x0,x1⟩,f0,f1⟩:=cells2 HCA.out.b3
     go_wp2
     go_roundg gk
     case measure=>omega
     case rel=>exact ⟨r+1,_,_,by omega,by first | rw [hwr] | rfl | simp,hs28,Lib.hid ⟨HNX.out,HCB.out⟩⟩
    ·have hqi : ¬ (0 : Int) < (q : Int) := by omega
     have HPN:Hid (plF (kids.take (r+1)) 0=pl):=Lib.hid (by rw [HPL.out.1,if_neg (fun h=>hq0 ((cutP_pos HQ1.out).2 h)),List.append_nil])
     have HCB:=Lib.hid (hc5.cnt HML.out s2)
     rw [← HPN.out] at HCB
     obtain ⟨⟨x0,x1⟩,f0,f1⟩:=cells2 hc5.b3
     clear hc5
     go_wp2
     go_roundg gk
     case measure=>omega
     case rel=>exact ⟨r+1,_,_,by omega,by first | rw [hwr] | rfl | simp,hs28,Lib.hid ⟨HNX.out,HCB.out⟩⟩
end Go.Proofs.YtioahgklplbinaaGreatDoor

/- How many states a node, or nodes by themselves, are laid in: the program's count. -/
namespace Go.Proofs.YtioahgklplbinaaGreatDoor
open Go.RowKit Go.Shelf Go.Maps SetM PropsM RxM WrM NfaM
theorem need_runs (a b:Value):∀ w,(Instr.field 96 (.agg #[a,b]) 0).run Tryz.prog w=.ok a w:=by
 intro w
 simp [Instr.field,run_underlying Tryz.underlying96,go_sem,asAgg]
theorem need_parts (a b:Value):∀ w,(Instr.field 96 (.agg #[a,b]) 1).run Tryz.prog w=.ok b w:=by
 intro w
 simp [Instr.field,run_underlying Tryz.underlying96,go_sem,asAgg]
structure OfA (W0 W : World) (M g : Nat) (Z : Nat → Prop) (kids : List Ns) : Prop where
 ih:∀ u∈kids,LnC u
 shp:∀ u∈kids,Shp u
 ne:kids≠[]
 l8:kids.length≤1000000
 al:Alive W0 g
 row:RowR W0 g kids
 w:Below W0.heap.size W0 W
 m:W0.heap.size≤M
 z:∀ k,Z k→k < W.heap.size
 zm:Z M
 mo:PMo W0 W Z M
theorem OfA.c {W0 W:World} {M g kn:Nat} {Z:Nat→Prop} {kids:List Ns} (h:OfA W0 W M g Z kids) (hkn:kn=kids.length) (pc:Nat):Calls Tryz.prog 50 #[.map (some M),.slice (some ⟨g,0,none⟩) kn pc] W (OfP W0 W M Z kids) :=
 of_k kids h.ih h.shp W0 W M g kn pc Z h.ne hkn (by rw [hkn];exact h.l8) h.al h.row h.w h.m h.z h.zm h.mo
set_option maxRecDepth 100000 in
set_option maxHeartbeats 4000000 in
theorem forked_c {W0 W : World} {M g kn pc : Nat} {Z : Nat → Prop} {kids : List Ns} (h : OfA W0 W M g Z kids) (hkn : kn = kids.length) :
  Calls Tryz.prog 24 #[.map (some M),.slice (some ⟨g,0,none⟩) kn pc] W fun e W'=>e=.returned (.int .i64 (kn+cutP (cntC kids):Nat))∧PMo W0 W' Z M∧Gr M W W':=by
 have HOF:=Lib.hid (h.c hkn pc)
 have h8:kn≤1000000:=by rw [hkn];exact h.l8
 obtain ⟨q,hq⟩:∃ q,q=cutP (cntC kids):=⟨_,rfl⟩
 have hq8:q≤2001:=by rw [hq];exact cutP_le _
 unfold OfP at HOF
 rw [← hq] at HOF ⊢
 have hf:=need_runs
 clear h hkn hq
 go_enter Tryz.func24,Tryz.ntmps24
 go_wp2_with fail
 refine HOF.out.mono ?_
 rintro e w1 ⟨P,c,rfl,_,hm,hg⟩
 have HE:=Lib.hid (And.intro hm hg)
 have hws:wrap64 ((kn:Int)+(q:Int))=((kn+q:Nat):Int):=by rw [IntWalk.wrap64_in _ (by omega)];omega
 generalize (plF kids 0).length=ln at *
 clear hm hg HOF
 go_wp2
 go_ret
 exact ⟨by first | rfl | (rw [← hws];rfl) | simp,HE.out⟩
abbrev LnCk (u:Ns):Prop:=LnC u
set_option maxRecDepth 100000 in
set_option maxHeartbeats 4000000 in
theorem ln_0 {sl:List Sp} {kids:List Ns} {mn mx:Int} (ih:∀ x∈kids,LnC x):LnCk (.mk 0 sl kids mn mx):=by
 intro W0 W M Z v hsh hv hW hM hZ hZM hmo
 obtain ⟨hS,hL⟩:=(shp_mk _ _ _ _ _).1 hsh
 obtain ⟨sp,sc,kp,kc,rfl,⟨hl1,hl2⟩,_,_,hk⟩:=hv.read
 obtain ⟨sln,hsln⟩:∃ k,k=List.length sl:=⟨_,rfl⟩
 rw [← hsln]
 obtain ⟨kn,hkn⟩:∃ k,k=List.length kids:=⟨_,rfl⟩
 rw [← hkn]
 rw [← hkn] at hS
 obtain ⟨kz,hkz⟩:∃ z:Int,z=((0:Nat):Int):=⟨_,rfl⟩
 rw [← hkz]
 obtain ⟨V,hV⟩:∃ V,V=W.alloc (.cells #[.int .u8 kz,.slice sp sln sc,.slice kp kn kc,.int .i64 mn,.int .i64 mx] 48):=⟨_,rfl⟩
 have hb0:Below W.heap.size W V:=by rw [hV];exact (Below.refl _ _).alloc (Nat.le_refl _) _
 have hx:V.heap[W.heap.size]? = some (.cells #[.int .u8 kz,.slice sp sln sc,.slice kp kn kc,.int .i64 mn,.int .i64 mx] 48 (0,0)):=by rw [hV];exact heap_alloc_new W _
 obtain ⟨e0,e1,e2,e3,e4⟩:=cells5 hx
 have HE:=Lib.hid (And.intro (hmo.step hb0) (Gr.of (R:=M) hb0))
 have HKN:=Lib.hid hkn
 obtain rfl:kz=0:=by rw [hkz];rfl
 clear hv hk hb0 hx hsln hkn hkz hl1 hl2 hS hL hsh hW hM hZ hZM hmo ih
 go_enter Tryz.func77,Tryz.ntmps77
 go_upto_region 1 with fail
 rw [← hV]
 clear hV
 go_wp2
 go_ret
 exact ⟨0,rfl,by rw [cntS];rfl,by decide,HE.out⟩
set_option maxRecDepth 100000 in
set_option maxHeartbeats 4000000 in
theorem ln_1 {sl:List Sp} {kids:List Ns} {mn mx:Int} (ih:∀ x∈kids,LnC x):LnCk (.mk 1 sl kids mn mx):=by
 intro W0 W M Z v hsh hv hW hM hZ hZM hmo
 obtain ⟨hS,hL⟩:=(shp_mk _ _ _ _ _).1 hsh
 obtain ⟨sp,sc,kp,kc,rfl,⟨hl1,hl2⟩,_,_,hk⟩:=hv.read
 obtain ⟨sln,hsln⟩:∃ k,k=List.length sl:=⟨_,rfl⟩
 rw [← hsln]
 obtain ⟨kn,hkn⟩:∃ k,k=List.length kids:=⟨_,rfl⟩
 rw [← hkn]
 rw [← hkn] at hS
 obtain ⟨kz,hkz⟩:∃ z:Int,z=((1:Nat):Int):=⟨_,rfl⟩
 rw [← hkz]
 obtain ⟨V,hV⟩:∃ V,V=W.alloc (.cells #[.int .u8 kz,.slice sp sln sc,.slice kp kn kc,.int .i64 mn,.int .i64 mx] 48):=⟨_,rfl⟩
 have hb0:Below W.heap.size W V:=by rw [hV];exact (Below.refl _ _).alloc (Nat.le_refl _) _
 have hx:V.heap[W.heap.size]? = some (.cells #[.int .u8 kz,.slice sp sln sc,.slice kp kn kc,.int .i64 mn,.int .i64 mx] 48 (0,0)):=by rw [hV];exact heap_alloc_new W _
 obtain ⟨e0,e1,e2,e3,e4⟩:=cells5 hx
 have HE:=Lib.hid (And.intro (hmo.step hb0) (Gr.of (R:=M) hb0))
 have HKN:=Lib.hid hkn
 obtain rfl:kz=1:=by rw [hkz];rfl
 clear hv hk hb0 hx hsln hkn hkz hl1 hl2 hS hL hsh hW hM hZ hZM hmo ih
 go_enter Tryz.func77,Tryz.ntmps77
 go_upto_region 1 with fail
 rw [← hV]
 clear hV
 go_wp2
 go_ret
 exact ⟨1,rfl,by rw [cntS];rfl,by decide,HE.out⟩
set_option maxRecDepth 100000 in
set_option maxHeartbeats 4000000 in
theorem ln_2 {sl:List Sp} {kids:List Ns} {mn mx:Int} (ih:∀ x∈kids,LnC x):LnCk (.mk 2 sl kids mn mx):=by
 intro W0 W M Z v hsh hv hW hM hZ hZM hmo
 obtain ⟨hS,hL⟩:=(shp_mk _ _ _ _ _).1 hsh
 obtain ⟨sp,sc,kp,kc,rfl,⟨hl1,hl2⟩,_,_,hk⟩:=hv.read
 obtain ⟨sln,hsln⟩:∃ k,k=List.length sl:=⟨_,rfl⟩
 rw [← hsln]
 obtain ⟨kn,hkn⟩:∃ k,k=List.length kids:=⟨_,rfl⟩
 rw [← hkn]
 rw [← hkn] at hS
 obtain ⟨kz,hkz⟩:∃ z:Int,z=((2:Nat):Int):=⟨_,rfl⟩
 rw [← hkz]
 obtain ⟨V,hV⟩:∃ V,V=W.alloc (.cells #[.int .u8 kz,.slice sp sln sc,.slice kp kn kc,.int .i64 mn,.int .i64 mx] 48):=⟨_,rfl⟩
 have hb0:Below W.heap.size W V:=by rw [hV];exact (Below.refl _ _).alloc (Nat.le_refl _) _
 have hx:V.heap[W.heap.size]? = some (.cells #[.int .u8 kz,.slice sp sln sc,.slice kp kn kc,.int .i64 mn,.int .i64 mx] 48 (0,0)):=by rw [hV];exact heap_alloc_new W _
 obtain ⟨e0,e1,e2,e3,e4⟩:=cells5 hx
 have HE:=Lib.hid (And.intro (hmo.step hb0) (Gr.of (R:=M) hb0))
 have HKN:=Lib.hid hkn
 obtain rfl:kz=2:=by rw [hkz];rfl
 have hkne:kids≠[]:=fun e=>by rw [e] at hkn;unfold Shape at hS;rw [hkn] at hS;simp at hS
 obtain ⟨g,rfl,⟨cs,hcs⟩,hrow⟩:=hk hkne
 have hA:OfA W0 V M g Z kids:=⟨ih,(shpL_iff _).1 hL,hkne,by omega,⟨cs,hcs⟩,hrow,hW.trans (hb0.mono hW.size),hM,fun k hk=>Nat.lt_of_lt_of_le (hZ k hk) hb0.size,hZM,hmo.step hb0⟩
 have hkn8:kn≤1000:=by omega
 have HB0:=Lib.hid hb0
 have HOF:=Lib.hid (hA.c hkn kc)
 obtain ⟨q,hq⟩:∃ q,q=cutP (cntC kids):=⟨_,rfl⟩
 have hq8:q≤2001:=by rw [hq];exact cutP_le _
 have HQ:=Lib.hid hq
 unfold OfP at HOF
 rw [← hq] at HOF
 have hf:=need_runs
 clear hq hS
 clear hv hk hb0 hx hsln hkn hkz hl1 hl2 hL hsh hW hM hZ hZM hmo ih hA hcs hrow hkne
 go_enter Tryz.func77,Tryz.ntmps77
 go_upto_region 1 with fail
 rw [← hV]
 clear hV
 go_wp2_with fail
 refine HOF.out.mono ?_
 rintro e w1 ⟨P,c,rfl,_,hm,hg⟩
 have HE:=Lib.hid (And.intro hm ((Gr.of (R:=M) HB0.out).trans hg))
 generalize (plF kids 0).length=ln at *
 clear hm hg HOF
 go_wp2
 go_ret
 exact ⟨q,rfl,by rw [HQ.out,cutP_idem,cntS];rfl,by omega,HE.out⟩
set_option maxRecDepth 100000 in
set_option maxHeartbeats 4000000 in
theorem ln_3 {sl:List Sp} {kids:List Ns} {mn mx:Int} (ih:∀ x∈kids,LnC x):LnCk (.mk 3 sl kids mn mx):=by
 intro W0 W M Z v hsh hv hW hM hZ hZM hmo
 obtain ⟨hS,hL⟩:=(shp_mk _ _ _ _ _).1 hsh
 obtain ⟨sp,sc,kp,kc,rfl,⟨hl1,hl2⟩,_,_,hk⟩:=hv.read
 obtain ⟨sln,hsln⟩:∃ k,k=List.length sl:=⟨_,rfl⟩
 rw [← hsln]
 obtain ⟨kn,hkn⟩:∃ k,k=List.length kids:=⟨_,rfl⟩
 rw [← hkn]
 rw [← hkn] at hS
 obtain ⟨kz,hkz⟩:∃ z:Int,z=((3:Nat):Int):=⟨_,rfl⟩
 rw [← hkz]
 obtain ⟨V,hV⟩:∃ V,V=W.alloc (.cells #[.int .u8 kz,.slice sp sln sc,.slice kp kn kc,.int .i64 mn,.int .i64 mx] 48):=⟨_,rfl⟩
 have hb0:Below W.heap.size W V:=by rw [hV];exact (Below.refl _ _).alloc (Nat.le_refl _) _
 have hx:V.heap[W.heap.size]? = some (.cells #[.int .u8 kz,.slice sp sln sc,.slice kp kn kc,.int .i64 mn,.int .i64 mx] 48 (0,0)):=by rw [hV];exact heap_alloc_new W _
 obtain ⟨e0,e1,e2,e3,e4⟩:=cells5 hx
 have HE:=Lib.hid (And.intro (hmo.step hb0) (Gr.of (R:=M) hb0))
 have HKN:=Lib.hid hkn
 obtain rfl:kz=3:=by rw [hkz];rfl
 have hkne:kids≠[]:=fun e=>by rw [e] at hkn;unfold Shape at hS;rw [hkn] at hS;simp at hS
 obtain ⟨g,rfl,⟨cs,hcs⟩,hrow⟩:=hk hkne
 have hA:OfA W0 V M g Z kids:=⟨ih,(shpL_iff _).1 hL,hkne,by omega,⟨cs,hcs⟩,hrow,hW.trans (hb0.mono hW.size),hM,fun k hk=>Nat.lt_of_lt_of_le (hZ k hk) hb0.size,hZM,hmo.step hb0⟩
 have hkn8:kn≤1000:=by omega
 have HB0:=Lib.hid hb0
 have HOF:=Lib.hid (forked_c (pc:=kc) hA hkn)
 obtain ⟨q,hq⟩:∃ q,q=cutP (cntC kids):=⟨_,rfl⟩
 have hq8:q≤2001:=by rw [hq];exact cutP_le _
 have HQ:=Lib.hid hq
 rw [← hq] at HOF
 obtain ⟨f,hf⟩:∃ f,f=kn+q:=⟨_,rfl⟩
 rw [← hf] at HOF
 have HF:=Lib.hid hf
 have hf8:f≤3001:=by omega
 clear hq hS hf
 clear hv hk hb0 hx hsln hkn hkz hl1 hl2 hL hsh hW hM hZ hZM hmo ih hA hcs hrow hkne
 go_enter Tryz.func77,Tryz.ntmps77
 go_upto_region 1 with fail
 rw [← hV]
 clear hV
 go_wp2_with fail
 refine HOF.out.mono ?_
 rintro e w1 ⟨rfl,hm,hg⟩
 have HE:=Lib.hid (And.intro hm ((Gr.of (R:=M) HB0.out).trans hg))
 have hws:wrap64 ((f:Int)+1)=((f+1:Nat):Int):=by rw [IntWalk.wrap64_in _ (by omega)];omega
 clear hm hg HOF
 go_wp2
 go_ret
 refine ⟨f+1,by first | rfl | (rw [← hws];rfl) | simp,?_,by omega,HE.out⟩
 have h1:=HQ.out
 have h2:=HF.out
 have h3:=HKN.out
 rw [cntS,if_neg (by decide),if_neg (by decide),if_pos rfl,cntO_C]
 unfold cutP at h1 ⊢
 omega
theorem cut_rep {c t f q:Nat} (hq:q=cutP c) (hf:f=1+q) (ht:t≤21):cutP (t*f+1)=cutP ((c+1)*t+1):=by
 refine cutP_add ?_ rfl
 rw [Nat.mul_comm (c+1) t]
 refine cutP_mul ?_ t ht
 unfold cutP at *
 omega
set_option maxRecDepth 100000 in
set_option maxHeartbeats 4000000 in
theorem ln_4 {sl:List Sp} {kids:List Ns} {mn mx:Int} (ih:∀ x∈kids,LnC x):LnCk (.mk 4 sl kids mn mx):=by
 intro W0 W M Z v hsh hv hW hM hZ hZM hmo
 obtain ⟨hS,hL⟩:=(shp_mk _ _ _ _ _).1 hsh
 obtain ⟨sp,sc,kp,kc,rfl,⟨hl1,hl2⟩,_,_,hk⟩:=hv.read
 obtain ⟨sln,hsln⟩:∃ k,k=List.length sl:=⟨_,rfl⟩
 rw [← hsln]
 obtain ⟨kn,hkn⟩:∃ k,k=List.length kids:=⟨_,rfl⟩
 rw [← hkn]
 rw [← hkn] at hS
 obtain ⟨kz,hkz⟩:∃ z:Int,z=((4:Nat):Int):=⟨_,rfl⟩
 rw [← hkz]
 obtain ⟨V,hV⟩:∃ V,V=W.alloc (.cells #[.int .u8 kz,.slice sp sln sc,.slice kp kn kc,.int .i64 mn,.int .i64 mx] 48):=⟨_,rfl⟩
 have hb0:Below W.heap.size W V:=by rw [hV];exact (Below.refl _ _).alloc (Nat.le_refl _) _
 have hx:V.heap[W.heap.size]? = some (.cells #[.int .u8 kz,.slice sp sln sc,.slice kp kn kc,.int .i64 mn,.int .i64 mx] 48 (0,0)):=by rw [hV];exact heap_alloc_new W _
 obtain ⟨e0,e1,e2,e3,e4⟩:=cells5 hx
 have HE:=Lib.hid (And.intro (hmo.step hb0) (Gr.of (R:=M) hb0))
 have HKN:=Lib.hid hkn
 obtain rfl:kz=4:=by rw [hkz];rfl
 have hkne:kids≠[]:=fun e=>by rw [e] at hkn;unfold Shape at hS;rw [hkn] at hS;simp at hS
 obtain ⟨g,rfl,⟨cs,hcs⟩,hrow⟩:=hk hkne
 have hA:OfA W0 V M g Z kids:=⟨ih,(shpL_iff _).1 hL,hkne,by omega,⟨cs,hcs⟩,hrow,hW.trans (hb0.mono hW.size),hM,fun k hk=>Nat.lt_of_lt_of_le (hZ k hk) hb0.size,hZM,hmo.step hb0⟩
 have hkn8:kn≤1000:=by omega
 have HB0:=Lib.hid hb0
 have hk1:kn=1:=by unfold Shape at hS;omega
 have hmm:(0≤mn∧mn≤20)∧(mx = -1∨(mn≤mx∧mx≤20)):=by unfold Shape at hS;omega
 have HOF:=Lib.hid (forked_c (pc:=kc) hA hkn)
 obtain ⟨q,hq⟩:∃ q,q=cutP (cntC kids):=⟨_,rfl⟩
 have hq8:q≤2001:=by rw [hq];exact cutP_le _
 have HQ:=Lib.hid hq
 rw [← hq] at HOF
 obtain ⟨f,hf⟩:∃ f,f=kn+q:=⟨_,rfl⟩
 rw [← hf] at HOF
 have HF:=Lib.hid (show f=1+q by rw [hf,hk1])
 have hf8:f≤3001:=by omega
 obtain ⟨x,hxk⟩:∃ x,kids=[x]:=List.length_eq_one_iff.1 (by omega)
 have HXK:=Lib.hid hxk
 obtain ⟨t,ht⟩:∃ t:Nat,(t:Int)=if mx < 0 then mn+1 else mx:=⟨(if mx < 0 then mn+1 else mx).toNat,by split <;> omega⟩
 have ht8:t≤21:=by split at ht <;> omega
 have HT:=Lib.hid (times_t hmm.1 hmm.2 ht)
 have HTM:Hid (cutP (t*f+1)=cutP (cntS (.mk 4 sl kids mn mx))∧t*f+1≤100000):=Lib.hid ⟨by
  rw [HXK.out,cntS,if_neg (by decide),if_neg (by decide),if_neg (by decide),if_pos rfl,cntR]
  unfold timesN
  rw [HT.out]
  refine cut_rep (c:=cntS x) ?_ HF.out ht8
  rw [HQ.out,HXK.out,cntC,cntC]
  rfl,by have:=Nat.mul_le_mul ht8 hf8;omega⟩
 have hws:wrap64 ((t:Int)*(f:Int))=((t*f:Nat):Int):=by
  rw [IntWalk.wrap64_in _ (by have:=Nat.mul_le_mul ht8 hf8;rw [← Int.natCast_mul];omega),Int.natCast_mul]
 have hws2:wrap64 (((t*f:Nat):Int)+1)=((t*f+1:Nat):Int):=by rw [IntWalk.wrap64_in _ (by have:=HTM.out.2;omega)];omega
 clear hq hS hf hxk HT hk1
 by_cases h1:mx = -1
 ·subst h1
  have hmn1:wrap64 (mn+1)=(t:Int):=by rw [IntWalk.wrap64_in _ (by omega)];rw [if_pos (by decide)] at ht;exact ht.symm
  have HMM:=Lib.hid hmm
  clear ht hmm
  clear hv hk hb0 hx hsln hkn hkz hl1 hl2 hL hsh hW hM hZ hZM hmo ih hA hcs hrow hkne
  go_enter Tryz.func77,Tryz.ntmps77
  go_upto_region 1 with fail
  rw [← hV]
  clear hV
  go_wp2_with fail
  refine HOF.out.mono ?_
  rintro e w1 ⟨rfl,hm,hg⟩
  have HE:=Lib.hid (And.intro hm ((Gr.of (R:=M) HB0.out).trans hg))
  clear hm hg HOF
  go_wp2
  go_ret
  exact ⟨t*f+1,by first | rfl | (rw [← hws2];rfl) | simp,HTM.out.1,HTM.out.2,HE.out⟩
 ·have h1' : (mx == -1) = false := by rw [beq_eq_false_iff_ne]; exact h1
  obtain rfl:mx=(t:Int):=by rw [if_neg (by omega)] at ht;exact ht.symm
  have HMM:=Lib.hid hmm
  clear ht hmm
  clear hv hk hb0 hx hsln hkn hkz hl1 hl2 hL hsh hW hM hZ hZM hmo ih hA hcs hrow hkne
  go_enter Tryz.func77,Tryz.ntmps77
  go_upto_region 1 with fail
  rw [← hV]
  clear hV
  go_wp2_with fail
  refine HOF.out.mono ?_
  rintro e w1 ⟨rfl,hm,hg⟩
  have HE:=Lib.hid (And.intro hm ((Gr.of (R:=M) HB0.out).trans hg))
  clear hm hg HOF
  go_wp2
  go_ret
  exact ⟨t*f+1,by first | rfl | (rw [← hws2];rfl) | simp,HTM.out.1,HTM.out.2,HE.out⟩
theorem ln_all : ∀ (u : Ns), LnC u
 | .mk k sl kids mn mx=>by
  have ih:∀ x∈kids,LnC x:=fun x _hx=>ln_all x
  intro W0 W M Z v hsh
  have hS:=((shp_mk _ _ _ _ _).1 hsh).1
  rcases hS with ⟨rfl,_⟩ | ⟨rfl,_⟩ | ⟨rfl | rfl,_⟩ | ⟨rfl,_⟩
  ·exact ln_0 ih W0 W M Z v hsh
  ·exact ln_1 ih W0 W M Z v hsh
  ·exact ln_2 ih W0 W M Z v hsh
  ·exact ln_3 ih W0 W M Z v hsh
  ·exact ln_4 ih W0 W M Z v hsh
termination_by u=>SizeOf.sizeOf u
decreasing_by
 have:=List.sizeOf_lt_of_mem (show x∈kids from _hx)
 simp only [Ns.mk.sizeOf_spec]
 omega
end Go.Proofs.YtioahgklplbinaaGreatDoor

/- The program's builder in a box: its machine, its map; what its calls leave as it was. A new state. -/
namespace Go.Proofs.YtioahgklplbinaaGreatDoor
open Go.RowKit Go.Shelf Go.Maps SetM PropsM RxM WrM NfaM
abbrev bxO (a b c:Value) (M:Nat):Obj:= .cells #[a,b,c,.map (some M)] 67
def Unf (X:World) (k:Nat):Prop:=∃ cs t,X.heap[k]? = some (.cells cs t (0,0))
theorem Unf.of {X X':World} {k:Nat} (h:Unf X k) (e:X'.heap[k]? = X.heap[k]?):Unf X' k:=let ⟨cs,t,h1⟩:=h;⟨cs,t,e.trans h1⟩
structure PB (Y : Nat → Prop) (W0 X : World) (O : Nat → Prop) (b M : Nat) (m : Mc) : Prop where
 mv:∃ R B,MVx X B R m∧X.heap[b]? = some (bxO (R 0).v (R 1).v (R 2).v M)∧(∀ k,Has (3+2*m.tg.length) R k→O k)∧(∀ k,B k→O k∧Unf X k)
 mo:PMo W0 X (fun k=>O k∨Y k∨k=b∨k=M) M
 o:∀ k,O k→W0.heap.size≤k∧k < X.heap.size∧k≠b∧k≠M
 y:∀ k,Y k→k < X.heap.size
 b0:W0.heap.size≤b∧b < X.heap.size∧b≠M
 m0:W0.heap.size≤M∧M < X.heap.size
 w:Below W0.heap.size W0 X
structure PW (Y : Nat → Prop) (W0 : World) (b M : Nat) (V : World) (O L : Nat → Prop) (X : World) (m : Mc) : Prop where
 st:∃ OX,PB Y W0 X OX b M m∧∀ k,OX k→O k∨V.heap.size≤k
 os:X.os=V.os
 tape:X.tape=V.tape
 output:X.output=V.output
 size:V.heap.size≤X.heap.size
 old:∀ k,k < V.heap.size→¬ O k→¬ L k→k≠b→k≠M→X.heap[k]? = V.heap[k]?
def noL (_:Nat):Prop:=False
theorem PB.step {W0 X X':World} {Y O:Nat→Prop} {b M:Nat} {m:Mc} (h:PB Y W0 X O b M m) (hb:Below X.heap.size X X'):PB Y W0 X' O b M m:=by
 obtain ⟨R,B,h1,h2,h3,h4⟩:=h.mv
 refine ⟨⟨R,B,h1.kept hb.size (fun k hk=>hb.block k (hk.elim (fun h=>h1.fam.lt h) (fun h=>h1.bl k h))),(hb.block b h.b0.2.1).trans h2,h3,fun k hk=>⟨(h4 k hk).1,(h4 k hk).2.of (hb.block k (h1.bl k hk))⟩⟩,h.mo.step hb,fun k hk=>?_,fun k hk=>Nat.lt_of_lt_of_le (h.y k hk) hb.size,⟨h.b0.1,Nat.lt_of_lt_of_le h.b0.2.1 hb.size,h.b0.2.2⟩,⟨h.m0.1,Nat.lt_of_lt_of_le h.m0.2 hb.size⟩,h.w.trans (hb.mono h.w.size)⟩
 have:=h.o k hk
 have:=hb.size
 omega
theorem PB.pw {W0 X:World} {Y O L:Nat→Prop} {b M:Nat} {m:Mc} (h:PB Y W0 X O b M m):PW Y W0 b M X O L X m :=
 ⟨⟨O,h,fun _ hk=>.inl hk⟩,rfl,rfl,rfl,Nat.le_refl _,fun _ _ _ _ _ _=>rfl⟩
theorem PW.step {W0 V X X':World} {Y O L:Nat→Prop} {b M:Nat} {m:Mc} (h:PW Y W0 b M V O L X m) (hb:Below X.heap.size X X'):PW Y W0 b M V O L X' m:=by
 obtain ⟨OX,h1,h2⟩:=h.st
 exact ⟨⟨OX,h1.step hb,h2⟩,hb.os.trans h.os,hb.tape.trans h.tape,hb.output.trans h.output,Nat.le_trans h.size hb.size,fun k hk hO hL h3 h4=>(hb.block k (Nat.lt_of_lt_of_le hk h.size)).trans (h.old k hk hO hL h3 h4)⟩
def Kb (V:World) (O:Nat→Prop) (b M:Nat) (X X':World):Prop:=∀ k,k < V.heap.size→¬ O k→k≠b→k≠M→X'.heap[k]? = X.heap[k]?
theorem PW.use {W0 V X : World} {Y O L : Nat → Prop} {b M : Nat} {m m' : Mc} {f : FuncId} {args : Array Value} {ret : Ending} (h : PW Y W0 b M V O L X m)
  (hc:∀ OX,PB Y W0 X OX b M m→Calls Tryz.prog f args X fun e X'=>e=ret∧PW Y W0 b M X OX noL X' m') :
  Calls Tryz.prog f args X fun e X'=>e=ret∧PW Y W0 b M V O L X' m'∧Kb V O b M X X':=by
 obtain ⟨OX,h1,h2⟩:=h.st
 have hs:=h.size
 refine (hc OX h1).mono fun e X' ⟨he,hk⟩=>⟨he,?_,fun k hk1 hO hb hM=>hk.old k (by omega) (fun hh=>(h2 k hh).elim hO (fun h=>by omega)) (fun h=>h) hb hM⟩
 obtain ⟨O',h3,h4⟩:=hk.st
 have hz:=hk.size
 refine ⟨⟨O',h3,fun k hk5=>?_⟩,hk.os.trans h.os,hk.tape.trans h.tape,hk.output.trans h.output,by omega,fun k hk1 hO hL hb hM=>(hk.old k (by omega) (fun hh=>(h2 k hh).elim hO (fun h=>by omega)) (fun h=>h) hb hM).trans (h.old k hk1 hO hL hb hM)⟩
 rcases h4 k hk5 with h | h
 ·exact h2 k h
 ·right;omega
theorem PW.fin {W0 W V X:World} {Y O L:Nat→Prop} {b M:Nat} {m:Mc} (h:PW Y W0 b M V O L X m) (hb:Below W.heap.size W V) (hL:∀ k,L k→W.heap.size≤k):PW Y W0 b M W O noL X m:=by
 obtain ⟨OX,h1,h2⟩:=h.st
 have hs:=hb.size
 refine ⟨⟨OX,h1,fun k hk=>?_⟩,h.os.trans hb.os,h.tape.trans hb.tape,h.output.trans hb.output,Nat.le_trans hs h.size,fun k hk hO _ h3 h4=>(h.old k (by omega) hO (fun hl=>by have:=hL k hl;omega) h3 h4).trans (hb.block k hk)⟩
 rcases h2 k hk with h | h
 ·exact .inl h
 ·right;omega
theorem PW.box {W0 V X : World} {Y O L : Nat → Prop} {b M : Nat} {m : Mc} (h : PW Y W0 b M V O L X m) {a : Nat} (hL : L a) (ha : a < V.heap.size) (hO : ¬ O a) (hab : a ≠ b) (haM : a ≠ M) (h0 : W0.heap.size ≤ a) (hnp : True) {X' : World} (ho : X'.os = X.os) (ht : X'.tape = X.tape) (hp : X'.output = X.output) (hz : X'.heap.size = X.heap.size) (hk : ∀ k, k ≠ a → X'.heap[k]? = X.heap[k]?)
  (hmo:∀ OX,PB Y W0 X OX b M m→PMo W0 X' (fun k=>OX k∨Y k∨k=b∨k=M) M):PW Y W0 b M V O L X' m:=by
 obtain ⟨OX,h1,h2⟩:=h.st
 obtain ⟨R,B,m1,m2,m3,m4⟩:=h1.mv
 have hna:¬ OX a:=fun hh=>(h2 a hh).elim hO (fun h=>by omega)
 refine ⟨⟨OX,⟨⟨R,B,m1.kept (by omega) (fun k hk1=>hk k (fun e=>hna (e ▸ hk1.elim (m3 k) (fun h=>(m4 k h).1)))),(hk b (Ne.symm hab)).trans m2,m3,fun k hk1=>⟨(m4 k hk1).1,(m4 k hk1).2.of (hk k (fun e=>hna (e ▸ (m4 k hk1).1)))⟩⟩,hmo OX h1,by rw [hz];exact h1.o,by rw [hz];exact h1.y,by rw [hz];exact h1.b0,by rw [hz];exact h1.m0,⟨ho.trans h1.w.os,ht.trans h1.w.tape,hp.trans h1.w.output,by rw [hz];exact h1.w.size,fun k hk1=>(hk k (by omega)).trans (h1.w.block k hk1)⟩⟩,h2⟩,ho.trans h.os,ht.trans h.tape,hp.trans h.output,by rw [hz];exact h.size,fun k hk1 hO1 hL1 h3 h4=>(hk k (fun e=>hL1 (e ▸ hL))).trans (h.old k hk1 hO1 hL1 h3 h4)⟩
theorem PB.upd {W0 W X : World} {Y O : Nat → Prop} {b M : Nat} {m m' : Mc} (h : PB Y W0 W O b M m) (ho : X.os = W.os) (ht : X.tape = W.tape) (hp : X.output = W.output) (hs : W.heap.size ≤ X.heap.size) (hk : ∀ k, k < W.heap.size → ¬ O k → k ≠ b → X.heap[k]? = W.heap[k]?)
  (mv:∃ R B,MVx X B R m'∧X.heap[b]? = some (bxO (R 0).v (R 1).v (R 2).v M)∧(∀ k,Has (3+2*m'.tg.length) R k→O k∨W.heap.size≤k)∧(∀ k,B k→(O k∨W.heap.size≤k)∧Unf X k)):PW Y W0 b M W O noL X m':=by
 obtain ⟨R,B,m1,m2,m3,m4⟩:=mv
 have hb:=h.b0
 have hm:=h.m0
 have hw:=h.w.size
 have hnM:¬ O M:=fun hh=>(h.o M hh).2.2.2 rfl
 refine ⟨⟨fun k=>(O k∨W.heap.size≤k)∧k < X.heap.size,⟨⟨R,B,m1,m2,fun k hk=>⟨m3 k hk,m1.fam.lt hk⟩,fun k hk=>⟨⟨(m4 k hk).1,m1.bl k hk⟩,(m4 k hk).2⟩⟩,?_,fun k hk=>?_,fun k hk=>Nat.lt_of_lt_of_le (h.y k hk) hs,⟨hb.1,by omega,hb.2.2⟩,⟨hm.1,by omega⟩,⟨ho.trans h.w.os,ht.trans h.w.tape,hp.trans h.w.output,by omega,fun k hk1=>?_⟩⟩,fun k hk=>hk.1⟩,ho,ht,hp,hs,fun k hk1 hO _ h3 _=>hk k hk1 hO h3⟩
 ·refine h.mo.kept (hk M hm.2 hnM (Ne.symm hb.2.2)) hs (fun k hk1 hn => ⟨fun h2 => ?_, hk k hk1 (fun h => hn (.inl h)) (fun h => hn (.inr (.inr (.inl h))))⟩)
  rcases h2 with ⟨h2 | h2,_⟩ | h2
  ·exact hn (.inl h2)
  ·omega
  ·exact hn (.inr h2)
 ·rcases hk with ⟨h1 | h1, h2⟩
  ·have := h.o k h1
   omega
  ·omega
 ·rw [hk k (by omega) (fun hh => by have := h.o k hh; omega) (by omega)]
  exact h.w.block k hk1
structure StB (W : World) (b M n : Nat) (R : Nat → Rw) (V : World) (Rk : Nat → Rw) (x y z : Value) : Prop where
 fam:Fam V n Rk
 box:V.heap[b]? = some (bxO x y z M)
 os:V.os=W.os
 tape:V.tape=W.tape
 output:V.output=W.output
 size:W.heap.size≤V.heap.size
 old:∀ k,k < W.heap.size→k≠b→¬ Has n R k→V.heap[k]? = W.heap[k]?
 has:∀ k,Has n Rk k→Has n R k∨W.heap.size≤k
 nb:¬ Has n R b∧b < W.heap.size
theorem StB.start {W:World} {b M n:Nat} {R:Nat→Rw} (h:Fam W n R) {x y z:Value} (hb:W.heap[b]? = some (bxO x y z M)) (hn:¬ Has n R b):StB W b M n R W R x y z :=
 ⟨h,hb,rfl,rfl,rfl,Nat.le_refl _,fun _ _ _ _=>rfl,fun _ h=>.inl h,⟨hn,(Array.getElem?_eq_some_iff.1 hb).1⟩⟩
theorem StB.far {W V:World} {b M n:Nat} {R Rk:Nat→Rw} {x y z:Value} (h:StB W b M n R V Rk x y z):¬ Has n Rk b:=fun hh=>by
 rcases h.has b hh with hh | hh
 ·exact h.nb.1 hh
 ·have:=h.nb.2;omega
theorem StB.step {W V V':World} {b M n:Nat} {R Rk:Nat→Rw} {x y z:Value} (h:StB W b M n R V Rk x y z) (hb:Below V.heap.size V V'):StB W b M n R V' Rk x y z:=by
 have hs:=h.size
 have hn:=h.nb.2
 exact ⟨h.fam.kept (fun k hk=>hb.block k (h.fam.lt hk)),(hb.block b (by omega)).trans h.box,hb.os.trans h.os,hb.tape.trans h.tape,hb.output.trans h.output,Nat.le_trans hs hb.size,fun k hk h1 h2=>(hb.block k (by omega)).trans (h.old k hk h1 h2),h.has,h.nb⟩
theorem StB.app {W V w1 : World} {b M n : Nat} {R Rk : Nat → Rw} {x y z : Value} (h : StB W b M n R V Rk x y z) {i : Nat} (hi : i < n) {r : Rw} {g : Nat} (hg : V.grownBy w1 (Rk i).v.ownBlock) (hr : r.ok w1) (hv : r.v.ownBlock = some g) (hat : (Rk i).v.ownBlock = some g ∨ g = V.heap.size) :
  StB W b M n R w1 (upd Rk i r) x y z:=by
 obtain ⟨f1,f2⟩:=h.fam.grow hi hg hr hv hat
 have hs:=h.size
 have hz:=hg.size
 have hn:=h.nb.2
 have hne:∀ k,¬ Has n Rk k→some k≠(Rk i).v.ownBlock:=fun k hk e=>hk ⟨i,hi,e.symm⟩
 refine ⟨f1,?_,hg.os.trans h.os,hg.tape.trans h.tape,hg.output.trans h.output,by omega,fun k hk h1 h2=>?_,fun k hk=>?_,h.nb⟩
 ·rw [hg.block _ (by omega) (hne _ h.far)];exact h.box
 ·rw [hg.block _ (by omega) (hne _ (fun hh=>by rcases h.has k hh with hh | hh;exact h2 hh;omega))];exact h.old k hk h1 h2
 ·rcases f2 k hk with hk | hk
  ·exact h.has k hk
  ·right;omega
theorem StB.store {W V:World} {b M n:Nat} {R Rk:Nat→Rw} {x y z x' y' z':Value} (h:StB W b M n R V Rk x y z) (j:Nat) (u:Value) (he:(#[x,y,z,.map (some M)]:Array Value).set! j u = #[x',y',z',.map (some M)]):StB W b M n R (V.setCell ⟨b,j,none⟩ u) Rk x' y' z':=by
 have ho:∀ k,k≠b→(V.setCell ⟨b,j,none⟩ u).heap[k]? = V.heap[k]?:=fun k hk=>heap_setCell_other V ⟨b,j,none⟩ k u hk
 refine ⟨h.fam.kept (fun k hk=>ho k (fun e=>h.far (e ▸ hk))),?_,h.os,h.tape,h.output,by rw [World.size_setCell];exact h.size,fun k hk h1 h2=>(ho k h1).trans (h.old k hk h1 h2),h.has,h.nb⟩
 have:=heap_setC V b _ _ h.box j u
 rw [he] at this
 exact this
theorem cells4 {W:World} {b:Nat} {x y z u:Value} {t:TypeId} (h:W.heap[b]? = some (.cells #[x,y,z,u] t (0,0))):(W.cell? ⟨b,0,none⟩=some x∧W.cell? ⟨b,1,none⟩=some y∧W.cell? ⟨b,2,none⟩=some z∧W.cell? ⟨b,3,none⟩=some u)∧W.frozen? ⟨b,0,none⟩=false∧W.frozen? ⟨b,1,none⟩=false∧W.frozen? ⟨b,2,none⟩=false∧W.frozen? ⟨b,3,none⟩=false :=
 ⟨⟨cell_of_row W _ 0 _ _ _ h,cell_of_row W _ 1 _ _ _ h,cell_of_row W _ 2 _ _ _ h,cell_of_row W _ 3 _ _ _ h⟩,frozen_of_row W _ 0 _ _ h,frozen_of_row W _ 1 _ _ h,frozen_of_row W _ 2 _ _ h,frozen_of_row W _ 3 _ _ h⟩
end Go.Proofs.YtioahgklplbinaaGreatDoor

/- The program's builder of machines: a new state. -/
namespace Go.Proofs.YtioahgklplbinaaGreatDoor
open Go.RowKit Go.Shelf Go.Maps SetM PropsM RxM WrM NfaM
set_option maxRecDepth 100000 in
set_option maxHeartbeats 8000000 in
theorem state_b {W0 W : World} {Y O : Nat → Prop} {b M : Nat} {m : Mc} (h : PB Y W0 W O b M m) (h8 : m.len ≤ 1000000) :
  Calls Tryz.prog 25 #[.pointer (some ⟨b,0,none⟩)] W fun e W'=>e=.returned (.int .i64 m.len)∧PW Y W0 b M W O noL W' (stF m):=by
 obtain ⟨R,B,hR,hbox,hO,hBO⟩:=h.mv
 obtain ⟨n,hn⟩:∃ n,n=m.tg.length:=⟨_,rfl⟩
 have hnl:m.len=n:=by rw [hn];rfl
 rw [hnl]
 have hfam:=hR.fam
 have q0:=rw_eta hR.r0
 have q1:=rw_eta hR.r1
 have q2:=rw_eta hR.r2
 rw [← hn] at hfam q0 q1 q2
 rw [hnl] at h8
 obtain ⟨v0,hv0⟩:∃ v,v=(R 0).v:=⟨_,rfl⟩
 rw [← hv0] at q0 hbox
 obtain ⟨x0,hx0⟩:∃ x,x=(R 0).xs:=⟨_,rfl⟩
 rw [← hx0] at q0
 obtain ⟨v1,hv1⟩:∃ v,v=(R 1).v:=⟨_,rfl⟩
 rw [← hv1] at q1 hbox
 obtain ⟨x1,hx1⟩:∃ x,x=(R 1).xs:=⟨_,rfl⟩
 rw [← hx1] at q1
 obtain ⟨v2,hv2⟩:∃ v,v=(R 2).v:=⟨_,rfl⟩
 rw [← hv2] at q2 hbox
 obtain ⟨x2,hx2⟩:∃ x,x=(R 2).xs:=⟨_,rfl⟩
 rw [← hx2] at q2
 have HH:=Lib.hid h
 have HN:=Lib.hid hn
 have HR:=Lib.hid hR
 have HO:=Lib.hid (And.intro hO hBO)
 have HF:=Lib.hid hfam
 have T0:StB W b M (3+2*n) R W R v0 v1 v2:=StB.start hfam hbox (fun hh=>(h.o b (hO b (by rw [← hn];exact hh))).2.2.1 rfl)
 have HT0:=Lib.hid T0
 have HQ0:=Lib.hid q0
 have HQ1:=Lib.hid q1
 have HQ2:=Lib.hid q2
 obtain ⟨⟨c0,c1,c2,c3⟩,f0,f1,f2,f3⟩:=cells4 T0.box
 clear h hn hR hO hBO hfam hbox q0 q1 q2 hnl hv0 hv1 hv2 hx0 hx1 hx2
 have P0:Hid (∀ i,R i=R i):=Lib.hid (fun _=>rfl)
 go_enter Tryz.func25,Tryz.ntmps25
 have hal0:=(Below.refl W.heap.size W).alloc (Nat.le_refl _) (.cells #[.slice none 0 0] 40)
 have hok0:(⟨40,1,v0,n,x0⟩:Rw).ok (W.alloc (.cells #[.slice none 0 0] 40)):=by rw [← HQ0.out];exact (HT0.out.step hal0).fam.own 0 (by omega)
 have hnew0:=heap_alloc_new W (.cells #[.slice none 0 0] 40)
 have HAL0:=Lib.hid hal0
 clear hal0
 go_upto_region 2 with (at_builtin;refine wpList_fam rfl _ _ 25 rfl ⟨40,1,v0,n,x0⟩ Tryz.underlying25 infoEs rfl Nat.zero_lt_one (by decide) hok0 rfl W.heap.size rfl [.slice none 0 0] hnew0 rfl (by simp [Value.oneCell']) h8 ?_;intro g0 p0 w0 k1 k2 k3;have S1:=(HT0.out.step HAL0.out).app (i:=0) (by omega) (g:=g0) (by rw [HQ0.out];exact k2) k1 rfl (by rw [HQ0.out];exact k3);obtain ⟨⟨d0,d1,d2,d3⟩,e0,e1,e2,e3⟩:=cells4 S1.box)
 obtain ⟨R1,hR1⟩:∃ R',R'=upd R 0 ((⟨40,1,v0,n,x0⟩:Rw).more g0 p0 [.slice none 0 0]):=⟨_,rfl⟩
 rw [← hR1] at S1
 have T1:StB W b M (3+2*n) R (w0.setCell ⟨b,0,none⟩ (.slice (some ⟨g0,0,none⟩) (n+1) p0)) R1 (.slice (some ⟨g0,0,none⟩) (n+1) p0) v1 v2:=S1.store 0 _ rfl
 have D10:Hid (R1 0=(⟨40,1,v0,n,x0⟩:Rw).more g0 p0 [.slice none 0 0]):=Lib.hid (by rw [hR1,upd_same])
 have A1:Hid (∀ i,0 < i→R1 i=R i):=Lib.hid (fun i hi=>by rw [hR1,upd_other _ _ (by omega)])
 obtain ⟨V1,hV1⟩:∃ V,V=w0.setCell ⟨b,0,none⟩ (.slice (some ⟨g0,0,none⟩) (n+1) p0):=⟨_,rfl⟩
 rw [← hV1] at T1 ⊢
 have HT1:=Lib.hid T1
 clear hV1 hR1 S1 k1 k2 k3 hok0 hnew0 HAL0 c0 c1 c2 c3 f0 f1 f2 f3 d0 d1 d2 d3 e0 e1 e2 e3
 obtain ⟨⟨c0,c1,c2,c3⟩,f0,f1,f2,f3⟩:=cells4 T1.box
 clear T1
 have hal1:=(Below.refl V1.heap.size V1).alloc (Nat.le_refl _) (.cells #[.slice none 0 0] 27)
 have hok1:(⟨27,1,v1,n,x1⟩:Rw).ok (V1.alloc (.cells #[.slice none 0 0] 27)):=by rw [← HQ1.out,← A1.out 1 (by omega)];exact (HT1.out.step hal1).fam.own 1 (by omega)
 have hnew1:=heap_alloc_new V1 (.cells #[.slice none 0 0] 27)
 have HAL1:=Lib.hid hal1
 clear hal1
 go_upto_region 3 with (at_builtin;refine wpList_fam rfl _ _ 26 rfl ⟨27,1,v1,n,x1⟩ Tryz.underlying26 infoIs rfl Nat.zero_lt_one (by decide) hok1 rfl V1.heap.size rfl [.slice none 0 0] hnew1 rfl (by simp [Value.oneCell']) h8 ?_;intro g1 p1 w1 k1 k2 k3;have S1:=(HT1.out.step HAL1.out).app (i:=1) (by omega) (g:=g1) (by rw [A1.out 1 (by omega),HQ1.out];exact k2) k1 rfl (by rw [A1.out 1 (by omega),HQ1.out];exact k3);obtain ⟨⟨d0,d1,d2,d3⟩,e0,e1,e2,e3⟩:=cells4 S1.box)
 obtain ⟨R2,hR2⟩:∃ R',R'=upd R1 1 ((⟨27,1,v1,n,x1⟩:Rw).more g1 p1 [.slice none 0 0]):=⟨_,rfl⟩
 rw [← hR2] at S1
 have T2:StB W b M (3+2*n) R (w1.setCell ⟨b,1,none⟩ (.slice (some ⟨g1,0,none⟩) (n+1) p1)) R2 (.slice (some ⟨g0,0,none⟩) (n+1) p0) (.slice (some ⟨g1,0,none⟩) (n+1) p1) v2:=S1.store 1 _ rfl
 have D20:Hid (R2 0=(⟨40,1,v0,n,x0⟩:Rw).more g0 p0 [.slice none 0 0]):=Lib.hid (by rw [hR2,upd_other _ _ (by omega)];exact D10.out)
 have D21:Hid (R2 1=(⟨27,1,v1,n,x1⟩:Rw).more g1 p1 [.slice none 0 0]):=Lib.hid (by rw [hR2,upd_same])
 have A2:Hid (∀ i,1 < i→R2 i=R i):=Lib.hid (fun i hi=>by rw [hR2,upd_other _ _ (by omega)];exact A1.out i (by omega))
 obtain ⟨V2,hV2⟩:∃ V,V=w1.setCell ⟨b,1,none⟩ (.slice (some ⟨g1,0,none⟩) (n+1) p1):=⟨_,rfl⟩
 rw [← hV2] at T2 ⊢
 have HT2:=Lib.hid T2
 clear hV2 hR2 S1 k1 k2 k3 hok1 hnew1 HAL1 c0 c1 c2 c3 f0 f1 f2 f3 d0 d1 d2 d3 e0 e1 e2 e3
 obtain ⟨⟨c0,c1,c2,c3⟩,f0,f1,f2,f3⟩:=cells4 T2.box
 clear T2
 have hal2:=(Below.refl V2.heap.size V2).alloc (Nat.le_refl _) (.cells #[.int .i64 (-1)] 3)
 have hok2:(⟨3,1,v2,n,x2⟩:Rw).ok (V2.alloc (.cells #[.int .i64 (-1)] 3)):=by rw [← HQ2.out,← A2.out 2 (by omega)];exact (HT2.out.step hal2).fam.own 2 (by omega)
 have hnew2:=heap_alloc_new V2 (.cells #[.int .i64 (-1)] 3)
 have HAL2:=Lib.hid hal2
 clear hal2
 go_upto_region 4 with (at_builtin;refine wpList_fam rfl _ _ 27 rfl ⟨3,1,v2,n,x2⟩ Tryz.underlying27 infoI8 rfl Nat.zero_lt_one (by decide) hok2 rfl V2.heap.size rfl [.int .i64 (-1)] hnew2 rfl (by simp [Value.oneCell']) h8 ?_;intro g2 p2 w2 k1 k2 k3;have S1:=(HT2.out.step HAL2.out).app (i:=2) (by omega) (g:=g2) (by rw [A2.out 2 (by omega),HQ2.out];exact k2) k1 rfl (by rw [A2.out 2 (by omega),HQ2.out];exact k3);obtain ⟨⟨d0,d1,d2,d3⟩,e0,e1,e2,e3⟩:=cells4 S1.box)
 obtain ⟨R3,hR3⟩:∃ R',R'=upd R2 2 ((⟨3,1,v2,n,x2⟩:Rw).more g2 p2 [.int .i64 (-1)]):=⟨_,rfl⟩
 rw [← hR3] at S1
 have T3:StB W b M (3+2*n) R (w2.setCell ⟨b,2,none⟩ (.slice (some ⟨g2,0,none⟩) (n+1) p2)) R3 (.slice (some ⟨g0,0,none⟩) (n+1) p0) (.slice (some ⟨g1,0,none⟩) (n+1) p1) (.slice (some ⟨g2,0,none⟩) (n+1) p2):=S1.store 2 _ rfl
 have D30:Hid (R3 0=(⟨40,1,v0,n,x0⟩:Rw).more g0 p0 [.slice none 0 0]):=Lib.hid (by rw [hR3,upd_other _ _ (by omega)];exact D20.out)
 have D31:Hid (R3 1=(⟨27,1,v1,n,x1⟩:Rw).more g1 p1 [.slice none 0 0]):=Lib.hid (by rw [hR3,upd_other _ _ (by omega)];exact D21.out)
 have D32:Hid (R3 2=(⟨3,1,v2,n,x2⟩:Rw).more g2 p2 [.int .i64 (-1)]):=Lib.hid (by rw [hR3,upd_same])
 have A3:Hid (∀ i,2 < i→R3 i=R i):=Lib.hid (fun i hi=>by rw [hR3,upd_other _ _ (by omega)];exact A2.out i (by omega))
 obtain ⟨V3,hV3⟩:∃ V,V=w2.setCell ⟨b,2,none⟩ (.slice (some ⟨g2,0,none⟩) (n+1) p2):=⟨_,rfl⟩
 rw [← hV3] at T3 ⊢
 have HT3:=Lib.hid T3
 clear hV3 hR3 S1 k1 k2 k3 hok2 hnew2 HAL2 c0 c1 c2 c3 f0 f1 f2 f3 d0 d1 d2 d3 e0 e1 e2 e3
 obtain ⟨⟨c0,c1,c2,c3⟩,f0,f1,f2,f3⟩:=cells4 T3.box
 clear T3
 have HE:Hid (PW Y W0 b M W O noL V3 (stF m)):=Lib.hid (by
  have hN:=HN.out
  have T3:=HT3.out
  have hB:∀ k,B k→V3.heap[k]? = W.heap[k]?:=fun k hk=>T3.old k (HR.out.bl k hk) (fun e=>(HH.out.o k (HO.out.2 k hk).1).2.2.1 e) (fun hh=>HR.out.nb k (by rw [← hN];exact hh) hk)
  obtain ⟨R4, h1, h2, h3⟩ := HR.out.state (R' := R3) (W' := V3) T3.size hB (by rw [← hN]; exact T3.fam)
   (fun k hk hBk=>by
    rw [← hN] at hk
    rcases T3.has k hk with hk | hk
    ·exact HR.out.nb k (by rw [← hN];exact hk) hBk
    ·have:=HR.out.bl k hBk;omega)
   (by rw [D30.out,HQ0.out,← hN];exact ⟨rfl,rfl,rfl,rfl⟩) (by rw [D31.out,HQ1.out,← hN];exact ⟨rfl,rfl,rfl,rfl⟩) (by rw [D32.out,HQ2.out,← hN];exact ⟨rfl,rfl,rfl,rfl⟩) (fun i hi _=>A3.out i (by omega))
  refine HH.out.upd T3.os T3.tape T3.output T3.size (fun k hk h4 h5=>T3.old k hk h5 (fun hh=>h4 (HO.out.1 k (by rw [← hN];exact hh)))) ⟨R4,B,h1,?_,fun k hk=>?_,fun k hk=>⟨.inl (HO.out.2 k hk).1,(HO.out.2 k hk).2.of (hB k hk)⟩⟩
  ·rw [h2 0 (by omega), h2 1 (by omega), h2 2 (by omega), D30.out, D31.out, D32.out]
   exact T3.box
  ·have hk := h3 k hk
   rw [← hN] at hk
   rcases T3.has k hk with hk | hk
   ·exact .inl (HO.out.1 k (by rw [← hN];exact hk))
   ·exact .inr hk)
 have hwn:wrap64 (((n+1:Nat):Int) - 1)=(n:Int):=by rw [IntWalk.wrap64_in _ (by omega)];omega
 go_wp2
 go_ret
 exact ⟨rfl,HE.out⟩
end Go.Proofs.YtioahgklplbinaaGreatDoor

/- The program's builder of machines: a way by nothing. -/
namespace Go.Proofs.YtioahgklplbinaaGreatDoor
open Go.RowKit Go.Shelf Go.Maps SetM PropsM RxM WrM NfaM
set_option maxRecDepth 100000 in
set_option maxHeartbeats 8000000 in
theorem free_b {W0 W : World} {Y O : Nat → Prop} {b M : Nat} {m : Mc} {i : Nat} {t : Int} (h : PB Y W0 W O b M m) (hi : i < m.len) (h8 : m.len ≤ 1000000) (h9 : (m.fr.getD i []).length ≤ 1000000) :
  Calls Tryz.prog 51 #[.pointer (some ⟨b,0,none⟩),.int .i64 i,.int .i64 t] W fun e W'=>e=.returned (.tuple #[])∧PW Y W0 b M W O noL W' (frF m i t):=by
 obtain ⟨R,B,hR,hbox,hO,hBO⟩:=h.mv
 obtain ⟨n,hn⟩:∃ n,n=m.tg.length:=⟨_,rfl⟩
 have hi:i < m.tg.length:=hi
 obtain ⟨l,hl⟩:∃ l,l=(m.fr.getD i []).length:=⟨_,rfl⟩
 have hfam:=hR.fam
 have q1:=rw_eta hR.r1
 have qr:=rw_eta (hR.rf i hi)
 have hx1:=hR.r1.2.2.2
 have hxr:=(hR.rf i hi).2.2.2
 have h8:m.tg.length≤1000000:=h8
 rw [← hl] at h9 qr
 rw [← hn] at hi h8 hfam q1 hx1
 obtain ⟨v0,hv0⟩:∃ v,v=(R 0).v:=⟨_,rfl⟩
 obtain ⟨v1,hv1⟩:∃ v,v=(R 1).v:=⟨_,rfl⟩
 obtain ⟨v2,hv2⟩:∃ v,v=(R 2).v:=⟨_,rfl⟩
 rw [← hv0,← hv1,← hv2] at hbox
 obtain ⟨vr,hvr⟩:∃ v,v=(R (4+2*i)).v:=⟨_,rfl⟩
 obtain ⟨x1,hxx1⟩:∃ x,x=(R 1).xs:=⟨_,rfl⟩
 obtain ⟨xr,hxxr⟩:∃ x,x=(R (4+2*i)).xs:=⟨_,rfl⟩
 rw [← hv1,← hxx1] at q1
 rw [← hvr,← hxxr] at qr
 rw [← hxx1] at hx1
 rw [← hxxr] at hxr
 have hxi:x1[i]? = some vr:=by rw [hx1,hvr];simp [hi]
 have hok1W:(⟨27,1,v1,n,x1⟩:Rw).ok W:=by rw [← q1];exact hfam.own 1 (by omega)
 obtain ⟨gF,cF,hvF,hgF⟩:=hok1W.form (by omega)
 have HVF:Hid ((R 1).v=.slice (some ⟨gF,0,none⟩) n cF):=Lib.hid (by rw [← hv1,hvF])
 have S0:StB W b M (3+2*n) R W R v0 v1 v2:=StB.start hfam hbox (fun hh=>(h.o b (hO b (by rw [← hn];exact hh))).2.2.1 rfl)
 rw [hvF] at q1 S0 hok1W hbox
 have HS0:=Lib.hid S0
 have HQ1:=Lib.hid q1
 have HQR:=Lib.hid qr
 have HN:=Lib.hid hn
 have HL:=Lib.hid hl
 have HXR:=Lib.hid hxr
 have HR:=Lib.hid hR
 have HO:=Lib.hid (And.intro hO hBO)
 have HF:=Lib.hid hfam
 have HH:=Lib.hid h
 have HXI:=Lib.hid hxi
 have HV3:=Lib.hid (And.intro hv0 hv2)
 have hal:Below W.heap.size W (W.alloc (.cells #[.int .i64 t] 3)).drew:=((Below.refl _ _).alloc (Nat.le_refl _) _).drew
 have HAL:=Lib.hid hal
 have hF:=(hok1W.at hi).1.trans hxi
 have hFf:=(hok1W.at hi).2
 obtain ⟨⟨c0,c1,c2,c3⟩,f0,f1,f2,f3⟩:=cells4 hbox
 have SX:=S0.step hal
 have HSX:=Lib.hid SX
 have hokr:(⟨3,1,vr,l,xr⟩:Rw).ok (W.alloc (.cells #[.int .i64 t] 3)).drew:=by rw [← qr];exact SX.fam.own (4+2*i) (by omega)
 have hokX:(⟨27,1,.slice (some ⟨gF,0,none⟩) n cF,n,x1⟩:Rw).ok (W.alloc (.cells #[.int .i64 t] 3)).drew:=by rw [← q1];exact SX.fam.own 1 (by omega)
 have hFX:=(hokX.at hi).1.trans hxi
 have hFfX:=(hokX.at hi).2
 obtain ⟨⟨b0,b1,b2,b3⟩,a0,a1,a2,a3⟩:=cells4 SX.box
 clear hokX
 have hnew:=heap_alloc_new W (.cells #[.int .i64 t] 3)
 have h0:(0:Int)≤(i:Int):=by omega
 have hlt:(i:Int) < (n:Int):=by omega
 have HEA:Hid (∀ (g p:Nat) (w1 V2:World),((⟨3,1,vr,l,xr⟩:Rw).more g p [.int .i64 t]).ok w1→(W.alloc (.cells #[.int .i64 t] 3)).drew.grownBy w1 vr.ownBlock→(vr.ownBlock=some g∨g=(W.alloc (.cells #[.int .i64 t] 3)).drew.heap.size)→V2=w1.setCell ⟨gF,i,none⟩ (.slice (some ⟨g,0,none⟩) (l+1) p)→PW Y W0 b M W O noL V2 (frF m i t)):=Lib.hid (by
   intro g p w1 V2 k1 k2 k3 hV2
   have hN:=HN.out
   have hm := (HR.out.kept (W' := (W.alloc (.cells #[.int .i64 t] 3)).drew) HAL.out.size (fun k hk => HAL.out.block k (hk.elim (fun h => HR.out.fam.lt h) (fun h => HR.out.bl k h)))).free (i := i) (t := t) (by rw [← hN]; exact hi) (r := (⟨3, 1, vr, l, xr⟩ : Rw).more g p [.int .i64 t]) (g := g) (W1 := w1) (by rw [HQR.out]; exact k2) k1 rfl (by rw [HQR.out]; exact k3)
    ⟨rfl,rfl,by rw [← HL.out];rfl,by show xr++_=_;rw [HXR.out,List.map_append];rfl⟩ (by rw [HVF.out,← hN])
   have e2:V2=w1.setCell ⟨gF,i,none⟩ ((⟨3,1,vr,l,xr⟩:Rw).more g p [.int .i64 t]).v:=hV2
   rw [← e2] at hm
   have hz:=k2.size
   have hz2:=HAL.out.size
   have hV2s:V2.heap.size=w1.heap.size:=by rw [hV2,World.size_setCell]
   have hbl:=HSX.out
   have hxs:(W.alloc (.cells #[.int .i64 t] 3)).drew.heap.size=W.heap.size+1:=World.size_alloc W _
   refine HH.out.upd (by rw [hV2];exact k2.os.trans HAL.out.os) (by rw [hV2];exact k2.tape.trans HAL.out.tape) (by rw [hV2];exact k2.output.trans HAL.out.output) (by omega) (fun k hk h4 h5=>?_) ⟨_,B,hm.1,?_,fun k hk=>?_,fun k hk=>⟨.inl (HO.out.2 k hk).1,(HO.out.2 k hk).2.of ((hm.2.2 k (by have:=HR.out.bl k hk;omega) (fun hh=>HR.out.nb k hh hk)).trans (HAL.out.block k (HR.out.bl k hk)))⟩⟩
   ·rw [hm.2.2 k (by omega) (fun hh => h4 (HO.out.1 k hh))]
    exact HAL.out.block k hk
   ·have hnb : ¬ Has (3 + 2 * m.tg.length) R b := by rw [← hN]; exact HS0.out.nb.1
    rw [hm.2.2 b (by have:=HS0.out.nb.2;omega) hnb,upd_other _ _ (by omega),upd_other _ _ (by omega),upd_same,upd_other _ _ (by omega),upd_other _ _ (by omega),← HV3.out.1,← HV3.out.2]
    show _=some (bxO _ (R 1).v _ _)
    rw [HVF.out]
    exact hbl.box
   ·rcases hm.2.1 k hk with hk | hk
    ·exact .inl (HO.out.1 k hk)
    ·right;omega)
 clear hn hl hx1 hxr hxx1 hxxr hR hO hBO hv0 hv1 hv2 hvr hfam S0 q1 qr hxi hok1W hvF SX hgF h hbox hal
 go_enter Tryz.func51,Tryz.ntmps51
 go_region_law (first
   | (refine step_fam (by rfl) _ _ 27 (by rfl) ⟨3,1,vr,l,xr⟩ Tryz.underlying27 infoI8 rfl Nat.zero_lt_one (by decide) hokr (by rfl) W.heap.size (by rfl) [.int .i64 t] hnew rfl (by simp [Value.oneCell']) h9 ?_;intro g p w1 k1 k2 k3;have S1:=HSX.out.app (i:=4+2*i) (by omega) (g:=g) (by rw [HQR.out];exact k2) k1 rfl (by rw [HQR.out];exact k3);obtain ⟨⟨d0,d1,d2,d3⟩,e0,e1,e2,e3⟩:=cells4 S1.box;have hok2:(⟨27,1,.slice (some ⟨gF,0,none⟩) n cF,n,x1⟩:Rw).ok w1:=(by rw [← HQ1.out];have:=S1.fam.own 1 (by omega);rw [upd_other _ _ (by omega)] at this;exact this);have hF2:=(hok2.at hi).1.trans HXI.out;have hFf2:=(hok2.at hi).2))
 all_goals
  have he:=Lib.hid (HEA.out g p w1 _ k1 k2 k3 rfl)
  clear k1 k2 k3 S1 c0 c1 c2 c3 f0 f1 f2 f3 d0 d1 d2 d3 e0 e1 e2 e3 b0 b1 b2 b3 a0 a1 a2 a3 hF hFf hFX hFfX hF2 hFf2 hok2 hokr hnew HEA
  go_wp2
  go_returns
  exact ⟨rfl,he.out⟩
end Go.Proofs.YtioahgklplbinaaGreatDoor

/- The program's builder of machines: an edge, with a set of its own. -/
namespace Go.Proofs.YtioahgklplbinaaGreatDoor
open Go.RowKit Go.Shelf Go.Maps SetM PropsM RxM WrM NfaM
theorem setCells_block (b : Nat) : ∀ (vs : List Value) (o : Nat) (w : World) (k : Nat), k ≠ b → (w.setCells b o vs).heap[k]? = w.heap[k]?
 | [],_,_,_,_=>rfl
 | v::r,o,w,k,hk=>by rw [World.setCells,setCells_block b r (o+1) _ k hk,heap_setCell_other w ⟨b,o,none⟩ k v hk]
theorem setCells_size (b : Nat) : ∀ (vs : List Value) (o : Nat) (w : World), (w.setCells b o vs).heap.size = w.heap.size
 | [],_,_=>rfl
 | v::r,o,w=>by rw [World.setCells,setCells_size b r,World.size_setCell]
theorem setCells_rest (b : Nat) : ∀ (vs : List Value) (o : Nat) (w : World), (w.setCells b o vs).os = w.os ∧ (w.setCells b o vs).tape = w.tape ∧ (w.setCells b o vs).output = w.output
 | [],_,_=>⟨rfl,rfl,rfl⟩
 | v::r,o,w=>by rw [World.setCells];exact setCells_rest b r (o+1) (w.setCell ⟨b,o,none⟩ v)
theorem run_copy2 {P : Program} (w : World) (dT sT ty elem : TypeId) (g n cap : Nat) (sp : Option Addr) (sCap : Nat) (cs : List Value) (hu : P.underlying dT = some (.slice elem)) (hs : (P.info? elem).map (·.size) = some 2) (hn : cs.length = n * 2)
  (hsrc:0 < n→∃ ad,sp=some ad∧∀ j v,cs[j]? = some v→w.cell? (ad.add j)=some v) (hc:∀ j,j < cs.length→(w.cell? ⟨g,j,none⟩).isSome=true) (hf:∀ j,j < cs.length→w.frozen? ⟨g,j,none⟩=false) (h1:∀ v∈cs,v.oneCell'=true) :
  (Builtin.copy_ #[dT,sT] ty #[.slice (some ⟨g,0,none⟩) n cap,.slice sp n sCap]).run P w=.ok (goInt n) (w.setCells g 0 cs):=by
 have hst:=run_storeCells_cells (P:=P) g 0 cs 0 w (by simpa using hc) (by simpa using hf) h1
 have hm:Nat.min n n=n:=Nat.min_self n
 cases hq:P.info? elem with
 | none=>simp [hq] at hs
 | some i =>
  have hi:i.size=2:=by simpa [hq] using hs
  rcases Nat.eq_zero_or_pos n with h0 | h0
  ·subst h0
   obtain rfl:cs=[]:=List.eq_nil_of_length_eq_zero (by simpa using hn)
   have hl:∀ (x:Addr),(loadCells x 0).run P w=.ok #[] w:=fun x=>by simpa using run_loadCells_list (P:=P) w x [] (by simp)
   cases sp <;> simp [Builtin.copy_,run_underlying hu,Builtin.lenOf,Builtin.firstCells,sizeOf,typeInfo,hq,storeCells,hl,World.setCells]
  ·obtain ⟨ad, rfl, hsr⟩ := hsrc h0
   have hl:=run_loadCells_list (P:=P) w ad cs hsr
   rw [hn] at hl
   simp [Builtin.copy_,run_underlying hu,Builtin.lenOf,Builtin.firstCells,sizeOf,typeInfo,hq,hi,hl,hst]
theorem EdC.imp {W : World} {B B' : Nat → Prop} (hb : ∀ k, B k → B' k) : ∀ {cs : List Value} {es : List (Int × List Sp)}, EdC W B cs es → EdC W B' cs es
 | [],[],_=>trivial
 | _::_::cs,e::es,h=>by
  obtain ⟨⟨sp,sc,h1,h2,h3,h4,h5,h6⟩,h7⟩:=h
  exact ⟨⟨sp,sc,h1,h2,h3,h4,h5,fun hne x hx=>hb _ (h6 hne x hx)⟩,EdC.imp hb h7⟩
 | [],_::_,h=>h.elim
 | [_],[],h=>h.elim
 | [_],_::_,h=>h.elim
 | _::_::_,[],h=>h.elim
theorem MVx.wide {W:World} {B B':Nat→Prop} {R:Nat→Rw} {m:Mc} (h:MVx W B R m) (hb:∀ k,B k→B' k) (hn:∀ k,Has (3+2*m.tg.length) R k→¬ B' k) (hl:∀ k,B' k→k < W.heap.size):MVx W B' R m :=
 { h with nb:=hn,bl:=hl,re:=fun i hi=>⟨(h.re i hi).1,(h.re i hi).2.1,(h.re i hi).2.2.1,(h.re i hi).2.2.2.imp hb⟩ }
theorem cellsS_one (l:List Sp):∀ v∈cellsS l,v.oneCell'=true:=fun v hv=>by
 obtain ⟨s,_,hs⟩:=List.mem_flatMap.1 hv
 simp [encS] at hs
 rcases hs with rfl | rfl <;> rfl
theorem Sl.cells {W:World} {P:Option Addr} {l:List Sp} (h:Sl W P l) (hl:0 < l.length):∃ ad,P=some ad∧∀ j v,(cellsS l)[j]? = some v→W.cell? (ad.add j)=some v:=by
 obtain ⟨b,o,e,hb,hc⟩:=h (fun e=>by rw [e] at hl;cases hl)
 refine ⟨⟨b,o,none⟩,e,fun j v hv=>?_⟩
 have hj:j < l.length*2:=by
  have:=(List.getElem?_eq_some_iff.1 hv).1
  rw [cellsS_len] at this
  exact this
 rw [cellsS_get l j hj] at hv
 have hj2:j / 2 < l.length:=by omega
 obtain ⟨h1,h2⟩:=hc (j / 2) hj2
 have ha:(⟨b,o,none⟩:Addr).add j=⟨b,o+j,none⟩:=by unfold Addr.add;split <;> simp_all
 rw [ha]
 rw [List.getElem?_eq_getElem hj2] at hv
 simp only [Option.getD_some,encS] at hv
 rcases (show j % 2=0∨j % 2=1 by omega) with h0 | h0
 ·rw [h0] at hv
  simp at hv
  rw [← hv,← h1]
  congr 2
  omega
 ·rw [h0] at hv
  simp at hv
  rw [← hv,← h2]
  congr 2
  omega
theorem sl_copied {W:World} {g:Nat} {l:List Sp} (hg:g < W.heap.size) (hc:∀ j,j < (cellsS l).length→(W.cell? ⟨g,j,none⟩).isSome=true):Sl (W.setCells g 0 (cellsS l)) (some ⟨g,0,none⟩) l:=fun hne=>by
 have hin:=World.cell?_setCells_in g (cellsS l) 0 W (by simpa using hc)
 have hlen:=cellsS_len l
 refine ⟨g,0,rfl,by rw [setCells_size];exact hg,fun j hj=>?_⟩
 have e1:(cellsS l)[j*2]? = some (.int .i64 l[j].1):=by
  rw [cellsS_get l _ (by omega),show j*2 / 2=j by omega,show j*2 % 2=0 by omega,List.getElem?_eq_getElem hj]
  rfl
 have e2:(cellsS l)[j*2+1]? = some (.int .i64 l[j].2):=by
  rw [cellsS_get l _ (by omega),show (j*2+1) / 2=j by omega,show (j*2+1) % 2=1 by omega,List.getElem?_eq_getElem hj]
  rfl
 have h1:=hin (j*2) (by omega)
 have h2:=hin (j*2+1) (by omega)
 rw [List.getElem?_eq_getElem (by omega)] at e1 e2
 rw [Option.some.inj e1] at h1
 rw [Option.some.inj e2] at h2
 exact ⟨h1,by rw [← h2];rfl⟩
end Go.Proofs.YtioahgklplbinaaGreatDoor

/- The program's builder of machines: an edge. -/
namespace Go.Proofs.YtioahgklplbinaaGreatDoor
open Go.RowKit Go.Shelf Go.Maps SetM PropsM RxM WrM NfaM
theorem infoSp:(Tryz.prog.info? 45).map (fun i=>(i.zero,i.size,i.bytes))=some (some (.agg #[.int .i64 0,.int .i64 0]),2,16):=by kernel_rfl
theorem unf_setCells (b : Nat) : ∀ (vs : List Value) (o : Nat) (w : World), Unf w b → Unf (w.setCells b o vs) b
 | [],_,_,h=>h
 | v::r,o,w,h=>by
  obtain ⟨cs,t,h1⟩:=h
  rw [World.setCells]
  exact unf_setCells b r (o+1) _ ⟨_,t,heap_setC w b _ _ h1 o v⟩
theorem make_spans (W:World) (n:Nat) (hn:n≤100000):∃ W1,(Instr.makeSlice 41 (.int .i64 n) (.int .i64 n)).run Tryz.prog W=.ok (.slice (some ⟨W.heap.size,0,none⟩) n n) W1∧Below W.heap.size W W1∧W.heap.size < W1.heap.size∧(∀ j,j < n*2→(W1.cell? ⟨W.heap.size,j,none⟩).isSome=true)∧(∀ j,W1.frozen? ⟨W.heap.size,j,none⟩=false)∧Unf W1 W.heap.size:=by
 obtain ⟨i0,hi,hz0,hz1,hz2⟩:=info_parts infoSp
 obtain ⟨W1,h1,h2,h3⟩:=run_makeSlice_full (P:=Tryz.prog) (w:=W) 0 41 45 i0 _ 2 Tryz.underlying41 hi hz0 hz1 .i64 .i64 n (by omega) (by rw [hz2];omega) (by unfold maxLen;omega) (Nat.zero_le _)
 have hun:Unf W1 W.heap.size:=by
  rcases h2.2 with ⟨a,_⟩ | ⟨g',cap,cur,a,_,hc,_⟩
  ·cases a
  ·simp only [Value.slice.injEq, Option.some.injEq, Addr.mk.injEq, and_true, true_and] at a
   rw [a.1]
   exact ⟨cur,_,hc⟩
 refine ⟨W1,h1,⟨h3.os,h3.tape,h3.output,h3.size,fun k hk=>h3.block k hk (fun e=>by cases e)⟩,World.ownsRow.lt h2 _ rfl |>.2,fun j hj=>?_,fun j=>World.ownsRow.frozenAt h2 j,hun⟩
 rw [World.ownsRow.cellAt h2 j hj,List.getElem?_eq_getElem (by rw [Array.length_toList,size_madeCells];exact hj)]
 rfl
set_option maxRecDepth 100000 in
set_option maxHeartbeats 8000000 in
theorem edge_b {W0 W : World} {Y O : Nat → Prop} {b M : Nat} {m : Mc} {i : Nat} {t : Int} {sp : Option Addr} {sln sc : Nat} {sl : List Sp} (h : PB Y W0 W O b M m) (hi : i < m.len) (h8 : m.len ≤ 1000000) (h9 : (m.ed.getD i []).length ≤ 1000000) (hsln : sln = sl.length) (hs8 : sln ≤ 100000) (hsl : Sl W sp sl) :
  Calls Tryz.prog 96 #[.pointer (some ⟨b,0,none⟩),.int .i64 i,.int .i64 t,.slice sp sln sc] W fun e W'=>e=.returned (.tuple #[])∧PW Y W0 b M W O noL W' (edF m i t sl):=by
 obtain ⟨W1,hmk,hb1,hg1,hcl,hfz,hunf⟩:=make_spans W sln hs8
 obtain ⟨g,hg⟩:∃ g,g=W.heap.size:=⟨_,rfl⟩
 rw [← hg] at hmk hg1 hcl hfz hunf
 obtain ⟨cs,hcs⟩:∃ cs,cs=cellsS sl:=⟨_,rfl⟩
 have hcsl:cs.length=sln*2:=by rw [hcs,cellsS_len,hsln]
 have hsrc:0 < sln→∃ ad,sp=some ad∧∀ j v,cs[j]? = some v→W1.cell? (ad.add j)=some v:=fun h0=>by rw [hcs];exact (hsl.step hb1).cells (by omega)
 have hone:∀ v∈cs,v.oneCell'=true:=by rw [hcs];exact cellsS_one sl
 obtain ⟨W2,hW2⟩:∃ W2,W2=W1.setCells g 0 cs:=⟨_,rfl⟩
 have hz2:W2.heap.size=W1.heap.size:=by rw [hW2,setCells_size]
 have hb2:Below W.heap.size W W2:=by
  obtain ⟨r1,r2,r3⟩:=setCells_rest g cs 0 W1
  rw [← hW2] at r1 r2 r3
  exact ⟨r1.trans hb1.os,r2.trans hb1.tape,r3.trans hb1.output,by rw [hz2];exact hb1.size,fun k hk=>by rw [hW2,setCells_block _ _ _ _ _ (by omega)];exact hb1.block k hk⟩
 have hset:Sl W2 (some ⟨g,0,none⟩) sl:=by rw [hW2,hcs];exact sl_copied hg1 (by rw [← hcs,hcsl];exact hcl)
 have hgf:g < W2.heap.size:=by omega
 obtain ⟨R,B0,hR0,hbox0,hO,hBO0⟩:=(h.step hb2).mv
 have hgO:¬ O g:=fun hh=>by have:=(h.o g hh).2.1;omega
 have hbW:=h.b0.2.1
 obtain ⟨B,hBdef⟩:∃ B:Nat→Prop,B=fun k=>B0 k∨k=g:=⟨_,rfl⟩
 have hR:MVx W2 B R m:=hR0.wide (fun k hk=>by rw [hBdef];exact .inl hk) (fun k hk hb=>by
  rw [hBdef] at hb
  rcases hb with hb | hb
  ·exact hR0.nb k hk hb
  ·exact hgO (hb ▸ hO k hk)) (fun k hk=>by
  rw [hBdef] at hk
  rcases hk with hk | hk
  ·exact hR0.bl k hk
  ·omega)
 have hBO:∀ k,B k→(O k∨W.heap.size≤k)∧Unf W2 k:=fun k hk=>by
  rw [hBdef] at hk
  rcases hk with hk | hk
  ·exact ⟨.inl (hBO0 k hk).1,(hBO0 k hk).2⟩
  ·exact ⟨by right;omega,by rw [hk,hW2];exact unf_setCells g cs 0 W1 hunf⟩
 have hBg:B g:=by rw [hBdef];exact .inr rfl
 clear hR0 hBO0 hBdef hunf
 obtain ⟨n,hn⟩:∃ n,n=m.tg.length:=⟨_,rfl⟩
 have hi:i < m.tg.length:=hi
 obtain ⟨le,hle⟩:∃ l,l=(m.ed.getD i []).length:=⟨_,rfl⟩
 have hfam:=hR.fam
 have q0:=rw_eta hR.r0
 have hre:=hR.re i hi
 have qr:=rw_eta hre
 have hx0:=hR.r0.2.2.2
 have h8:m.tg.length≤1000000:=h8
 rw [← hle] at h9 qr
 rw [← hn] at hi h8 hfam q0 hx0
 obtain ⟨v0,hv0⟩:∃ v,v=(R 0).v:=⟨_,rfl⟩
 obtain ⟨v1,hv1⟩:∃ v,v=(R 1).v:=⟨_,rfl⟩
 obtain ⟨v2,hv2⟩:∃ v,v=(R 2).v:=⟨_,rfl⟩
 have hbox:W2.heap[b]? = some (bxO v0 v1 v2 M):=by rw [hv0,hv1,hv2];exact hbox0
 obtain ⟨vr,hvr⟩:∃ v,v=(R (3+2*i)).v:=⟨_,rfl⟩
 obtain ⟨x0,hxx0⟩:∃ x,x=(R 0).xs:=⟨_,rfl⟩
 obtain ⟨xr,hxxr⟩:∃ x,x=(R (3+2*i)).xs:=⟨_,rfl⟩
 rw [← hv0,← hxx0] at q0
 rw [← hvr,← hxxr] at qr
 rw [← hxx0] at hx0
 have hxi:x0[i]? = some vr:=by rw [hx0,hvr];simp [hi]
 have hok0W:(⟨40,1,v0,n,x0⟩:Rw).ok W2:=by rw [← q0];exact hfam.own 0 (by omega)
 obtain ⟨gF,cF,hvF,hgF⟩:=hok0W.form (by omega)
 have HVF:Hid ((R 0).v=.slice (some ⟨gF,0,none⟩) n cF):=Lib.hid (by rw [← hv0,hvF])
 have S0:StB W2 b M (3+2*n) R W2 R v0 v1 v2:=StB.start hfam hbox (fun hh=>(h.o b (hO b (by rw [← hn];exact hh))).2.2.1 rfl)
 rw [hvF] at q0 S0 hok0W hbox
 have HS0:=Lib.hid S0
 have HQ0:=Lib.hid q0
 have HQR:=Lib.hid qr
 have HN:=Lib.hid hn
 have HL:=Lib.hid hle
 have HR:=Lib.hid hR
 have HO:=Lib.hid (And.intro hO hBO)
 have HH:=Lib.hid h
 have HXI:=Lib.hid hxi
 have HV3:=Lib.hid (And.intro hv1 hv2)
 have HB2:=Lib.hid hb2
 have HBW:=Lib.hid hbW
 have hal:Below W2.heap.size W2 (W2.alloc (.cells #[.int .i64 t,.slice (some ⟨g,0,none⟩) sln sln] 43)).drew:=((Below.refl _ _).alloc (Nat.le_refl _) _).drew
 have HAL:=Lib.hid hal
 have hF:=(hok0W.at hi).1.trans hxi
 have hFf:=(hok0W.at hi).2
 obtain ⟨⟨c0,c1,c2,c3⟩,f0,f1,f2,f3⟩:=cells4 hbox
 have SX:=S0.step hal
 have HSX:=Lib.hid SX
 have hokr:(⟨43,2,vr,le,xr⟩:Rw).ok (W2.alloc (.cells #[.int .i64 t,.slice (some ⟨g,0,none⟩) sln sln] 43)).drew:=by rw [← qr];exact SX.fam.own (3+2*i) (by omega)
 have hokX:(⟨40,1,.slice (some ⟨gF,0,none⟩) n cF,n,x0⟩:Rw).ok (W2.alloc (.cells #[.int .i64 t,.slice (some ⟨g,0,none⟩) sln sln] 43)).drew:=by rw [← q0];exact SX.fam.own 0 (by omega)
 have hFX:=(hokX.at hi).1.trans hxi
 have hFfX:=(hokX.at hi).2
 obtain ⟨⟨b0,b1,b2,b3⟩,a0,a1,a2,a3⟩:=cells4 SX.box
 clear hokX
 have hnew:=heap_alloc_new W2 (.cells #[.int .i64 t,.slice (some ⟨g,0,none⟩) sln sln] 43)
 have h0:(0:Int)≤(i:Int):=by omega
 have hlt:(i:Int) < (n:Int):=by omega
 have hE2:EdC (W2.alloc (.cells #[.int .i64 t,.slice (some ⟨g,0,none⟩) sln sln] 43)).drew B [.int .i64 t,.slice (some ⟨g,0,none⟩) sln sln] [(t,sl)] :=
  EdC.kept (W:=W2) hal.size (fun k hk=>hal.block k (hR.bl k hk)) ⟨⟨some ⟨g,0,none⟩,sln,rfl,by rw [hsln],by show sl.length≤100000;omega,hset,(fun e=>by cases e),fun _ x hx=>by cases hx;exact hBg⟩,trivial⟩
 have HE2:=Lib.hid hE2
 have HEA:Hid (∀ (q p:Nat) (w1 V2:World),((⟨43,2,vr,le,xr⟩:Rw).more q p [.int .i64 t,.slice (some ⟨g,0,none⟩) sln sln]).ok w1→(W2.alloc (.cells #[.int .i64 t,.slice (some ⟨g,0,none⟩) sln sln] 43)).drew.grownBy w1 vr.ownBlock→(vr.ownBlock=some q∨q=(W2.alloc (.cells #[.int .i64 t,.slice (some ⟨g,0,none⟩) sln sln] 43)).drew.heap.size)→V2=w1.setCell ⟨gF,i,none⟩ (.slice (some ⟨q,0,none⟩) (le+1) p)→PW Y W0 b M W O noL V2 (edF m i t sl)):=Lib.hid (by
   intro q p w1 V2 k1 k2 k3 hV2
   have hN:=HN.out
   have hm := (HR.out.kept (W' := (W2.alloc (.cells #[.int .i64 t, .slice (some ⟨g, 0, none⟩) sln sln] 43)).drew) HAL.out.size (fun k hk => HAL.out.block k (hk.elim (fun h => HR.out.fam.lt h) (fun h => HR.out.bl k h)))).edge (i := i) (t := t) (sl := sl) (by rw [← hN]; exact hi) (r := (⟨43, 2, vr, le, xr⟩ : Rw).more q p [.int .i64 t, .slice (some ⟨g, 0, none⟩) sln sln]) (g := q) (W1 := w1) (by rw [HQR.out]; exact k2) k1 rfl (by rw [HQR.out]; exact k3)
    ⟨rfl,rfl,by rw [← HL.out];rfl,by rw [HQR.out];rfl⟩ HE2.out (by rw [HVF.out,← hN])
   have e2:V2=w1.setCell ⟨gF,i,none⟩ ((⟨43,2,vr,le,xr⟩:Rw).more q p [.int .i64 t,.slice (some ⟨g,0,none⟩) sln sln]).v:=hV2
   rw [← e2] at hm
   have hz:=k2.size
   have hz2:=HAL.out.size
   have hz3:=HB2.out.size
   have hV2s:V2.heap.size=w1.heap.size:=by rw [hV2,World.size_setCell]
   have hbl:=HSX.out
   have hxs:(W2.alloc (.cells #[.int .i64 t,.slice (some ⟨g,0,none⟩) sln sln] 43)).drew.heap.size=W2.heap.size+1:=World.size_alloc W2 _
   refine HH.out.upd (by rw [hV2];exact k2.os.trans (HAL.out.os.trans HB2.out.os)) (by rw [hV2];exact k2.tape.trans (HAL.out.tape.trans HB2.out.tape)) (by rw [hV2];exact k2.output.trans (HAL.out.output.trans HB2.out.output)) (by omega) (fun k hk h4 h5=>?_) ⟨_,B,hm.1,?_,fun k hk=>?_,fun k hk=>⟨(HO.out.2 k hk).1,(HO.out.2 k hk).2.of ((hm.2.2 k (by have:=HR.out.bl k hk;omega) (fun hh=>HR.out.nb k hh hk)).trans (HAL.out.block k (HR.out.bl k hk)))⟩⟩
   ·rw [hm.2.2 k (by omega) (fun hh => h4 (HO.out.1 k hh)), HAL.out.block k (by omega)]
    exact HB2.out.block k hk
   ·have hnb : ¬ Has (3 + 2 * m.tg.length) R b := by rw [← hN]; exact HS0.out.nb.1
    rw [hm.2.2 b (by have:=HBW.out;omega) hnb,upd_same,upd_other _ _ (by omega),upd_other _ _ (by omega),upd_other _ _ (by omega),upd_other _ _ (by omega),← HV3.out.1,← HV3.out.2]
    show _=some (bxO (R 0).v _ _ _)
    rw [HVF.out]
    exact hbl.box
   ·rcases hm.2.1 k hk with hk | hk
    ·exact .inl (HO.out.1 k hk)
    ·right;omega)
 have hcopy:(Builtin.copy_ #[41,41] 3 #[.slice (some ⟨g,0,none⟩) sln sln,.slice sp sln sc]).run Tryz.prog W1=.ok (.int .i64 sln) W2:=by rw [hW2];exact run_copy2 W1 41 41 3 45 g sln sln sp sc cs Tryz.underlying41 (by kernel_rfl) hcsl hsrc (fun j hj=>hcl j (by rw [← hcsl];exact hj)) (fun j _=>hfz j) hone
 have HG1:=Lib.hid hg1
 have HCL:=Lib.hid hcl
 have HFZ:=Lib.hid hfz
 have HSRC:=Lib.hid hsrc
 have HONE:=Lib.hid hone
 have HCSL:=Lib.hid hcsl
 clear hn hle hx0 hxx0 hxxr hR hO hBO hv0 hv1 hv2 hvr hfam S0 q0 qr hre hxi hok0W hvF SX hgF h hbox hbox0 hal hE2 hset hgf hgO hbW hBg hb1 hb2 hz2 hg1 hcl hfz hsrc hone hcsl hcs hsln hsl hg hW2
 go_enter Tryz.func96,Tryz.ntmps96
 go_upto_region 1 with fail
 go_upto_region 2 with fail
 go_region_law (first
   | (refine step_fam (by rfl) _ _ 40 (by rfl) ⟨43,2,vr,le,xr⟩ Tryz.underlying40 infoE8 rfl Nat.zero_lt_two (by decide) hokr (by rfl) W2.heap.size (by rfl) [.int .i64 t,.slice (some ⟨g,0,none⟩) sln sln] hnew rfl (by simp [Value.oneCell']) h9 ?_;intro q p w1 k1 k2 k3;have S1:=HSX.out.app (i:=3+2*i) (by omega) (g:=q) (by rw [HQR.out];exact k2) k1 rfl (by rw [HQR.out];exact k3);obtain ⟨⟨d0,d1,d2,d3⟩,e0,e1,e2,e3⟩:=cells4 S1.box;have hok2:(⟨40,1,.slice (some ⟨gF,0,none⟩) n cF,n,x0⟩:Rw).ok w1:=(by rw [← HQ0.out];have:=S1.fam.own 0 (by omega);rw [upd_other _ _ (by omega)] at this;exact this);have hF2:=(hok2.at hi).1.trans HXI.out;have hFf2:=(hok2.at hi).2))
 all_goals
  have he:=Lib.hid (HEA.out q p w1 _ k1 k2 k3 rfl)
  clear k1 k2 k3 S1 c0 c1 c2 c3 f0 f1 f2 f3 d0 d1 d2 d3 e0 e1 e2 e3 b0 b1 b2 b3 a0 a1 a2 a3 hF hFf hFX hFfX hF2 hFf2 hok2 hokr hnew HEA
  go_wp2
  go_returns
  exact ⟨rfl,he.out⟩
end Go.Proofs.YtioahgklplbinaaGreatDoor
