/- GPure, GMk, GMarks, GFollow, in one text. -/
import Derived.Test.YtioahgklplbinaaGreatDoorNMA
import Derived.Test.YtioahgklplbinaaGreatDoorNSa
import Derived.Laws.OwnMore
import Derived.Deep.AppendLies
/- Plain mathematics of machines that go: what free ways lead to, rows of states, what is gathered. Nothing of a program stands here. -/
namespace SimM
open SetM NfaM
inductive Cl (m : Mc) (P : Nat → Prop) : Nat → Prop where
 | base (k:Nat):P k→Cl m P k
 | step (i k:Nat):Cl m P i→(k:Int)∈m.fr.getD i []→Cl m P k
theorem Cl.mono {m:Mc} {P Q:Nat→Prop} (h:∀ k,P k→Cl m Q k):∀ {k},Cl m P k→Cl m Q k:=by
 intro k hk
 induction hk with
 | base k hp=>exact h k hp
 | step i k _ hm ih=>exact .step i k ih hm
theorem Cl.congr {m:Mc} {P Q:Nat→Prop} (h:∀ k,P k↔Q k) (k:Nat):Cl m P k↔Cl m Q k :=
 ⟨Cl.mono (fun k hk=>.base k ((h k).1 hk)),Cl.mono (fun k hk=>.base k ((h k).2 hk))⟩
theorem mem_row {α:Type} {l:List (List α)} {i:Nat} {x:α} (h:x∈l.getD i []):∃ row∈l,x∈row:=by
 by_cases hi:i < l.length
 ·have e : l.getD i [] = l[i] := by simp [List.getD, hi]
  rw [e] at h
  exact ⟨l[i],List.getElem_mem hi,h⟩
 ·have e : l.getD i [] = [] := by simp [List.getD, Nat.le_of_not_lt hi]
  rw [e] at h
  cases h
theorem row_at {α:Type} {l:List (List α)} {i:Nat} (hi:i < l.length):l.getD i []=l[i]:=by simp [List.getD,hi]
theorem snoc_cases {α:Type} (L:List α):L=[]∨∃ K i,L=K++[i]:=by
 rcases List.eq_nil_or_concat L with h | ⟨K,i,h⟩
 ·exact .inl h
 ·exact .inr ⟨K,i,by simpa using h⟩
open Classical in
noncomputable def stN (n:Nat) (P:Nat→Prop):List Nat:=(List.range n).filter (fun k=>decide (P k))
noncomputable def stL (n:Nat) (P:Nat→Prop):List Int:=(stN n P).map (fun k:Nat=>(k:Int))
theorem mem_stN {n:Nat} {P:Nat→Prop} {k:Nat}:k∈stN n P↔k < n∧P k:=by unfold stN;simp
theorem mem_stL {n:Nat} {P:Nat→Prop} {x:Int}:x∈stL n P↔∃ k:Nat,k < n∧P k∧x=k:=by
 unfold stL
 rw [List.mem_map]
 constructor
 ·rintro ⟨k,h,rfl⟩;exact ⟨k,(mem_stN.1 h).1,(mem_stN.1 h).2,rfl⟩
 ·rintro ⟨k,h1,h2,rfl⟩;exact ⟨k,mem_stN.2 ⟨h1,h2⟩,rfl⟩
theorem stN_yes {n:Nat} {P:Nat→Prop} (h:P n):stN (n+1) P=stN n P++[n]:=by unfold stN;rw [List.range_succ,List.filter_append];simp [h]
theorem stN_no {n:Nat} {P:Nat→Prop} (h:¬ P n):stN (n+1) P=stN n P:=by unfold stN;rw [List.range_succ,List.filter_append];simp [h]
theorem stL_zero (P:Nat→Prop):stL 0 P=[]:=rfl
theorem stL_yes {n:Nat} {P:Nat→Prop} (h:P n):stL (n+1) P=stL n P++[(n:Int)]:=by unfold stL;rw [stN_yes h,List.map_append];rfl
theorem stL_no {n:Nat} {P:Nat→Prop} (h:¬ P n):stL (n+1) P=stL n P:=by unfold stL;rw [stN_no h]
theorem stN_len (n:Nat) (P:Nat→Prop):(stN n P).length≤n:=by
 unfold stN
 have:=List.length_filter_le (fun k=>@decide (P k) (Classical.propDecidable _)) (List.range n)
 rw [List.length_range] at this
 exact this
theorem stL_len (n:Nat) (P:Nat→Prop):(stL n P).length≤n:=by unfold stL;rw [List.length_map];exact stN_len n P
theorem stL_congr {n:Nat} {P Q:Nat→Prop} (h:∀ k,k < n→(P k↔Q k)):stL n P=stL n Q:=by
 induction n with
 | zero=>rfl
 | succ n ih =>
  have h1:=ih (fun k hk=>h k (by omega))
  by_cases hp:P n
  ·rw [stL_yes hp,stL_yes ((h n (by omega)).1 hp),h1]
  ·rw [stL_no hp,stL_no (fun hq=>hp ((h n (by omega)).2 hq)),h1]
theorem stL_nil {n:Nat} {P:Nat→Prop}:stL n P=[]↔∀ k,k < n→¬ P k:=by
 constructor
 ·intro h k hk hp
  have:=mem_stL.2 ⟨k,hk,hp,rfl⟩
  rw [h] at this
  cases this
 ·intro h
  refine List.eq_nil_iff_forall_not_mem.2 (fun x hx=>?_)
  obtain ⟨k,h1,h2,_⟩:=mem_stL.1 hx
  exact h k h1 h2
noncomputable def un (n:Nat) (M:Nat→Prop):Nat:=(stN n (fun k=>¬ M k)).length
theorem un_le (n:Nat) (M:Nat→Prop):un n M≤n:=stN_len n _
theorem un_congr {n:Nat} {M M':Nat→Prop} (h:∀ k,k < n→(M k↔M' k)):un n M=un n M':=by
 have:=congrArg List.length (stL_congr (n:=n) (P:=fun k=>¬ M k) (Q:=fun k=>¬ M' k) (fun k hk=>not_congr (h k hk)))
 unfold stL at this
 rw [List.length_map,List.length_map] at this
 exact this
theorem un_add : ∀ (n : Nat) {M : Nat → Prop} {j : Nat}, j < n → ¬ M j → un n (fun k => M k ∨ k = j) + 1 = un n M
 | 0,M,j,h,_=>absurd h (Nat.not_lt_zero j)
 | n+1,M,j,h,hj=>by
  by_cases e:j=n
  ·subst e
   have h1:un (j+1) (fun k=>M k∨k=j)=un j (fun k=>M k∨k=j):=by unfold un;rw [stN_no (by simp)]
   have h2:un (j+1) M=un j M+1:=by unfold un;rw [stN_yes hj];simp
   have h3:un j (fun k=>M k∨k=j)=un j M:=un_congr (fun k hk=>⟨fun h=>h.elim id (fun h=>by omega),.inl⟩)
   omega
  ·have ih := un_add n (show j < n by omega) hj
   by_cases hn:M n
   ·have h1 : un (n + 1) (fun k => M k ∨ k = j) = un n (fun k => M k ∨ k = j) := by unfold un; rw [stN_no (by simp [hn])]
    have h2:un (n+1) M=un n M:=by unfold un;rw [stN_no (by simp [hn])]
    omega
   ·have h1 : un (n + 1) (fun k => M k ∨ k = j) = un n (fun k => M k ∨ k = j) + 1 := by unfold un; rw [stN_yes (by simp [hn]; omega)]; simp
    have h2:un (n+1) M=un n M+1:=by unfold un;rw [stN_yes hn];simp
    omega
structure Wk (m : Mc) (P M : Nat → Prop) (L : List Nat) : Prop where
 sub:∀ k,P k→M k
 cl:∀ k,M k→Cl m P k
 inL:∀ k∈L,M k
 done:∀ i,M i→i ∉ L→∀ k:Nat,(k:Int)∈m.fr.getD i []→M k
structure Wk1 (m : Mc) (P M : Nat → Prop) (L : List Nat) (i r : Nat) : Prop where
 sub:∀ k,P k→M k
 cl:∀ k,M k→Cl m P k
 inL:∀ k∈L,M k
 at_:M i
 part:∀ k:Nat,(k:Int)∈(m.fr.getD i []).take r→M k
 done:∀ x,M x→x ∉ L→x≠i→∀ k:Nat,(k:Int)∈m.fr.getD x []→M k
theorem Wk.begin (m:Mc) (P:Nat→Prop) (L:List Nat) (h:∀ k,P k↔k∈L):Wk m P P L :=
 ⟨fun _ h=>h,fun k h=>.base k h,fun k hk=>(h k).2 hk,fun i hi hn=>absurd ((h i).1 hi) hn⟩
theorem Wk.take {m:Mc} {P M:Nat→Prop} {L:List Nat} {i:Nat} (h:Wk m P M (L++[i])):Wk1 m P M L i 0 :=
 ⟨h.sub,h.cl,fun k hk=>h.inL k (by simp [hk]),h.inL i (by simp),fun k hk=>by simp at hk,fun x hx hn hi=>h.done x hx (by simp [hn,hi])⟩
theorem Wk1.skip {m:Mc} {P M:Nat→Prop} {L:List Nat} {i r k:Nat} (h:Wk1 m P M L i r) (hr:r < (m.fr.getD i []).length) (hk:(m.fr.getD i [])[r]=(k:Int)) (hM:M k):Wk1 m P M L i (r+1) :=
 ⟨h.sub,h.cl,h.inL,h.at_,fun x hx=>by
  rw [List.take_succ_eq_append_getElem hr,List.mem_append] at hx
  rcases hx with hx | hx
  ·exact h.part x hx
  ·rw [hk] at hx
   simp at hx
   obtain rfl:x=k:=by omega
   exact hM,h.done⟩
theorem Wk1.add {m:Mc} {P M:Nat→Prop} {L:List Nat} {i r k:Nat} (h:Wk1 m P M L i r) (hr:r < (m.fr.getD i []).length) (hk:(m.fr.getD i [])[r]=(k:Int)):Wk1 m P (fun x=>M x∨x=k) (L++[k]) i (r+1) :=
 ⟨fun x hx=>.inl (h.sub x hx),fun x hx=>hx.elim (h.cl x) (fun e=>e ▸ .step i k (h.cl i h.at_) (hk ▸ List.getElem_mem hr)),fun x hx=>by
  rcases List.mem_append.1 hx with hx | hx
  ·exact .inl (h.inL x hx)
  ·exact .inr (by simpa using hx),.inl h.at_,fun x hx=>by
  rw [List.take_succ_eq_append_getElem hr,List.mem_append] at hx
  rcases hx with hx | hx
  ·exact .inl (h.part x hx)
  ·rw [hk] at hx
   simp at hx
   exact .inr (by omega),fun x hx hn hi y hy=>by
  have hn':x ∉ L∧x≠k:=by simpa using hn
  exact .inl (h.done x (hx.elim id (fun e=>absurd e hn'.2)) hn'.1 hi y hy)⟩
theorem Wk1.last {m:Mc} {P M:Nat→Prop} {L:List Nat} {i r:Nat} (h:Wk1 m P M L i r) (hr:r=(m.fr.getD i []).length):Wk m P M L :=
 ⟨h.sub,h.cl,h.inL,fun x hx hn y hy=>by
  by_cases e:x=i
  ·subst e
   exact h.part y (by rw [hr,List.take_length];exact hy)
  ·exact h.done x hx hn e y hy⟩
theorem Wk.fin {m:Mc} {P M:Nat→Prop} (h:Wk m P M []) (k:Nat):M k↔Cl m P k:=by
 refine ⟨h.cl k,fun hk=>?_⟩
 induction hk with
 | base k hp=>exact h.sub k hp
 | step i k _ hm ih=>exact h.done i ih (by simp) k hm
def Mv (m:Mc) (P:Nat→Prop) (r:Int) (k:Nat):Prop:=∃ i,P i∧∃ e∈m.ed.getD i [],e.1=(k:Int)∧Tells e.2 r
def Inn (n:Nat) (l:List Int) (k:Nat):Prop:=k < n∧(k:Int)∈l
noncomputable def startF (m:Mc):List Int:=stL m.len (Cl m (· = 0))
noncomputable def stepF (m:Mc) (at_:List Int) (r:Int):List Int:=stL m.len (Cl m (Mv m (Inn m.len at_) r))
def TgP (m:Mc) (at_:List Int) (t:Int):Prop:=0≤t∧∃ k,Inn m.len at_ k∧m.tg.getD k (-1)=t
theorem rise_uniq : ∀ (a b : List Int), a.Pairwise (· < ·) → b.Pairwise (· < ·) → (∀ x, x ∈ a ↔ x ∈ b) → a = b
 | [],[],_,_,_=>rfl
 | [],y::t,_,_,h=>absurd ((h y).2 (by simp)) (by simp)
 | x::s,[],_,_,h=>absurd ((h x).1 (by simp)) (by simp)
 | x::s,y::t,ha,hb,h=>by
  rw [List.pairwise_cons] at ha hb
  have e:x=y:=by
   rcases List.mem_cons.1 ((h x).1 (by simp)) with h1 | h1
   ·exact h1
   ·rcases List.mem_cons.1 ((h y).2 (by simp)) with h2 | h2
    ·exact h2.symm
    ·have h3 := ha.1 y h2
     have h4:=hb.1 x h1
     omega
  subst e
  congr 1
  refine rise_uniq s t ha.2 hb.2 (fun z=>?_)
  constructor
  ·intro hz
   rcases List.mem_cons.1 ((h z).1 (by simp [hz])) with h1 | h1
   ·subst h1;have:=ha.1 z hz;omega
   ·exact h1
  ·intro hz
   rcases List.mem_cons.1 ((h z).2 (by simp [hz])) with h1 | h1
   ·subst h1;have:=hb.1 z hz;omega
   ·exact h1
structure IsTags (m : Mc) (at_ l : List Int) : Prop where
 rise:l.Pairwise (· < ·)
 mem:∀ t,t∈l↔TgP m at_ t
theorem IsTags.unique {m:Mc} {at_ l l':List Int} (h:IsTags m at_ l) (h':IsTags m at_ l'):l=l':=rise_uniq l l' h.rise h'.rise (fun t=>(h.mem t).trans (h'.mem t).symm)
end SimM

/- Rows of marks in memory: bools, and numbers 0 and 1. -/
namespace Go.Proofs.YtioahgklplbinaaGreatDoor
open Go.RowKit Go.Shelf SetM NfaM SimM
open Classical in
noncomputable def mksV (a b:Value) (n:Nat) (M:Nat→Prop):List Value:=(List.range n).map fun j=>if M j then a else b
theorem mks_len (a b:Value) (n:Nat) (M:Nat→Prop):(mksV a b n M).length=n:=by unfold mksV;simp
theorem mks_yes {a b:Value} {n:Nat} {M:Nat→Prop} {j:Nat} (hj:j < n) (h:M j):(mksV a b n M)[j]? = some a:=by unfold mksV;simp [hj,h]
theorem mks_no {a b:Value} {n:Nat} {M:Nat→Prop} {j:Nat} (hj:j < n) (h:¬ M j):(mksV a b n M)[j]? = some b:=by unfold mksV;simp [hj,h]
theorem mks_congr {a b:Value} {n:Nat} {M M':Nat→Prop} (h:∀ j,j < n→(M j↔M' j)):mksV a b n M=mksV a b n M':=by
 unfold mksV
 refine List.map_congr_left (fun j hj=>?_)
 have:=h j (List.mem_range.1 hj)
 by_cases hm:M j
 ·rw [if_pos hm,if_pos (this.1 hm)]
 ·rw [if_neg hm,if_neg (fun h'=>hm (this.2 h'))]
theorem mks_set {a b:Value} {n:Nat} {M:Nat→Prop} {j:Nat} (hj:j < n):(mksV a b n M).set j a=mksV a b n (fun k=>M k∨k=j):=by
 refine List.ext_getElem? (fun i=>?_)
 rw [List.getElem?_set]
 by_cases e:j=i
 ·subst e
  rw [if_pos rfl,if_pos (by rw [mks_len];exact hj),mks_yes hj (.inr rfl)]
 ·rw [if_neg e]
  by_cases hi:i < n
  ·by_cases hm : M i
   ·rw [mks_yes hi hm,mks_yes hi (.inl hm)]
   ·rw [mks_no hi hm,mks_no hi (fun h=>h.elim hm (fun h=>e h.symm))]
  ·rw [List.getElem?_eq_none (by rw [mks_len];omega),List.getElem?_eq_none (by rw [mks_len];omega)]
theorem mks_none (a b:Value) (n:Nat):mksV a b n (fun _=>False)=List.replicate n b:=by
 unfold mksV
 refine List.ext_getElem? (fun i=>?_)
 by_cases hi:i < n <;> simp [hi]
def MkG (t:TypeId) (a b:Value) (W:World) (base g n:Nat) (M:Nat→Prop):Prop:=W.ownsRow base t 1 (.slice (some ⟨g,0,none⟩) n n) n (mksV a b n M)
section
variable {t:TypeId} {a b:Value} {W W':World} {base g n:Nat} {M:Nat→Prop}
theorem MkG.lt (h:MkG t a b W base g n M):base≤g∧g < W.heap.size:=World.ownsRow.lt h g rfl
theorem MkG.yes (h:MkG t a b W base g n M) {j:Nat} (hj:j < n) (hm:M j):W.cell? ⟨g,j,none⟩=some a:=by
 rw [World.ownsRow.cellAt h j (by omega)];exact mks_yes hj hm
theorem MkG.no (h:MkG t a b W base g n M) {j:Nat} (hj:j < n) (hm:¬ M j):W.cell? ⟨g,j,none⟩=some b:=by
 rw [World.ownsRow.cellAt h j (by omega)];exact mks_no hj hm
theorem MkG.frz (h:MkG t a b W base g n M) (j:Nat):W.frozen? ⟨g,j,none⟩=false:=World.ownsRow.frozenAt h j
theorem MkG.ex (h:MkG t a b W base g n M) {j:Nat} (hj:j < n):∃ x,W.cell? ⟨g,j,none⟩=some x:=by
 by_cases hm:M j
 ·exact ⟨a,h.yes hj hm⟩
 ·exact ⟨b,h.no hj hm⟩
theorem MkG.set (h:MkG t a b W base g n M) {j:Nat} (hj:j < n):MkG t a b (W.setCell ⟨g,j,none⟩ a) base g n (fun k=>M k∨k=j)∧W.grownBy (W.setCell ⟨g,j,none⟩ a) (some g):=by
 have:=World.ownsRow.stored h j a
 rw [mks_set hj] at this
 exact this
theorem MkG.congr (h:MkG t a b W base g n M) {M':Nat→Prop} (he:∀ j,j < n→(M j↔M' j)):MkG t a b W base g n M':=by
 unfold MkG at h ⊢
 rw [← mks_congr he]
 exact h
theorem MkG.kept (h:MkG t a b W base g n M) {row:Option Nat} (hg:W.grownBy W' row) (hne:row≠some g):MkG t a b W' base g n M:=World.ownsRow.kept h hg (.inr (fun e=>hne e.symm))
theorem MkG.step (h:MkG t a b W base g n M) (hb:Below W.heap.size W W'):MkG t a b W' base g n M :=
 h.kept (row:=none) ⟨hb.os,hb.tape,hb.output,hb.size,fun k hk _=>hb.block k hk⟩ (by simp)
theorem MkG.low (h:MkG t a b W base g n M) {base':Nat} (hl:base'≤base):MkG t a b W base' g n M:=by
 refine ⟨h.1,?_⟩
 rcases h.2 with ⟨h1,_⟩ | ⟨g',cap,cur,h1,h2,h3⟩
 ·cases h1
 ·exact .inr ⟨g',cap,cur,h1,by omega,h3⟩
end
theorem grown_trans {W X Y:World} {g:Nat} {row:Option Nat} (h:W.grownBy X (some g)) (k:X.grownBy Y row) (hr:∀ j,row=some j→j=g∨W.heap.size≤j):W.grownBy Y (some g) :=
 ⟨k.os.trans h.os,k.tape.trans h.tape,k.output.trans h.output,Nat.le_trans h.size k.size,fun j hj hne=>(k.block j (Nat.lt_of_lt_of_le hj h.size) (fun e=>by
  rcases hr j e.symm with h1 | h1
  ·exact hne (by rw [h1])
  ·omega)).trans (h.block j hj hne)⟩
theorem grown_refl' (W:World) (row:Option Nat):W.grownBy W row:=⟨rfl,rfl,rfl,Nat.le_refl _,fun _ _ _=>rfl⟩
theorem grown_below {W X:World} {g n:Nat} (h:W.grownBy X (some g)) (hn:n≤g) (hw:n≤W.heap.size):Below n W X:=⟨h.os,h.tape,h.output,h.size,fun k hk=>h.block k (by omega) (fun e=>by have:=Option.some.inj e;omega)⟩
theorem below_grown {W X:World} {n:Nat} (h:Below n W X) (hn:W.heap.size=n):W.grownBy X none:=⟨h.os,h.tape,h.output,h.size,fun k hk _=>h.block k (by omega)⟩
def OwI (W:World) (base:Nat) (v:Value) (l:List Int):Prop:=W.ownsRow base 3 1 v l.length (l.map (Value.int .i64))
theorem OwI.nil (W:World) (base:Nat):OwI W base (.slice none 0 0) []:=World.ownsRow_nil _ _ _ _
theorem OwI.kept {W W':World} {base:Nat} {v:Value} {l:List Int} (h:OwI W base v l) {row:Option Nat} (hg:W.grownBy W' row) (hne:v.ownBlock=none∨v.ownBlock≠row):OwI W' base v l:=World.ownsRow.kept h hg hne
theorem OwI.form {W:World} {base:Nat} {v:Value} {l:List Int} (h:OwI W base v l):∃ P c,v=.slice P l.length c∧InR W P l∧(∀ j,j < l.length→∃ g,P=some ⟨g,0,none⟩∧base≤g)∧l.length≤c∧c≤9223372036854775807:=by
 rcases h.2 with ⟨e,h0⟩ | ⟨g,cap,cur,e,hb,hg,h1,h2,h3,h4⟩
 ·have : l = [] := List.eq_nil_of_length_eq_zero h0
  subst this
  exact ⟨none,0,e,fun k hk=>absurd hk (Nat.not_lt_zero k),fun j hj=>absurd hj (Nat.not_lt_zero j),Nat.le_refl _,Nat.zero_le _⟩
 ·refine ⟨_, cap, e, fun j hj => ⟨g, 0, rfl, (Array.getElem?_eq_some_iff.1 hg).1, ?_⟩, fun j hj => ⟨g, rfl, hb⟩, h1, by unfold maxLen at h2; omega⟩
  have h':=h
  unfold OwI at h'
  rw [e] at h'
  rw [Nat.zero_add,World.ownsRow.cellAt h' j (by omega)]
  simp [hj]
theorem OwI.below {W W':World} {base:Nat} {v:Value} {l:List Int} (h:OwI W base v l) (hb:Below W.heap.size W W'):OwI W' base v l :=
 h.kept (row:=none) ⟨hb.os,hb.tape,hb.output,hb.size,fun k hk _=>hb.block k hk⟩ (by cases v.ownBlock <;> simp)
theorem OwI.low {W:World} {base base':Nat} {v:Value} {l:List Int} (h:OwI W base v l) (hl:base'≤base):OwI W base' v l:=by
 refine ⟨h.1,?_⟩
 rcases h.2 with h1 | ⟨g',cap,cur,h1,h2,h3⟩
 ·exact .inl h1
 ·exact .inr ⟨g',cap,cur,h1,by omega,h3⟩
theorem OwI.front {W:World} {base g c:Nat} {l k:List Int} (h:OwI W base (.slice (some ⟨g,0,none⟩) (l++k).length c) (l++k)):OwI W base (.slice (some ⟨g,0,none⟩) l.length c) l:=by
 refine ⟨by simp,?_⟩
 rcases h.2 with ⟨e,_⟩ | ⟨g',cap,cur,e,hb,hg,h1,h2,h3,h4⟩
 ·cases e
 ·simp only [Value.slice.injEq, Option.some.injEq, Addr.mk.injEq, and_true, true_and] at e
  obtain ⟨rfl,rfl⟩:=e
  rw [List.length_append] at h1
  refine .inr ⟨g,c,cur,rfl,hb,hg,by omega,h2,h3,?_⟩
  have:=congrArg (List.take l.length) h4
  rw [List.take_take,List.map_append,List.take_left' (by simp)] at this
  rw [← this]
  congr 1
  rw [List.length_append]
  omega
theorem infoBo:(Tryz.prog.info? 4).map (fun i=>(i.zero,i.size,i.bytes))=some (some (.bool false),1,1):=by kernel_rfl
theorem infoIn:(Tryz.prog.info? 3).map (fun i=>(i.zero,i.size,i.bytes))=some (some (.int .i64 0),1,8):=by kernel_rfl
theorem inn_zero (k:Nat) (l:List Int) (j:Nat):Inn k (l.take 0) j↔False:=by unfold Inn;simp
theorem inn_skip {k:Nat} {l:List Int} {r:Nat} (hr:r < l.length) (h:¬ (0≤l[r]∧l[r] < k)) (j:Nat):Inn k (l.take (r+1)) j↔Inn k (l.take r) j:=by
 unfold Inn
 rw [List.take_succ_eq_append_getElem hr,List.mem_append]
 simp only [List.mem_singleton]
 constructor
 ·rintro ⟨h1, h2 | h2⟩
  ·exact ⟨h1,h2⟩
  ·exact absurd (by omega) h
 ·rintro ⟨h1,h2⟩;exact ⟨h1,.inl h2⟩
theorem inn_add {k:Nat} {l:List Int} {r s:Nat} (hr:r < l.length) (hs:l[r]=(s:Int)) (hk:s < k) (j:Nat):(Inn k (l.take r) j∨j=s)↔Inn k (l.take (r+1)) j:=by
 unfold Inn
 rw [List.take_succ_eq_append_getElem hr,List.mem_append]
 simp only [List.mem_singleton,hs]
 constructor
 ·rintro (⟨h1, h2⟩ | rfl)
  ·exact ⟨h1,.inl h2⟩
  ·exact ⟨hk,.inr rfl⟩
 ·rintro ⟨h1, h2 | h2⟩
  ·exact .inl ⟨h1,h2⟩
  ·exact .inr (by omega)
end Go.Proofs.YtioahgklplbinaaGreatDoor

/- The program's rows of marks: made, marked, told. -/
namespace Go.Proofs.YtioahgklplbinaaGreatDoor
open Go.RowKit Go.Shelf SetM NfaM SimM
set_option maxRecDepth 100000 in
set_option maxHeartbeats 4000000 in
theorem unmarked_c {W:World} {p0 p1 p2:Option Addr} {n0 n1 k c0 c1 c2:Nat} (hk:k≤100000):Calls Tryz.prog 72 #[.agg #[.slice p0 n0 c0,.slice p1 n1 c1,.slice p2 k c2]] W fun e W'=>∃ g,e=.returned (.slice (some ⟨g,0,none⟩) k k)∧MkG 4 (.bool true) (.bool false) W' W.heap.size g k (fun _=>False)∧Below W.heap.size W W':=by
 obtain ⟨V,hV⟩:∃ V,V=W.alloc (.cells #[.slice p0 n0 c0,.slice p1 n1 c1,.slice p2 k c2] 29):=⟨_,rfl⟩
 have hb:Below W.heap.size W V:=by rw [hV];exact (Below.refl _ _).alloc (Nat.le_refl _) _
 have zV:V.heap.size=W.heap.size+1:=by rw [hV,World.size_alloc]
 have x0:V.heap[W.heap.size]? = some (.cells #[.slice p0 n0 c0,.slice p1 n1 c1,.slice p2 k c2] 29 (0,0)):=by rw [hV];exact heap_alloc_new W _
 obtain ⟨⟨a0,a1,a2⟩,_⟩:=cells3 x0
 obtain ⟨i0,hi,hz0,hz1,hz2⟩:=info_parts infoBo
 obtain ⟨W1,hmk,h2,h3⟩:=run_makeSlice_full (P:=Tryz.prog) (w:=V) 0 117 4 i0 _ 1 Tryz.underlying117 hi hz0 hz1 .i64 .i64 k (by omega) (by rw [hz2];omega) (by unfold maxLen;omega) (Nat.zero_le _)
 have e1:(madeCells (Value.bool false).cells (k*1)).toList=mksV (.bool true) (.bool false) k (fun _=>False):=by
  rw [mks_none,Nat.mul_one]
  exact toList_madeCells_one _ _
 rw [e1] at h2
 have HE:Hid (MkG 4 (.bool true) (.bool false) W1 W.heap.size V.heap.size k (fun _=>False)):=Lib.hid (by
  refine ⟨h2.1,?_⟩
  rcases h2.2 with ⟨h4,_⟩ | ⟨g',cap,cur,h4,_,h6⟩
  ·cases h4
  ·have h5 := h4
   simp only [Value.slice.injEq,Option.some.injEq,Addr.mk.injEq,and_true,true_and] at h5
   exact .inr ⟨g',cap,cur,h4,by omega,h6⟩)
 have HB:=Lib.hid (hb.grown h3 hb.size (fun j hj=>by cases hj))
 have hk0:(0:Int)≤(k:Int):=by omega
 clear x0 e1 h2 h3 hb zV hi hz0 hz1 hz2
 go_enter Tryz.func72,Tryz.ntmps72
 go_upto_region 1 with fail
 rw [← hV]
 clear hV
 go_wp2
 go_ret
 exact ⟨_,rfl,HE.out,HB.out⟩
set_option maxRecDepth 100000 in
set_option maxHeartbeats 8000000 in
theorem marked_c {W : World} {p0 p1 p2 P : Option Addr} {n0 n1 k c0 c1 c2 n c : Nat} {l : List Int} (hl : InR W P l) (hn : n = l.length) (h8 : n ≤ 9223372036854775807) (hk : k ≤ 100000) :
  Calls Tryz.prog 69 #[.agg #[.slice p0 n0 c0,.slice p1 n1 c1,.slice p2 k c2],.slice P n c] W fun e W'=>∃ g,e=.returned (.slice (some ⟨g,0,none⟩) k k)∧MkG 4 (.bool true) (.bool false) W' W.heap.size g k (Inn k l)∧Below W.heap.size W W':=by
 obtain ⟨V,hV⟩:∃ V,V=W.alloc (.cells #[.slice p0 n0 c0,.slice p1 n1 c1,.slice p2 k c2] 29):=⟨_,rfl⟩
 have hb:Below W.heap.size W V:=by rw [hV];exact (Below.refl _ _).alloc (Nat.le_refl _) _
 have x0:V.heap[W.heap.size]? = some (.cells #[.slice p0 n0 c0,.slice p1 n1 c1,.slice p2 k c2] 29 (0,0)):=by rw [hV];exact heap_alloc_new W _
 obtain ⟨⟨a0,a1,a2⟩,_⟩:=cells3 x0
 have HU:=Lib.hid (unmarked_c (W:=V) (p0:=p0) (p1:=p1) (p2:=p2) (n0:=n0) (n1:=n1) (c0:=c0) (c1:=c1) (c2:=c2) hk)
 have HL:=Lib.hid hl
 have HN:=Lib.hid hn
 have HB:=Lib.hid hb
 clear hl hn hb x0
 go_enter Tryz.func69,Tryz.ntmps69
 go_upto_region 1 with fail
 rw [← hV]
 clear hV
 go_wp2_with fail
 refine HU.out.mono ?_
 rintro e w1 ⟨g,rfl,hM,b1⟩
 have HM:=Lib.hid (hM.low HB.out.size)
 have HB1:=Lib.hid (HB.out.trans (b1.mono HB.out.size))
 have hg0:=hM.lt
 have HG:Hid (W.heap.size≤g):=Lib.hid (by have:=HB.out.size;omega)
 clear a0 a1 a2 hM b1 HU hg0
 go_wp2_with fail
 go_loopg [12] n (fun gk s12 wx=>∃ r:Nat,r+gk=n∧s12=.int .i64 r∧Hid (MkG 4 (.bool true) (.bool false) wx W.heap.size g k (Inn k (l.take r)))∧Hid (Below W.heap.size W wx))
 case atStart=>exact ⟨0,by omega,rfl,Lib.hid (HM.out.congr (fun j _=>(inn_zero k l j).symm)),HB1⟩
 case round =>
  obtain ⟨r,hrg,rfl,HR,HW⟩:=hrel
  cases gk with
  | zero =>
   obtain rfl:r=n:=by omega
   have hlt:¬ (r:Int) < (r:Int):=by omega
   have HE:Hid (MkG 4 (.bool true) (.bool false) wr W.heap.size g k (Inn k l)):=Lib.hid (by have:=HR.out;rw [List.take_of_length_le (by have:=HN.out;omega)] at this;exact this)
   go_wp2
   go_ret
   exact ⟨_,rfl,HE.out,HW.out⟩
  | succ gk =>
   have hlt:(r:Int) < (n:Int):=by omega
   have hrl:r < l.length:=by have:=HN.out;omega
   have h0:(0:Int)≤(r:Int):=by omega
   have hwr:wrap64 ((r:Int)+1)=((r+1:Nat):Int):=by rw [IntWalk.wrap64_in _ (by omega)];omega
   have hb:=HW.out
   have HLR:=Lib.hid (HL.out r hrl)
   obtain ⟨g2,o,rfl,hg,c1⟩:=HLR.out
   have c1':=(hb.cell (p:=⟨g2,o+r,none⟩) hg).trans c1
   have HS:=Lib.hid (fun (s:Nat) (hs:l[r]=(s:Int)) (hk:s < k) (j:Nat)=>inn_add hrl hs hk j)
   have HN2:=Lib.hid (fun (h:¬ (0≤l[r]∧l[r] < k)) (j:Nat)=>inn_skip hrl h j)
   clear c1 hb
   generalize l[r]=x at *
   by_cases hx:0≤x
   ·by_cases hx2 : x < (k : Int)
    ·obtain ⟨s, rfl⟩ : ∃ s : Nat, x = (s : Int) := ⟨x.toNat, by omega⟩
     have hsk:s < k:=by omega
     have hc:=HR.out.ex hsk
     obtain ⟨u,hc⟩:=hc
     have hf:=HR.out.frz s
     have HR2:Hid (MkG 4 (.bool true) (.bool false) (wr.setCell ⟨g,s,none⟩ (.bool true)) W.heap.size g k (Inn k (l.take (r+1)))):=Lib.hid ((HR.out.set hsk).1.congr (fun j _=>HS.out s rfl hsk j))
     have HW2:Hid (Below W.heap.size W (wr.setCell ⟨g,s,none⟩ (.bool true))):=Lib.hid (HW.out.grown (HR.out.set hsk).2 HW.out.size (fun j hj=>by have:=Option.some.inj hj;have:=HG.out;omega))
     clear hsk hg HLR
     go_wp2
     go_roundg gk
     case measure=>omega
     case rel=>exact ⟨r+1,by omega,by first | rw [hwr] | rfl | simp,HR2,HW2⟩
    ·have HR2 : Hid (MkG 4 (.bool true) (.bool false) wr W.heap.size g k (Inn k (l.take (r + 1)))) := Lib.hid (HR.out.congr (fun j _ => (HN2.out (fun h => hx2 h.2) j).symm))
     clear hg HLR
     go_wp2
     go_roundg gk
     case measure=>omega
     case rel=>exact ⟨r+1,by omega,by first | rw [hwr] | rfl | simp,HR2,HW⟩
   ·have HR2 : Hid (MkG 4 (.bool true) (.bool false) wr W.heap.size g k (Inn k (l.take (r + 1)))) := Lib.hid (HR.out.congr (fun j _ => (HN2.out (fun h => hx h.1) j).symm))
    clear hg HLR
    go_wp2
    go_roundg gk
    case measure=>omega
    case rel=>exact ⟨r+1,by omega,by first | rw [hwr] | rfl | simp,HR2,HW⟩
set_option maxRecDepth 100000 in
set_option maxHeartbeats 8000000 in
theorem states_c {W : World} {base g k : Nat} {M : Nat → Prop} (h : MkG 4 (.bool true) (.bool false) W base g k M) (hk : k ≤ 100000) :
  Calls Tryz.prog 71 #[.slice (some ⟨g,0,none⟩) k k] W fun e W'=>∃ v,e=.returned v∧OwI W' W.heap.size v (stL k M)∧Below W.heap.size W W':=by
 obtain ⟨i0,hi,hz0,hz1,hz2⟩:=info_parts infoIn
 have HM:=Lib.hid h
 have HG:=Lib.hid h.lt
 clear h
 go_enter Tryz.func71,Tryz.ntmps71
 go_wp2_with fail
 go_loopg [3,8] k (fun gk s3 s8 wx=>∃ (r:Nat) (v:Value),r+gk=k∧s8=.int .i64 r∧v=s3∧Hid (OwI wx W.heap.size v (stL r M))∧Hid (Below W.heap.size W wx))
 case atStart=>exact ⟨0,_,by omega,rfl,rfl,Lib.hid (OwI.nil _ _),Lib.hid (Below.refl _ _)⟩
 case round =>
  obtain ⟨r,v3,hrg,rfl,rfl,HO,HB⟩:=hrel
  cases gk with
  | zero =>
   obtain rfl:r=k:=by omega
   have hlt:¬ (r:Int) < (r:Int):=by omega
   go_wp2
   go_ret
   exact ⟨_,rfl,HO.out,HB.out⟩
  | succ gk =>
   have hlt:(r:Int) < (k:Int):=by omega
   have hrk:r < k:=by omega
   have h0:(0:Int)≤(r:Int):=by omega
   have hwr:wrap64 ((r:Int)+1)=((r+1:Nat):Int):=by rw [IntWalk.wrap64_in _ (by omega)];omega
   have hb:=HB.out
   by_cases hm:M r
   ·have c1 := (hb.cell (p := ⟨g, r, none⟩) HG.out.2).trans (HM.out.yes hrk hm)
    have hown:=HO.out
    have HS:=Lib.hid (stL_yes hm)
    have hle:=stL_len r M
    generalize stL r M=L at *
    unfold OwI at hown
    have hwz:=hb.size
    go_wp2_with (at_builtin;refine wpList_append_own _ rfl _ _ 27 rfl W.heap.size 3 i0 (.int .i64 0) 1 8 Tryz.underlying27 hi hz0 hz1 hz2 rfl (by decide) _ _ _ rfl (hown.alloc _) ⟨wr.heap.size,0,none⟩ 1 1 [.int .i64 r] rfl rfl (cell_news _ _ _) (by simp [Value.oneCell']) (by unfold maxLen;omega) (by omega) (by rw [World.size_alloc];omega) ?_;intro v' w2 hown' hgrow _)
    go_roundg gk
    case measure=>omega
    case rel=>exact ⟨r+1,_,by omega,by first | rw [hwr] | rfl | simp,rfl,Lib.hid (by rw [HS.out];unfold OwI;rw [List.map_append,List.length_append];exact hown'),Lib.hid ((hb.alloc hwz _).grown hgrow (by rw [World.size_alloc];omega) (fun j hj=>(hown.lt j hj).1))⟩
   ·have c1 := (hb.cell (p := ⟨g, r, none⟩) HG.out.2).trans (HM.out.no hrk hm)
    have HO2:Hid (OwI wr W.heap.size v3 (stL (r+1) M)):=Lib.hid (by rw [stL_no hm];exact HO.out)
    go_wp2
    go_roundg gk
    case measure=>omega
    case rel=>exact ⟨r+1,_,by omega,by first | rw [hwr] | rfl | simp,rfl,HO2,HB⟩
end Go.Proofs.YtioahgklplbinaaGreatDoor

/- The program's rows of marks: what free ways lead to is gathered. -/
namespace Go.Proofs.YtioahgklplbinaaGreatDoor
open Go.RowKit Go.Shelf SetM NfaM SimM
def nI (L:List Nat):List Int:=L.map (fun k:Nat=>(k:Int))
theorem nI_app (L K:List Nat):nI (L++K)=nI L++nI K:=List.map_append ..
theorem nI_len (L:List Nat):(nI L).length=L.length:=List.length_map ..
def FrOk (m:Mc):Prop:=(∀ row∈m.fr,∀ t∈row,0≤t∧t < (m.tg.length:Int))∧m.fr.length=m.tg.length∧∀ i < m.fr.length,(m.fr.getD i []).length≤9223372036854775807
theorem cl_lt {m:Mc} (hfr:FrOk m) {P:Nat→Prop} (hP:∀ j,P j→j < m.tg.length):∀ {j},Cl m P j→j < m.tg.length:=by
 intro j hj
 induction hj with
 | base k hp=>exact hP k hp
 | step i k _ hm ih =>
  obtain ⟨row,h1,h2⟩:=mem_row hm
  have:=hfr.1 row h1 _ h2
  omega
set_option maxRecDepth 100000 in
set_option maxHeartbeats 16000000 in
theorem follow_c {V W : World} {p0 p1 p2 : Option Addr} {c1 g k n1 : Nat} {m : Mc} {P : Nat → Prop} (hm : MR V p0 p1 p2 m) (hB : Below V.heap.size V W) (h : MkG 4 (.bool true) (.bool false) W V.heap.size g k P) (hk : k = m.tg.length) (hk8 : k ≤ 100000) (hn1 : n1 = k) (hfr : FrOk m) (hP : ∀ j, P j → j < k) :
  Calls Tryz.prog 70 #[.slice (some ⟨g,0,none⟩) k k,.slice p1 n1 c1] W fun e W'=>e=.returned (.tuple #[])∧MkG 4 (.bool true) (.bool false) W' V.heap.size g k (Cl m P)∧W.grownBy W' (some g):=by
 subst hn1
 obtain ⟨i0,hi,hz0,hz1,hz2⟩:=info_parts infoIn
 have HM:=Lib.hid hm
 have HV:=Lib.hid hB
 have HR0:=Lib.hid h
 have HG:=Lib.hid h.lt
 have HK:=Lib.hid hk
 have HFR:=Lib.hid hfr
 have HST:=Lib.hid (states_c h (by omega))
 have HP:=Lib.hid hP
 clear hm hB h hk hfr hP
 go_enter Tryz.func70,Tryz.ntmps70
 go_wp2_with fail
 refine HST.out.mono ?_
 rintro e w1 ⟨v,rfl,hO,b1⟩
 have HO:=Lib.hid (show OwI w1 W.heap.size v (nI (stN n1 P)) from hO)
 have HG1:=Lib.hid (show W.grownBy w1 (some g) from ⟨b1.os,b1.tape,b1.output,b1.size,fun k hk _=>b1.block k hk⟩)
 have HR1:=Lib.hid (HR0.out.step b1)
 have HWK:=Lib.hid (Wk.begin m P (stN n1 P) (fun j=>⟨fun hj=>mem_stN.2 ⟨HP.out j hj,hj⟩,fun hj=>(mem_stN.1 hj).2⟩))
 clear hO b1 HST
 go_wp2_with fail
 go_loopg [4] (un n1 P+(stN n1 P).length) (fun gk s4 wx=>∃ (M:Nat→Prop) (L:List Nat) (v4:Value),un n1 M+L.length=gk∧v4=s4∧Hid (gk≤200000)∧Hid (OwI wx W.heap.size v4 (nI L))∧Hid (MkG 4 (.bool true) (.bool false) wx V.heap.size g n1 M)∧Hid (Wk m P M L)∧Hid (W.grownBy wx (some g)))
 case atStart=>exact ⟨P,_,_,rfl,rfl,Lib.hid (by have:=un_le n1 P;have:=stN_len n1 P;omega),HO,HR1,HWK,HG1⟩
 case round =>
  obtain ⟨M,L,v4,hun,rfl,HGK,HO,HR,HW,HGR⟩:=hrel
  rcases snoc_cases L with rfl | ⟨K,i,rfl⟩
  ·obtain ⟨Q, c, hv, _, _, _, _⟩ := HO.out.form
   have e0:(nI []).length=0:=rfl
   rw [e0] at hv
   subst hv
   have HE:Hid (MkG 4 (.bool true) (.bool false) wr V.heap.size g n1 (Cl m P)):=Lib.hid (HR.out.congr (fun j _=>HW.out.fin j))
   clear hun e0
   go_wp2
   go_returns
   exact ⟨rfl,HE.out,HGR.out⟩
  ·obtain ⟨q, hq⟩ : ∃ q, q = K.length := ⟨_, rfl⟩
   have hlq:(nI (K++[i])).length=q+1:=by rw [nI_len,List.length_append,hq];rfl
   obtain ⟨gko,rfl⟩:∃ g,gk=g+1:=⟨un n1 M+q,by rw [List.length_append] at hun;simp at hun;omega⟩
   have HUN:Hid (un n1 M+K.length=gko):=Lib.hid (by rw [List.length_append] at hun;simp at hun;omega)
   obtain ⟨Q,c,hv,hIn,hQ,hqc,hcm⟩:=HO.out.form
   obtain ⟨lg,rfl,hlg⟩:=hQ 0 (by omega)
   rw [hlq] at hv hqc
   obtain ⟨g2,o2,e2,hg2,hc2⟩:=hIn q (by omega)
   cases e2
   have hel:(nI (K++[i]))[q]'(by omega)=(i:Int):=by
    have:(nI (K++[i]))[q]? = some (i:Int):=by rw [nI_app,List.getElem?_append_right (by rw [nI_len];omega),nI_len,hq,Nat.sub_self];rfl
    rw [List.getElem?_eq_getElem (by omega)] at this
    exact Option.some.inj this
   rw [hel,Nat.zero_add] at hc2
   have hMi:M i:=HW.out.inL i (by simp)
   have hin:i < n1:=by rw [HK.out];exact cl_lt HFR.out (fun j hj=>by rw [← HK.out];exact HP.out j hj) (HW.out.cl i hMi)
   have hif:i < m.fr.length:=by have:=HFR.out.2.1;have:=HK.out;omega
   have hVW:Below V.heap.size V wr:=HV.out.trans (grown_below HGR.out HG.out.1 HV.out.size)
   obtain ⟨g1,o1,Pf,cf,rfl,hg1,hc1,hfin⟩:=HM.out.fr i hif
   obtain ⟨fs,hfs⟩:∃ fs,fs=m.fr.getD i []:=⟨_,rfl⟩
   have hfe:m.fr[i]=fs:=by rw [hfs,row_at hif]
   rw [hfe] at hc1 hfin
   obtain ⟨nf,hnf⟩:∃ nf,nf=fs.length:=⟨_,rfl⟩
   rw [← hnf] at hc1
   have hc1:=(hVW.cell (p:=⟨g1,o1+i,none⟩) hg1).trans hc1
   have HNF:Hid (nf=fs.length∧nf≤9223372036854775807∧fs=m.fr.getD i []):=Lib.hid ⟨hnf,by rw [hnf,hfs];exact HFR.out.2.2 i hif,hfs⟩
   have HFI:Hid (InR V Pf fs):=Lib.hid hfin
   have HFB:Hid (∀ r (h:r < fs.length),0≤fs[r]∧fs[r] < (n1:Int)):=Lib.hid (fun r h=>by
    have h1:fs[r]∈m.fr.getD i []:=by rw [← hfs];exact List.getElem_mem h
    obtain ⟨row,h2,h3⟩:=mem_row h1
    have:=HFR.out.1 row h2 _ h3
    have:=HK.out
    omega)
   have HWK:=Lib.hid (HW.out.take)
   have HOF:Hid (OwI wr W.heap.size (.slice (some ⟨lg,0,none⟩) q c) (nI K)):=Lib.hid (by
    have h:=HO.out
    rw [nI_app,hv,← hlq,nI_app] at h
    have:=OwI.front (k:=nI [i]) h
    rw [nI_len,← hq] at this
    exact this)
   subst hv
   have hi0:(0:Int)≤(i:Int):=by omega
   have hin':(i:Int) < (n1:Int):=by omega
   have hq0:(0:Int) < (q:Int)+1:=by omega
   have hq1:(q:Int) < (q:Int)+1:=by omega
   have hq2:(0:Int)≤(q:Int):=by omega
   have hq3:(q:Int)≤(c:Int):=by omega
   have hqw:wrap64 (q:Int)=(q:Int):=IntWalk.wrap64_in _ (by omega)
   have hnf8:nf≤9223372036854775807:=HNF.out.2.1
   clear hq hlq hun hIn hQ hel hMi hfe hVW hnf hfin hfs hlg hg1 hg2 HO HW hqc hif hcm
   go_wp2_with fail
   rw [hqw]
   clear hqw hq0 hq1 hq2 hq3 hc1 hc2 hi0 hin'
   go_loopg [4,29] nf (fun gk s4 s29 wx=>∃ (r:Nat) (M1:Nat→Prop) (L1:List Nat) (v1:Value),r+gk=nf∧s29=.int .i64 r∧v1=s4∧Hid (un n1 M1+L1.length=gko)∧Hid (OwI wx W.heap.size v1 (nI L1))∧Hid (MkG 4 (.bool true) (.bool false) wx V.heap.size g n1 M1)∧Hid (Wk1 m P M1 L1 i r)∧Hid (W.grownBy wx (some g)))
   case atStart=>exact ⟨0,M,K,_,by omega,rfl,rfl,HUN,HOF,HR,HWK,HGR⟩
   case round =>
    obtain ⟨r,M1,L1,v1,hrg,rfl,rfl,HU1,HO1,HR1,HW1,HG1⟩:=hrel
    cases gk with
    | zero =>
     obtain rfl:r=nf:=by omega
     have hlt:¬ (r:Int) < (r:Int):=by omega
     have HWL:=Lib.hid (HW1.out.last (by rw [HNF.out.1,HNF.out.2.2]))
     go_wp2
     go_roundg gko
     case measure=>omega
     case rel=>exact ⟨M1,L1,_,HU1.out,rfl,Lib.hid (by have:=HGK.out;omega),HO1,HR1,HWL,HG1⟩
    | succ gk =>
     have hlt:(r:Int) < (nf:Int):=by omega
     have hrl:r < fs.length:=by have:=HNF.out.1;omega
     have h0:(0:Int)≤(r:Int):=by omega
     have hwr:wrap64 ((r:Int)+1)=((r+1:Nat):Int):=by rw [IntWalk.wrap64_in _ (by omega)];omega
     obtain ⟨g3,o3,rfl,hg3,hc3⟩:=HFI.out r hrl
     have hVW:Below V.heap.size V wr:=HV.out.trans (grown_below HG1.out HG.out.1 HV.out.size)
     have hc4:=(hVW.cell (p:=⟨g3,o3+r,none⟩) hg3).trans hc3
     clear hc3
     have hxb:=HFB.out r hrl
     obtain ⟨s,hs⟩:∃ s:Nat,fs[r]=(s:Int):=⟨fs[r].toNat,by omega⟩
     rw [hs] at hc4 hxb
     have hsn:s < n1:=by omega
     have hs0:(0:Int)≤(s:Int):=by omega
     have hs1:(s:Int) < (n1:Int):=by omega
     have HSR:Hid (∃ h:r < (m.fr.getD i []).length,(m.fr.getD i [])[r]=(s:Int)):=Lib.hid (by
      have e:=HNF.out.2.2
      subst e
      exact ⟨hrl,hs⟩)
     by_cases hm:M1 s
     ·have c1 := HR1.out.yes hsn hm
      obtain ⟨hr',hs'⟩:=HSR.out
      have HW2:=Lib.hid (HW1.out.skip hr' hs' hm)
      clear hxb hs hrl hg3 hVW hr' hs' hsn
      go_wp2
      go_roundg gk
      case measure=>omega
      case rel=>exact ⟨r+1,M1,L1,_,by omega,by first | rw [hwr] | rfl | simp,rfl,HU1,HO1,HR1,HW2,HG1⟩
     ·have c1 := HR1.out.no hsn hm
      have f1:=HR1.out.frz s
      obtain ⟨hr',hs'⟩:=HSR.out
      have HW2:=Lib.hid (HW1.out.add hr' hs')
      obtain ⟨hR2,hg2⟩:=HR1.out.set hsn
      obtain ⟨X,hX⟩:∃ X,X=wr.setCell ⟨g,s,none⟩ (.bool true):=⟨_,rfl⟩
      rw [← hX] at hR2 hg2
      have hne:v1.ownBlock=none∨v1.ownBlock≠some g:=by
       cases hv:v1.ownBlock with
       | none=>exact .inl rfl
       | some b=>right;intro e;have:=Option.some.inj e;have:=(World.ownsRow.lt HO1.out b hv).1;have:=HG.out;omega
      have HO2:=Lib.hid (HO1.out.kept hg2 hne)
      have HG2:=Lib.hid (grown_trans HG1.out hg2 (fun j hj=>.inl (Option.some.inj hj).symm))
      have HR2:=Lib.hid hR2
      have HU2:Hid (un n1 (fun x=>M1 x∨x=s)+(L1.length+1)=gko):=Lib.hid (by have:=un_add n1 hsn hm;have:=HU1.out;omega)
      have hown:=HO2.out
      have hll:L1.length≤200000:=by have:=HU1.out;have:=HGK.out;omega
      unfold OwI at hown
      rw [nI_len] at hown
      have HXS:Hid (X.heap.size=wr.heap.size):=Lib.hid (by rw [hX,World.size_setCell])
      clear hxb hs hrl hg3 hVW hr' hs' hsn hR2 hg2
      replace hne:v1.ownBlock≠some g:=by rcases hne with h | h;(rw [h];simp);exact h
      have HNE:=Lib.hid hne
      clear hne
      go_upto_region 10 with fail
      rw [← hX]
      clear hX c1 f1
      go_wp2_with (at_builtin;refine wpList_append_own _ rfl _ _ 27 rfl W.heap.size 3 i0 (.int .i64 0) 1 8 Tryz.underlying27 hi hz0 hz1 hz2 rfl (by decide) _ _ _ rfl (hown.alloc _) ⟨X.heap.size,0,none⟩ 1 1 [.int .i64 s] rfl rfl (cell_news _ _ _) (by simp [Value.oneCell']) (by unfold maxLen;omega) (by omega) (by rw [World.size_alloc];have:=HXS.out;have:=HG1.out.size;omega) ?_;intro v' w2 hown' hgrow _)
      go_roundg gk
      case measure=>omega
      case rel=>exact ⟨r+1,_,L1++[s],_,by omega,by first | rw [hwr] | rfl | simp,rfl,Lib.hid (by rw [List.length_append];exact HU2.out),Lib.hid (by unfold OwI;rw [nI_app,List.map_append,List.length_append,nI_len];exact hown'),Lib.hid ((HR2.out.kept (World.grownBy_alloc _ _ none) (by simp)).kept hgrow (fun e=>HNE.out e)),HW2,Lib.hid (grown_trans (grown_trans HG2.out (World.grownBy_alloc _ _ none) (fun j hj=>by cases hj)) hgrow (fun j hj=>.inr (World.ownsRow.lt hown j hj).1))⟩
end Go.Proofs.YtioahgklplbinaaGreatDoor
