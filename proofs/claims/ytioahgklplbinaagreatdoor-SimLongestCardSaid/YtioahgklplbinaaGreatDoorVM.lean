/- VMath, VTrip, VCnt, VSc, in one text. -/
import Derived.Test.YtioahgklplbinaaGreatDoorPURE
namespace WrM
open SetM RxM
inductive Ns where
 | mk (kind:Nat) (sl:List Sp) (kids:List Ns) (mn mx:Int)
def Ns.kind : Ns → Nat
 | .mk k _ _ _ _=>k
def Ns.kids : Ns → List Ns
 | .mk _ _ kids _ _=>kids
def hexd (d:Nat):Int:=if d < 10 then 48+d else 87+d
def digF (b n:Nat):List Int:=if _h:n < b∨b < 2 then [hexd n] else digF b (n / b)++[hexd (n % b)]
termination_by n
decreasing_by
 exact Nat.div_lt_self (by omega) (by omega)
def scT (c:Int):List Int:=[92,120,123]++(digF 16 c.toNat++[125])
def spT (s:Sp):List Int:=scT s.1++45::scT s.2
def noneT:List Int:=[91,94,92,120,123,48,125,45,92,120,123,49,48,102,102,102,102,125,93]
def clsT (l:List Sp):List Int:=if l=[] then noneT else 91::(l.flatMap spT++[93])
def timesT (mn mx:Int):List Int:=123::(digF 10 mn.toNat++44::((if mx = -1 then [] else digF 10 mx.toNat)++[125]))
mutual
def txt : Ns → List Int
 | .mk k sl kids mn mx =>
  if k=0 then [40,41] else if k=1 then clsT sl else if k=2 then kidsT [2,3] [] kids
  else if k=3 then (kidsT [3] [124] kids).tail else if k=4 then kidsT [2,3,4] [] kids++timesT mn mx else []
def kidsT (ks : List Nat) (sep : List Int) : List Ns → List Int
 | []=>[]
 | x::l=>sep++((if ks.contains x.kind then 40::(txt x++[41]) else txt x)++kidsT ks sep l)
end
def Norml (l:List Sp):Prop:=Nf l∧∀ r,Mem l r→Sc r
def Shape (k:Nat) (sl:List Sp) (n:Nat) (mn mx:Int):Prop :=
 (k=0∧sl=[]∧n=0∧mn=0∧mx=0)∨(k=1∧n=0∧mn=0∧mx=0∧Norml sl)∨((k=2∨k=3)∧2≤n∧sl=[]∧mn=0∧mx=0) ∨
 (k=4∧n=1∧sl=[]∧(0≤mn∧mn≤20)∧(mx = -1∨(mn≤mx∧mx≤20)))
mutual
def Shp : Ns → Prop
 | .mk k sl kids mn mx=>Shape k sl kids.length mn mx∧ShpL kids
def ShpL : List Ns → Prop
 | []=>True
 | x::l=>Shp x∧ShpL l
end
mutual
def dep : Ns → Nat
 | .mk _ _ kids _ _=>depL kids
def depL : List Ns → Nat
 | []=>0
 | x::l=>max (dep x+1) (depL l)
end
theorem shp_mk (k:Nat) (sl:List Sp) (kids:List Ns) (mn mx:Int):Shp (.mk k sl kids mn mx)↔Shape k sl kids.length mn mx∧ShpL kids:=by rw [Shp]
theorem shpL_iff : ∀ (l : List Ns), ShpL l ↔ ∀ x ∈ l, Shp x
 | []=>by rw [ShpL];simp
 | x::l=>by rw [ShpL,shpL_iff l];simp
theorem dep_mk (k:Nat) (sl:List Sp) (kids:List Ns) (mn mx:Int):dep (.mk k sl kids mn mx)=depL kids:=by rw [dep]
theorem depL_nil:depL []=0:=by rw [depL]
theorem depL_cons (x:Ns) (l:List Ns):depL (x::l)=max (dep x+1) (depL l):=by rw [depL]
theorem depL_append : ∀ (a b : List Ns), depL (a ++ b) = max (depL a) (depL b)
 | [],b=>by rw [depL_nil];simp
 | x::a,b=>by rw [List.cons_append,depL_cons,depL_cons,depL_append a b];omega
theorem depL_mem : ∀ (l : List Ns) (x : Ns), x ∈ l → dep x + 1 ≤ depL l
 | [],_,h=>by cases h
 | y::l,x,h=>by
  rw [depL_cons]
  rcases List.mem_cons.1 h with rfl | h
  ·omega
  ·have:=depL_mem l x h;omega
def SndAt (t:Ns) (d:Nat):Prop:=Shp t∧d+dep t≤20
noncomputable def sndB (t:Ns) (d:Nat):Bool:=@decide (SndAt t d) (Classical.propDecidable _)
theorem sndB_true {t:Ns} {d:Nat}:sndB t d=true↔SndAt t d:=by unfold sndB;exact @decide_eq_true_iff _ (Classical.propDecidable _)
mutual
def nd : Ns → Nd
 | .mk k sl kids mn mx=>.mk k (Mem sl) (ndL kids) mn mx
def ndL : List Ns → List Nd
 | []=>[]
 | x::l=>nd x::ndL l
end
theorem nd_mk (k:Nat) (sl:List Sp) (kids:List Ns) (mn mx:Int):nd (.mk k sl kids mn mx)=.mk k (Mem sl) (ndL kids) mn mx:=by rw [nd]
theorem ndL_eq : ∀ (l : List Ns), ndL l = l.map nd
 | []=>by rw [ndL];rfl
 | x::l=>by rw [ndL,ndL_eq l];rfl
mutual
def Nfs : Ns → Prop
 | .mk _ sl kids _ _=>Nf sl∧NfsL kids
def NfsL : List Ns → Prop
 | []=>True
 | x::l=>Nfs x∧NfsL l
end
end WrM
namespace WrM
open SetM RxM
theorem norml_ends {l:List Sp} (h:Norml l):∀ s∈l,Sc s.1∧Sc s.2∧s.1≤s.2:=by
 have hle:∀ (l:List Sp),Nf l→∀ s∈l,s.1≤s.2:=by
  intro l
  induction l with
  | nil=>intro _ s hs;cases hs
  | cons a t ih =>
   intro hn s hs
   rcases List.mem_cons.1 hs with rfl | hs
   ·exact hn.1
   ·exact ih hn.2.2 s hs
 intro s hs
 have:=hle l h.1 s hs
 exact ⟨h.2 _ ⟨s,hs,by omega,by omega⟩,h.2 _ ⟨s,hs,by omega,by omega⟩,this⟩
section
variable {F:Nat} {D:List Df}
end
def wholeF (D:List Df) (r:List Int):Out Nd :=
 match altF D 20 false r with
 | .err e x=>.err e x
 | .ok x r1=>if r1=[] then .ok x [] else .err 60 r1
end WrM
namespace WrM
open SetM RxM
mutual
def cntN : Nd → Nat
 | .mk _ _ kids _ _=>1+cntL kids
def cntL : List Nd → Nat
 | []=>0
 | x::l=>cntN x+cntL l
end
theorem cntN_mk (k:Nat) (K:Int→Prop) (kids:List Nd) (mn mx:Int):cntN (.mk k K kids mn mx)=1+cntL kids:=by rw [cntN]
theorem cntL_nil:cntL []=0:=by rw [cntL]
theorem cntL_cons (x:Nd) (l:List Nd):cntL (x::l)=cntN x+cntL l:=by rw [cntL]
theorem cntL_app : ∀ (a b : List Nd), cntL (a ++ b) = cntL a + cntL b
 | [],b=>by rw [cntL_nil];simp
 | x::a,b=>by rw [List.cons_append,cntL_cons,cntL_cons,cntL_app a b];omega
theorem cnt_join (k:Nat) (l:List Nd):cntN (joinF k l)≤1+cntL l∧(l.length=1→cntN (joinF k l)=cntL l):=by
 match l with
 | []=>exact ⟨by show cntN (.mk 0 none0 [] 0 0)≤_;rw [cntN_mk];omega,fun h=>by simp at h⟩
 | [x]=>exact ⟨by show cntN x≤_;rw [cntL_cons];omega,fun _=>by show cntN x=_;rw [cntL_cons,cntL_nil];omega⟩
 | x::y::l=>exact ⟨by show cntN (.mk k none0 (x::y::l) 0 0)≤_;rw [cntN_mk];omega,fun h=>by simp at h⟩
def Bd1 (f:List Int→Out Nd):Prop:=∀ r x r',f r=.ok x r'→cntN x+7*r'.length≤7*r.length+1
def Bd0 (f:List Int→Out Nd):Prop:=∀ r x r',f r=.ok x r'→cntN x+7*r'.length+1≤7*r.length
theorem bd_rep : ∀ (f : Nat) (x y : Nd) (r r' : List Int), repL f x r = .ok y r' → cntN y + 7 * r'.length ≤ cntN x + 7 * r.length
 | 0,_,_,_,_,h=>by simp [repL] at h
 | f+1,x,y,r,r',h=>by
  unfold repL at h
  split at h
  ·cases h
  ·rename_i h1;cases h;rw [times_none h1];omega
  ·rename_i h1
   have h2:=times_len h1
   have h3:=bd_rep f _ _ _ _ h
   rw [cntN_mk,cntL_cons,cntL_nil] at h3
   omega
theorem bd_inner {f:Bool→List Int→Out Nd} (hf:∀ cl,Bd1 (f cl)) {cl:Bool} {r r':List Int} {x:Nd} (h:innerF f cl r=.ok x r'):cntN x+7*r'.length+6≤7*r.length:=by
 unfold innerF at h
 split at h
 ·cases h
 ·rename_i y r1 h1
  split at h
  ·cases h
  ·rename_i r2 h2
   cases h
   have:=hf cl _ _ _ h1
   have e2:=congrArg List.length (need_ok h2)
   simp at e2;omega
theorem bd_group {f:Bool→List Int→Out Nd} (hf:∀ cl,Bd1 (f cl)) {cl:Bool} {r r':List Int} {x:Nd} (h:groupF f cl r=.ok x r'):cntN x+7*r'.length+6≤7*r.length:=by
 unfold groupF at h
 split at h
 ·split at h
  ·rename_i h1 h2
   have:=tail_lt h1
   have:=tail_lt h2.1
   have:=tail_lt h2.2
   have:=bd_inner hf h
   omega
  ·cases h
 ·exact bd_inner hf h
theorem bd_atom {D:List Df} (hD:∀ d∈D,cntN d.2.1≤5∧cntN d.2.2≤5) {f:Option (Bool→List Int→Out Nd)} (hf:∀ g,f=some g→∀ cl,Bd1 (g cl)) {cl:Bool}:Bd0 (atomF D f cl):=by
 have hch:∀ (cl:Bool) (K:Int→Prop),cntN (chN cl K)=1:=fun cl K=>by unfold chN;rw [cntN_mk,cntL_nil]
 intro r x r' h
 cases r with
 | nil=>simp [atomF] at h
 | cons c t =>
  simp only [atomF] at h
  split at h
  ·split at h
   ·cases h
   ·rename_i g;have:=bd_group (hf g rfl) h;simp;omega
  split at h
  ·have hl := named_len h
   have hc:cntN x≤5:=by
    cases t with
    | nil=>simp [namedF] at h
    | cons c' t =>
     simp only [namedF] at h
     split at h
     ·split at h
      ·cases h
      ·split at h
       ·cases h
       ·rename_i h3
        cases h
        unfold findF at h3
        split at h3
        ·cases h3
        ·rename_i d h4
         have:=hD d (List.mem_of_find?_eq_some h4)
         cases h3
         split
         ·exact this.2
         ·exact this.1
     ·cases h
   simp;omega
  split at h
  ·split at h
   ·cases h
   ·rename_i h1;cases h;have:=class_len h1;rw [hch];simp;omega
  split at h
  ·split at h
   ·cases h
   ·rename_i h1;cases h;have:=esc_len h1;rw [hch];simp;omega
  split at h
  ·cases h;rw [hch];simp;omega
  ·cases h;rw [hch];simp;omega
theorem bd_catL {atom : List Int → Out Nd} (ha : Bd0 atom) : ∀ (f : Nat) (acc l : List Nd) (r r' : List Int), catL atom f acc r = .ok l r' → cntL l + l.length + 7 * r'.length ≤ cntL acc + acc.length + 7 * r.length
 | 0,_,_,_,_,h=>by simp [catL] at h
 | f+1,acc,l,r,r',h=>by
  unfold catL at h
  split at h
  ·cases h;omega
  ·split at h
   ·cases h
   ·rename_i h1
    split at h
    ·cases h
    ·rename_i h2
     have h3:=ha _ _ _ h1
     have h4:=bd_rep _ _ _ _ _ h2
     have h5:=bd_catL ha f _ _ _ _ h
     rw [cntL_app,cntL_cons,cntL_nil,List.length_append] at h5
     simp at h5
     omega
theorem bd_cat {atom:List Int→Out Nd} (ha:Bd0 atom):Bd1 (catF atom):=by
 intro r x r' h
 unfold catF at h
 split at h
 ·cases h
 ·rename_i l r1 h1
  cases h
  have h2:=bd_catL ha _ _ _ _ _ h1
  have h3:=cnt_join 2 l
  rw [cntL_nil] at h2
  simp at h2
  omega
theorem bd_altL {cat : List Int → Out Nd} (hc : Bd1 cat) : ∀ (f : Nat) (acc l : List Nd) (r r' : List Int), altL cat f acc r = .ok l r' → cntL l + l.length + 7 * r'.length ≤ cntL acc + acc.length + 7 * r.length ∧ acc.length ≤ l.length
 | 0,_,_,_,_,h=>by simp [altL] at h
 | f+1,acc,l,r,r',h=>by
  unfold altL at h
  split at h
  ·rename_i h0
   have:=tail_lt h0
   split at h
   ·cases h
   ·rename_i h1
    have h3:=hc _ _ _ h1
    have h5:=bd_altL hc f _ _ _ _ h
    rw [cntL_app,cntL_cons,cntL_nil,List.length_append] at h5
    simp at h5
    omega
  ·cases h;omega
theorem bd_altB {cat:List Int→Out Nd} (hc:Bd1 cat):Bd1 (altB cat):=by
 intro r x r' h
 unfold altB at h
 split at h
 ·cases h
 ·rename_i h1
  split at h
  ·cases h
  ·rename_i l r2 h2
   cases h
   have h3:=hc _ _ _ h1
   have h4:=bd_altL hc _ _ _ _ _ h2
   rw [cntL_cons,cntL_nil] at h4
   have h5:=cnt_join 3 l
   simp at h4
   by_cases e:l.length=1
   ·rw [h5.2 e];omega
   ·omega
theorem bd_alt {D : List Df} (hD : ∀ d ∈ D, cntN d.2.1 ≤ 5 ∧ cntN d.2.2 ≤ 5) : ∀ (n : Nat) (cl : Bool), Bd1 (altF D n cl)
 | 0,cl=>bd_altB (bd_cat (bd_atom hD (by simp)))
 | n+1,cl=>bd_altB (bd_cat (bd_atom hD (by rintro g hg c;cases hg;exact bd_alt hD n c)))
mutual
def Lim (M : Nat) : Ns → Prop
 | .mk _ sl kids _ _=>sl.length≤M∧LimL M kids
def LimL (M : Nat) : List Ns → Prop
 | []=>True
 | x::l=>Lim M x∧LimL M l
end
theorem lim_mk (M k:Nat) (sl:List Sp) (kids:List Ns) (mn mx:Int):Lim M (.mk k sl kids mn mx)↔sl.length≤M∧LimL M kids:=by rw [Lim]
theorem limL_iff (M : Nat) : ∀ (l : List Ns), LimL M l ↔ ∀ x ∈ l, Lim M x
 | []=>by rw [LimL];simp
 | x::l=>by rw [LimL,limL_iff M l];simp
end WrM
namespace WrM
open SetM RxM
mutual
def ScN : Nd → Prop
 | .mk _ K kids _ _=>(∀ r,K r→Sc r)∧ScL kids
def ScL : List Nd → Prop
 | []=>True
 | x::l=>ScN x∧ScL l
end
theorem scN_mk (k:Nat) (K:Int→Prop) (kids:List Nd) (mn mx:Int):ScN (.mk k K kids mn mx)↔(∀ r,K r→Sc r)∧ScL kids:=by rw [ScN]
theorem scL_nil:ScL []:=by rw [ScL];trivial
theorem scL_cons (x:Nd) (l:List Nd):ScL (x::l)↔ScN x∧ScL l:=by rw [ScL]
theorem scL_app : ∀ (a b : List Nd), ScL a → ScL b → ScL (a ++ b)
 | [],_,_,hb=>hb
 | x::a,b,ha,hb=>by
  rw [scL_cons] at ha
  rw [List.cons_append,scL_cons]
  exact ⟨ha.1,scL_app a b ha.2 hb⟩
theorem sc_none:∀ r,none0 r→Sc r:=fun _ h=>h.elim
theorem sc_empty:ScN (.mk 0 none0 [] 0 0):=by rw [scN_mk];exact ⟨sc_none,scL_nil⟩
theorem sc_join (k:Nat) (l:List Nd) (h:ScL l):ScN (joinF k l):=by
 match l,h with
 | [],_=>exact sc_empty
 | [x],h=>rw [scL_cons] at h;exact h.1
 | x::y::l,h=>show ScN (.mk k none0 (x::y::l) 0 0);rw [scN_mk];exact ⟨sc_none,h⟩
theorem sc_chN (cl:Bool) {K:Int→Prop} (h:∀ r,K r→Sc r):ScN (chN cl K):=by
 unfold chN
 rw [scN_mk]
 refine ⟨fun r hr=>?_,scL_nil⟩
 cases cl with
 | true=>exact hr.1
 | false=>exact h r hr
def Sf (f:List Int→Out Nd):Prop:=∀ r x r',f r=.ok x r'→ScN x
theorem sc_rep : ∀ (f : Nat) (x y : Nd) (r r' : List Int), ScN x → repL f x r = .ok y r' → ScN y
 | 0,_,_,_,_,_,h=>by simp [repL] at h
 | f+1,x,y,r,r',hx,h=>by
  unfold repL at h
  split at h
  ·cases h
  ·cases h;exact hx
  ·exact sc_rep f _ _ _ _ (by rw [scN_mk];exact ⟨sc_none,(scL_cons _ _).2 ⟨hx,scL_nil⟩⟩) h
theorem sc_inner {f:Bool→List Int→Out Nd} (hf:∀ cl,Sf (f cl)) {cl:Bool} {r r':List Int} {x:Nd} (h:innerF f cl r=.ok x r'):ScN x:=by
 unfold innerF at h
 split at h
 ·cases h
 ·rename_i y r1 h1
  split at h
  ·cases h
  ·cases h
   exact hf cl _ _ _ h1
theorem sc_group {f:Bool→List Int→Out Nd} (hf:∀ cl,Sf (f cl)) {cl:Bool} {r r':List Int} {x:Nd} (h:groupF f cl r=.ok x r'):ScN x:=by
 unfold groupF at h
 split at h
 ·split at h
  ·exact sc_inner hf h
  ·cases h
 ·exact sc_inner hf h
theorem sc_tells (l:List Sp):∀ r,Tells l r→Sc r:=fun _ h=>h.1
theorem sc_class {r r':List Int} {K:Int→Prop} (h:classF r=.ok K r'):∀ c,K c→Sc c:=by
 unfold classF at h
 split at h
 ·split at h
  ·cases h
  ·cases h;exact fun c hc=>hc.1
 ·split at h
  ·cases h
  ·cases h;exact fun c hc=>hc.1
theorem sc_atom {D:List Df} (hD:∀ d∈D,ScN d.2.1∧ScN d.2.2) {f:Option (Bool→List Int→Out Nd)} (hf:∀ g,f=some g→∀ cl,Sf (g cl)) {cl:Bool}:Sf (atomF D f cl):=by
 intro r x r' h
 cases r with
 | nil=>simp [atomF] at h
 | cons c t =>
  simp only [atomF] at h
  split at h
  ·split at h
   ·cases h
   ·rename_i g;exact sc_group (hf g rfl) h
  split at h
  ·cases t with
   | nil=>simp [namedF] at h
   | cons c' t =>
    simp only [namedF] at h
    split at h
    ·split at h
     ·cases h
     ·split at h
      ·cases h
      ·rename_i h3
       cases h
       unfold findF at h3
       split at h3
       ·cases h3
       ·rename_i d h4
        have:=hD d (List.mem_of_find?_eq_some h4)
        cases h3
        split
        ·exact this.2
        ·exact this.1
    ·cases h
  split at h
  ·split at h
   ·cases h
   ·rename_i h1;cases h;exact sc_chN _ (sc_class h1)
  split at h
  ·split at h
   ·cases h
   ·cases h;exact sc_chN _ (sc_tells _)
  split at h
  ·cases h;exact sc_chN _ (fun c hc=>hc.1)
  ·cases h;exact sc_chN _ (sc_tells _)
theorem sc_catL {atom : List Int → Out Nd} (ha : Sf atom) : ∀ (f : Nat) (acc l : List Nd) (r r' : List Int), ScL acc → catL atom f acc r = .ok l r' → ScL l
 | 0,_,_,_,_,_,h=>by simp [catL] at h
 | f+1,acc,l,r,r',hacc,h=>by
  unfold catL at h
  split at h
  ·cases h;exact hacc
  ·split at h
   ·cases h
   ·rename_i h1
    split at h
    ·cases h
    ·rename_i h2
     exact sc_catL ha f _ _ _ _ (scL_app _ _ hacc ((scL_cons _ _).2 ⟨sc_rep _ _ _ _ _ (ha _ _ _ h1) h2,scL_nil⟩)) h
theorem sc_cat {atom:List Int→Out Nd} (ha:Sf atom):Sf (catF atom):=by
 intro r x r' h
 unfold catF at h
 split at h
 ·cases h
 ·rename_i l r1 h1
  cases h
  exact sc_join 2 l (sc_catL ha _ _ _ _ _ scL_nil h1)
theorem sc_altL {cat : List Int → Out Nd} (hc : Sf cat) : ∀ (f : Nat) (acc l : List Nd) (r r' : List Int), ScL acc → altL cat f acc r = .ok l r' → ScL l
 | 0,_,_,_,_,_,h=>by simp [altL] at h
 | f+1,acc,l,r,r',hacc,h=>by
  unfold altL at h
  split at h
  ·split at h
   ·cases h
   ·rename_i h1
    exact sc_altL hc f _ _ _ _ (scL_app _ _ hacc ((scL_cons _ _).2 ⟨hc _ _ _ h1,scL_nil⟩)) h
  ·cases h;exact hacc
theorem sc_altB {cat:List Int→Out Nd} (hc:Sf cat):Sf (altB cat):=by
 intro r x r' h
 unfold altB at h
 split at h
 ·cases h
 ·rename_i h1
  split at h
  ·cases h
  ·rename_i l r2 h2
   cases h
   exact sc_join 3 l (sc_altL hc _ _ _ _ _ ((scL_cons _ _).2 ⟨hc _ _ _ h1,scL_nil⟩) h2)
theorem sc_alt {D : List Df} (hD : ∀ d ∈ D, ScN d.2.1 ∧ ScN d.2.2) : ∀ (n : Nat) (cl : Bool), Sf (altF D n cl)
 | 0,cl=>sc_altB (sc_cat (sc_atom hD (by simp)))
 | n+1,cl=>sc_altB (sc_cat (sc_atom hD (by rintro g hg c;cases hg;exact sc_alt hD n c)))
theorem sc_whole {D:List Df} (hD:∀ d∈D,ScN d.2.1∧ScN d.2.2) {r r':List Int} {x:Nd} (h:wholeF D r=.ok x r'):ScN x:=by
 unfold wholeF at h
 split at h
 ·cases h
 ·rename_i h1
  split at h
  ·cases h
   exact sc_alt hD _ _ _ _ _ h1
  ·cases h
mutual
def EndsN : Ns → Prop
 | .mk _ sl kids _ _=>(∀ s∈sl,Sc s.1∧Sc s.2∧s.1≤s.2)∧EndsL kids
def EndsL : List Ns → Prop
 | []=>True
 | x::l=>EndsN x∧EndsL l
end
mutual
theorem sc_ends : ∀ (u : Ns), Nfs u → ScN (nd u) → EndsN u
 | .mk k sl kids mn mx,hu,hs=>by
  rw [Nfs] at hu
  rw [nd_mk,scN_mk] at hs
  rw [EndsN]
  exact ⟨norml_ends ⟨hu.1,hs.1⟩,sc_endsL kids hu.2 hs.2⟩
theorem sc_endsL : ∀ (l : List Ns), NfsL l → ScL (ndL l) → EndsL l
 | [],_,_=>by rw [EndsL];trivial
 | x::l,hu,hs=>by
  rw [NfsL] at hu
  rw [ndL,scL_cons] at hs
  rw [EndsL]
  exact ⟨sc_ends x hu.1 hs.1,sc_endsL l hu.2 hs.2⟩
end
end WrM
