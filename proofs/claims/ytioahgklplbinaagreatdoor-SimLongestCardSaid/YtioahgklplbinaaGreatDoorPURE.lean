/- Math, FMath, PMath, RefMath, UnionMath, UMath, FOrbM, RMath, RStab, RClassM, RLawM, in one text. -/
namespace SetM
abbrev Sp:=Int×Int
def Mem (l:List Sp) (r:Int):Prop:=∃ s∈l,s.1≤r∧r≤s.2
def Sc (r:Int):Prop:=(0≤r∧r≤55295)∨(57344≤r∧r≤1114111)
def Tells (l:List Sp) (r:Int):Prop:=Sc r∧Mem l r
def Nf : List Sp → Prop
 | []=>True
 | s::t=>s.1≤s.2∧(∀ u∈t,s.2+1 < u.1)∧Nf t
instance (r:Int):Decidable (Sc r):=by unfold Sc;infer_instance
instance (l:List Sp) (r:Int):Decidable (Mem l r):=by unfold Mem;infer_instance
instance (l:List Sp) (r:Int):Decidable (Tells l r):=by unfold Tells;infer_instance
theorem mem_nil (r:Int):¬ Mem [] r:=by simp [Mem]
theorem mem_cons (s:Sp) (t:List Sp) (r:Int):Mem (s::t) r↔(s.1≤r∧r≤s.2)∨Mem t r:=by simp [Mem]
theorem mem_append (s t:List Sp) (r:Int):Mem (s++t) r↔Mem s r∨Mem t r:=by
 unfold Mem;constructor
 ·rintro ⟨x, hx, h⟩; rcases List.mem_append.1 hx with h1 | h1
  ·exact .inl ⟨x,h1,h⟩
  ·exact .inr ⟨x,h1,h⟩
 ·rintro (⟨x, hx, h⟩ | ⟨x, hx, h⟩)
  ·exact ⟨x,List.mem_append.2 (.inl hx),h⟩
  ·exact ⟨x,List.mem_append.2 (.inr hx),h⟩
theorem mem_flatten (l:List (List Sp)) (r:Int):Mem l.flatten r↔∃ a∈l,Mem a r:=by
 induction l with
 | nil=>simp [mem_nil]
 | cons a t ih=>rw [List.flatten_cons,mem_append,ih];simp
theorem nf_beyond {s:Sp} {t:List Sp} (h:Nf (s::t)) {r:Int} (hr:Mem t r):s.2+1 < r:=by
 obtain ⟨u,hu,h1,_⟩:=hr
 have:=h.2.1 u hu
 omega
theorem nf_unique : ∀ (a b : List Sp), Nf a → Nf b → (∀ r, Mem a r ↔ Mem b r) → a = b
 | [],[],_,_,_=>rfl
 | [],s::t,_,hb,h=>absurd ((h s.1).2 ⟨s,by simp,Int.le_refl _,hb.1⟩) (mem_nil _)
 | s::t,[],ha,_,h=>absurd ((h s.1).1 ⟨s,by simp,Int.le_refl _,ha.1⟩) (mem_nil _)
 | s::t,u::v,ha,hb,h=>by
  have a1:=ha.1
  have b1:=hb.1
  have key:∀ {s u:Sp} {t v:List Sp},Nf (s::t)→Nf (u::v)→(∀ r,Mem (s::t) r↔Mem (u::v) r)→u.1≤s.1:=by
   intro s u t v ha hb h
   rcases (mem_cons u v s.1).1 ((h s.1).1 ((mem_cons s t s.1).2 (.inl ⟨Int.le_refl _,ha.1⟩))) with h1 | h1
   ·exact h1.1
   ·have:=nf_beyond hb h1;have:=hb.1;omega
  have e1:s.1=u.1:=Int.le_antisymm (key hb ha (fun r=>(h r).symm)) (key ha hb h)
  have key2:∀ {s u:Sp} {t v:List Sp},Nf (s::t)→Nf (u::v)→s.1=u.1→(∀ r,Mem (s::t) r↔Mem (u::v) r)→u.2≤s.2:=by
   intro s u t v ha hb e h
   rcases Int.lt_or_le s.2 u.2 with hlt | hle
   ·have h0 := ha.1
    rcases (mem_cons s t (s.2+1)).1 ((h (s.2+1)).2 ((mem_cons u v _).2 (.inl ⟨by omega,by omega⟩))) with h1 | h1
    ·omega
    ·have:=nf_beyond ha h1;omega
   ·exact hle
  have e2:s.2=u.2:=Int.le_antisymm (key2 hb ha e1.symm (fun r=>(h r).symm)) (key2 ha hb e1 h)
  obtain rfl:s=u:=Prod.ext e1 e2
  rw [nf_unique t v ha.2.2 hb.2.2 (fun r=>?_)]
  constructor
  ·intro hr
   have hb2:=nf_beyond ha hr
   rcases (mem_cons s v r).1 ((h r).1 ((mem_cons s t r).2 (.inr hr))) with h1 | h1
   ·omega
   ·exact h1
  ·intro hr
   have hb2:=nf_beyond hb hr
   rcases (mem_cons s t r).1 ((h r).2 ((mem_cons s v r).2 (.inr hr))) with h1 | h1
   ·omega
   ·exact h1
def endsOf (s:Sp):List Sp :=
 if s.2 < max s.1 0 then [] else
  (if max s.1 0 ≤ min s.2 55295 then [(max s.1 0, min s.2 55295)] else []) ++
   (if s.2 < max s.1 57344 then [] else if max s.1 57344≤min s.2 1114111 then [(max s.1 57344,min s.2 1114111)] else [])
def endsL (l:List Sp):List Sp:=l.flatMap endsOf
theorem mem_endsOf (s:Sp) (r:Int):Mem (endsOf s) r↔Sc r∧s.1≤r∧r≤s.2:=by
 unfold endsOf Sc
 split
 ·simp [Mem];omega
 ·rw [mem_append]
  have e1:Mem (if max s.1 0≤min s.2 55295 then [(max s.1 0,min s.2 55295)] else []) r↔(0≤r∧r≤55295)∧s.1≤r∧r≤s.2:=by
   split
   ·simp [Mem];omega
   ·simp [Mem];omega
  have e2:Mem (if s.2 < max s.1 57344 then [] else if max s.1 57344≤min s.2 1114111 then [(max s.1 57344,min s.2 1114111)] else []) r↔(57344≤r∧r≤1114111)∧s.1≤r∧r≤s.2:=by
   split
   ·simp [Mem];omega
   ·split
    ·simp [Mem];omega
    ·simp [Mem];omega
  rw [e1,e2]
  omega
theorem mem_endsL (l:List Sp) (r:Int):Mem (endsL l) r↔Tells l r:=by
 induction l with
 | nil=>simp [endsL,mem_nil,Tells]
 | cons s t ih =>
  have:endsL (s::t)=endsOf s++endsL t:=rfl
  rw [this,mem_append,ih,mem_endsOf]
  unfold Tells
  rw [mem_cons]
  constructor
  ·rintro (⟨h1, h2⟩ | ⟨h1, h2⟩)
   ·exact ⟨h1,.inl h2⟩
   ·exact ⟨h1,.inr h2⟩
  ·rintro ⟨h1, h2 | h2⟩
   ·exact .inl ⟨h1,h2⟩
   ·exact .inr ⟨h1,h2⟩
theorem endsOf_in (s e:Sp) (h:e∈endsOf s):0≤e.1∧e.1≤e.2∧e.2≤1114111:=by
 unfold endsOf at h
 split at h
 ·simp at h
 ·rcases List.mem_append.1 h with h | h
  ·split at h
   ·simp at h;subst h;refine ⟨?_,?_,?_⟩ <;> simp only [] <;> omega
   ·simp at h
  ·split at h
   ·simp at h
   ·split at h
    ·simp at h;subst h;refine ⟨?_,?_,?_⟩ <;> simp only [] <;> omega
    ·simp at h
theorem endsL_in (l:List Sp) (e:Sp) (h:e∈endsL l):0≤e.1∧e.1≤e.2∧e.2≤1114111:=by
 obtain ⟨s,_,hs⟩:=List.mem_flatMap.1 h
 exact endsOf_in s e hs
theorem endsOf_len (s:Sp):(endsOf s).length≤2:=by
 unfold endsOf;split
 ·simp
 ·rw [List.length_append]
  have e1:(if max s.1 0≤min s.2 55295 then [(max s.1 0,min s.2 55295)] else []).length≤1:=by split <;> simp
  have e2:(if s.2 < max s.1 57344 then [] else if max s.1 57344≤min s.2 1114111 then [(max s.1 57344,min s.2 1114111)] else []).length≤1:=by
   split
   ·simp
   ·split <;> simp
  omega
theorem endsL_len (l:List Sp):(endsL l).length≤2*l.length:=by
 induction l with
 | nil=>simp [endsL]
 | cons s t ih =>
  have:endsL (s::t)=endsOf s++endsL t:=rfl
  rw [this,List.length_append,List.length_cons]
  have:=endsOf_len s
  omega
abbrev Mk:=Int×Int×Int
def marksOf (side:Int) (x:Sp):List Mk:=[(x.1,side,1),(x.2+1,side,-1)]
def rawOf (side:Int) (e:List Sp):List Mk:=e.flatMap (marksOf side)
def raw (a b:List Sp):List Mk:=rawOf 0 (endsL a)++rawOf 1 (endsL b)
def D : List Mk → Int → Int → Int
 | [],_,_=>0
 | m::t,k,r=>(if m.2.1=k∧m.1≤r then m.2.2 else 0)+D t k r
theorem D_append (a b:List Mk) (k r:Int):D (a++b) k r=D a k r+D b k r:=by
 induction a with
 | nil=>simp [D]
 | cons m t ih=>simp only [List.cons_append,D,ih];omega
theorem D_perm {a b:List Mk} (h:List.Perm a b) (k r:Int):D a k r=D b k r:=by
 induction h with
 | nil=>rfl
 | cons x _ ih=>simp only [D,ih]
 | swap x y l=>simp only [D];omega
 | trans _ _ i1 i2=>exact i1.trans i2
theorem D_far {l:List Mk} {k r:Int} (h:∀ m∈l,r < m.1):D l k r=0:=by
 induction l with
 | nil=>rfl
 | cons m t ih =>
  have h1:=h m (by simp)
  rw [D,ih (fun x hx=>h x (by simp [hx])),if_neg (by omega)];rfl
theorem D_same {l:List Mk} {k r s:Int} (h:∀ m∈l,m.1≤r↔m.1≤s):D l k r=D l k s:=by
 induction l with
 | nil=>rfl
 | cons m t ih =>
  have h1:=h m (by simp)
  rw [D,D,ih (fun x hx=>h x (by simp [hx]))]
  by_cases e:m.2.1=k∧m.1≤r
  ·rw [if_pos e,if_pos ⟨e.1,h1.1 e.2⟩]
  ·rw [if_neg e,if_neg (fun e2=>e ⟨e2.1,h1.2 e2.2⟩)]
theorem D_rawOf (side k r:Int) (e:List Sp) (h:∀ x∈e,x.1≤x.2):0≤D (rawOf side e) k r∧(0 < D (rawOf side e) k r↔side=k∧Mem e r):=by
 induction e with
 | nil=>simp [rawOf,D,mem_nil]
 | cons x t ih =>
  have hx:=h x (by simp)
  obtain ⟨i1,i2⟩:=ih (fun y hy=>h y (by simp [hy]))
  have e1:rawOf side (x::t)=marksOf side x++rawOf side t:=rfl
  rw [e1,D_append,mem_cons]
  have e2:D (marksOf side x) k r=if side=k∧x.1≤r∧r≤x.2 then 1 else 0:=by
   simp only [marksOf,D]
   by_cases hs:side=k
   ·by_cases h1 : x.1 ≤ r
    ·by_cases h2 : x.2 + 1 ≤ r
     ·rw [if_pos ⟨hs,h1⟩,if_pos ⟨hs,h2⟩,if_neg (by omega)];rfl
     ·rw [if_pos ⟨hs,h1⟩,if_neg (by omega),if_pos ⟨hs,h1,by omega⟩];rfl
    ·rw [if_neg (by omega),if_neg (by omega),if_neg (by omega)];rfl
   ·rw [if_neg (by omega),if_neg (by omega),if_neg (by omega)];rfl
  rw [e2]
  by_cases hc:side=k∧x.1≤r∧r≤x.2
  ·rw [if_pos hc]
   exact ⟨by omega,fun _=>⟨hc.1,.inl hc.2⟩,fun _=>by omega⟩
  ·rw [if_neg hc]
   refine ⟨by omega,fun hp=>?_,fun hp=>?_⟩
   ·have:=i2.1 (by omega);exact ⟨this.1,.inr this.2⟩
   ·rcases hp.2 with h2 | h2
    ·exact absurd ⟨hp.1,h2⟩ hc
    ·have:=i2.2 ⟨hp.1,h2⟩;omega
theorem D_raw0 (a b:List Sp) (r:Int):0 < D (raw a b) 0 r↔Tells a r:=by
 have h0:=D_rawOf 0 0 r (endsL a) (fun x hx=>(endsL_in a x hx).2.1)
 have h1:=D_rawOf 1 0 r (endsL b) (fun x hx=>(endsL_in b x hx).2.1)
 unfold raw
 rw [D_append,← mem_endsL]
 have:¬ 0 < D (rawOf 1 (endsL b)) 0 r:=fun h=>absurd (h1.2.1 h).1 (by omega)
 constructor
 ·intro h;exact (h0.2.1 (by omega)).2
 ·intro h;have:=h0.2.2 ⟨rfl,h⟩;omega
theorem D_raw1 (a b:List Sp) (r:Int):0 < D (raw a b) 1 r↔Tells b r:=by
 have h0:=D_rawOf 0 1 r (endsL a) (fun x hx=>(endsL_in a x hx).2.1)
 have h1:=D_rawOf 1 1 r (endsL b) (fun x hx=>(endsL_in b x hx).2.1)
 unfold raw
 rw [D_append,← mem_endsL]
 have:¬ 0 < D (rawOf 0 (endsL a)) 1 r:=fun h=>absurd (h0.2.1 h).1 (by omega)
 constructor
 ·intro h;exact (h1.2.1 (by omega)).2
 ·intro h;have:=h1.2.2 ⟨rfl,h⟩;omega
def Good (m:Mk):Prop:=0≤m.1∧m.1≤1114112∧(m.2.1=0∨m.2.1=1)∧(m.2.2=1∨m.2.2 = -1)
theorem good_rawOf {side:Int} (hs:side=0∨side=1) {l:List Sp} {m:Mk} (h:m∈rawOf side (endsL l)):Good m:=by
 obtain ⟨x,hx,hm⟩:=List.mem_flatMap.1 h
 obtain ⟨h1,h2,h3⟩:=endsL_in l x hx
 simp only [marksOf,List.mem_cons,List.not_mem_nil,or_false] at hm
 rcases hm with rfl | rfl
 ·exact ⟨h1,by show x.1≤1114112;omega,hs,.inl rfl⟩
 ·exact ⟨by show 0≤x.2+1;omega,by show x.2+1≤1114112;omega,hs,.inr rfl⟩
theorem good_raw {a b:List Sp} {m:Mk} (h:m∈raw a b):Good m:=by
 rcases List.mem_append.1 h with h | h
 ·exact good_rawOf (.inl rfl) h
 ·exact good_rawOf (.inr rfl) h
theorem rawOf_len (side:Int) (e:List Sp):(rawOf side e).length=2*e.length:=by
 induction e with
 | nil=>rfl
 | cons x t ih =>
  have:rawOf side (x::t)=marksOf side x++rawOf side t:=rfl
  rw [this,List.length_append,ih];simp [marksOf];omega
theorem raw_len (a b:List Sp):(raw a b).length≤4*a.length+4*b.length:=by
 unfold raw
 rw [List.length_append,rawOf_len,rawOf_len]
 have:=endsL_len a;have:=endsL_len b;omega
structure CS where
 d0:Int
 d1:Int
 on:Bool
 start:Int
 out:List Sp
def d0Of (st:CS) (m:Mk):Int:=if m.2.1=0 then st.d0+m.2.2 else st.d0
def d1Of (st:CS) (m:Mk):Int:=if m.2.1=0 then st.d1 else st.d1+m.2.2
def sameNext (m : Mk) : Option Mk → Bool
 | none=>false
 | some x=>x.1 == m.1
def cstep (keep:Bool→Bool→Bool) (st:CS) (m:Mk) (nx:Option Mk):CS :=
  if sameNext m nx=true then { st with d0:=d0Of st m,d1:=d1Of st m }
  else
    { d0:=d0Of st m,d1:=d1Of st m,on:=keep (decide (0 < d0Of st m)) (decide (0 < d1Of st m)),
      start:=if keep (decide (0 < d0Of st m)) (decide (0 < d1Of st m))=true∧st.on=false then m.1 else st.start,
      out:=if keep (decide (0 < d0Of st m)) (decide (0 < d1Of st m))=false∧st.on=true then st.out++[(st.start,m.1 - 1)] else st.out }
def crun (keep : Bool → Bool → Bool) : List Mk → CS → CS
 | [],st=>st
 | m::t,st=>crun keep t (cstep keep st m t.head?)
def Rises (l:List Mk):Prop:=l.Pairwise (fun x y=>x.1≤y.1)
theorem nf_snoc {l:List Sp} {s:Sp} (h:Nf l) (hs:s.1≤s.2) (hf:∀ u∈l,u.2+1 < s.1):Nf (l++[s]):=by
 induction l with
 | nil=>exact ⟨hs,by simp,trivial⟩
 | cons x t ih =>
  refine ⟨h.1,fun u hu=>?_,ih h.2.2 (fun u hu=>hf u (by simp [hu]))⟩
  rcases List.mem_append.1 hu with h1 | h1
  ·exact h.2.1 u h1
  ·simp at h1;subst h1;exact hf x (by simp)
structure Inv (K : Int → Bool) (p : Int) (on : Bool) (start : Int) (out : List Sp) : Prop where
 now:on=K p
 nf:Nf out
 opened:on=true→start≤p∧(∀ r,start≤r→r≤p→K r=true)∧(∀ s∈out,s.2+1 < start)∧∀ r,r < start→(Mem out r↔K r=true)
 shut:on=false→(∀ s∈out,s.2 < p)∧∀ r,r≤p→(Mem out r↔K r=true)
theorem inv_next {K : Int → Bool} {p q : Int} {on : Bool} {start : Int} {out : List Sp} (h : Inv K p on start out) (hpq : p < q) (hK : ∀ r, p ≤ r → r < q → K r = K p) :
  Inv K q (K q) (if K q=true∧on=false then q else start) (if K q=false∧on=true then out++[(start,q - 1)] else out):=by
 have hn:=h.now
 cases hon:on
 ·obtain ⟨h1, h2⟩ := h.shut hon
  have hb:∀ r,r < q→(Mem out r↔K r=true):=by
   intro r hr
   rcases Int.lt_or_le p r with h3 | h3
   ·rw [hK r (by omega) hr, ← hn, hon]
    refine ⟨fun ⟨s,hs,_,h5⟩=>?_,fun h=>absurd h (by simp)⟩
    have:=h1 s hs;omega
   ·exact h2 r h3
  cases hq:K q
  ·rw [if_neg (by simp), if_neg (by simp)]
   refine ⟨hq.symm,h.nf,fun h=>absurd h (by simp),fun _=>⟨fun s hs=>by have:=h1 s hs;omega,fun r hr=>?_⟩⟩
   rcases Int.lt_or_eq_of_le hr with h3 | h3
   ·exact hb r h3
   ·subst h3; rw [hq]
    refine ⟨fun ⟨s,hs,_,h5⟩=>?_,fun h=>absurd h (by simp)⟩
    have:=h1 s hs;omega
  ·rw [if_pos ⟨rfl, rfl⟩, if_neg (by simp)]
   refine ⟨hq.symm,h.nf,fun _=>⟨Int.le_refl _,fun r h3 h4=>?_,fun s hs=>by have:=h1 s hs;omega,fun r hr=>hb r hr⟩,fun h=>absurd h (by simp)⟩
   obtain rfl:r=q:=by omega
   exact hq
 ·obtain ⟨h1, h2, h3, h4⟩ := h.opened hon
  have hb:∀ r,start≤r→r < q→K r=true:=by
   intro r h5 h6
   rcases Int.lt_or_le p r with h7 | h7
   ·rw [hK r (by omega) h6,← hn,hon]
   ·exact h2 r h5 h7
  cases hq:K q
  ·rw [if_neg (by simp), if_pos ⟨rfl, rfl⟩]
   refine ⟨hq.symm,nf_snoc h.nf (by show start≤q - 1;omega) h3,fun h=>absurd h (by simp),fun _=>⟨fun s hs=>?_,fun r hr=>?_⟩⟩
   ·rcases List.mem_append.1 hs with h5 | h5
    ·have:=h3 s h5;omega
    ·simp at h5;subst h5;show q - 1 < q;omega
   ·rw [mem_append, mem_cons]
    rcases Int.lt_or_le r start with h5 | h5
    ·rw [← h4 r h5]
     constructor
     ·rintro (h6 | h6 | h6)
      ·exact h6
      ·exact absurd h6.1 (by show ¬ start≤r;omega)
      ·exact absurd h6 (mem_nil r)
     ·exact .inl
    ·rcases Int.lt_or_eq_of_le hr with h6 | h6
     ·exact ⟨fun _=>hb r h5 h6,fun _=>.inr (.inl ⟨h5,by show r≤q - 1;omega⟩)⟩
     ·subst h6; rw [hq]
      refine ⟨?_,fun h=>absurd h (by simp)⟩
      rintro (⟨s,hs,_,h7⟩ | h7 | h7)
      ·have:=h3 s hs;omega
      ·exact absurd h7.2 (by show ¬ r≤r - 1;omega)
      ·exact absurd h7 (mem_nil r)
  ·rw [if_neg (by simp), if_neg (by simp)]
   refine ⟨hq.symm,h.nf,fun _=>⟨by omega,fun r h5 h6=>?_,h3,h4⟩,fun h=>absurd h (by simp)⟩
   rcases Int.lt_or_eq_of_le h6 with h7 | h7
   ·exact hb r h5 h7
   ·subst h7;exact hq
theorem D_all {l:List Mk} {k r:Int} (m:Mk) (_h:∀ x∈l,x.1≤r) (hm:m.1≤r):D (l++[m]) k r=D l k r+if m.2.1=k then m.2.2 else 0:=by
 rw [D_append]
 simp only [D]
 by_cases e:m.2.1=k
 ·rw [if_pos ⟨e,hm⟩,if_pos e];omega
 ·rw [if_neg (fun x=>e x.1),if_neg e];omega
theorem crun_right (keep:Bool→Bool→Bool) (full:List Mk) (hg:∀ m∈full,Good m):∀ (rest pre:List Mk) (st:CS) (p:Int),full=pre++rest→Rises (pre++rest) →
  (∀ m∈rest,p < m.1)→(∀ m∈pre,m.1≤p∨∃ x,rest.head? = some x∧m.1=x.1) →
  (∀ r,(∀ m∈pre,m.1≤r)→st.d0=D pre 0 r∧st.d1=D pre 1 r) →
  Inv (fun r=>keep (decide (0 < D full 0 r)) (decide (0 < D full 1 r))) p st.on st.start st.out →
  ∃ q,(∀ m∈full,m.1≤q)∧Inv (fun r=>keep (decide (0 < D full 0 r)) (decide (0 < D full 1 r))) q (crun keep rest st).on (crun keep rest st).start (crun keep rest st).out:=by
 intro rest
 induction rest with
 | nil =>
  intro pre st p hf _ _ hp _ hi
  refine ⟨p,fun m hm=>?_,hi⟩
  rw [hf,List.append_nil] at hm
  rcases hp m hm with h | ⟨x,h,_⟩
  ·exact h
  ·cases h
 | cons m t ih =>
  intro pre st p hf hr hp hq hd hi
  have hf2:full=(pre++[m])++t:=by rw [hf];simp
  have hr2:Rises ((pre++[m])++t):=by rw [← hf2,hf];exact hr
  have hpm:=hp m (by simp)
  have hpre:∀ x∈pre,x.1≤m.1:=by
   intro x hx
   exact (List.pairwise_append.1 hr).2.2 x hx m (by simp)
  have hgm:=hg m (by rw [hf];simp)
  have hd':∀ r,(∀ x∈pre++[m],x.1≤r)→d0Of st m=D (pre++[m]) 0 r∧d1Of st m=D (pre++[m]) 1 r:=by
   intro r h
   have ha:∀ x∈pre,x.1≤r:=fun x hx=>h x (by simp [hx])
   have hm:=h m (by simp)
   obtain ⟨e0,e1⟩:=hd r ha
   rw [D_all m ha hm,D_all m ha hm,← e0,← e1]
   unfold d0Of d1Of
   rcases hgm.2.2.1 with h0 | h0 <;> rw [h0] <;> simp
  by_cases hs:sameNext m t.head? = true
  ·
   have hc:cstep keep st m t.head? = { st with d0:=d0Of st m,d1:=d1Of st m }:=by unfold cstep;rw [if_pos hs]
   have:crun keep (m::t) st=crun keep t { st with d0:=d0Of st m,d1:=d1Of st m }:=by show crun keep t (cstep keep st m t.head?)=_;rw [hc]
   rw [this]
   cases ht:t with
   | nil=>rw [ht] at hs;exact absurd hs (by simp [sameNext])
   | cons x t' =>
    rw [ht] at hs
    have hx:x.1=m.1:=by simpa [sameNext] using hs
    rw [← ht]
    refine ih (pre++[m]) _ p hf2 hr2 (fun y hy=>hp y (by simp [hy])) (fun y hy=>?_) hd' hi
    rcases List.mem_append.1 hy with h1 | h1
    ·rcases hq y h1 with h2 | ⟨z, hz, h3⟩
     ·exact .inl h2
     ·simp at hz;subst hz;exact .inr ⟨x,by rw [ht];rfl,by rw [h3,hx]⟩
    ·simp at h1;subst h1;exact .inr ⟨x,by rw [ht];rfl,hx.symm⟩
  ·
   have hbeyond:∀ y∈t,m.1 < y.1:=by
    cases ht:t with
    | nil=>simp
    | cons x t' =>
     rw [ht] at hs hr
     have hx:x.1≠m.1:=by simpa [sameNext] using hs
     have hrm:=(List.pairwise_cons.1 (List.pairwise_append.1 hr).2.1)
     have h1:=hrm.1 x (by simp)
     intro y hy
     rcases List.mem_cons.1 hy with rfl | hy
     ·omega
     ·have h2:=(List.pairwise_cons.1 hrm.2).1 y hy;omega
   have hDm:∀ k,D full k m.1=D (pre++[m]) k m.1:=by
    intro k;rw [hf2,D_append,D_far (l:=t) (fun y hy=>hbeyond y hy)];omega
   have hall:∀ x∈pre++[m],x.1≤m.1:=by
    intro x hx
    rcases List.mem_append.1 hx with h1 | h1
    ·exact hpre x h1
    ·simp at h1;subst h1;exact Int.le_refl _
   obtain ⟨e0,e1⟩:=hd' m.1 hall
   have hKm:keep (decide (0 < d0Of st m)) (decide (0 < d1Of st m))=keep (decide (0 < D full 0 m.1)) (decide (0 < D full 1 m.1)):=by
    rw [hDm,hDm,e0,e1]
   have hflat:∀ r,p≤r→r < m.1→∀ k,D full k r=D full k p:=by
    intro r h1 h2 k
    refine D_same (fun y hy=>?_)
    rw [hf] at hy
    rcases List.mem_append.1 hy with h3 | h3
    ·rcases hq y h3 with h4 | ⟨z, hz, h4⟩
     ·exact ⟨fun _=>h4,fun _=>by omega⟩
     ·simp at hz;subst hz;constructor <;> intro h5 <;> omega
    ·have h4:m.1≤y.1:=by
      rcases List.mem_cons.1 h3 with rfl | h5
      ·exact Int.le_refl _
      ·have:=hbeyond y h5;omega
     constructor <;> intro h5 <;> omega
   have hnext:=inv_next hi hpm (fun r h1 h2=>by simp only [hflat r h1 h2])
   have hc:crun keep (m::t) st=crun keep t (cstep keep st m t.head?):=rfl
   rw [hc]
   refine ih (pre++[m]) _ m.1 hf2 hr2 hbeyond (fun y hy=>.inl (hall y hy)) ?_ ?_
   ·intro r h
    unfold cstep
    rw [if_neg hs]
    exact hd' r h
   ·unfold cstep
    rw [if_neg hs]
    simp only [hKm]
    exact hnext
theorem crun_final (keep : Bool → Bool → Bool) (h0 : keep false false = false) (a b : List Sp) (row : List Mk) (hp : List.Perm (raw a b) row) (hr : Rises row) (s0 : Int) :
  Nf (crun keep row ⟨0,0,false,s0,[]⟩).out∧∀ r,Mem (crun keep row ⟨0,0,false,s0,[]⟩).out r↔keep (decide (Tells a r)) (decide (Tells b r))=true:=by
 have hg:∀ m∈row,Good m:=fun m hm=>good_raw (hp.mem_iff.2 hm)
 have hK:∀ r,keep (decide (0 < D row 0 r)) (decide (0 < D row 1 r))=keep (decide (Tells a r)) (decide (Tells b r)):=by
  intro r
  rw [← D_perm hp,← D_perm hp]
  congr 1
  ·exact decide_eq_decide.2 (D_raw0 a b r)
  ·exact decide_eq_decide.2 (D_raw1 a b r)
 have hlow:∀ l:List Sp,∀ r,r < 0→¬ Tells l r:=fun l r hr h=>by have:=h.1;unfold Sc at this;omega
 have hhigh:∀ l:List Sp,∀ r,1114111 < r→¬ Tells l r:=fun l r hr h=>by have:=h.1;unfold Sc at this;omega
 obtain ⟨q, hq, hi⟩ := crun_right keep row hg row [] ⟨0, 0, false, s0, []⟩ (-1) rfl hr (fun m hm => by have := (hg m hm).1; omega) (by simp) (by intro r _; exact ⟨rfl, rfl⟩)
  ⟨by show false=keep _ _;rw [hK];simp [hlow,h0],trivial,fun h=>absurd h (by simp),fun _=>⟨by simp,fun r hr=>by
   simp only [hK]
   refine ⟨fun h=>absurd h (mem_nil r),fun h=>?_⟩
   rw [decide_eq_false (hlow a r (by omega)),decide_eq_false (hlow b r (by omega)),h0] at h
   cases h⟩⟩
 have hflat:∀ r,q≤r→keep (decide (Tells a r)) (decide (Tells b r))=keep (decide (Tells a q)) (decide (Tells b q)):=by
  intro r h
  rw [← hK,← hK]
  have:∀ k,D row k r=D row k q:=fun k=>D_same (fun y hy=>by have:=hq y hy;constructor <;> intro _ <;> omega)
  rw [this,this]
 have hend:∀ r,q≤r→keep (decide (Tells a r)) (decide (Tells b r))=false:=by
  intro r h
  rw [hflat r h,← hflat (max q 1114112) (by omega),decide_eq_false (hhigh a _ (by omega)),decide_eq_false (hhigh b _ (by omega)),h0]
 have hoff:(crun keep row ⟨0,0,false,s0,[]⟩).on=false:=by
  rw [hi.now];simp only [hK];exact hend q (Int.le_refl _)
 refine ⟨hi.nf,fun r=>?_⟩
 obtain ⟨h1,h2⟩:=hi.shut hoff
 rcases Int.lt_or_le q r with h | h
 ·rw [hend r (by omega)]
  refine ⟨fun ⟨s,hs,_,h5⟩=>?_,fun h=>absurd h (by simp)⟩
  have:=h1 s hs;omega
 ·rw [h2 r h];simp only [hK]
end SetM
namespace SetM
abbrev Rn:=Int×Int×Int
def runsL:List Rn:=[(65,90,97),(181,181,956),(192,214,224),(216,222,248),(913,929,945),(931,937,963),(962,962,963),(1024,1039,1104),(1040,1071,1072),(7838,7838,223),(8486,8486,969),(8490,8490,107),(8491,8491,229)]
def stepR (u:Rn):Int:=u.2.2 - u.1
def foldFrom : List Rn → Int → Int
 | [],r=>r
 | u::t,r=>if u.1≤r∧r≤u.2.1 then r+stepR u else foldFrom t r
def foldF (r:Int):Int:=foldFrom runsL r
theorem foldF_spec (r:Int):(((65≤r∧r≤90)∨(192≤r∧r≤214)∨(216≤r∧r≤222)∨(913≤r∧r≤929)∨(931≤r∧r≤937)∨(1040≤r∧r≤1071))∧foldF r=r+32) ∨
  (1024≤r∧r≤1039∧foldF r=r+80)∨(r=181∧foldF r=956)∨(r=962∧foldF r=963)∨(r=7838∧foldF r=223)∨(r=8486∧foldF r=969)∨(r=8490∧foldF r=107)∨(r=8491∧foldF r=229) ∨
  (foldF r=r∧(∀ u∈runsL,¬ (u.1≤r∧r≤u.2.1))∧¬ ((65≤r∧r≤90)∨(192≤r∧r≤214)∨(216≤r∧r≤222)∨(913≤r∧r≤929)∨(931≤r∧r≤937)∨(1024≤r∧r≤1071)∨r=181∨r=962∨r=7838∨r=8486∨r=8490∨r=8491)):=by
 unfold foldF
 simp only [runsL,foldFrom,stepR]
 by_cases h1:65≤r∧r≤90
 ·rw [if_pos h1];omega
 rw [if_neg h1]
 by_cases h2:181≤r∧r≤181
 ·rw [if_pos h2];omega
 rw [if_neg h2]
 by_cases h3:192≤r∧r≤214
 ·rw [if_pos h3];omega
 rw [if_neg h3]
 by_cases h4:216≤r∧r≤222
 ·rw [if_pos h4];omega
 rw [if_neg h4]
 by_cases h5:913≤r∧r≤929
 ·rw [if_pos h5];omega
 rw [if_neg h5]
 by_cases h6:931≤r∧r≤937
 ·rw [if_pos h6];omega
 rw [if_neg h6]
 by_cases h7:962≤r∧r≤962
 ·rw [if_pos h7];omega
 rw [if_neg h7]
 by_cases h8:1024≤r∧r≤1039
 ·rw [if_pos h8];omega
 rw [if_neg h8]
 by_cases h9:1040≤r∧r≤1071
 ·rw [if_pos h9];omega
 rw [if_neg h9]
 by_cases h10:7838≤r∧r≤7838
 ·rw [if_pos h10];omega
 rw [if_neg h10]
 by_cases h11:8486≤r∧r≤8486
 ·rw [if_pos h11];omega
 rw [if_neg h11]
 by_cases h12:8490≤r∧r≤8490
 ·rw [if_pos h12];omega
 rw [if_neg h12]
 by_cases h13:8491≤r∧r≤8491
 ·rw [if_pos h13];omega
 rw [if_neg h13]
 refine .inr (.inr (.inr (.inr (.inr (.inr (.inr (.inr ⟨rfl,?_,by omega⟩)))))))
 intro u hu
 simp only [List.mem_cons,List.not_mem_nil,or_false] at hu
 rcases hu with rfl | rfl | rfl | rfl | rfl | rfl | rfl | rfl | rfl | rfl | rfl | rfl | rfl <;> assumption
theorem foldFrom_run : ∀ (l : List Rn) (r : Int), foldFrom l r ≠ r → ∃ u ∈ l, u.1 ≤ r ∧ r ≤ u.2.1 ∧ foldFrom l r = r + stepR u
 | [],r,h=>absurd rfl h
 | u::t,r,h=>by
  unfold foldFrom at h ⊢
  by_cases e:u.1≤r∧r≤u.2.1
  ·rw [if_pos e] at h ⊢;exact ⟨u,by simp,e.1,e.2,rfl⟩
  ·rw [if_neg e] at h ⊢
   obtain ⟨v,hv,h3⟩:=foldFrom_run t r h
   exact ⟨v,by simp [hv],h3⟩
def ClosedK (K:Int→Prop) (r:Int):Prop:=Sc r∧∃ x,K x∧foldF x=foldF r
theorem rise_unique : ∀ (a b : List Int), a.Pairwise (· < ·) → b.Pairwise (· < ·) → (∀ x, x ∈ a ↔ x ∈ b) → a = b
 | [],[],_,_,_=>rfl
 | [],y::t,_,_,h=>absurd ((h y).2 (by simp)) (by simp)
 | x::t,[],_,_,h=>absurd ((h x).1 (by simp)) (by simp)
 | x::s,y::t,ha,hb,h=>by
  obtain ⟨a1,a2⟩:=List.pairwise_cons.1 ha
  obtain ⟨b1,b2⟩:=List.pairwise_cons.1 hb
  have e:x=y:=by
   have h1:=(h x).1 (by simp)
   have h2:=(h y).2 (by simp)
   rcases List.mem_cons.1 h1 with h1 | h1
   ·exact h1
   ·rcases List.mem_cons.1 h2 with h2 | h2
    ·exact h2.symm
    ·have:=a1 y h2;have:=b1 x h1;omega
  subst e
  rw [rise_unique s t a2 b2 (fun z=>?_)]
  constructor
  ·intro hz
   have:=a1 z hz
   rcases List.mem_cons.1 ((h z).1 (by simp [hz])) with h1 | h1
   ·omega
   ·exact h1
  ·intro hz
   have:=b1 z hz
   rcases List.mem_cons.1 ((h z).2 (by simp [hz])) with h1 | h1
   ·omega
   ·exact h1
def IsOrbit (r:Int) (o:List Int):Prop:=o.Pairwise (· < ·)∧∀ x,x∈o↔Sc x∧Sc r∧foldF x=foldF r
end SetM
namespace PropsM
open SetM
abbrev Bs:=List UInt8
def sq1 (x:UInt8):Bs:=if x=45∨x=95∨x=32 then [] else if 65≤x.toNat∧x.toNat≤90 then [x+32] else [x]
def sq (l:Bs):Bs:=l.flatMap sq1
def cutIs (l:Bs):Bs:=if 2 < l.length∧l.take 2=[105,115] then l.drop 2 else l
def looseL (l:Bs):Bs:=cutIs (sq l)
theorem sq_append (a b:Bs):sq (a++b)=sq a++sq b:=List.flatMap_append
theorem sq_take {l:Bs} {k:Nat} (h:k < l.length):sq (l.take (k+1))=sq (l.take k)++sq1 l[k]:=by
 rw [List.take_succ_eq_append_getElem h,sq_append];simp [sq]
theorem sq1_len (x : UInt8) : (sq1 x).length ≤ 1 := by unfold sq1; split; · simp
                                                       · split <;> simp
theorem sq_len (l:Bs):(sq l).length≤l.length:=by
  induction l with
  | nil=>simp [sq]
  | cons x t ih => have : sq (x :: t) = sq1 x ++ sq t := rfl
                   rw [this,List.length_append,List.length_cons];have:=sq1_len x;omega
theorem sq1_skip {x:UInt8} (h:(x.toNat:Int)=45∨(x.toNat:Int)=95∨(x.toNat:Int)=32):sq1 x=[]:=by
 have:x=45∨x=95∨x=32:=by
  rcases h with h | h | h
  ·exact .inl (UInt8.toNat_inj.1 (by simp;omega))
  ·exact .inr (.inl (UInt8.toNat_inj.1 (by simp;omega)))
  ·exact .inr (.inr (UInt8.toNat_inj.1 (by simp;omega)))
 simp [sq1,this]
theorem sq1_stay {x:UInt8} (h:¬ (x.toNat:Int)=45) (h1:¬ (x.toNat:Int)=95) (h2:¬ (x.toNat:Int)=32) (h3:¬ (65≤(x.toNat:Int)∧(x.toNat:Int)≤90)):sq1 x=[x]:=by
 have a1:x≠45:=fun e=>h (by subst e;rfl)
 have a2:x≠95:=fun e=>h1 (by subst e;rfl)
 have a3:x≠32:=fun e=>h2 (by subst e;rfl)
 have a4:¬ (65≤x.toNat∧x.toNat≤90):=by omega
 simp [sq1,a1,a2,a3,a4]
theorem sq1_low {x:UInt8} (h:65≤(x.toNat:Int)) (h1:(x.toNat:Int)≤90):sq1 x=[x+32]∧((x+32).toNat:Int)=x.toNat+32:=by
 have a1:x≠45:=fun e=>by subst e;simp at h
 have a2:x≠95:=fun e=>by subst e;simp at h1
 have a3:x≠32:=fun e=>by subst e;simp at h
 have a4:65≤x.toNat∧x.toNat≤90:=by omega
 refine ⟨by simp [sq1,a1,a2,a3,a4],?_⟩
 rw [UInt8.toNat_add]
 have:(32:UInt8).toNat=32:=rfl
 rw [this]
 omega
def namesL:List Bs:=[[97,110,121],[97,115,99,105,105],[98,108,97,110,107],[99,121,114,105,108,108,105,99],[100,105,103,105,116],[103,114,101,101,107],[104,97,110],[104,101,120],[108,97,116,105,110],[108,101,116,116,101,114],[108,111,119,101,114],[117,112,112,101,114],[119,111,114,100]]
def runsL : List (List Sp) := [
 [(0,1114111)],[(0,127)],[(9,9),(32,32),(160,160),(12288,12288)],[(1024,1279)],[(48,57),(1632,1641),(2406,2415),(65296,65305)],
 [(880,883),(885,887),(890,895),(900,900),(902,902),(904,906),(908,908),(910,929),(931,993),(1008,1023)],
 [(13312,19903),(19968,40959),(131072,173791)],[(48,57),(65,70),(97,102)],[(65,90),(97,122),(170,170),(186,186),(192,214),(216,246),(248,591)],
 [],[(97,122),(223,246),(248,255),(945,969),(1072,1119)],[(65,90),(192,214),(216,222),(913,929),(931,937),(1024,1071)],[(95,95)]]
def partsL:List (List Nat):=[[],[],[],[],[],[],[],[],[],[8,5,3,6],[],[],[9,4]]
def nameOf (i:Nat):Bs:=namesL.getD i []
def runsOf (i:Nat):List Sp:=runsL.getD i []
def partsOf (i:Nat):List Nat:=partsL.getD i []
def gathOf (i:Nat):List Sp :=
 if i=9 then runsOf 8++runsOf 5++runsOf 3++runsOf 6
 else if i=12 then [(95,95)]++(runsOf 8++runsOf 5++runsOf 3++runsOf 6)++runsOf 4
 else runsOf i
def whichF (l:Bs):Option Nat:=(List.range 13).find? fun i=>nameOf i == l
theorem which_some {l:Bs} {i:Nat} (h:whichF l=some i):i < 13∧nameOf i=l:=by
 have h1:=List.find?_some h
 have h2:=List.mem_of_find?_eq_some h
 exact ⟨List.mem_range.1 h2,by simpa using h1⟩
theorem which_none {l:Bs} (h:whichF l=none) (i:Nat) (hi:i < 13):nameOf i≠l:=by
 have:=List.find?_eq_none.1 h i (List.mem_range.2 hi)
 simpa using this
theorem name_len (i:Nat) (hi:i < 13):3≤(nameOf i).length∧(nameOf i).length≤8:=by
 rcases (show i=0∨i=1∨i=2∨i=3∨i=4∨i=5∨i=6∨i=7∨i=8∨i=9∨i=10∨i=11∨i=12 by omega) with rfl | rfl | rfl | rfl | rfl | rfl | rfl | rfl | rfl | rfl | rfl | rfl | rfl <;> decide
theorem gath_len (i:Nat) (hi:i < 13):(gathOf i).length≤26:=by
 rcases (show i=0∨i=1∨i=2∨i=3∨i=4∨i=5∨i=6∨i=7∨i=8∨i=9∨i=10∨i=11∨i=12 by omega) with rfl | rfl | rfl | rfl | rfl | rfl | rfl | rfl | rfl | rfl | rfl | rfl | rfl <;> decide
theorem runs_len (i:Nat) (hi:i < 13):(runsOf i).length≤10∧(partsOf i).length≤4:=by
 rcases (show i=0∨i=1∨i=2∨i=3∨i=4∨i=5∨i=6∨i=7∨i=8∨i=9∨i=10∨i=11∨i=12 by omega) with rfl | rfl | rfl | rfl | rfl | rfl | rfl | rfl | rfl | rfl | rfl | rfl | rfl <;> decide
end PropsM
namespace SetM
def Up (l:List Int):Prop:=l.Pairwise (· < ·)
def layL (l:List Int) (x:Int):List Int:=l.filter (fun y=>decide (y < x))++x::l.filter (fun y=>decide (x < y))
theorem mem_layL (l:List Int) (x y:Int):y∈layL l x↔y=x∨y∈l:=by
 unfold layL
 simp only [List.mem_append,List.mem_cons,List.mem_filter,decide_eq_true_eq]
 constructor
 ·rintro (⟨h, _⟩ | h | ⟨h, _⟩)
  ·exact .inr h
  ·exact .inl h
  ·exact .inr h
 ·rintro (h | h)
  ·exact .inr (.inl h)
  ·rcases Int.lt_trichotomy y x with h1 | h1 | h1
   ·exact .inl ⟨h,h1⟩
   ·exact .inr (.inl h1)
   ·exact .inr (.inr ⟨h,h1⟩)
theorem up_layL {l:List Int} (h:Up l) (x:Int):Up (layL l x):=by
 unfold layL Up
 rw [List.pairwise_append]
 refine ⟨List.Pairwise.filter _ h,?_,?_⟩
 ·rw [List.pairwise_cons]
  exact ⟨fun y hy=>by simpa using (List.mem_filter.1 hy).2,List.Pairwise.filter _ h⟩
 ·intro a ha b hb
  have h1:a < x:=by simpa using (List.mem_filter.1 ha).2
  rcases List.mem_cons.1 hb with rfl | hb
  ·exact h1
  ·have h2 : x < b := by simpa using (List.mem_filter.1 hb).2
   omega
theorem layL_len (l:List Int) (x:Int):(layL l x).length≤l.length+1:=by
 unfold layL
 rw [List.length_append,List.length_cons]
 have:∀ m:List Int,(m.filter (fun y=>decide (y < x))).length+(m.filter (fun y=>decide (x < y))).length≤m.length:=by
  intro m
  induction m with
  | nil=>simp
  | cons a t ih =>
   by_cases h1:a < x
   ·have h2 : ¬ x < a := by omega
    simp [h1,h2];omega
   ·by_cases h2 : x < a
    ·simp [h1,h2];omega
    ·simp [h1,h2];omega
 have:=this l
 omega
theorem layL_cut {l : List Int} (h : Up l) (x : Int) (i : Nat) (hi : i ≤ l.length) (h1 : ∀ j (hj : j < l.length), j < i → l[j] < x) (h2 : ∀ (hi : i < l.length), x ≤ l[i]) :
  layL l x=l.take i++x::(if l[i]? = some x then l.drop (i+1) else l.drop i):=by
 have hsplit:l=l.take i++l.drop i:=(List.take_append_drop i l).symm
 have hup:=h
 rw [hsplit] at hup
 have hd:=(List.pairwise_append.1 hup).2.1
 have e1:(l.take i).filter (fun y=>decide (y < x))=l.take i:=by
  rw [List.filter_eq_self]
  intro y hy
  obtain ⟨j,hj,rfl⟩:=List.mem_iff_getElem.1 hy
  rw [List.length_take] at hj
  simpa using h1 j (by omega) (by omega)
 have e2:(l.take i).filter (fun y=>decide (x < y))=[]:=by
  rw [List.filter_eq_nil_iff]
  intro y hy
  obtain ⟨j,hj,rfl⟩:=List.mem_iff_getElem.1 hy
  rw [List.length_take] at hj
  have:=h1 j (by omega) (by omega)
  simp;omega
 have hge:∀ y∈l.drop i,x≤y:=by
  intro y hy
  rcases Nat.lt_or_ge i l.length with hlt | hlt
  ·rw [List.drop_eq_getElem_cons hlt] at hy hd
   rcases List.mem_cons.1 hy with rfl | hy
   ·exact h2 hlt
   ·have:=(List.pairwise_cons.1 hd).1 y hy;have:=h2 hlt;omega
  ·rw [List.drop_eq_nil_of_le hlt] at hy;simp at hy
 have e3:(l.drop i).filter (fun y=>decide (y < x))=[]:=by
  rw [List.filter_eq_nil_iff]
  intro y hy;have:=hge y hy;simp;omega
 have e4:(l.drop i).filter (fun y=>decide (x < y))=if l[i]? = some x then l.drop (i+1) else l.drop i:=by
  rcases Nat.lt_or_ge i l.length with hlt | hlt
  ·rw [List.drop_eq_getElem_cons hlt] at hd ⊢
   have ht:(l.drop (i+1)).filter (fun y=>decide (x < y))=l.drop (i+1):=by
    rw [List.filter_eq_self]
    intro y hy;have:=(List.pairwise_cons.1 hd).1 y hy;have:=h2 hlt;simp;omega
   by_cases hx:l[i]=x
   ·rw [if_pos (by rw [List.getElem?_eq_getElem hlt,hx]),List.filter_cons,if_neg (by simp [hx]),ht]
   ·have := h2 hlt
    rw [if_neg (by rw [List.getElem?_eq_getElem hlt];simpa using hx),List.filter_cons,if_pos (by simp;omega),ht]
  ·rw [List.drop_eq_nil_of_le hlt,if_neg (by rw [List.getElem?_eq_none hlt];simp)];rfl
 unfold layL
 have f1:l.filter (fun y=>decide (y < x))=l.take i:=by
  have:l.filter (fun y=>decide (y < x))=(l.take i++l.drop i).filter (fun y=>decide (y < x)):=by rw [← hsplit]
  rw [this,List.filter_append,e1,e3,List.append_nil]
 have f2:l.filter (fun y=>decide (x < y))=if l[i]? = some x then l.drop (i+1) else l.drop i:=by
  have:l.filter (fun y=>decide (x < y))=(l.take i++l.drop i).filter (fun y=>decide (x < y)):=by rw [← hsplit]
  rw [this,List.filter_append,e2,List.nil_append,e4]
 rw [f1,f2]
def edgeStep (E:List Int) (s:Sp):List Int :=
 let E1:=if Sc s.1 then layL E s.1 else E
 if s.2 < 1114111∧Sc (s.2+1) then layL E1 (s.2+1) else E1
def edgesL (l:List Sp):List Int:=l.foldl edgeStep [0,57344]
theorem edgeStep_up {E:List Int} (h:Up E) (s:Sp):Up (edgeStep E s):=by
 unfold edgeStep
 have h1:Up (if Sc s.1 then layL E s.1 else E):=by split <;> first | exact up_layL h _ | exact h
 dsimp only
 split <;> first | exact up_layL h1 _ | exact h1
theorem mem_edgeStep (E:List Int) (s:Sp) (y:Int):y∈edgeStep E s↔y∈E∨(Sc s.1∧y=s.1)∨(s.2 < 1114111∧Sc (s.2+1)∧y=s.2+1):=by
 unfold edgeStep
 dsimp only
 by_cases h1:Sc s.1 <;> by_cases h2:s.2 < 1114111∧Sc (s.2+1)
 ·rw [if_pos h1, if_pos h2, mem_layL, mem_layL]; constructor
  ·rintro (h | h | h)
   ·exact .inr (.inr ⟨h2.1,h2.2,h⟩)
   ·exact .inr (.inl ⟨h1,h⟩)
   ·exact .inl h
  ·rintro (h | h | h)
   ·exact .inr (.inr h)
   ·exact .inr (.inl h.2)
   ·exact .inl h.2.2
 ·rw [if_pos h1, if_neg h2, mem_layL]; constructor
  ·rintro (h | h)
   ·exact .inr (.inl ⟨h1,h⟩)
   ·exact .inl h
  ·rintro (h | h | h)
   ·exact .inr h
   ·exact .inl h.2
   ·exact absurd ⟨h.1,h.2.1⟩ h2
 ·rw [if_neg h1, if_pos h2, mem_layL]; constructor
  ·rintro (h | h)
   ·exact .inr (.inr ⟨h2.1,h2.2,h⟩)
   ·exact .inl h
  ·rintro (h | h | h)
   ·exact .inr h
   ·exact absurd h.1 h1
   ·exact .inl h.2.2
 ·rw [if_neg h1, if_neg h2]; constructor
  ·intro h;exact .inl h
  ·rintro (h | h | h)
   ·exact h
   ·exact absurd h.1 h1
   ·exact absurd ⟨h.1,h.2.1⟩ h2
theorem foldl_edges : ∀ (l : List Sp) (E : List Int), (Up E → Up (l.foldl edgeStep E)) ∧ (∀ y, y ∈ l.foldl edgeStep E ↔ y ∈ E ∨ ∃ s ∈ l, (Sc s.1 ∧ y = s.1) ∨ (s.2 < 1114111 ∧ Sc (s.2 + 1) ∧ y = s.2 + 1)) ∧ (l.foldl edgeStep E).length ≤ E.length + 2 * l.length
 | [],E=>⟨id,fun y=>by simp,by simp⟩
 | s::t,E=>by
  obtain ⟨h1,h2,h3⟩:=foldl_edges t (edgeStep E s)
  refine ⟨fun h=>h1 (edgeStep_up h s),fun y=>?_,?_⟩
  ·rw [List.foldl_cons, h2, mem_edgeStep]
   constructor
   ·rintro ((h | h) | ⟨u, hu, h⟩)
    ·exact .inl h
    ·exact .inr ⟨s,by simp,h⟩
    ·exact .inr ⟨u,by simp [hu],h⟩
   ·rintro (h | ⟨u, hu, h⟩)
    ·exact .inl (.inl h)
    ·rcases List.mem_cons.1 hu with rfl | hu
     ·exact .inl (.inr h)
     ·exact .inr ⟨u,hu,h⟩
  ·rw [List.foldl_cons, List.length_cons]
   have hs:(edgeStep E s).length≤E.length+2:=by
    unfold edgeStep;dsimp only
    have e1:(if Sc s.1 then layL E s.1 else E).length≤E.length+1:=by
     split
     ·exact layL_len E s.1
     ·omega
    split
    ·have:=layL_len (if Sc s.1 then layL E s.1 else E) (s.2+1);omega
    ·omega
   omega
theorem edgesL_up (l:List Sp):Up (edgesL l):=(foldl_edges l _).1 (by simp [Up])
theorem mem_edgesL (l:List Sp) (y:Int):y∈edgesL l↔(y=0∨y=57344)∨∃ s∈l,(Sc s.1∧y=s.1)∨(s.2 < 1114111∧Sc (s.2+1)∧y=s.2+1):=by
 unfold edgesL;rw [(foldl_edges l _).2.1];simp
theorem edgesL_len (l:List Sp):(edgesL l).length≤2+2*l.length:=by have:=(foldl_edges l [0,57344]).2.2;simpa [edgesL] using this
def bothL (a b:List Sp):List Int:=(edgesL b).foldl layL (edgesL a)
theorem foldl_lay : ∀ (m E : List Int), (Up E → Up (m.foldl layL E)) ∧ (∀ y, y ∈ m.foldl layL E ↔ y ∈ E ∨ y ∈ m) ∧ (m.foldl layL E).length ≤ E.length + m.length
 | [],E=>⟨id,fun y=>by simp,by simp⟩
 | x::t,E=>by
  obtain ⟨h1,h2,h3⟩:=foldl_lay t (layL E x)
  refine ⟨fun h=>h1 (up_layL h x),fun y=>?_,?_⟩
  ·rw [List.foldl_cons, h2, mem_layL, List.mem_cons]
   constructor
   ·rintro ((h | h) | h)
    ·exact .inr (.inl h)
    ·exact .inl h
    ·exact .inr (.inr h)
   ·rintro (h | h | h)
    ·exact .inl (.inr h)
    ·exact .inl (.inl h)
    ·exact .inr h
  ·rw [List.foldl_cons,List.length_cons];have:=layL_len E x;omega
theorem bothL_up (a b:List Sp):Up (bothL a b):=(foldl_lay _ _).1 (edgesL_up a)
theorem mem_bothL (a b:List Sp) (y:Int):y∈bothL a b↔y∈edgesL a∨y∈edgesL b:=(foldl_lay _ _).2.1 y
theorem bothL_len (a b:List Sp):(bothL a b).length≤4+2*a.length+2*b.length:=by
 have h1:=(foldl_lay (edgesL b) (edgesL a)).2.2
 have h2:=edgesL_len a;have h3:=edgesL_len b
 have e:bothL a b=(edgesL b).foldl layL (edgesL a):=rfl
 rw [e];omega
theorem edgesL_sc (l:List Sp) (y:Int) (h:y∈edgesL l):Sc y:=by
 rcases (mem_edgesL l y).1 h with (rfl | rfl) | ⟨s,_,⟨h1,rfl⟩ | ⟨_,h2,rfl⟩⟩
 ·unfold Sc;omega
 ·unfold Sc;omega
 ·exact h1
 ·exact h2
theorem same_between (l:List Sp) (e r:Int) (he:Sc e) (hr:Sc r) (hle:e≤r) (hno:∀ y∈edgesL l,y≤e∨r < y):Tells l r↔Tells l e:=by
 have harea:(e≤55295∧r≤55295)∨(57344≤e∧57344≤r):=by
  have h1:=hno 57344 ((mem_edgesL l _).2 (.inl (.inr rfl)))
  unfold Sc at he hr;omega
 unfold Tells
 constructor
 ·rintro ⟨_, s, hs, h1, h2⟩
  refine ⟨he,s,hs,?_,by omega⟩
  rcases Int.lt_or_le e s.1 with h3 | h3
  ·have hsc : Sc s.1 := by unfold Sc at *; omega
   have:=hno s.1 ((mem_edgesL l _).2 (.inr ⟨s,hs,.inl ⟨hsc,rfl⟩⟩))
   omega
  ·exact h3
 ·rintro ⟨_, s, hs, h1, h2⟩
  refine ⟨hr,s,hs,by omega,?_⟩
  rcases Int.lt_or_le s.2 r with h3 | h3
  ·have hsc : Sc (s.2 + 1) := by unfold Sc at *; omega
   have:=hno (s.2+1) ((mem_edgesL l _).2 (.inr ⟨s,hs,.inr ⟨by unfold Sc at hr;omega,hsc,rfl⟩⟩))
   omega
  ·exact h3
def hiOf (e:Int) (nx:Option Int):Int :=
 if e < 55296 then min (match nx with | some y=>y - 1 | none=>1114111) 55295 else (match nx with | some y=>y - 1 | none=>1114111)
def putSeg (out:List Sp) (e hi:Int):List Sp :=
 match out.getLast? with
 | some s=>if s.2=e - 1 then out.dropLast++[(s.1,hi)] else out++[(e,hi)]
 | none=>[(e,hi)]
theorem putSeg_nil (e hi:Int):putSeg [] e hi=[(e,hi)]:=rfl
theorem putSeg_snoc (l:List Sp) (s:Sp) (e hi:Int):putSeg (l++[s]) e hi=if s.2=e - 1 then l++[(s.1,hi)] else l++[s]++[(e,hi)]:=by
 unfold putSeg;rw [List.getLast?_concat];dsimp only;rw [List.dropLast_concat]
def refStep (sel:Int→Bool) (out:List Sp) (e:Int) (nx:Option Int):List Sp:=if sel e=true then putSeg out e (hiOf e nx) else out
def refRun (sel : Int → Bool) : List Int → List Sp → List Sp
 | [],out=>out
 | e::t,out=>refRun sel t (refStep sel out e t.head?)
theorem putSeg_len (out:List Sp) (e hi:Int):(putSeg out e hi).length≤out.length+1:=by
 rcases List.eq_nil_or_concat out with rfl | ⟨l,s,rfl⟩
 ·simp [putSeg]
 ·rw [List.concat_eq_append,putSeg_snoc];split <;> simp
theorem refRun_len (sel : Int → Bool) : ∀ (E : List Int) (out : List Sp), (refRun sel E out).length ≤ out.length + E.length
 | [],out=>by simp [refRun]
 | e::t,out=>by
  have h:=refRun_len sel t (refStep sel out e t.head?)
  have h2:(refStep sel out e t.head?).length≤out.length+1:=by
   unfold refStep;split
   ·exact putSeg_len _ _ _
   ·omega
  show (refRun sel t (refStep sel out e t.head?)).length≤_
  rw [List.length_cons];omega
theorem nf_unsnoc {l:List Sp} {s:Sp} (h:Nf (l++[s])):Nf l∧s.1≤s.2∧∀ u∈l,u.2+1 < s.1:=by
 induction l with
 | nil=>exact ⟨trivial,h.1,by simp⟩
 | cons x t ih =>
  obtain ⟨h1,h2,h3⟩:=ih h.2.2
  refine ⟨⟨h.1,fun u hu=>h.2.1 u (by simp [hu]),h1⟩,h2,fun u hu=>?_⟩
  rcases List.mem_cons.1 hu with rfl | hu
  ·exact h.2.1 s (by simp)
  ·exact h3 u hu
theorem putSeg_right {out : List Sp} {e hi : Int} (hn : Nf out) (hb : ∀ s ∈ out, s.2 < e) (he : e ≤ hi) :
  Nf (putSeg out e hi)∧(∀ s∈putSeg out e hi,s.2≤hi)∧∀ r,Mem (putSeg out e hi) r↔Mem out r∨(e≤r∧r≤hi):=by
 rcases List.eq_nil_or_concat out with rfl | ⟨l,s,rfl⟩
 ·rw [putSeg_nil]
  refine ⟨⟨he,by simp,trivial⟩,fun s hs=>?_,fun r=>?_⟩
  ·simp at hs;subst hs;exact Int.le_refl _
  ·rw [mem_cons]; constructor
   ·rintro (h | h)
    ·exact .inr h
    ·exact .inl h
   ·rintro (h | h)
    ·exact .inr h
    ·exact .inl h
 ·rw [List.concat_eq_append] at *
  obtain ⟨h1,h2,h3⟩:=nf_unsnoc hn
  have hs:=hb s (by simp)
  rw [putSeg_snoc]
  by_cases hc:s.2=e - 1
  ·rw [if_pos hc]
   refine ⟨nf_snoc h1 (by show s.1≤hi;omega) h3,fun u hu=>?_,fun r=>?_⟩
   ·rcases List.mem_append.1 hu with hu | hu
    ·have:=h3 u hu;omega
    ·simp at hu;subst hu;exact Int.le_refl _
   ·rw [mem_append, mem_append, mem_cons, mem_cons]
    constructor
    ·rintro (h | h | h)
     ·exact .inl (.inl h)
     ·dsimp only at h
      rcases Int.lt_or_le r e with h4 | h4
      ·exact .inl (.inr (.inl ⟨h.1,by omega⟩))
      ·exact .inr ⟨h4,h.2⟩
     ·exact absurd h (mem_nil r)
    ·rintro ((h | h | h) | h)
     ·exact .inl h
     ·exact .inr (.inl ⟨h.1,by show r≤hi;omega⟩)
     ·exact absurd h (mem_nil r)
     ·exact .inr (.inl ⟨by show s.1≤r;omega,h.2⟩)
  ·rw [if_neg hc]
   refine ⟨nf_snoc hn he (fun u hu=>?_),fun u hu=>?_,fun r=>?_⟩
   ·rcases List.mem_append.1 hu with hu | hu
    ·have:=h3 u hu;show u.2+1 < e;omega
    ·simp at hu;subst hu;show u.2+1 < e;omega
   ·rcases List.mem_append.1 hu with hu | hu
    ·have:=hb u hu;omega
    ·simp at hu;subst hu;exact Int.le_refl _
   ·rw [mem_append (l ++ [s]), mem_cons (e, hi)]
    constructor
    ·rintro (h | h | h)
     ·exact .inl h
     ·exact .inr h
     ·exact absurd h (mem_nil r)
    ·rintro (h | h)
     ·exact .inl h
     ·exact .inr (.inl h)
theorem refRun_right (sel : Int → Bool) (K : Int → Prop) (E : List Int) (hup : Up E) (hsc : ∀ y ∈ E, Sc y) (h57 : (57344 : Int) ∈ E) (hK : ∀ e ∈ E, ∀ r, Sc r → e ≤ r → (∀ y ∈ E, y ≤ e ∨ r < y) → (K r ↔ sel e = true)) :
  ∀ (rest pre:List Int) (out:List Sp),E=pre++rest→Nf out→(∀ s∈out,s.2 < rest.head?.getD 1114112)→(∀ r,Mem out r↔Sc r∧r < rest.head?.getD 1114112∧K r) →
   Nf (refRun sel rest out)∧∀ r,Mem (refRun sel rest out) r↔Sc r∧K r
 | [],pre,out,_,hn,_,hm=>⟨hn,fun r=>by
   show Mem out r↔_
   rw [hm]
   constructor
   ·rintro ⟨h1,_,h3⟩;exact ⟨h1,h3⟩
   ·rintro ⟨h1,h3⟩;exact ⟨h1,by unfold Sc at h1;simp;omega,h3⟩⟩
 | e::t,pre,out,hE,hn,hb,hm=>by
  have hb':∀ s∈out,s.2 < e:=hb
  have hm':∀ r,Mem out r↔Sc r∧r < e∧K r:=hm
  have hEe:e∈E:=by rw [hE];simp
  have hse:=hsc e hEe
  have hup':=hup
  rw [hE] at hup'
  have hpre:∀ y∈pre,y < e:=fun y hy=>(List.pairwise_append.1 hup').2.2 y hy e (by simp)
  have hpost:=(List.pairwise_cons.1 (List.pairwise_append.1 hup').2.1)
  obtain ⟨B,hB⟩:∃ B,B=t.head?.getD 1114112:=⟨_,rfl⟩
  have heB:e < B:=by
   rw [hB]
   cases t with
   | nil=>unfold Sc at hse;simp;omega
   | cons y t'=>simpa using hpost.1 y (by simp)
  have hnext:∀ y∈E,y≤e∨B≤y:=by
   intro y hy
   rw [hE] at hy
   rcases List.mem_append.1 hy with h | h
   ·exact .inl (Int.le_of_lt (hpre y h))
   ·rcases List.mem_cons.1 h with rfl | h
    ·exact .inl (Int.le_refl _)
    ·right
     rw [hB]
     cases t with
     | nil=>simp at h
     | cons z t' =>
      rcases List.mem_cons.1 h with rfl | h
      ·exact Int.le_refl _
      ·have:=(List.pairwise_cons.1 hpost.2).1 y h;simp;omega
  have hBle:B≤1114112:=by
   rw [hB]
   cases t with
   | nil=>simp
   | cons z t' =>
    have:=hsc z (by rw [hE];simp)
    unfold Sc at this;simp;omega
  have hhi:hiOf e t.head? = if e < 55296 then min (B - 1) 55295 else B - 1:=by
   unfold hiOf
   rw [hB]
   cases t with
   | nil=>rfl
   | cons z t'=>rfl
  have hB57:e < 55296→B≤57344:=fun h=>by have:=hnext 57344 h57;omega
  have hBsc:B=1114112∨Sc B:=by
   rw [hB]
   cases t with
   | nil=>exact .inl rfl
   | cons z t'=>exact .inr (hsc z (by rw [hE];simp))
  have hseg:∀ r,(Sc r∧e≤r∧r < B)↔(e≤r∧r≤hiOf e t.head?):=by
   intro r
   rw [hhi]
   unfold Sc at hse
   split
   ·rename_i h
    have:=hB57 h
    constructor
    ·rintro ⟨h1,h2,h3⟩;unfold Sc at h1;exact ⟨h2,by omega⟩
    ·rintro ⟨h2,h3⟩;exact ⟨by unfold Sc;omega,h2,by omega⟩
   ·constructor
    ·rintro ⟨h1,h2,h3⟩;exact ⟨h2,by omega⟩
    ·rintro ⟨h2,h3⟩;exact ⟨by unfold Sc;omega,h2,by omega⟩
  have hehi:e≤hiOf e t.head?:=((hseg e).1 ⟨hse,Int.le_refl _,heB⟩).2
  have hhiB:hiOf e t.head? < B:=by
   rw [hhi];split
   ·rename_i h;have:=hB57 h;omega
   ·omega
  have hKseg:∀ r,Sc r→e≤r→r < B→(K r↔sel e=true):=fun r h1 h2 h3=>hK e hEe r h1 h2 (fun y hy=>by have:=hnext y hy;omega)
  have hgo:Nf (refStep sel out e t.head?)∧(∀ s∈refStep sel out e t.head?,s.2 < B)∧∀ r,Mem (refStep sel out e t.head?) r↔Sc r∧r < B∧K r:=by
   unfold refStep
   by_cases hs:sel e=true
   ·rw [if_pos hs]
    obtain ⟨p1,p2,p3⟩:=putSeg_right hn hb' hehi
    refine ⟨p1,fun s hs'=>by have:=p2 s hs';omega,fun r=>?_⟩
    rw [p3,hm',← hseg]
    constructor
    ·rintro (⟨h1, h2, h3⟩ | ⟨h1, h2, h3⟩)
     ·exact ⟨h1,by omega,h3⟩
     ·exact ⟨h1,h3,(hKseg r h1 h2 h3).2 hs⟩
    ·rintro ⟨h1, h2, h3⟩
     rcases Int.lt_or_le r e with h4 | h4
     ·exact .inl ⟨h1,h4,h3⟩
     ·exact .inr ⟨h1,h4,h2⟩
   ·rw [if_neg hs]
    refine ⟨hn,fun s hs'=>by have:=hb' s hs';omega,fun r=>?_⟩
    rw [hm']
    constructor
    ·rintro ⟨h1,h2,h3⟩;exact ⟨h1,by omega,h3⟩
    ·rintro ⟨h1, h2, h3⟩
     rcases Int.lt_or_le r e with h4 | h4
     ·exact ⟨h1,h4,h3⟩
     ·exact absurd ((hKseg r h1 h4 h2).1 h3) hs
  obtain ⟨g1,g2,g3⟩:=hgo
  rw [hB] at g2 g3
  exact refRun_right sel K E hup hsc h57 hK t (pre++[e]) _ (by rw [hE];simp) g1 g2 g3
theorem ref_final (a b : List Sp) (kf : Bool → Bool → Bool) :
  Nf (refRun (fun e=>kf (decide (Tells a e)) (decide (Tells b e))) (bothL a b) []) ∧
  ∀ r,Mem (refRun (fun e=>kf (decide (Tells a e)) (decide (Tells b e))) (bothL a b) []) r↔Sc r∧kf (decide (Tells a r)) (decide (Tells b r))=true:=by
 have hsc:∀ y∈bothL a b,Sc y:=fun y hy=>by
  rcases (mem_bothL a b y).1 hy with h | h
  ·exact edgesL_sc a y h
  ·exact edgesL_sc b y h
 have h0:(0:Int)∈bothL a b:=(mem_bothL a b _).2 (.inl ((mem_edgesL a _).2 (.inl (.inl rfl))))
 have h57:(57344:Int)∈bothL a b:=(mem_bothL a b _).2 (.inl ((mem_edgesL a _).2 (.inl (.inr rfl))))
 have hup:=bothL_up a b
 refine refRun_right _ (fun r=>kf (decide (Tells a r)) (decide (Tells b r))=true) (bothL a b) hup hsc h57 (fun e he r hr hle hno=>?_) (bothL a b) [] [] rfl trivial (by simp) (fun r=>?_)
 ·have e1 := same_between a e r (hsc e he) hr hle (fun y hy => hno y ((mem_bothL a b y).2 (.inl hy)))
  have e2:=same_between b e r (hsc e he) hr hle (fun y hy=>hno y ((mem_bothL a b y).2 (.inr hy)))
  rw [decide_eq_decide.2 e1,decide_eq_decide.2 e2]
 ·refine ⟨fun h => absurd h (mem_nil r), fun ⟨h1, h2, _⟩ => ?_⟩
  cases hE:bothL a b with
  | nil=>rw [hE] at h0;simp at h0
  | cons x t =>
   rw [hE] at h2 h0 hup
   have hx:x≤0:=by
    rcases List.mem_cons.1 h0 with h | h
    ·omega
    ·have:=(List.pairwise_cons.1 hup).1 0 h;omega
   unfold Sc at h1
   simp at h2
   omega
end SetM
namespace SetM
theorem tells_empty (r:Int):¬ Tells ([]:List Sp) r:=fun h=>mem_nil r h.2
theorem nf_len {l out:List Sp} (hn:Nf out) (hm:∀ r,Mem out r↔Tells l r):out.length≤4+2*l.length:=by
 have h:=ref_final l [] (fun p q=>p && !q)
 have e:=nf_unique out _ hn h.1 (fun r=>by
  rw [hm,h.2]
  have h0:Tells l r→Sc r:=fun h=>h.1
  have h1:=tells_empty r
  simp [h1]
  exact h0)
 rw [e]
 have h1:=refRun_len (fun e=>(fun p q=>p && !q) (decide (Tells l e)) (decide (Tells [] e))) (bothL l []) []
 have h2:=bothL_len l []
 simp only [List.length_nil,Nat.mul_zero,Nat.add_zero,Nat.zero_add] at h1 h2
 omega
theorem tells_flat (ls:List (List Sp)) (r:Int):(∃ a∈ls,Tells a r)↔Tells ls.flatten r:=by
 unfold Tells Mem
 simp only [List.mem_flatten]
 constructor
 ·rintro ⟨a,ha,hs,s,hm,h⟩;exact ⟨hs,s,⟨a,ha,hm⟩,h⟩
 ·rintro ⟨hs,s,⟨a,ha,hm⟩,h⟩;exact ⟨a,ha,hs,s,hm,h⟩
end SetM
namespace Go.Proofs.YtioahgklplbinaaGreatDoor.U.UtfM
def Sc (r:Int):Prop:=0≤r∧r≤1114111∧¬ (55296≤r∧r≤57343)
instance (r:Int):Decidable (Sc r):=by unfold Sc;exact inferInstance
def enc (r:Int):List Int :=
 if Sc r then
  if r < 128 then [r]
  else if r < 2048 then [192+r / 64,128+r % 64]
  else if r < 65536 then [224+r / 4096,128+r / 64 % 64,128+r % 64]
  else [240+r / 262144,128+r / 4096 % 64,128+r / 64 % 64,128+r % 64]
 else []
theorem enc0 {r:Int} (h:¬ Sc r):enc r=[]:=by unfold enc;rw [if_neg h]
theorem enc1 {r:Int} (h:Sc r) (h1:r < 128):enc r=[r]:=by unfold enc;rw [if_pos h,if_pos h1]
theorem enc2 {r:Int} (h:Sc r) (h1:128≤r) (h2:r < 2048):enc r=[192+r / 64,128+r % 64]:=by
 unfold enc;rw [if_pos h,if_neg (by omega),if_pos h2]
theorem enc3 {r:Int} (h:Sc r) (h1:2048≤r) (h2:r < 65536):enc r=[224+r / 4096,128+r / 64 % 64,128+r % 64]:=by
 unfold enc;rw [if_pos h,if_neg (by omega),if_neg (by omega),if_pos h2]
theorem enc4 {r:Int} (h:Sc r) (h1:65536≤r):enc r=[240+r / 262144,128+r / 4096 % 64,128+r / 64 % 64,128+r % 64]:=by
 unfold enc;rw [if_pos h,if_neg (by omega),if_neg (by omega),if_neg (by omega)]
theorem sc_cases {r:Int} (h:Sc r):(0≤r∧r < 128)∨(128≤r∧r < 2048)∨(2048≤r∧r < 65536)∨(65536≤r∧r≤1114111):=by
 unfold Sc at h;omega
theorem enc_pos {r:Int} (h:Sc r):0 < (enc r).length:=by
 rcases sc_cases h with ⟨a,b⟩ | ⟨a,b⟩ | ⟨a,b⟩ | ⟨a,b⟩
 ·rw [enc1 h b];simp
 ·rw [enc2 h a b];simp
 ·rw [enc3 h a b];simp
 ·rw [enc4 h a];simp
theorem enc_nil {r:Int}:enc r=[]↔¬ Sc r:=by
 constructor
 ·intro h hs;have:=enc_pos hs;rw [h] at this;simp at this
 ·exact enc0
def IsBytes (l:List Int):Prop:=∀ c∈l,0≤c∧c≤255
theorem IsBytes.drop {l:List Int} (h:IsBytes l) (n:Nat):IsBytes (l.drop n):=fun c hc=>h c (List.mem_of_mem_drop hc)
theorem IsBytes.append {l m:List Int} (h:IsBytes l) (g:IsBytes m):IsBytes (l++m):=fun c hc=>(List.mem_append.1 hc).elim (h c) (g c)
theorem IsBytes.nil:IsBytes []:=fun c h=>by simp at h
theorem enc_bytes (r:Int):IsBytes (enc r):=by
 intro c hc
 by_cases h:Sc r
 ·have h' := h
  unfold Sc at h'
  rcases sc_cases h with ⟨a,b⟩ | ⟨a,b⟩ | ⟨a,b⟩ | ⟨a,b⟩
  ·rw [enc1 h b] at hc;simp at hc;omega
  ·rw [enc2 h a b] at hc;simp at hc;omega
  ·rw [enc3 h a b] at hc;simp at hc;omega
  ·rw [enc4 h a] at hc;simp at hc;omega
 ·rw [enc0 h] at hc;simp at hc
structure Shape where
 bits:Int
 more:Nat
 lo:Int
 hi:Int
def lead (a:Int):Option Shape :=
 if a < 128 then some ⟨a,0,0,0⟩
 else if a < 194 then none
 else if a < 224 then some ⟨a - 192,1,128,191⟩
 else if a=224 then some ⟨a - 224,2,160,191⟩
 else if a=237 then some ⟨a - 224,2,128,159⟩
 else if a < 240 then some ⟨a - 224,2,128,191⟩
 else if a=240 then some ⟨a - 240,3,144,191⟩
 else if a < 244 then some ⟨a - 240,3,128,191⟩
 else if a=244 then some ⟨a - 240,3,128,143⟩
 else none
theorem lead_in {a:Int} {s:Shape} (h:lead a=some s) (ha:0≤a):0≤s.bits∧s.bits≤127∧s.more≤3∧(s.more≠0→s.bits≤31∧128≤s.lo∧s.lo≤160∧143≤s.hi∧s.hi≤191):=by
 unfold lead at h
 repeat' split at h
 all_goals first | (cases h;done) | (obtain rfl:=Option.some.inj h;refine ⟨?_,?_,?_,?_⟩ <;> simp <;> omega)
def goOn : Nat → Int → Int → Int → Nat → List Int → Int × Nat
 | 0,_,_,r,n,_=>(r,n)
 | _+1,_,_,_,n,[]=>(-1,n)
 | m+1,lo,hi,r,n,c::t=>if lo≤c∧c≤hi then goOn m 128 191 (r*64+(c - 128)) (n+1) t else (-1,n)
def dec : List Int → Int × Nat
 | []=>(-1,0)
 | a::t=>match lead a with
  | none=>(-1,1)
  | some s=>goOn s.more s.lo s.hi s.bits 1 t
theorem dec_some {a:Int} {t:List Int} {s:Shape} (h:lead a=some s):dec (a::t)=goOn s.more s.lo s.hi s.bits 1 t:=by
 simp only [dec,h]
theorem dec_none {a:Int} {t:List Int} (h:lead a=none):dec (a::t)=(-1,1):=by
 simp only [dec,h]
theorem goOn_yes {m:Nat} {lo hi r c:Int} {n:Nat} {t:List Int} (h:lo≤c) (h2:c≤hi):goOn (m+1) lo hi r n (c::t)=goOn m 128 191 (r*64+(c - 128)) (n+1) t:=by
 rw [goOn,if_pos ⟨h,h2⟩]
theorem goOn_no {m:Nat} {lo hi r c:Int} {n:Nat} {t:List Int} (h:c < lo∨hi < c):goOn (m+1) lo hi r n (c::t)=(-1,n):=by
 rw [goOn,if_neg (by omega)]
theorem goOn_end {m:Nat} {lo hi r:Int} {n:Nat}:goOn (m+1) lo hi r n []=(-1,n):=rfl
theorem goOn_zero {lo hi r:Int} {n:Nat} {t:List Int}:goOn 0 lo hi r n t=(r,n):=by cases t <;> rfl
theorem lead2 {a:Int} (h:194≤a) (h2:a < 224):lead a=some ⟨a - 192,1,128,191⟩:=by
 unfold lead;rw [if_neg (by omega),if_neg (by omega),if_pos (by omega)]
theorem lead3 {a:Int} (h:224≤a) (h2:a < 240):∃ lo hi,lead a=some ⟨a - 224,2,lo,hi⟩∧lo=(if a=224 then 160 else 128)∧hi=(if a=237 then 159 else 191):=by
 unfold lead
 rw [if_neg (by omega),if_neg (by omega),if_neg (by omega)]
 by_cases h3:a=224
 ·subst h3;exact ⟨_,_,rfl,rfl,rfl⟩
 ·by_cases h4 : a = 237
  ·subst h4;exact ⟨_,_,rfl,rfl,rfl⟩
  ·rw [if_neg h3,if_neg h4,if_pos h2,if_neg h3,if_neg h4];exact ⟨_,_,rfl,rfl,rfl⟩
theorem lead4 {a:Int} (h:240≤a) (h2:a≤244):∃ lo hi,lead a=some ⟨a - 240,3,lo,hi⟩∧lo=(if a=240 then 144 else 128)∧hi=(if a=244 then 143 else 191):=by
 unfold lead
 rw [if_neg (by omega),if_neg (by omega),if_neg (by omega),if_neg (by omega),if_neg (by omega),if_neg (by omega)]
 by_cases h3:a=240
 ·subst h3;exact ⟨_,_,rfl,rfl,rfl⟩
 ·by_cases h4 : a = 244
  ·subst h4;exact ⟨_,_,rfl,rfl,rfl⟩
  ·rw [if_neg h3,if_pos (by omega),if_neg h3,if_neg h4];exact ⟨_,_,rfl,rfl,rfl⟩
theorem lead1 {a:Int} (h2:a < 128):lead a=some ⟨a,0,0,0⟩:=by unfold lead;rw [if_pos h2]
theorem dec_enc {r:Int} (h:Sc r) (t:List Int):dec (enc r++t)=(r,(enc r).length):=by
 have h':=h
 unfold Sc at h'
 rcases sc_cases h with ⟨a,b⟩ | ⟨a,b⟩ | ⟨a,b⟩ | ⟨a,b⟩
 ·rw [enc1 h b,List.singleton_append,dec_some (lead1 b)];rfl
 ·rw [enc2 h a b]
  simp only [List.cons_append,List.nil_append]
  rw [dec_some (lead2 (by omega) (by omega)),goOn_yes (by simp only;omega) (by simp only;omega),goOn_zero]
  simp;omega
 ·rw [enc3 h a b]
  simp only [List.cons_append,List.nil_append]
  obtain ⟨lo,hi,hl,h1,h2⟩:=lead3 (a:=224+r / 4096) (by omega) (by omega)
  rw [dec_some hl]
  rw [goOn_yes (by simp only;rw [h1];split <;> omega) (by simp only;rw [h2];split <;> omega),goOn_yes (by omega) (by omega),goOn_zero]
  simp;omega
 ·rw [enc4 h a]
  simp only [List.cons_append,List.nil_append]
  obtain ⟨lo,hi,hl,h1,h2⟩:=lead4 (a:=240+r / 262144) (by omega) (by omega)
  rw [dec_some hl]
  rw [goOn_yes (by simp only;rw [h1];split <;> omega) (by simp only;rw [h2];split <;> omega),goOn_yes (by omega) (by omega),goOn_yes (by omega) (by omega),goOn_zero]
  simp;omega
def DecOk (b:List Int):Prop :=
 1≤(dec b).2∧(dec b).2≤b.length∧((dec b).1 = -1∧(dec b).2≤3∨Sc (dec b).1∧enc (dec b).1=b.take (dec b).2)
theorem lead_cases (a:Int):a < 128∨(lead a=none)∨(194≤a∧a < 224)∨(224≤a∧a < 240)∨(240≤a∧a≤244):=by
 by_cases h1:a < 128
 ·exact .inl h1
 by_cases h2:a < 194
 ·exact .inr (.inl (by unfold lead;rw [if_neg h1,if_pos h2]))
 by_cases h3:244 < a
 ·exact .inr (.inl (by unfold lead;rw [if_neg h1,if_neg h2,if_neg (by omega),if_neg (by omega),if_neg (by omega),if_neg (by omega),if_neg (by omega),if_neg (by omega),if_neg (by omega)]))
 omega
theorem dec_ok {b:List Int} (hb:IsBytes b) (hne:b≠[]):DecOk b:=by
 unfold DecOk
 match b,hne with
 | a::t,_ =>
  have ha:=hb a (by simp)
  rcases lead_cases a with h | h | ⟨h1,h2⟩ | ⟨h1,h2⟩ | ⟨h1,h2⟩
  ·rw [dec_some (lead1 h), goOn_zero]
   have hs:Sc a:=by unfold Sc;omega
   exact ⟨by simp,by simp,.inr ⟨hs,by rw [enc1 hs h];rfl⟩⟩
  ·rw [dec_none h];exact ⟨by simp,by simp,.inl ⟨rfl,by simp⟩⟩
  ·rw [dec_some (lead2 h1 h2)]
   match t with
   | []=>rw [goOn_end];exact ⟨by simp,by simp,.inl ⟨rfl,by simp⟩⟩
   | c::t =>
    by_cases hc:128≤c∧c≤191
    ·rw [goOn_yes hc.1 hc.2, goOn_zero]
     have hs:Sc ((a - 192)*64+(c - 128)):=by unfold Sc;omega
     exact ⟨by simp,by simp,.inr ⟨hs,by rw [enc2 hs (by omega) (by omega)];simp;omega⟩⟩
    ·rw [goOn_no (by simp only;omega)];exact ⟨by simp,by simp,.inl ⟨rfl,by simp⟩⟩
  ·obtain ⟨lo, hi, hl, e1, e2⟩ := lead3 h1 h2
   rw [dec_some hl]
   match t with
   | []=>rw [goOn_end];exact ⟨by simp,by simp,.inl ⟨rfl,by simp⟩⟩
   | c::t =>
    by_cases hc:lo≤c∧c≤hi
    ·have hlo : 128 ≤ lo ∧ (a = 224 → lo = 160) := by rw [e1]; split <;> omega
     have hhi:hi≤191∧(a=237→hi=159):=by rw [e2];split <;> omega
     rw [goOn_yes hc.1 hc.2]
     match t with
     | []=>rw [goOn_end];exact ⟨by simp,by simp,.inl ⟨rfl,by simp⟩⟩
     | d::t =>
      by_cases hd:128≤d∧d≤191
      ·rw [goOn_yes hd.1 hd.2, goOn_zero]
       have hs:Sc (((a - 224)*64+(c - 128))*64+(d - 128)):=by unfold Sc;omega
       exact ⟨by simp,by simp,.inr ⟨hs,by rw [enc3 hs (by omega) (by omega)];simp;omega⟩⟩
      ·rw [goOn_no (by omega)];exact ⟨by simp,by simp,.inl ⟨rfl,by simp⟩⟩
    ·rw [goOn_no (by simp only;omega)];exact ⟨by simp,by simp,.inl ⟨rfl,by simp⟩⟩
  ·obtain ⟨lo, hi, hl, e1, e2⟩ := lead4 h1 h2
   rw [dec_some hl]
   match t with
   | []=>rw [goOn_end];exact ⟨by simp,by simp,.inl ⟨rfl,by simp⟩⟩
   | c::t =>
    by_cases hc:lo≤c∧c≤hi
    ·have hlo : 128 ≤ lo ∧ (a = 240 → lo = 144) := by rw [e1]; split <;> omega
     have hhi:hi≤191∧(a=244→hi=143):=by rw [e2];split <;> omega
     rw [goOn_yes hc.1 hc.2]
     match t with
     | []=>rw [goOn_end];exact ⟨by simp,by simp,.inl ⟨rfl,by simp⟩⟩
     | d::t =>
      by_cases hd:128≤d∧d≤191
      ·rw [goOn_yes hd.1 hd.2]
       match t with
       | []=>rw [goOn_end];exact ⟨by simp,by simp,.inl ⟨rfl,by simp⟩⟩
       | f::t =>
        by_cases hf:128≤f∧f≤191
        ·rw [goOn_yes hf.1 hf.2, goOn_zero]
         have hs:Sc ((((a - 240)*64+(c - 128))*64+(d - 128))*64+(f - 128)):=by unfold Sc;omega
         exact ⟨by simp,by simp,.inr ⟨hs,by rw [enc4 hs (by omega)];simp;omega⟩⟩
        ·rw [goOn_no (by omega)];exact ⟨by simp,by simp,.inl ⟨rfl,by simp⟩⟩
      ·rw [goOn_no (by omega)];exact ⟨by simp,by simp,.inl ⟨rfl,by simp⟩⟩
    ·rw [goOn_no (by simp only;omega)];exact ⟨by simp,by simp,.inl ⟨rfl,by simp⟩⟩
abbrev Ch:=Int×Nat×Nat
def chars (at0:Nat) (b:List Int):List Ch :=
 if _h:b=[] then [] else ((dec b).1,at0,(dec b).2)::chars (at0+(dec b).2) (b.drop (max 1 (dec b).2))
termination_by b.length
decreasing_by
 have:0 < b.length:=List.length_pos_iff.2 _h
 simp;omega
theorem chars_nil (at0:Nat):chars at0 []=[]:=by rw [chars];simp
theorem chars_step {b:List Int} (hb:IsBytes b) (hne:b≠[]) (at0:Nat):chars at0 b=((dec b).1,at0,(dec b).2)::chars (at0+(dec b).2) (b.drop (dec b).2):=by
 rw [chars,dif_neg hne]
 have:=(dec_ok hb hne).1
 rw [show max 1 (dec b).2=(dec b).2 from by omega]
theorem bytes_rec {P:List Int→Prop} (h0:P []) (h1:∀ b,IsBytes b→b≠[]→P (b.drop (dec b).2)→P b):∀ b,IsBytes b→P b:=by
 intro b
 generalize hn:b.length=n
 induction n using Nat.strongRecOn generalizing b with
 | _ n ih =>
  intro hb
  by_cases hne:b=[]
  ·rw [hne];exact h0
  ·have hd := dec_ok hb hne
   unfold DecOk at hd
   exact h1 b hb hne (ih (b.drop (dec b).2).length (by rw [List.length_drop];omega) _ rfl (hb.drop _))
theorem chars_len_le:∀ b,IsBytes b→∀ at0:Nat,(chars at0 b).length≤b.length:=by
 apply bytes_rec
 ·intro at0;rw [chars_nil];simp
 ·intro b hb hne ih at0
  have hd:=dec_ok hb hne
  unfold DecOk at hd
  have:=ih (at0+(dec b).2)
  rw [chars_step hb hne,List.length_cons]
  rw [List.length_drop] at this
  omega
def firstOf (l:List Ch):Int:=match l.find? (fun c=>decide (c.1 < 0)) with
 | some c=>c.2.1
 | none=>-1
theorem firstOf_bad {c:Ch} {l:List Ch} (h:c.1 < 0):firstOf (c::l)=c.2.1:=by
 unfold firstOf;rw [List.find?_cons_of_pos (by simpa using h)]
theorem firstOf_good {c:Ch} {l:List Ch} (h:0≤c.1):firstOf (c::l)=firstOf l:=by
 unfold firstOf;rw [List.find?_cons_of_neg (by simp;omega)]
def first (b:List Int):Int:=firstOf (chars 0 b)
def wr (xs:List Int):List Int:=xs.flatMap enc
theorem wr_bytes (xs:List Int):IsBytes (wr xs):=by
 intro c hc
 obtain ⟨x,_,h⟩:=List.mem_flatMap.1 hc
 exact enc_bytes x c h
theorem wr_nil:wr []=[]:=rfl
theorem wr_cons (x:Int) (xs:List Int):wr (x::xs)=enc x++wr xs:=by simp [wr]
theorem wr_append (xs ys:List Int):wr (xs++ys)=wr xs++wr ys:=by simp [wr]
theorem chars_wr_scalars:∀ (xs:List Int) (at0:Nat),(chars at0 (wr xs)).map (·.1)=xs.filter (fun x=>decide (Sc x)):=by
 intro xs
 induction xs with
 | nil=>intro at0;simp [wr_nil,chars_nil]
 | cons x t ih =>
  intro at0
  rw [wr_cons]
  by_cases hs:Sc x
  ·have hne : enc x ++ wr t ≠ [] := by intro h; have := enc_pos hs; rw [List.append_eq_nil_iff] at h; rw [h.1] at this; simp at this
   rw [chars_step ((enc_bytes x).append (wr_bytes t)) hne,dec_enc hs]
   dsimp only
   rw [List.drop_left,List.map_cons,ih,List.filter_cons_of_pos (by simpa using hs)]
  ·rw [enc0 hs,List.filter_cons_of_neg (by simpa using hs)];simpa using ih at0
theorem firstOf_all {l:List Ch} (h:∀ c∈l,0≤c.1):firstOf l = -1:=by
 induction l with
 | nil=>rfl
 | cons c t ih=>rw [firstOf_good (h c (by simp))];exact ih (fun c hc=>h c (by simp [hc]))
theorem first_wr (xs:List Int):first (wr xs) = -1:=by
 apply firstOf_all
 intro c hc
 have:c.1∈(chars 0 (wr xs)).map (·.1):=List.mem_map.2 ⟨c,hc,rfl⟩
 rw [chars_wr_scalars,List.mem_filter] at this
 have h:=this.2
 simp [Sc] at h
 omega
end Go.Proofs.YtioahgklplbinaaGreatDoor.U.UtfM
namespace SetM
theorem rise_len : ∀ (a E : List Int), a.Pairwise (· < ·) → (∀ x ∈ a, x ∈ E) → a.length ≤ E.length
 | [],_,_,_=>by simp
 | x::t,E,ha,h=>by
  obtain ⟨a1,a2⟩:=List.pairwise_cons.1 ha
  have hx:x∈E:=h x (by simp)
  have h1:=rise_len t (E.erase x) a2 (fun y hy=>(List.mem_erase_of_ne (by have:=a1 y hy;omega)).2 (h y (by simp [hy])))
  rw [List.length_erase_of_mem hx] at h1
  have:=List.length_pos_of_mem hx
  simp only [List.length_cons];omega
def cands (r:Int):List Int:=foldF r::runsL.map fun u=>foldF r - stepR u
theorem cands_mem {x r:Int} (h:foldF x=foldF r):x∈cands r:=by
 unfold cands
 by_cases e:foldF x=x
 ·rw [← h,e];simp
 ·obtain ⟨u, hu, _, _, h5⟩ := foldFrom_run runsL x e
  have h6:foldF x=x+stepR u:=h5
  exact List.mem_cons.2 (.inr (List.mem_map.2 ⟨u,hu,by omega⟩))
theorem orbit_len {r:Int} {o:List Int} (h:IsOrbit r o):o.length≤14:=rise_len o (cands r) h.1 (fun x hx=>cands_mem ((h.2 x).1 hx).2.2)
def docL (r:Int) (n:Nat):List Int:=((List.range n).map Int.ofNat).filter fun x=>decide (foldF x=foldF r)
theorem docL_succ (r:Int) (n:Nat):docL r (n+1)=docL r n++if foldF (n:Int)=foldF r then [(n:Int)] else []:=by
 unfold docL
 rw [List.range_succ,List.map_append,List.filter_append]
 by_cases h:foldF (n:Int)=foldF r
 ·rw [if_pos h];simp [h]
 ·rw [if_neg h];simp [h]
theorem docL_len (r:Int) (n:Nat):(docL r n).length≤n:=by
 unfold docL
 refine Nat.le_trans (List.length_filter_le _ _) ?_
 simp
theorem mem_docL (r x:Int) (n:Nat):x∈docL r n↔0≤x∧x < n∧foldF x=foldF r:=by
 unfold docL
 rw [List.mem_filter,List.mem_map]
 simp only [List.mem_range,decide_eq_true_eq]
 constructor
 ·rintro ⟨⟨i,hi,rfl⟩,h⟩;exact ⟨by simp only [Int.ofNat_eq_natCast];omega,by simp only [Int.ofNat_eq_natCast];omega,h⟩
 ·rintro ⟨h1,h2,h3⟩;exact ⟨⟨x.toNat,by omega,by simp only [Int.ofNat_eq_natCast];omega⟩,h3⟩
theorem docL_rise (r:Int) (n:Nat):(docL r n).Pairwise (· < ·):=by
 unfold docL
 refine List.Pairwise.filter _ ?_
 rw [List.pairwise_map]
 refine List.Pairwise.imp ?_ List.pairwise_lt_range
 intro a b h
 simp only [Int.ofNat_eq_natCast];omega
theorem foldF_far {x r:Int} (h:foldF x=foldF r):(x < 12288∧r < 12288)∨x=r:=by
 have h1:=foldF_spec x
 have h2:=foldF_spec r
 omega
theorem doc_orbit (r:Int) (hr:Sc r):IsOrbit r (docL r 12288++if 12288≤r then [r] else []):=by
 have hr0:0≤r:=by unfold Sc at hr;omega
 have hlow:∀ x:Int,0≤x→x < 12288→Sc x:=fun x h1 h2=>by unfold Sc;omega
 constructor
 ·rw [List.pairwise_append]
  refine ⟨docL_rise r _,by split <;> simp,fun a ha b hb=>?_⟩
  have h1:=(mem_docL r a _).1 ha
  split at hb
  ·simp at hb;subst hb;omega
  ·simp at hb
 ·intro x
  rw [List.mem_append,mem_docL]
  constructor
  ·rintro (⟨h1, h2, h3⟩ | h)
   ·exact ⟨hlow x h1 h2,hr,h3⟩
   ·split at h
    ·simp at h;subst h;exact ⟨hr,hr,rfl⟩
    ·simp at h
  ·rintro ⟨h1, _, h3⟩
   have hx0:0≤x:=by unfold Sc at h1;omega
   rcases foldF_far h3 with ⟨h4,_⟩ | rfl
   ·exact .inl ⟨hx0,h4,h3⟩
   ·by_cases h5 : 12288 ≤ x
    ·rw [if_pos h5];simp
    ·exact .inl ⟨hx0,by omega,rfl⟩
theorem no_orbit {r:Int} (hr:¬ Sc r):IsOrbit r []:=⟨List.Pairwise.nil,fun x=>⟨fun h=>absurd h (by simp),fun h=>absurd h.2.1 hr⟩⟩
end SetM
namespace RxM
open SetM PropsM
inductive Nd where
 | mk (kind:Nat) (set:Int→Prop) (kids:List Nd) (mn mx:Int)
inductive Out (α : Type) where
 | ok (a:α) (r:List Int)
 | err (e:Nat) (r:List Int)
inductive Pc where
 | one (c:Int)
 | cls (i:Nat)
abbrev Df:=List Int×Nd×Nd
def none0:Int→Prop:=fun _=>False
def isL (c:Int):Bool:=decide (97≤c∧c≤122) || decide (65≤c∧c≤90)
def isD (c:Int):Bool:=decide (48≤c∧c≤57)
def isH (c:Int):Bool:=isD c || (decide (97≤c∧c≤102) || decide (65≤c∧c≤70))
def isLD (c:Int):Bool:=isL c || isD c
def inS (l:List Int) (c:Int):Bool:=l.contains c
def stopS:List Int:=[124,41,93,125,42,43,63]
def escS:List Int:=[124,40,41,91,93,123,125,42,43,63,46,92,94,45]
def clsS:List Int:=[91,93,94,45]
def at1 (c : Int) : List Int → Bool
 | []=>false
 | b::_=>decide (b=c)
def sees (P : Int → Bool) : List Int → Bool
 | []=>false
 | b::_=>P b
def needF (c : Int) : List Int → Out Unit
 | []=>.err 60 []
 | b::t=>if b=c then .ok () t else .err 60 (b::t)
def runF (P : Int → Bool) : Nat → List Int → List Int × List Int
 | 0,r=>([],r)
 | _+1,[]=>([],[])
 | k+1,c::r=>if P c then (c::(runF P k r).1,(runF P k r).2) else ([],c::r)
def numF (r:List Int):Out Int :=
 if (runF isD 2 r).1=[] then .err 60 r else .ok ((runF isD 2 r).1.foldl (fun n c=>n*10+(c - 48)) 0) (runF isD 2 r).2
def mostF (a:Int) (r:List Int):Out Int :=
 if at1 44 r then (if at1 125 r.tail then .ok (-1) r.tail else numF r.tail) else .ok a r
def boundsF (r:List Int):Out (Int×Int) :=
 match numF r with
 | .err e x=>.err e x
 | .ok a r1=>match mostF a r1 with
  | .err e x=>.err e x
  | .ok b r2=>match needF 125 r2 with
   | .err e x=>.err e x
   | .ok _ r3=>if 20 < max a b∨(b≠-1∧b < a) then .err 63 r else .ok (a,b) r3
def timesF (r:List Int):Out (Option (Int×Int)) :=
 if at1 42 r then .ok (some (0,-1)) r.tail
 else if at1 43 r then .ok (some (1,-1)) r.tail
 else if at1 63 r then .ok (some (0,1)) r.tail
 else if at1 123 r∧sees isL r.tail=false then (match boundsF r.tail with
  | .err e x=>.err e x
  | .ok p r1=>.ok (some p) r1)
 else .ok none r
def repL : Nat → Nd → List Int → Out Nd
 | 0,_,r=>.err 0 r
 | f+1,x,r=>match timesF r with
  | .err e y=>.err e y
  | .ok none r1=>.ok x r1
  | .ok (some p) r1=>repL f (.mk 4 none0 [x] p.1 p.2) r1
def hexV (c:Int):Int:=if c≤57 then c - 48 else if c≤70 then c - 55 else c - 87
def hexN (l:List Int):Int:=l.foldl (fun n c=>n*16+hexV c) 0
def scB (n:Int):Bool:=decide (0≤n∧n≤1114111∧¬ (55296≤n∧n≤57343))
def byNumF (r0 r:List Int):Out Pc :=
 match needF 123 r with
 | .err e x=>.err e x
 | .ok _ r1=>if (runF isH 6 r1).1=[] then .err 60 r1 else match needF 125 (runF isH 6 r1).2 with
  | .err e x=>.err e x
  | .ok _ r2=>if scB (hexN (runF isH 6 r1).1) then .ok (.one (hexN (runF isH 6 r1).1)) r2 else .err 60 r0
def bytesOf (l:List Int):Bs:=(Go.Proofs.YtioahgklplbinaaGreatDoor.U.UtfM.wr l).map fun n=>UInt8.ofNat n.toNat
def not125 (c:Int):Bool:=decide (c≠125)
def byNameF (r0 r:List Int):Out Pc :=
 match needF 123 r with
 | .err e x=>.err e x
 | .ok _ r1=>match needF 125 (r1.dropWhile not125) with
  | .err e x=>.err e x
  | .ok _ r2=>match whichF (looseL (bytesOf (r1.takeWhile not125))) with
   | none=>.err 62 r0
   | some i=>.ok (.cls i) r2
def escF (r0 : List Int) : List Int → Out Pc
 | []=>.err 60 []
 | c :: t => if c = 110 then .ok (.one 10) t
  else if c=114 then .ok (.one 13) t
  else if c=116 then .ok (.one 9) t
  else if c=120 then byNumF r0 t
  else if c=112 then byNameF r0 t
  else if inS escS c then .ok (.one c) t else .err 60 (c::t)
def pieceF : List Int → Out Pc
 | []=>.err 60 []
 | c::t=>if c=92 then escF (c::t) t else if inS clsS c then .err 60 (c::t) else .ok (.one c) t
def pcS : Pc → List Sp
 | .one c=>[(c,c)]
 | .cls i=>gathOf i
def pairF (r:List Int) (a b:Pc) (r3:List Int):Out (List Sp) :=
 match a,b with
 | .one x,.one y=>if y < x then .err 60 r else .ok [(x,y)] r3
 | _,_=>.err 60 r
def itemF (r:List Int):Out (List Sp) :=
 match pieceF r with
 | .err e x=>.err e x
 | .ok a r1=>if at1 45 r1 then (match pieceF r1.tail with
   | .err e x=>.err e x
   | .ok b r3=>pairF r a b r3)
  else .ok (pcS a) r1
def classL : Nat → List Sp → List Int → Out (List Sp)
 | 0,_,r=>.err 0 r
 | f+1,acc,r=>if at1 93 r then .ok acc r.tail else match itemF r with
  | .err e x=>.err e x
  | .ok l r1=>classL f (acc++l) r1
def notK (K:Int→Prop):Int→Prop:=fun c=>SetM.Sc c∧¬ K c
def classF (r:List Int):Out (Int→Prop) :=
 if at1 94 r then (match classL 201 [] r.tail with
  | .err e x=>.err e x
  | .ok l r1=>.ok (notK (Tells l)) r1)
 else match classL 201 [] r with
  | .err e x=>.err e x
  | .ok l r1=>.ok (Tells l) r1
def chN (cl:Bool) (K:Int→Prop):Nd:= .mk 1 (if cl then ClosedK K else K) [] 0 0
def joinF (k : Nat) : List Nd → Nd
 | []=>.mk 0 none0 [] 0 0
 | [x]=>x
 | x::y::l=>.mk k none0 (x::y::l) 0 0
def findF (D:List Df) (cl:Bool) (nm:List Int):Option Nd :=
 match D.find? (fun d=>d.1 == nm) with
 | none=>none
 | some d=>some (if cl then d.2.2 else d.2.1)
def namedF (D : List Df) (cl : Bool) (r0 : List Int) : List Int → Out Nd
 | []=>.err 60 []
 | c::t=>if isL c then (match needF 125 (t.dropWhile isLD) with
   | .err e x=>.err e x
   | .ok _ r2=>match findF D cl (c::t.takeWhile isLD) with
    | none=>.err 62 r0
    | some x=>.ok x r2)
  else .err 60 (c::t)
def innerF (f:Bool→List Int→Out Nd) (cl:Bool) (r:List Int):Out Nd :=
 match f cl r with
 | .err e x=>.err e x
 | .ok x r1=>match needF 41 r1 with
  | .err e x=>.err e x
  | .ok _ r2=>.ok x r2
def groupF (f:Bool→List Int→Out Nd) (cl:Bool) (r:List Int):Out Nd :=
 if at1 63 r then (if at1 105 r.tail∧at1 58 r.tail.tail then innerF f true r.tail.tail.tail else .err 60 r.tail)
 else innerF f cl r
def atomF (D : List Df) (f : Option (Bool → List Int → Out Nd)) (cl : Bool) : List Int → Out Nd
 | []=>.err 0 []
 | c::t =>
  if c=40 then (match f with
   | none=>.err 61 (c::t)
   | some f=>groupF f cl t)
  else if c=123 then namedF D cl (c::t) t
  else if c=91 then (match classF t with
   | .err e x=>.err e x
   | .ok K r1=>.ok (chN cl K) r1)
  else if c=92 then (match escF (c::t) t with
   | .err e x=>.err e x
   | .ok p r1=>.ok (chN cl (Tells (pcS p))) r1)
  else if c=46 then .ok (chN cl (notK (Tells [(10,10)]))) t
  else .ok (chN cl (Tells [(c,c)])) t
def catL (atom : List Int → Out Nd) : Nat → List Nd → List Int → Out (List Nd)
 | 0,_,r=>.err 0 r
 | f+1,acc,r=>if r=[]∨sees (inS stopS) r then .ok acc r else match atom r with
  | .err e x=>.err e x
  | .ok x r1=>match repL 201 x r1 with
   | .err e x=>.err e x
   | .ok y r2=>catL atom f (acc++[y]) r2
def catF (atom:List Int→Out Nd) (r:List Int):Out Nd :=
 match catL atom 201 [] r with
 | .err e x=>.err e x
 | .ok l r1=>.ok (joinF 2 l) r1
def altL (cat : List Int → Out Nd) : Nat → List Nd → List Int → Out (List Nd)
 | 0,_,r=>.err 0 r
 | f+1,acc,r=>if at1 124 r then (match cat r.tail with
   | .err e x=>.err e x
   | .ok x r1=>altL cat f (acc++[x]) r1)
  else .ok acc r
def altB (cat:List Int→Out Nd) (r:List Int):Out Nd :=
 match cat r with
 | .err e x=>.err e x
 | .ok x r1=>match altL cat 201 [x] r1 with
  | .err e x=>.err e x
  | .ok l r2=>.ok (joinF 3 l) r2
def altF (D : List Df) : Nat → Bool → List Int → Out Nd
 | 0,cl,r=>altB (catF (atomF D none cl)) r
 | n+1,cl,r=>altB (catF (atomF D (some (altF D n)) cl)) r
theorem run_len (P : Int → Bool) : ∀ (k : Nat) (r : List Int), (runF P k r).2.length + (runF P k r).1.length = r.length
 | 0,r=>by simp [runF]
 | k+1,[]=>by simp [runF]
 | k+1,c::r=>by
  unfold runF
  split
  ·have := run_len P k r
   simp only [List.length_cons];omega
  ·simp
theorem need_ok {c:Int} {r r':List Int} {u:Unit} (h:needF c r=.ok u r'):r=c::r':=by
 cases r with
 | nil=>simp [needF] at h
 | cons b t =>
  simp only [needF] at h
  split at h
  ·cases h;simp_all
  ·cases h
theorem at1_true {c:Int} {r:List Int} (h:at1 c r=true):r=c::r.tail:=by
 cases r with
 | nil=>simp [at1] at h
 | cons b t=>simp [at1] at h;simp [h]
theorem tail_lt {c:Int} {r:List Int} (h:at1 c r=true):r.tail.length+1=r.length:=by
 conv=>rhs;rw [at1_true h]
 simp
theorem num_len {r r':List Int} {n:Int} (h:numF r=.ok n r'):r'.length < r.length:=by
 unfold numF at h
 split at h
 ·cases h
 ·rename_i hne
  cases h
  have:=run_len isD 2 r
  have:0 < (runF isD 2 r).1.length:=List.length_pos_iff.2 hne
  omega
theorem most_len {a b:Int} {r r':List Int} (h:mostF a r=.ok b r'):r'.length≤r.length:=by
 unfold mostF at h
 split at h
 ·rename_i h1
  have:=tail_lt h1
  split at h
  ·cases h;omega
  ·have:=num_len h;omega
 ·cases h;omega
theorem bounds_len {p:Int×Int} {r r':List Int} (h:boundsF r=.ok p r'):r'.length < r.length:=by
 unfold boundsF at h
 split at h
 ·cases h
 ·rename_i a r1 h1
  split at h
  ·cases h
  ·rename_i b r2 h2
   split at h
   ·cases h
   ·rename_i r3 h3
    split at h
    ·cases h
    ·cases h
     have:=num_len h1
     have:=most_len h2
     have:=congrArg List.length (need_ok h3)
     simp at this;omega
theorem times_len {p:Int×Int} {r r':List Int} (h:timesF r=.ok (some p) r'):r'.length < r.length:=by
 unfold timesF at h
 split at h
 ·rename_i h1;cases h;have:=tail_lt h1;omega
 split at h
 ·rename_i h1;cases h;have:=tail_lt h1;omega
 split at h
 ·rename_i h1;cases h;have:=tail_lt h1;omega
 split at h
 ·rename_i h1
  split at h
  ·cases h
  ·rename_i h2;cases h;have:=tail_lt h1.1;have:=bounds_len h2;omega
 ·cases h
theorem times_none {r r':List Int} (h:timesF r=.ok none r'):r'=r:=by
 unfold timesF at h
 split at h
 ·cases h
 split at h
 ·cases h
 split at h
 ·cases h
 split at h
 ·split at h
  ·cases h
  ·cases h
 ·cases h;rfl
theorem rep_len : ∀ (f : Nat) (x y : Nd) (r r' : List Int), repL f x r = .ok y r' → r'.length ≤ r.length
 | 0,_,_,_,_,h=>by simp [repL] at h
 | f+1,x,y,r,r',h=>by
  unfold repL at h
  split at h
  ·cases h
  ·rename_i h1;cases h;rw [times_none h1];omega
  ·rename_i h1;have:=times_len h1;have:=rep_len f _ _ _ _ h;omega
theorem drop_le (P:Int→Bool) (r:List Int):(r.dropWhile P).length≤r.length:=(List.dropWhile_sublist P).length_le
theorem byNum_len {r0 r r':List Int} {p:Pc} (h:byNumF r0 r=.ok p r'):r'.length < r.length:=by
 unfold byNumF at h
 split at h
 ·cases h
 ·rename_i r1 h1
  split at h
  ·cases h
  split at h
  ·cases h
  ·rename_i r2 h2
   split at h
   ·cases h
    have e1:=congrArg List.length (need_ok h1)
    have e2:=congrArg List.length (need_ok h2)
    have:=run_len isH 6 r1
    simp at e1 e2;omega
   ·cases h
theorem byName_len {r0 r r':List Int} {p:Pc} (h:byNameF r0 r=.ok p r'):r'.length < r.length:=by
 unfold byNameF at h
 split at h
 ·cases h
 ·rename_i r1 h1
  split at h
  ·cases h
  ·rename_i r2 h2
   split at h
   ·cases h
   ·cases h
    have e1:=congrArg List.length (need_ok h1)
    have e2:=congrArg List.length (need_ok h2)
    have:=drop_le not125 r1
    simp at e1 e2;omega
theorem esc_len {r0 r r':List Int} {p:Pc} (h:escF r0 r=.ok p r'):r'.length < r.length:=by
 cases r with
 | nil=>simp [escF] at h
 | cons c t =>
  simp only [escF] at h
  repeat' split at h
  all_goals first | (cases h;simp;done) | (cases h;done) | (have:=byNum_len h;simp;omega) | (have:=byName_len h;simp;omega)
theorem piece_len {r r':List Int} {p:Pc} (h:pieceF r=.ok p r'):r'.length < r.length:=by
 cases r with
 | nil=>simp [pieceF] at h
 | cons c t =>
  simp only [pieceF] at h
  repeat' split at h
  all_goals first | (cases h;simp;done) | (cases h;done) | (have:=esc_len h;simp;omega)
theorem pair_ok {r r3 r':List Int} {a b:Pc} {l:List Sp} (h:pairF r a b r3=.ok l r'):r'=r3:=by
 unfold pairF at h
 split at h
 ·split at h
  ·cases h
  ·cases h;rfl
 ·cases h
theorem item_len {r r':List Int} {l:List Sp} (h:itemF r=.ok l r'):r'.length < r.length:=by
 unfold itemF at h
 split at h
 ·cases h
 ·rename_i a r1 h1
  have:=piece_len h1
  split at h
  ·rename_i h2
   have:=tail_lt h2
   split at h
   ·cases h
   ·rename_i b r3 h3
    have:=piece_len h3
    rw [pair_ok h];omega
  ·cases h;omega
theorem classL_len : ∀ (f : Nat) (acc l : List Sp) (r r' : List Int), classL f acc r = .ok l r' → r'.length < r.length
 | 0,_,_,_,_,h=>by simp [classL] at h
 | f+1,acc,l,r,r',h=>by
  unfold classL at h
  split at h
  ·rename_i h1;cases h;have:=tail_lt h1;omega
  ·split at h
   ·cases h
   ·rename_i h1;have:=item_len h1;have:=classL_len f _ _ _ _ h;omega
theorem class_len {K:Int→Prop} {r r':List Int} (h:classF r=.ok K r'):r'.length < r.length:=by
 unfold classF at h
 split at h
 ·rename_i h1
  have:=tail_lt h1
  split at h
  ·cases h
  ·rename_i h2;cases h;have:=classL_len _ _ _ _ _ h2;omega
 ·split at h
  ·cases h
  ·rename_i h2;cases h;have:=classL_len _ _ _ _ _ h2;omega
theorem named_len {D:List Df} {cl:Bool} {r0 r r':List Int} {x:Nd} (h:namedF D cl r0 r=.ok x r'):r'.length < r.length:=by
 cases r with
 | nil=>simp [namedF] at h
 | cons c t =>
  simp only [namedF] at h
  split at h
  ·split at h
   ·cases h
   ·rename_i r2 h2
    split at h
    ·cases h
    ·cases h
     have e2:=congrArg List.length (need_ok h2)
     have:=drop_le isLD t
     simp at e2 ⊢;omega
  ·cases h
def Le {α:Type} (f:List Int→Out α):Prop:=∀ r x r',f r=.ok x r'→r'.length≤r.length
def Lt {α:Type} (f:List Int→Out α):Prop:=∀ r x r',f r=.ok x r'→r'.length < r.length
theorem inner_len {f:Bool→List Int→Out Nd} (hf:∀ cl,Le (f cl)) {cl:Bool}:Lt (innerF f cl):=by
 intro r x r' h
 unfold innerF at h
 split at h
 ·cases h
 ·rename_i y r1 h1
  split at h
  ·cases h
  ·rename_i r2 h2
   cases h
   have:=hf cl _ _ _ h1
   have e2:=congrArg List.length (need_ok h2)
   simp at e2;omega
theorem group_len {f:Bool→List Int→Out Nd} (hf:∀ cl,Le (f cl)) {cl:Bool}:Lt (groupF f cl):=by
 intro r x r' h
 unfold groupF at h
 split at h
 ·split at h
  ·rename_i h1 h2
   have:=tail_lt h1
   have:=tail_lt h2.1
   have:=tail_lt h2.2
   have:=inner_len hf _ _ _ h
   omega
  ·cases h
 ·exact inner_len hf _ _ _ h
theorem atom_len {D:List Df} {f:Option (Bool→List Int→Out Nd)} (hf:∀ g,f=some g→∀ cl,Le (g cl)) {cl:Bool}:Lt (atomF D f cl):=by
 intro r x r' h
 cases r with
 | nil=>simp [atomF] at h
 | cons c t =>
  simp only [atomF] at h
  split at h
  ·split at h
   ·cases h
   ·rename_i g;have:=group_len (hf g rfl) _ _ _ h;simp;omega
  split at h
  ·have:=named_len h;simp;omega
  split at h
  ·split at h
   ·cases h
   ·rename_i h1;cases h;have:=class_len h1;simp;omega
  split at h
  ·split at h
   ·cases h
   ·rename_i h1;cases h;have:=esc_len h1;simp;omega
  split at h
  ·cases h;simp
  ·cases h;simp
theorem catL_len {atom : List Int → Out Nd} (ha : Lt atom) : ∀ (f : Nat) (acc l : List Nd) (r r' : List Int), catL atom f acc r = .ok l r' → r'.length ≤ r.length
 | 0,_,_,_,_,h=>by simp [catL] at h
 | f+1,acc,l,r,r',h=>by
  unfold catL at h
  split at h
  ·cases h;omega
  ·split at h
   ·cases h
   ·rename_i h1
    split at h
    ·cases h
    ·rename_i h2
     have:=ha _ _ _ h1
     have:=rep_len _ _ _ _ _ h2
     have:=catL_len ha f _ _ _ _ h
     omega
theorem cat_len {atom:List Int→Out Nd} (ha:Lt atom):Le (catF atom):=by
 intro r x r' h
 unfold catF at h
 split at h
 ·cases h
 ·rename_i h1;cases h;exact catL_len ha _ _ _ _ _ h1
theorem altL_len {cat : List Int → Out Nd} (hc : Le cat) : ∀ (f : Nat) (acc l : List Nd) (r r' : List Int), altL cat f acc r = .ok l r' → r'.length ≤ r.length
 | 0,_,_,_,_,h=>by simp [altL] at h
 | f+1,acc,l,r,r',h=>by
  unfold altL at h
  split at h
  ·rename_i h0
   have:=tail_lt h0
   split at h
   ·cases h
   ·rename_i h1
    have:=hc _ _ _ h1
    have:=altL_len hc f _ _ _ _ h
    omega
  ·cases h;omega
theorem altB_len {cat:List Int→Out Nd} (hc:Le cat):Le (altB cat):=by
 intro r x r' h
 unfold altB at h
 split at h
 ·cases h
 ·rename_i h1
  split at h
  ·cases h
  ·rename_i h2
   cases h
   have:=hc _ _ _ h1
   have:=altL_len hc _ _ _ _ _ h2
   omega
theorem alt_len (D : List Df) : ∀ (n : Nat) (cl : Bool), Le (altF D n cl)
 | 0,cl=>altB_len (cat_len (atom_len (by simp)))
 | n+1,cl=>altB_len (cat_len (atom_len (by rintro g hg c;cases hg;exact alt_len D n c)))
end RxM
namespace RxM
open SetM PropsM
def NI (r:List Int):Prop:=r.getLast?≠some 105
theorem NI.nil:NI []:=by simp [NI]
end RxM
namespace RxM
open SetM PropsM
end RxM
namespace RxM
open SetM PropsM
section
variable {hs:List Int} (h1:hs≠[]) (h6:hs.length≤6) (hh:∀ c∈hs,isH c=true)
include h1 h6 hh
end
end RxM
