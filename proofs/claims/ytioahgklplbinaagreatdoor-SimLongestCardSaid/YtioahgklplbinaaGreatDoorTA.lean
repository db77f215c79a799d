/- GThom, ZPure, ZTold, in one text. -/
import Derived.Test.YtioahgklplbinaaGreatDoorGC
import Derived.Test.YtioahgklplbinaaGreatDoorNBa
import Derived.Test.YtioahgklplbinaaGreatDoorNPa
/- Plain mathematics: a machine of patterns comes to a tag just by what its pattern tells. Nothing of a program stands here. -/
namespace SimM
open SetM NfaM WrM
def Pw (L : List Int → Prop) : Nat → List Int → Prop
 | 0,w=>w=[]
 | n+1,w=>∃ a b,w=a++b∧Pw L n a∧L b
theorem pw_cons (L : List Int → Prop) : ∀ (n : Nat) (a b : List Int), L a → Pw L n b → Pw L (n + 1) (a ++ b)
 | 0,a,b,ha,hb=>by rw [Pw] at hb;subst hb;exact ⟨[],a,by simp,rfl,ha⟩
 | n+1,a,b,ha,hb=>by
  obtain ⟨c,d,rfl,hc,hd⟩:=hb
  exact ⟨a++c,d,by simp,pw_cons L n a c ha hc,hd⟩
theorem pw_uncons (L : List Int → Prop) : ∀ (n : Nat) (w : List Int), Pw L (n + 1) w → ∃ a b, w = a ++ b ∧ L a ∧ Pw L n b
 | 0,w,h=>by
  obtain ⟨a,b,rfl,ha,hb⟩:=h
  rw [Pw] at ha
  subst ha
  exact ⟨b,[],by simp,hb,rfl⟩
 | n+1,w,h=>by
  obtain ⟨a,b,rfl,ha,hb⟩:=h
  obtain ⟨c,d,rfl,hc,hd⟩:=pw_uncons L n a ha
  exact ⟨c,d++b,by simp,hc,d,b,rfl,hd,hb⟩
mutual
def Lg : Ns → List Int → Prop
 | .mk k sl kids mn mx,w=>if k=1 then ∃ r,w=[r]∧Tells sl r else if k=2 then LgC kids w else if k=3 then LgO kids w else if k=4 then LgR kids mn mx w else w=[]
def LgC : List Ns → List Int → Prop
 | [],w=>w=[]
 | x::l,w=>∃ a b,w=a++b∧Lg x a∧LgC l b
def LgO : List Ns → List Int → Prop
 | [],_=>False
 | x::l,w=>Lg x w∨LgO l w
def LgR : List Ns → Int → Int → List Int → Prop
 | [],_,_,w=>w=[]
 | x::_,mn,mx,w=>∃ n:Nat,mn≤n∧(mx < 0∨(n:Int)≤mx)∧Pw (Lg x) n w
end
def Val (m:Mc) (A:Nat→List Int→Prop):Prop :=
 (∀ i k:Nat,(k:Int)∈m.fr.getD i []→∀ w,A i w→A k w)∧(∀ (i k:Nat) (S:List Sp),((k:Int),S)∈m.ed.getD i []→∀ w r,A i w→Tells S r→A k (w++[r]))
theorem getD_snoc {α:Type} (l:List (List α)) (i:Nat):(l++[[]]).getD i []=l.getD i []:=by
 simp only [List.getD,List.getElem?_append]
 split
 ·rfl
 ·rename_i h
  rw [List.getElem?_eq_none (by omega:l.length≤i)]
  cases h1:i - l.length with
  | zero=>rfl
  | succ n=>rfl
theorem val_st {m:Mc} {A:Nat→List Int→Prop}:Val (stF m) A↔Val m A:=by
 unfold Val stF
 simp only [getD_snoc]
theorem getD_set {α:Type} (l:List (List α)) (i j:Nat) (x:List α) (h:i < l.length):(l.set i x).getD j []=if j=i then x else l.getD j []:=by
 simp only [List.getD,List.getElem?_set]
 by_cases e:i=j
 ·subst e;simp [h]
 ·simp [e,Ne.symm e]
theorem val_fr {m:Mc} {A:Nat→List Int→Prop} {i k:Nat} (h:i < m.fr.length):Val (frF m i k) A↔(Val m A∧∀ w,A i w→A k w):=by
 unfold Val frF
 constructor
 ·rintro ⟨h1, h2⟩
  refine ⟨⟨fun j x hx w hw=>h1 j x ?_ w hw,h2⟩,fun w hw=>h1 i k ?_ w hw⟩
  ·rw [getD_set _ _ _ _ h]
   split
   ·rename_i e;subst e;exact List.mem_append.2 (.inl hx)
   ·exact hx
  ·rw [getD_set _ _ _ _ h,if_pos rfl];simp
 ·rintro ⟨⟨h1, h2⟩, h3⟩
  refine ⟨fun j x hx w hw=>?_,h2⟩
  rw [getD_set _ _ _ _ h] at hx
  split at hx
  ·rename_i e
   subst e
   rcases List.mem_append.1 hx with hx | hx
   ·exact h1 j x hx w hw
   ·have e1 := List.mem_singleton.1 hx
    obtain rfl:x=k:=by omega
    exact h3 w hw
  ·exact h1 j x hx w hw
theorem val_ed {m:Mc} {A:Nat→List Int→Prop} {i k:Nat} {S:List Sp} (h:i < m.ed.length):Val (edF m i k S) A↔(Val m A∧∀ w r,A i w→Tells S r→A k (w++[r])):=by
 unfold Val edF
 constructor
 ·rintro ⟨h1, h2⟩
  refine ⟨⟨h1,fun j x T hx w r hw hr=>h2 j x T ?_ w r hw hr⟩,fun w r hw hr=>h2 i k S ?_ w r hw hr⟩
  ·rw [getD_set _ _ _ _ h]
   split
   ·rename_i e;subst e;exact List.mem_append.2 (.inl hx)
   ·exact hx
  ·rw [getD_set _ _ _ _ h,if_pos rfl];simp
 ·rintro ⟨⟨h1, h2⟩, h3⟩
  refine ⟨h1,fun j x T hx w r hw hr=>?_⟩
  rw [getD_set _ _ _ _ h] at hx
  split at hx
  ·rename_i e
   subst e
   rcases List.mem_append.1 hx with hx | hx
   ·exact h2 j x T hx w r hw hr
   ·have hx := List.mem_singleton.1 hx
    injection hx with e1 e2
    subst e2
    obtain rfl:x=k:=by omega
    exact h3 w r hw hr
  ·exact h2 j x T hx w r hw hr
theorem row_in {α:Type} {l:List (List α)} {i:Nat} {x:α} (h:x∈l.getD i []):i < l.length:=by
 refine Nat.lt_of_not_le (fun hi=>?_)
 rw [show l.getD i []=[] by simp [List.getD,hi]] at h
 cases h
theorem val_ext {m:Mc} (hI:NfaM.Inv m) {A A':Nat→List Int→Prop} (h:Val m A) (he:∀ q,q < m.len→A' q=A q):Val m A':=by
 refine ⟨fun i k hk w hw=>?_,fun i k S hk w r hw hr=>?_⟩
 ·have hi := row_in hk
  rw [hI.wf.2] at hi
  obtain ⟨row,h1,h2⟩:=mem_getD hk
  have hb:=hI.fr row h1 _ h2
  rw [he i hi] at hw
  rw [he k (by omega)]
  exact h.1 i k hk w hw
 ·have hi := row_in hk
  rw [hI.wf.1] at hi
  obtain ⟨row,h1,h2⟩:=mem_getD hk
  have hb:=hI.ed row h1 _ h2
  rw [he i hi] at hw
  rw [he k (by have:=hb.2.1;dsimp only at this;omega)]
  exact h.2 i k S hk w r hw hr
def Sq (L K:List Int→Prop) (w:List Int):Prop:=∃ a b,w=a++b∧L a∧K b
structure Fg (L : List Int → Prop) (g : Mc → Nat → Mc × Nat) : Prop where
 inv:Gd g
 tg:∀ m i q,(g m i).1.tg.getD q (-1)=m.tg.getD q (-1)
 fresh:∀ m i,NfaM.Inv m→i < m.len→(g m i).2=i∨m.len≤(g m i).2
 sub:∀ m i B,NfaM.Inv m→i < m.len→Val (g m i).1 B→Val m B
 snd:∀ m i A,NfaM.Inv m→i < m.len→Val m A→∃ A',Val (g m i).1 A'∧(∀ q,q < m.len→A' q=A q)∧∀ w,A' (g m i).2 w→Sq (A i) L w
 cmp:∀ m i B,NfaM.Inv m→i < m.len→Val (g m i).1 B→∀ a b,B i a→L b→B (g m i).2 (a++b)
theorem tg_st (m:Mc) (q:Nat):(stF m).tg.getD q (-1)=m.tg.getD q (-1):=by
 simp only [stF,List.getD,List.getElem?_append]
 split
 ·rfl
 ·rename_i h
  rw [List.getElem?_eq_none (by omega:m.tg.length≤q)]
  cases q - m.tg.length <;> rfl
theorem fork_m {m:Mc} {i:Nat} (h:NfaM.Inv m) (hi:i < m.len):NfaM.Inv (frF (stF m) i m.len)∧(frF (stF m) i m.len).len=m.len+1∧i < (stF m).fr.length:=by
 have hl:=len_st m
 exact ⟨h.st.fre i (by omega),by rw [len_fr,hl],by have:=h.st.wf.2;have e:(stF m).tg.length=m.len+1:=hl;omega⟩
theorem Fg.fork {L : List Int → Prop} {g : Mc → Nat → Mc × Nat} (h : Fg L g) : Fg L (forkB g) where
 inv:=fun m i hI hi=>by have:=fork_inv h.inv m i hI;exact ⟨this.1,by omega,this.2.2⟩
 tg:=fun m i q=>by
  show (g (frF (stF m) i m.len) m.len).1.tg.getD q (-1)=_
  rw [h.tg]
  exact tg_st m q
 fresh:=fun m i hI hi=>by
  obtain ⟨h1,h2,_⟩:=fork_m hI hi
  right
  show m.len≤(g (frF (stF m) i m.len) m.len).2
  rcases h.fresh _ m.len h1 (by omega) with h3 | h3
  ·rw [h3];exact Nat.le_refl _
  ·rw [h2] at h3;omega
 sub:=fun m i B hI hi hB=>by
  obtain ⟨h1,h2,h3⟩:=fork_m hI hi
  have:=h.sub _ m.len B h1 (by omega) hB
  exact val_st.1 ((val_fr h3).1 this).1
 snd:=fun m i A hI hi hA=>by
  obtain ⟨h1,h2,h3⟩:=fork_m hI hi
  obtain ⟨A1,hA1⟩:∃ A1:Nat→List Int→Prop,A1=fun q=>if q=m.len then A i else A q:=⟨_,rfl⟩
  have e1:A1 m.len=A i:=by rw [hA1];simp
  have e2:∀ q,q < m.len→A1 q=A q:=fun q hq=>by rw [hA1];simp;intro e;omega
  have hv:Val (frF (stF m) i m.len) A1:=(val_fr h3).2 ⟨val_st.2 (val_ext hI hA e2),fun w hw=>by rw [e1];rw [e2 i hi] at hw;exact hw⟩
  obtain ⟨A',g1,g2,g3⟩:=h.snd _ m.len A1 h1 (by omega) hv
  refine ⟨A',g1,fun q hq=>by rw [g2 q (by omega),e2 q hq],fun w hw=>?_⟩
  have:=g3 w hw
  rw [e1] at this
  exact this
 cmp:=fun m i B hI hi hB a b ha hb=>by
  obtain ⟨h1,h2,h3⟩:=fork_m hI hi
  have hv:=h.sub _ m.len B h1 (by omega) hB
  have hw:=((val_fr h3).1 hv).2 a ha
  exact h.cmp _ m.len B h1 (by omega) hB a b hw hb
theorem Fg.seq {L K : List Int → Prop} {g f : Mc → Nat → Mc × Nat} (h : Fg L g) (k : Fg K f) : Fg (Sq L K) (fun m i => f (g m i).1 (g m i).2) where
 inv:=fun m i hI hi=>by
  have a:=h.inv m i hI hi
  have b:=k.inv _ _ a.1 a.2.2
  exact ⟨b.1,Nat.le_trans a.2.1 b.2.1,b.2.2⟩
 tg:=fun m i q=>by rw [k.tg,h.tg]
 fresh:=fun m i hI hi=>by
  have a:=h.inv m i hI hi
  have b:=k.fresh _ _ a.1 a.2.2
  show (f (g m i).1 (g m i).2).2=i∨m.len≤(f (g m i).1 (g m i).2).2
  have c:=a.2.1
  rcases h.fresh m i hI hi with h1 | h1 <;> rcases b with b | b <;> omega
 sub:=fun m i B hI hi hB=>by
  have a:=h.inv m i hI hi
  exact h.sub m i B hI hi (k.sub _ _ B a.1 a.2.2 hB)
 snd:=fun m i A hI hi hA=>by
  have a:=h.inv m i hI hi
  obtain ⟨A1,h1,h2,h3⟩:=h.snd m i A hI hi hA
  obtain ⟨A2,k1,k2,k3⟩:=k.snd _ _ A1 a.1 a.2.2 h1
  refine ⟨A2,k1,fun q hq=>by rw [k2 q (by omega),h2 q hq],fun w hw=>?_⟩
  obtain ⟨x,y,rfl,hx,hy⟩:=k3 w hw
  obtain ⟨u,v,rfl,hu,hv⟩:=h3 x hx
  exact ⟨u,v++y,by simp,hu,v,y,rfl,hv,hy⟩
 cmp:=fun m i B hI hi hB x y hx hy=>by
  have a:=h.inv m i hI hi
  obtain ⟨u,v,rfl,hu,hv⟩:=hy
  have h1:=h.cmp m i B hI hi (k.sub _ _ B a.1 a.2.2 hB) x u hx hu
  have h2:=k.cmp _ _ B a.1 a.2.2 hB _ v h1 hv
  rw [List.append_assoc] at h2
  exact h2
theorem Fg.still : Fg (· = []) (fun m i => (m, i)) where
 inv:=fun m i hI hi=>⟨hI,Nat.le_refl _,hi⟩
 tg:=fun _ _ _=>rfl
 fresh:=fun _ _ _ _=>.inl rfl
 sub:=fun _ _ _ _ _ h=>h
 snd:=fun m i A hI hi hA=>⟨A,hA,fun _ _=>rfl,fun w hw=>⟨w,[],by simp,hw,rfl⟩⟩
 cmp:=fun m i B hI hi hB a b ha hb=>by subst hb;rw [List.append_nil];exact ha
theorem Fg.of {L K:List Int→Prop} {g f:Mc→Nat→Mc×Nat} (h:Fg L g) (e:∀ m i,f m i=g m i) (k:∀ w,K w↔L w):Fg K f:=by
 obtain rfl:f=g:=funext fun m=>funext fun i=>e m i
 obtain rfl:K=L:=funext fun w=>propext (k w)
 exact h
theorem Fg.times {L : List Int → Prop} {g : Mc → Nat → Mc × Nat} (h : Fg L g) : ∀ n, Fg (Pw L n) (fun m i => timesB g n (m, i))
 | 0=>Fg.still.of (fun m i=>by rw [timesB]) (fun w=>Iff.rfl)
 | n+1=>(h.fork.seq (h.times n)).of (fun m i=>by rw [timesB]) (fun w=>⟨fun hw=>by
   obtain ⟨a,b,rfl,ha,hb⟩:=pw_uncons L n w hw
   exact ⟨a,b,rfl,ha,hb⟩,fun ⟨a,b,e,ha,hb⟩=>e ▸ pw_cons L n a b ha hb⟩)
theorem maybe_tg {L : List Int → Prop} {g : Mc → Nat → Mc × Nat} (h : Fg L g) (e : Nat) : ∀ (n : Nat) (p : Mc × Nat) (q : Nat), (maybeB g e n p).1.tg.getD q (-1) = p.1.tg.getD q (-1)
 | 0,p,q=>by rw [maybeB]
 | n+1,p,q=>by
  rw [maybeB,maybe_tg h e n]
  exact h.fork.tg p.1 p.2 q
theorem maybe_step {L:List Int→Prop} {g:Mc→Nat→Mc×Nat} (h:Fg L g) {m:Mc} {i e:Nat} (hI:NfaM.Inv m) (hi:i < m.len) (he:e < m.len):NfaM.Inv (frF (forkB g m i).1 (forkB g m i).2 e)∧m.len≤(frF (forkB g m i).1 (forkB g m i).2 e).len∧(forkB g m i).2 < (frF (forkB g m i).1 (forkB g m i).2 e).len∧(forkB g m i).2 < (forkB g m i).1.fr.length:=by
 have a:=h.fork.inv m i hI hi
 exact ⟨a.1.fre _ (by omega),a.2.1,a.2.2,by rw [a.1.wf.2];exact a.2.2⟩
theorem maybe_sub {L : List Int → Prop} {g : Mc → Nat → Mc × Nat} (h : Fg L g) (e : Nat) (B : Nat → List Int → Prop) : ∀ (n : Nat) (m : Mc) (i : Nat), NfaM.Inv m → i < m.len → e < m.len → Val (maybeB g e n (m, i)).1 B → Val m B
 | 0,m,i,_,_,_,hB=>by rw [maybeB] at hB;exact hB
 | n+1,m,i,hI,hi,he,hB=>by
  rw [maybeB] at hB
  obtain ⟨s1,s2,s3,s4⟩:=maybe_step h hI hi he
  have:=maybe_sub h e B n _ _ s1 s3 (by omega) hB
  exact h.fork.sub m i B hI hi ((val_fr s4).1 this).1
theorem maybe_snd {L : List Int → Prop} {g : Mc → Nat → Mc × Nat} (h : Fg L g) (e : Nat) : ∀ (n : Nat) (m : Mc) (i : Nat) (A : Nat → List Int → Prop), NfaM.Inv m → i < m.len → e < m.len → Val m A → (∀ t, t ≤ n → ∀ a b, A i a → Pw L t b → A e (a ++ b)) → ∃ A', Val (maybeB g e n (m, i)).1 A' ∧ ∀ q, q < m.len → A' q = A q
 | 0,m,i,A,_,_,_,hA,_=>⟨A,by rw [maybeB];exact hA,fun _ _=>rfl⟩
 | n+1,m,i,A,hI,hi,he,hA,hE=>by
  rw [maybeB]
  obtain ⟨s1,s2,s3,s4⟩:=maybe_step h hI hi he
  obtain ⟨A1,a1,a2,a3⟩:=h.fork.snd m i A hI hi hA
  have hv:Val (frF (forkB g m i).1 (forkB g m i).2 e) A1:=(val_fr s4).2 ⟨a1,fun w hw=>by
   obtain ⟨a,b,rfl,ha,hb⟩:=a3 w hw
   rw [a2 e he]
   exact hE 1 (by omega) a b ha ⟨[],b,rfl,rfl,hb⟩⟩
  obtain ⟨A',b1,b2⟩:=maybe_snd h e n _ _ A1 s1 s3 (by omega) hv (fun t ht a b ha hb=>by
   obtain ⟨x,y,rfl,hx,hy⟩:=a3 a ha
   rw [a2 e he,List.append_assoc]
   exact hE (t+1) (by omega) x (y++b) hx (pw_cons L t y b hy hb))
  exact ⟨A',b1,fun q hq=>by rw [b2 q (by omega),a2 q hq]⟩
theorem maybe_cmp {L : List Int → Prop} {g : Mc → Nat → Mc × Nat} (h : Fg L g) (e : Nat) (B : Nat → List Int → Prop) : ∀ (n : Nat) (m : Mc) (i : Nat), NfaM.Inv m → i < m.len → e < m.len → Val (maybeB g e n (m, i)).1 B → ∀ t, 1 ≤ t → t ≤ n → ∀ a b, B i a → Pw L t b → B e (a ++ b)
 | 0,m,i,_,_,_,_,t,h1,h2,_,_,_,_=>by omega
 | n+1,m,i,hI,hi,he,hB,t,h1,h2,a,b,ha,hb=>by
  rw [maybeB] at hB
  obtain ⟨s1,s2,s3,s4⟩:=maybe_step h hI hi he
  have hv:=(val_fr s4).1 (maybe_sub h e B n _ _ s1 s3 (by omega) hB)
  obtain ⟨t,rfl⟩:∃ t',t=t'+1:=⟨t - 1,by omega⟩
  obtain ⟨x,y,rfl,hx,hy⟩:=pw_uncons L t b hb
  have hf:=h.fork.cmp m i B hI hi hv.1 a x ha hx
  by_cases h0:t=0
  ·subst h0
   rw [Pw] at hy
   subst hy
   rw [List.append_nil]
   exact hv.2 _ hf
  ·have := maybe_cmp h e B n _ _ s1 s3 (by omega) hB t (by omega) (by omega) (a ++ x) y hf hy
   rw [List.append_assoc] at this
   exact this
def Rp (L:List Int→Prop) (mn mx:Int) (w:List Int):Prop:=∃ n:Nat,mn≤n∧(mx < 0∨(n:Int)≤mx)∧Pw L n w
theorem Fg.again {L:List Int→Prop} {g:Mc→Nat→Mc×Nat} (h:Fg L g) {mn mx:Int} (h0:0≤mn) (h1:mx < 0∨mn≤mx):Fg (Rp L mn mx) (againB g mn mx):=by
 have ht:=h.times mn.toNat
 have hG:Gd (againB g mn mx):=again_inv h.inv mn mx
 have base:∀ m i,NfaM.Inv m→i < m.len→NfaM.Inv (timesB g mn.toNat (m,i)).1∧m.len≤(timesB g mn.toNat (m,i)).1.len∧(timesB g mn.toNat (m,i)).2 < (timesB g mn.toNat (m,i)).1.len:=fun m i hI hi=>ht.inv m i hI hi
 by_cases hx:mx < 0
 ·have ea:∀ m i,againB g mn mx m i=(frF (forkB g (frF (stF (timesB g mn.toNat (m,i)).1) (timesB g mn.toNat (m,i)).2 (timesB g mn.toNat (m,i)).1.len) (timesB g mn.toNat (m,i)).1.len).1 (forkB g (frF (stF (timesB g mn.toNat (m,i)).1) (timesB g mn.toNat (m,i)).2 (timesB g mn.toNat (m,i)).1.len) (timesB g mn.toNat (m,i)).1.len).2 (timesB g mn.toNat (m,i)).1.len,(timesB g mn.toNat (m,i)).1.len):=fun m i=>by
   unfold againB
   dsimp only
   rw [if_pos hx]
  refine ⟨hG,fun m i q=>?_,fun m i hI hi=>?_,fun m i B hI hi hB=>?_,fun m i A hI hi hA=>?_,fun m i B hI hi hB a b ha hb=>?_⟩
  ·rw [ea]
   refine (h.fork.tg _ _ q).trans ((tg_st _ q).trans (ht.tg m i q))
  ·rw [ea]
   exact .inr (base m i hI hi).2.1
  ·rw [ea] at hB
   obtain ⟨c1,c2,c3⟩:=base m i hI hi
   obtain ⟨d1,d2,d3⟩:=fork_m c1 c3
   obtain ⟨s1,s2,s3,s4⟩:=maybe_step h d1 (by omega:(timesB g mn.toNat (m,i)).1.len < _) (by omega:(timesB g mn.toNat (m,i)).1.len < _)
   have v1:=h.fork.sub _ _ B d1 (by omega) ((val_fr s4).1 hB).1
   exact ht.sub m i B hI hi (val_st.1 ((val_fr d3).1 v1).1)
  ·rw [ea]
   obtain ⟨c1,c2,c3⟩:=base m i hI hi
   obtain ⟨d1,d2,d3⟩:=fork_m c1 c3
   obtain ⟨s1,s2,s3,s4⟩:=maybe_step h d1 (by omega:(timesB g mn.toNat (m,i)).1.len < _) (by omega:(timesB g mn.toNat (m,i)).1.len < _)
   obtain ⟨A1,a1,a2,a3⟩:=ht.snd m i A hI hi hA
   generalize timesB g mn.toNat (m,i)=p at *
   obtain ⟨A2,hA2⟩:∃ A2:Nat→List Int→Prop,A2=fun q=>if q=p.1.len then Sq (A i) (Rp L mn mx) else A1 q:=⟨_,rfl⟩
   have e1:A2 p.1.len=Sq (A i) (Rp L mn mx):=by rw [hA2];simp
   have e2:∀ q,q < p.1.len→A2 q=A1 q:=fun q hq=>by rw [hA2];simp;intro e;omega
   have hv:Val (frF (stF p.1) p.2 p.1.len) A2:=(val_fr d3).2 ⟨val_st.2 (val_ext c1 a1 e2),fun w hw=>by
    rw [e2 _ c3] at hw
    rw [e1]
    obtain ⟨a,b,rfl,ha,hb⟩:=a3 w hw
    exact ⟨a,b,rfl,ha,mn.toNat,by omega,.inl hx,hb⟩⟩
   obtain ⟨A3,b1,b2,b3⟩:=h.fork.snd _ p.1.len A2 d1 (by omega) hv
   refine ⟨A3,(val_fr s4).2 ⟨b1,fun w hw=>?_⟩,fun q hq=>by rw [b2 q (by omega),e2 q (by omega),a2 q hq],fun w hw=>?_⟩
   ·rw [b2 _ (by omega), e1]
    obtain ⟨a,b,rfl,ha,hb⟩:=b3 w hw
    rw [e1] at ha
    obtain ⟨u,v,rfl,hu,n,n1,_,hn⟩:=ha
    exact ⟨u,v++b,by simp,hu,n+1,by omega,.inl hx,v,b,rfl,hn,hb⟩
   ·rw [b2 _ (by omega), e1] at hw
    exact hw
  ·rw [ea] at hB ⊢
   obtain ⟨c1,c2,c3⟩:=base m i hI hi
   obtain ⟨d1,d2,d3⟩:=fork_m c1 c3
   obtain ⟨s1,s2,s3,s4⟩:=maybe_step h d1 (by omega:(timesB g mn.toNat (m,i)).1.len < _) (by omega:(timesB g mn.toNat (m,i)).1.len < _)
   obtain ⟨v1,v2⟩:=(val_fr s4).1 hB
   obtain ⟨u1,u2⟩:=(val_fr d3).1 (h.fork.sub _ _ B d1 (by omega) v1)
   obtain ⟨n,n1,_,hn⟩:=hb
   have key:∀ d b,Pw L (mn.toNat+d) b→B (timesB g mn.toNat (m,i)).1.len (a++b):=by
    intro d
    induction d with
    | zero=>exact fun b hb=>u2 _ (ht.cmp m i B hI hi (val_st.1 u1) a b ha hb)
    | succ d ih =>
     intro b hb
     obtain ⟨x,y,rfl,hx',hy⟩:=hb
     have:=h.fork.cmp _ (timesB g mn.toNat (m,i)).1.len B d1 (by omega) v1 (a++x) y (ih x hx') hy
     rw [List.append_assoc] at this
     exact v2 _ this
   have:=key (n - mn.toNat) b
   rw [show mn.toNat+(n - mn.toNat)=n by omega] at this
   exact this hn
 ·have ea:∀ m i,againB g mn mx m i=((maybeB g (timesB g mn.toNat (m,i)).1.len (mx - mn).toNat (frF (stF (timesB g mn.toNat (m,i)).1) (timesB g mn.toNat (m,i)).2 (timesB g mn.toNat (m,i)).1.len,(timesB g mn.toNat (m,i)).2)).1,(timesB g mn.toNat (m,i)).1.len):=fun m i=>by
   unfold againB
   dsimp only
   rw [if_neg hx]
  refine ⟨hG,fun m i q=>?_,fun m i hI hi=>?_,fun m i B hI hi hB=>?_,fun m i A hI hi hA=>?_,fun m i B hI hi hB a b ha hb=>?_⟩
  ·rw [ea]
   exact (maybe_tg h _ _ _ q).trans ((tg_st _ q).trans (ht.tg m i q))
  ·rw [ea]
   exact .inr (base m i hI hi).2.1
  ·rw [ea] at hB
   obtain ⟨c1,c2,c3⟩:=base m i hI hi
   obtain ⟨d1,d2,d3⟩:=fork_m c1 c3
   have v1:=maybe_sub h _ B _ _ _ d1 (by omega:(timesB g mn.toNat (m,i)).2 < _) (by omega) hB
   exact ht.sub m i B hI hi (val_st.1 ((val_fr d3).1 v1).1)
  ·rw [ea]
   obtain ⟨c1,c2,c3⟩:=base m i hI hi
   obtain ⟨d1,d2,d3⟩:=fork_m c1 c3
   obtain ⟨A1,a1,a2,a3⟩:=ht.snd m i A hI hi hA
   generalize timesB g mn.toNat (m,i)=p at *
   obtain ⟨A2,hA2⟩:∃ A2:Nat→List Int→Prop,A2=fun q=>if q=p.1.len then Sq (A i) (Rp L mn mx) else A1 q:=⟨_,rfl⟩
   have e1:A2 p.1.len=Sq (A i) (Rp L mn mx):=by rw [hA2];simp
   have e2:∀ q,q < p.1.len→A2 q=A1 q:=fun q hq=>by rw [hA2];simp;intro e;omega
   have hw0:∀ t,t≤(mx - mn).toNat→∀ a b,A2 p.2 a→Pw L t b→A2 p.1.len (a++b):=fun t ht' a b ha hb=>by
    rw [e2 _ c3] at ha
    rw [e1]
    obtain ⟨u,v,rfl,hu,hv⟩:=a3 a ha
    refine ⟨u,v++b,by simp,hu,mn.toNat+t,by omega,.inr (by omega),?_⟩
    clear hu ha a3 ht'
    have:∀ t b,Pw L t b→Pw L (mn.toNat+t) (v++b):=by
     intro t
     induction t with
     | zero=>intro b hb;rw [Pw] at hb;subst hb;rw [List.append_nil];exact hv
     | succ t ih =>
      intro b hb
      obtain ⟨x,y,rfl,hx',hy⟩:=hb
      exact ⟨v++x,y,by simp,ih x hx',hy⟩
    exact this t b hb
   have hv:Val (frF (stF p.1) p.2 p.1.len) A2:=(val_fr d3).2 ⟨val_st.2 (val_ext c1 a1 e2),fun w hw=>by
    have:=hw0 0 (Nat.zero_le _) w [] hw rfl
    rw [List.append_nil] at this
    exact this⟩
   obtain ⟨A3,b1,b2⟩:=maybe_snd h p.1.len (mx - mn).toNat _ p.2 A2 d1 (by omega) (by omega) hv hw0
   refine ⟨A3,b1,fun q hq=>by rw [b2 q (by omega),e2 q (by omega),a2 q hq],fun w hw=>?_⟩
   dsimp only at hw
   rw [b2 _ (by omega),e1] at hw
   exact hw
  ·rw [ea] at hB ⊢
   obtain ⟨c1,c2,c3⟩:=base m i hI hi
   obtain ⟨d1,d2,d3⟩:=fork_m c1 c3
   have v1:=maybe_sub h _ B _ _ _ d1 (by omega:(timesB g mn.toNat (m,i)).2 < _) (by omega) hB
   obtain ⟨u1,u2⟩:=(val_fr d3).1 v1
   obtain ⟨n,n1,n2,hn⟩:=hb
   have split:∀ d b,Pw L (mn.toNat+d) b→∃ x y,b=x++y∧Pw L mn.toNat x∧Pw L d y:=by
    intro d
    induction d with
    | zero=>exact fun b hb=>⟨b,[],by simp,hb,rfl⟩
    | succ d ih =>
     intro b hb
     obtain ⟨x,y,rfl,hx',hy⟩:=hb
     obtain ⟨u,v,rfl,hu,hv⟩:=ih x hx'
     exact ⟨u,v++y,by simp,hu,v,y,rfl,hv,hy⟩
   obtain ⟨x,y,rfl,hx',hy⟩:=split (n - mn.toNat) b (by rw [show mn.toNat+(n - mn.toNat)=n by omega];exact hn)
   have hp:=ht.cmp m i B hI hi (val_st.1 u1) a x ha hx'
   rw [← List.append_assoc]
   by_cases hd:n - mn.toNat=0
   ·rw [hd, Pw] at hy
    subst hy
    rw [List.append_nil]
    exact u2 _ hp
   ·exact maybe_cmp h _ B _ _ _ d1 (by omega:(timesB g mn.toNat (m,i)).2 < _) (by omega) hB (n - mn.toNat) (by omega) (by omega) _ y hp hy
structure Og (L : List Int → Prop) (g : Mc → Nat → Nat → Mc) : Prop where
 inv:∀ m i e,NfaM.Inv m→i < m.len→e < m.len→NfaM.Inv (g m i e)∧m.len≤(g m i e).len
 tg:∀ m i e q,(g m i e).tg.getD q (-1)=m.tg.getD q (-1)
 sub:∀ m i e B,NfaM.Inv m→i < m.len→e < m.len→Val (g m i e) B→Val m B
 snd:∀ m i e A,NfaM.Inv m→i < m.len→e < m.len→Val m A→(∀ a b,A i a→L b→A e (a++b))→∃ A',Val (g m i e) A'∧∀ q,q < m.len→A' q=A q
 cmp:∀ m i e B,NfaM.Inv m→i < m.len→e < m.len→Val (g m i e) B→∀ a b,B i a→L b→B e (a++b)
theorem Og.none:Og (fun _=>False) (fun m _ _=>m) :=
 ⟨fun m i e h _ _=>⟨h,Nat.le_refl _⟩,fun _ _ _ _=>rfl,fun _ _ _ _ _ _ _ h=>h,fun m i e A _ _ _ h _=>⟨A,h,fun _ _=>rfl⟩,fun _ _ _ _ _ _ _ _ _ _ _ h=>h.elim⟩
theorem Og.cons {L K : List Int → Prop} {g : Mc → Nat → Mc × Nat} {f : Mc → Nat → Nat → Mc} (h : Fg L g) (k : Og K f) : Og (fun w => L w ∨ K w) (fun m i e => f (frF (forkB g m i).1 (forkB g m i).2 e) i e) where
 inv:=fun m i e hI hi he=>by
  obtain ⟨s1,s2,s3,s4⟩:=maybe_step h hI hi he
  have:=k.inv _ i e s1 (by omega) (by omega)
  exact ⟨this.1,by omega⟩
 tg:=fun m i e q=>by rw [k.tg];exact h.fork.tg m i q
 sub:=fun m i e B hI hi he hB=>by
  obtain ⟨s1,s2,s3,s4⟩:=maybe_step h hI hi he
  exact h.fork.sub m i B hI hi ((val_fr s4).1 (k.sub _ i e B s1 (by omega) (by omega) hB)).1
 snd:=fun m i e A hI hi he hA hE=>by
  obtain ⟨s1,s2,s3,s4⟩:=maybe_step h hI hi he
  obtain ⟨A1,a1,a2,a3⟩:=h.fork.snd m i A hI hi hA
  have hv:Val (frF (forkB g m i).1 (forkB g m i).2 e) A1:=(val_fr s4).2 ⟨a1,fun w hw=>by
   obtain ⟨a,b,rfl,ha,hb⟩:=a3 w hw
   rw [a2 e he]
   exact hE a b ha (.inl hb)⟩
  obtain ⟨A',b1,b2⟩:=k.snd _ i e A1 s1 (by omega) (by omega) hv (fun a b ha hb=>by
   rw [a2 i hi] at ha
   rw [a2 e he]
   exact hE a b ha (.inr hb))
  exact ⟨A',b1,fun q hq=>by rw [b2 q (by omega),a2 q hq]⟩
 cmp:=fun m i e B hI hi he hB a b ha hb=>by
  obtain ⟨s1,s2,s3,s4⟩:=maybe_step h hI hi he
  rcases hb with hb | hb
  ·have hv := (val_fr s4).1 (k.sub _ i e B s1 (by omega) (by omega) hB)
   exact hv.2 _ (h.fork.cmp m i B hI hi hv.1 a b ha hb)
  ·exact k.cmp _ i e B s1 (by omega) (by omega) hB a b ha hb
theorem Fg.either {L : List Int → Prop} {f : Mc → Nat → Nat → Mc} (k : Og L f) : Fg L (fun m i => (f (stF m) i m.len, m.len)) where
 inv:=fun m i hI hi=>by
  have hl:=len_st m
  have:=k.inv (stF m) i m.len hI.st (by omega) (by omega)
  exact ⟨this.1,by dsimp only;omega,by dsimp only;omega⟩
 tg:=fun m i q=>(k.tg _ _ _ q).trans (tg_st m q)
 fresh:=fun m i _ _=>.inr (Nat.le_refl _)
 sub:=fun m i B hI hi hB=>val_st.1 (k.sub (stF m) i m.len B hI.st (by have:=len_st m;omega) (by have:=len_st m;omega) hB)
 snd:=fun m i A hI hi hA=>by
  have hl:=len_st m
  obtain ⟨A1,hA1⟩:∃ A1:Nat→List Int→Prop,A1=fun q=>if q=m.len then Sq (A i) L else A q:=⟨_,rfl⟩
  have e1:A1 m.len=Sq (A i) L:=by rw [hA1];simp
  have e2:∀ q,q < m.len→A1 q=A q:=fun q hq=>by rw [hA1];simp;intro e;omega
  obtain ⟨A',b1,b2⟩:=k.snd (stF m) i m.len A1 hI.st (by omega) (by omega) (val_st.2 (val_ext hI hA e2)) (fun a b ha hb=>by
   rw [e2 i hi] at ha
   rw [e1]
   exact ⟨a,b,rfl,ha,hb⟩)
  refine ⟨A',b1,fun q hq=>by rw [b2 q (by omega),e2 q hq],fun w hw=>?_⟩
  dsimp only at hw
  rw [b2 _ (by omega),e1] at hw
  exact hw
 cmp:=fun m i B hI hi hB a b ha hb=>k.cmp (stF m) i m.len B hI.st (by have:=len_st m;omega) (by have:=len_st m;omega) hB a b ha hb
theorem Fg.chars {sl : List Sp} (hN : Norml sl) : Fg (fun w => ∃ r, w = [r] ∧ Tells sl r) (fun m i => (edF (stF m) i m.len sl, m.len)) where
 inv:=fun m i hI hi=>by
  have hl:=len_st m
  exact ⟨hI.st.edg i (by omega) hN,by rw [len_ed];omega,by rw [len_ed];dsimp only;omega⟩
 tg:=fun m i q=>tg_st m q
 fresh:=fun m i _ _=>.inr (Nat.le_refl _)
 sub:=fun m i B hI hi hB=>by
  have hl:=len_st m
  exact val_st.1 ((val_ed (by have:=hI.st.wf.1;have e:(stF m).tg.length=m.len+1:=hl;omega)).1 hB).1
 snd:=fun m i A hI hi hA=>by
  have hl:=len_st m
  obtain ⟨A1,hA1⟩:∃ A1:Nat→List Int→Prop,A1=fun q=>if q=m.len then Sq (A i) (fun w=>∃ r,w=[r]∧Tells sl r) else A q:=⟨_,rfl⟩
  have e1:A1 m.len=Sq (A i) (fun w=>∃ r,w=[r]∧Tells sl r):=by rw [hA1];simp
  have e2:∀ q,q < m.len→A1 q=A q:=fun q hq=>by rw [hA1];simp;intro e;omega
  refine ⟨A1,(val_ed (by have:=hI.st.wf.1;have e:(stF m).tg.length=m.len+1:=hl;omega)).2 ⟨val_st.2 (val_ext hI hA e2),fun w r hw hr=>?_⟩,e2,fun w hw=>?_⟩
  ·rw [e2 i hi] at hw
   rw [e1]
   exact ⟨w,[r],rfl,hw,r,rfl,hr⟩
  ·dsimp only at hw
   rw [e1] at hw
   exact hw
 cmp:=fun m i B hI hi hB a b ha hb=>by
  have hl:=len_st m
  obtain ⟨r,rfl,hr⟩:=hb
  exact ((val_ed (by have:=hI.st.wf.1;have e:(stF m).tg.length=m.len+1:=hl;omega)).1 hB).2 a r ha hr
mutual
theorem laid_fg : ∀ (u : Ns), Shp u → Fg (Lg u) (laidF u)
 | .mk k sl kids mn mx,hs=>by
  obtain ⟨hS,hL⟩:=(shp_mk _ _ _ _ _).1 hs
  by_cases h1:k=1
  ·have hN : Norml sl := by unfold Shape at hS; rcases hS with h | h | h | h <;> first | exact h.2.2.2.2 | omega
   exact (Fg.chars hN).of (fun m i=>by rw [laidF,if_pos h1]) (fun w=>by rw [Lg,if_pos h1])
  by_cases h2:k=2
  ·exact (cat_fg kids hL).of (fun m i=>by rw [laidF,if_neg h1,if_pos h2]) (fun w=>by rw [Lg,if_neg h1,if_pos h2])
  by_cases h3:k=3
  ·exact (Fg.either (or_fg kids hL)).of (fun m i=>by rw [laidF,if_neg h1,if_neg h2,if_pos h3]) (fun w=>by rw [Lg,if_neg h1,if_neg h2,if_pos h3])
  by_cases h4:k=4
  ·have hb : 0 ≤ mn ∧ (mx < 0 ∨ mn ≤ mx) := by unfold Shape at hS; omega
   exact (rep_fg kids hL mn mx hb.1 hb.2).of (fun m i=>by rw [laidF,if_neg h1,if_neg h2,if_neg h3,if_pos h4]) (fun w=>by rw [Lg,if_neg h1,if_neg h2,if_neg h3,if_pos h4])
  exact Fg.still.of (fun m i=>by rw [laidF,if_neg h1,if_neg h2,if_neg h3,if_neg h4]) (fun w=>by rw [Lg,if_neg h1,if_neg h2,if_neg h3,if_neg h4])
theorem cat_fg : ∀ (l : List Ns), ShpL l → Fg (LgC l) (catF l)
 | [],_=>Fg.still.of (fun m i=>by rw [catF]) (fun w=>by rw [LgC])
 | x::l,hL=>by
  rw [ShpL] at hL
  exact ((laid_fg x hL.1).seq (cat_fg l hL.2)).of (fun m i=>by rw [catF]) (fun w=>by rw [LgC];exact Iff.rfl)
theorem or_fg : ∀ (l : List Ns), ShpL l → Og (LgO l) (orF l)
 | [],_=>by
  have e1:orF []=fun m _ _=>m:=funext fun m=>funext fun i=>funext fun e=>by rw [orF]
  have e2:LgO []=fun _=>False:=funext fun w=>by rw [LgO]
  rw [e1,e2]
  exact Og.none
 | x::l,hL=>by
  rw [ShpL] at hL
  have e1:orF (x::l)=fun (m:Mc) (i e:Nat)=>orF l (frF (forkB (laidF x) m i).1 (forkB (laidF x) m i).2 e) i e:=funext fun m=>funext fun i=>funext fun e=>by rw [orF]
  have e2:LgO (x::l)=fun w=>Lg x w∨LgO l w:=funext fun w=>by rw [LgO]
  rw [e1,e2]
  exact Og.cons (laid_fg x hL.1) (or_fg l hL.2)
theorem rep_fg : ∀ (l : List Ns), ShpL l → ∀ (mn mx : Int), 0 ≤ mn → (mx < 0 ∨ mn ≤ mx) → Fg (LgR l mn mx) (repF l mn mx)
 | [],_,mn,mx,_,_=>Fg.still.of (fun m i=>by rw [repF]) (fun w=>by rw [LgR])
 | x::l,hL,mn,mx,h0,h1=>by
  rw [ShpL] at hL
  exact ((laid_fg x hL.1).again h0 h1).of (fun m i=>by rw [repF]) (fun w=>by rw [LgR];exact Iff.rfl)
end
end SimM

/- Plain mathematics of what patterns tell: places of a text, tables of them. Nothing of a program stands here. -/
namespace SimM
open SetM NfaM WrM
def Pl (L:List Int→Prop) (s:List Int) (i k:Nat):Prop:=i≤k∧k≤s.length∧L ((s.take k).drop i)
theorem pl_congr {L K:List Int→Prop} (h:∀ w,L w↔K w) (s:List Int) (i k:Nat):Pl L s i k↔Pl K s i k:=by unfold Pl;rw [h]
theorem cut_at {s:List Int} {x c y:Nat} (h1:x≤c) (h2:c≤y) (h3:y≤s.length):(s.take y).drop x=(s.take c).drop x++(s.take y).drop c:=by
 have e:s.take c=(s.take y).take c:=by rw [List.take_take,Nat.min_eq_left h2]
 rw [e,← List.drop_append_of_le_length (by rw [List.length_take,List.length_take];omega),List.take_append_drop]
theorem pl_beh {L K:List Int→Prop} {s:List Int} {x y:Nat} (hy:y < s.length+1):(∃ c,x≤c∧c≤y∧Pl L s x c∧Pl K s c y)↔Pl (Sq L K) s x y:=by
 constructor
 ·rintro ⟨c, h1, h2, h3, h4⟩
  exact ⟨by omega,by omega,_,_,cut_at h1 h2 (by omega),h3.2.2,h4.2.2⟩
 ·rintro ⟨h1, h2, a, b, e, ha, hb⟩
  have hl:=congrArg List.length e
  rw [List.length_drop,List.length_take,List.length_append] at hl
  have hc:x+a.length≤y:=by omega
  have e2:=cut_at (s:=s) (x:=x) (c:=x+a.length) (y:=y) (by omega) hc h2
  rw [e] at e2
  have hl2:a.length=((s.take (x+a.length)).drop x).length:=by rw [List.length_drop,List.length_take];omega
  obtain ⟨e3,e4⟩:=List.append_inj e2 hl2
  refine ⟨x+a.length,by omega,hc,⟨by omega,by omega,by rw [← e3];exact ha⟩,⟨hc,h2,by rw [← e4];exact hb⟩⟩
theorem pl_still {s:List Int} {i k:Nat} (hi:i < s.length+1):i=k↔Pl (· = []) s i k:=by
 unfold Pl
 constructor
 ·rintro rfl
  exact ⟨Nat.le_refl _,by omega,by simp⟩
 ·rintro ⟨h1, h2, h3⟩
  have:=congrArg List.length h3
  rw [List.length_drop,List.length_take,List.length_nil] at this
  omega
theorem pl_char {sl:List Sp} {s:List Int} {i k:Nat}:Pl (fun w=>∃ r,w=[r]∧Tells sl r) s i k↔∃ h:i < s.length,k=i+1∧Tells sl s[i]:=by
 unfold Pl
 constructor
 ·rintro ⟨h1, h2, r, e, ht⟩
  have:=congrArg List.length e
  rw [List.length_drop,List.length_take,List.length_singleton] at this
  obtain rfl:k=i+1:=by omega
  refine ⟨by omega,rfl,?_⟩
  rw [List.take_succ_eq_append_getElem (by omega),List.drop_append_of_le_length (by rw [List.length_take];omega),List.drop_of_length_le (by rw [List.length_take];omega),List.nil_append] at e
  injection e with e
  rw [e];exact ht
 ·rintro ⟨h, rfl, ht⟩
  refine ⟨by omega,by omega,s[i],?_,ht⟩
  rw [List.take_succ_eq_append_getElem h,List.drop_append_of_le_length (by rw [List.length_take];omega),List.drop_of_length_le (by rw [List.length_take];omega),List.nil_append]
theorem lgc_snoc : ∀ (l : List Ns) (x : Ns) (w : List Int), LgC (l ++ [x]) w ↔ Sq (LgC l) (Lg x) w
 | [],x,w=>by
  rw [List.nil_append,LgC]
  constructor
  ·rintro ⟨a, b, rfl, ha, hb⟩
   rw [LgC] at hb
   subst hb
   exact ⟨[],a,by simp,by rw [LgC],ha⟩
  ·rintro ⟨a, b, rfl, ha, hb⟩
   rw [LgC] at ha
   subst ha
   exact ⟨b,[],by simp,hb,by rw [LgC]⟩
 | y::l,x,w=>by
  rw [List.cons_append,LgC]
  constructor
  ·rintro ⟨a, b, rfl, ha, hb⟩
   obtain ⟨c,d,rfl,hc,hd⟩:=(lgc_snoc l x b).1 hb
   exact ⟨a++c,d,by simp,by rw [LgC];exact ⟨a,c,rfl,ha,hc⟩,hd⟩
  ·rintro ⟨a, b, rfl, ha, hb⟩
   rw [LgC] at ha
   obtain ⟨c,d,rfl,hc,hd⟩:=ha
   exact ⟨c,d++b,by simp,hc,(lgc_snoc l x _).2 ⟨d,b,rfl,hd,hb⟩⟩
theorem lgo_snoc : ∀ (l : List Ns) (x : Ns) (w : List Int), LgO (l ++ [x]) w ↔ (LgO l w ∨ Lg x w)
 | [],x,w=>by
  rw [List.nil_append,LgO,LgO]
  constructor
  ·rintro (h | h)
   ·exact .inr h
   ·rw [LgO] at h;exact h.elim
  ·rintro (h | h)
   ·exact h.elim
   ·exact .inl h
 | y::l,x,w=>by
  rw [List.cons_append,LgO,LgO,lgo_snoc l x w,or_assoc]
theorem lgc_take (l:List Ns) (r:Nat) (h:r < l.length) (w:List Int):LgC (l.take (r+1)) w↔Sq (LgC (l.take r)) (Lg l[r]) w:=by
 rw [List.take_succ_eq_append_getElem h];exact lgc_snoc _ _ _
theorem lgo_take (l:List Ns) (r:Nat) (h:r < l.length) (w:List Int):LgO (l.take (r+1)) w↔(LgO (l.take r) w∨Lg l[r] w):=by
 rw [List.take_succ_eq_append_getElem h];exact lgo_snoc _ _ _
def Us (L:List Int→Prop) (mn i:Nat) (w:List Int):Prop:=∃ n,mn≤n∧n≤i∧Pw L n w
theorem us_first (L:List Int→Prop) (mn:Nat) (w:List Int):Pw L mn w↔Us L mn mn w:=by
 constructor
 ·intro h;exact ⟨mn,Nat.le_refl _,Nat.le_refl _,h⟩
 ·rintro ⟨n, h1, h2, h3⟩
  obtain rfl:n=mn:=by omega
  exact h3
theorem us_next (L:List Int→Prop) {mn i:Nat} (h:mn≤i) (w:List Int):(Us L mn i w∨Pw L (i+1) w)↔Us L mn (i+1) w:=by
 constructor
 ·rintro (⟨n, h1, h2, h3⟩ | h3)
  ·exact ⟨n,h1,by omega,h3⟩
  ·exact ⟨i+1,by omega,Nat.le_refl _,h3⟩
 ·rintro ⟨n, h1, h2, h3⟩
  by_cases e:n=i+1
  ·subst e;exact .inr h3
  ·exact .inl ⟨n,h1,by omega,h3⟩
theorem us_done (L : List Int → Prop) (s : List Int) {mn i : Nat} (h : mn ≤ i) (hn : ∀ x y, y < s.length + 1 → Pl (Pw L (i + 1)) s x y → Pl (Us L mn i) s x y) : ∀ (d x y : Nat), y < s.length + 1 → Pl (Pw L (i + d)) s x y → Pl (Us L mn i) s x y
 | 0,x,y,_,hp=>⟨hp.1,hp.2.1,i,h,Nat.le_refl _,hp.2.2⟩
 | d+1,x,y,hy,hp=>by
  obtain ⟨c,h1,h2,h3,h4⟩:=(pl_beh (L:=Pw L (i+d)) (K:=L) hy).2 hp
  obtain ⟨_,_,n,k1,k2,k3⟩:=us_done L s h hn d x c (by omega) h3
  have h5:Pl (Pw L (n+1)) s x y:=(pl_beh (L:=Pw L n) (K:=L) hy).1 ⟨c,h1,h2,⟨h1,by omega,k3⟩,h4⟩
  by_cases e:n=i
  ·subst e;exact hn x y hy h5
  ·exact ⟨h5.1,h5.2.1,n+1,by omega,by omega,h5.2.2⟩
open Classical in
noncomputable def cntN (M : Nat → Prop) : Nat → Nat
 | 0=>0
 | n+1=>cntN M n+if M n then 1 else 0
theorem cntn_le (M : Nat → Prop) : ∀ n, cntN M n ≤ n
 | 0=>Nat.le_refl _
 | n+1=>by
  have:=cntn_le M n
  rw [cntN]
  split <;> omega
theorem cntn_mono {M M' : Nat → Prop} (h : ∀ t, M t → M' t) : ∀ n, cntN M n ≤ cntN M' n
 | 0=>Nat.le_refl _
 | n+1=>by
  have:=cntn_mono h n
  rw [cntN,cntN]
  by_cases hm:M n
  ·rw [if_pos hm,if_pos (h n hm)];omega
  ·rw [if_neg hm];split <;> omega
theorem cntn_lt {M M' : Nat → Prop} (h : ∀ t, M t → M' t) : ∀ (n t : Nat), t < n → ¬ M t → M' t → cntN M n < cntN M' n
 | 0,t,ht,_,_=>absurd ht (Nat.not_lt_zero t)
 | n+1,t,ht,h1,h2=>by
  rw [cntN,cntN]
  by_cases e:t=n
  ·subst e
   have:=cntn_mono h t
   rw [if_neg h1,if_pos h2];omega
  ·have := cntn_lt h n t (by omega) h1 h2
   by_cases hm:M n
   ·rw [if_pos hm,if_pos (h n hm)];omega
   ·rw [if_neg hm];split <;> omega
noncomputable def cntR (N:Nat) (R:Nat→Nat→Prop):Nat:=cntN (fun t=>R (t / N) (t % N)) (N*N)
theorem cntr_le (N:Nat) (R:Nat→Nat→Prop):cntR N R≤N*N:=cntn_le _ _
theorem cntr_lt {N:Nat} {R R':Nat→Nat→Prop} (h:∀ x y,R x y→R' x y) {x y:Nat} (hx:x < N) (hy:y < N) (h1:¬ R x y) (h2:R' x y):cntR N R < cntR N R':=by
 have e1:(x*N+y) / N=x:=by rw [Nat.mul_comm,Nat.mul_add_div (by omega),Nat.div_eq_of_lt hy];omega
 have e2:(x*N+y) % N=y:=by rw [Nat.mul_comm,Nat.mul_add_mod,Nat.mod_eq_of_lt hy]
 refine cntn_lt (fun t ht=>h _ _ ht) (N*N) (x*N+y) ?_ (by rw [e1,e2];exact h1) (by rw [e1,e2];exact h2)
 have:(x+1)*N≤N*N:=Nat.mul_le_mul_right _ hx
 rw [Nat.succ_mul] at this
 omega
end SimM

/- Plain mathematics: the machine of patterns comes to a tag just by what its pattern tells; the longest front that any tells. Nothing of a program stands here. -/
namespace SimM
open SetM NfaM WrM
inductive Re (m : Mc) : Nat → List Int → Prop where
 | start:Re m 0 []
 | free (i k:Nat) (w:List Int):Re m i w→(k:Int)∈m.fr.getD i []→Re m k w
 | edge (i k:Nat) (S:List Sp) (w:List Int) (r:Int):Re m i w→((k:Int),S)∈m.ed.getD i []→Tells S r→Re m k (w++[r])
theorem re_val (m:Mc):Val m (Re m):=⟨fun i k hk w hw=>.free i k w hw hk,fun i k S hk w r hw hr=>.edge i k S w r hw hk hr⟩
theorem re_sub {m:Mc} {A:Nat→List Int→Prop} (h:Val m A) (h0:A 0 []):∀ {k w},Re m k w→A k w:=by
 intro k w hk
 induction hk with
 | start=>exact h0
 | free i k w _ hm ih=>exact h.1 i k hm w ih
 | edge i k S w r _ hm hr ih=>exact h.2 i k S hm w r ih hr
theorem re_lt {m:Mc} (hI:NfaM.Inv m) (h0:0 < m.len) {k:Nat} {w:List Int} (h:Re m k w):k < m.len:=by
 refine re_sub (A:=fun k _=>k < m.len) ⟨fun i k hk w _=>?_,fun i k S hk w r _ _=>?_⟩ h0 h
 ·obtain ⟨row, h1, h2⟩ := mem_getD hk
  have:=hI.fr row h1 _ h2
  omega
 ·obtain ⟨row, h1, h2⟩ := mem_getD hk
  have:=(hI.ed row h1 _ h2).2.1
  dsimp only at this
  omega
def GoR (m:Mc) (s:List Int):Nat→Prop:=s.foldl (fun P r=>Cl m (Mv m P r)) (Cl m (· = 0))
theorem gor_snoc (m:Mc) (s:List Int) (r:Int):GoR m (s++[r])=Cl m (Mv m (GoR m s) r):=by unfold GoR;rw [List.foldl_append];rfl
theorem gor_cl (m:Mc) (s:List Int) {i k:Nat} (h:GoR m s i) (hk:(k:Int)∈m.fr.getD i []):GoR m s k:=by
 rcases snoc_cases s with rfl | ⟨u,x,rfl⟩
 ·exact Cl.step i k h hk
 ·rw [gor_snoc] at h ⊢;exact Cl.step i k h hk
theorem gor_of_re {m:Mc} {k:Nat} {w:List Int} (h:Re m k w):GoR m w k:=by
 induction h with
 | start=>exact Cl.base 0 rfl
 | free i k w _ hm ih=>exact gor_cl m w ih hm
 | edge i k S w r _ hm hr ih=>rw [gor_snoc];exact Cl.base k ⟨i,ih,_,hm,rfl,hr⟩
theorem re_of_gor (m : Mc) : ∀ (n : Nat) (w : List Int), w.length = n → ∀ k, GoR m w k → Re m k w
 | 0,w,hw,k,h=>by
  obtain rfl:w=[]:=List.eq_nil_of_length_eq_zero hw
  have h1:Cl m (· = 0) k:=h
  clear h
  induction h1 with
  | base k hk=>subst hk;exact .start
  | step i k _ hm ih=>exact .free i k [] ih hm
 | n+1,w,hw,k,h=>by
  rcases snoc_cases w with rfl | ⟨u,x,rfl⟩
  ·cases hw
  ·rw [gor_snoc] at h
   have hu:u.length=n:=by rw [List.length_append,List.length_singleton] at hw;omega
   induction h with
   | base k hk =>
    obtain ⟨i,hi,e,he,h1,h2⟩:=hk
    exact .edge i k e.2 u x (re_of_gor m n u hu i hi) (by rw [← h1];exact he) h2
   | step i k _ hm ih=>exact .free i k _ ih hm
theorem gor_re (m:Mc) (w:List Int) (k:Nat):GoR m w k↔Re m k w:=⟨re_of_gor m _ w rfl k,gor_of_re⟩
theorem mv_congr {m:Mc} {P Q:Nat→Prop} (h:∀ k,P k↔Q k) (r:Int) (k:Nat):Mv m P r k↔Mv m Q r k:=by
 unfold Mv
 constructor
 ·rintro ⟨i,hi,he⟩;exact ⟨i,(h i).1 hi,he⟩
 ·rintro ⟨i,hi,he⟩;exact ⟨i,(h i).2 hi,he⟩
theorem go_inn {m : Mc} (hI : NfaM.Inv m) (h0 : 0 < m.len) : ∀ (n : Nat) (w : List Int), w.length = n → ∀ k, Inn m.len (goF m w) k ↔ Re m k w
 | 0,w,hw,k=>by
  obtain rfl:w=[]:=List.eq_nil_of_length_eq_zero hw
  rw [go_zero]
  unfold Inn startF
  rw [mem_stL]
  constructor
  ·rintro ⟨_, k', h1, h2, h3⟩
   obtain rfl:k=k':=by omega
   exact (gor_re m [] k).1 h2
  ·intro h
   exact ⟨re_lt hI h0 h,k,re_lt hI h0 h,(gor_re m [] k).2 h,rfl⟩
 | n+1,w,hw,k=>by
  rcases snoc_cases w with rfl | ⟨u,x,rfl⟩
  ·cases hw
  ·have hu : u.length = n := by rw [List.length_append, List.length_singleton] at hw; omega
   rw [go_snoc]
   have hc:∀ k,Cl m (Mv m (Inn m.len (goF m u)) x) k↔Re m k (u++[x]):=fun k=>by
    rw [← gor_re,gor_snoc]
    exact Cl.congr (mv_congr (fun i=>(go_inn hI h0 n u hu i).trans (gor_re m u i).symm) x) k
   unfold Inn stepF
   rw [mem_stL]
   constructor
   ·rintro ⟨_, k', h1, h2, h3⟩
    obtain rfl:k=k':=by omega
    exact (hc k).1 h2
   ·intro h
    exact ⟨re_lt hI h0 h,k,re_lt hI h0 h,(hc k).2 h,rfl⟩
theorem val_tg {m:Mc} {i:Nat} {t:Int} {A:Nat→List Int→Prop}:Val (tgF m i t) A↔Val m A:=Iff.rfl
theorem tg_put {m:Mc} {e:Nat} {t:Int} (he:e < m.tg.length) (q:Nat):(tgF m e t).tg.getD q (-1)=if q=e then t else m.tg.getD q (-1):=by
 show (m.tg.set e t).getD q (-1)=_
 simp only [List.getD,List.getElem?_set]
 by_cases h:e=q
 ·subst h;simp [he]
 ·simp [h,Ne.symm h]
theorem fork_new {L:List Int→Prop} {g:Mc→Nat→Mc×Nat} (h:Fg L g) {m:Mc} {i:Nat} (hI:NfaM.Inv m) (hi:i < m.len):m.len≤(forkB g m i).2:=by
 obtain ⟨h1,h2,_⟩:=fork_m hI hi
 show m.len≤(g (frF (stF m) i m.len) m.len).2
 rcases h.fresh _ m.len h1 (by omega) with h3 | h3
 ·rw [h3];exact Nat.le_refl _
 ·rw [h2] at h3;omega
structure Bt (l : List Ns) (i : Nat) (m M : Mc) : Prop where
 inv:NfaM.Inv M
 len:m.len≤M.len
 tags:∀ q,q < m.len→M.tg.getD q (-1)=m.tg.getD q (-1)
 sub:∀ B,Val M B→Val m B
 snd:∀ A,Val m A→(∀ w,A 0 w↔w=[])→∃ A',Val M A'∧(∀ q,q < m.len→A' q=A q)∧∀ q w,m.len≤q→A' q w→0≤M.tg.getD q (-1)→∃ j,∃ h:j < l.length,M.tg.getD q (-1)=((i+j:Nat):Int)∧Lg l[j] w
 cmp:∀ B,Val M B→B 0 []→∀ j (h:j < l.length) w,Lg l[j] w→∃ q,q < M.len∧M.tg.getD q (-1)=((i+j:Nat):Int)∧B q w
theorem bt_all : ∀ (l : List Ns), (∀ u ∈ l, Shp u) → ∀ (i : Nat) (m : Mc), NfaM.Inv m → 0 < m.len → Bt l i m (buildF l i m)
 | [],_,i,m,hI,h0=>by
  rw [buildF]
  exact ⟨hI,Nat.le_refl _,fun _ _=>rfl,fun _ h=>h,fun A hA _=>⟨A,hA,fun _ _=>rfl,fun q w hq _ ht=>by
   exfalso
   have:m.tg.getD q (-1) = -1:=by
    have:m.tg.length≤q:=hq
    simp [List.getD,this]
   omega⟩,fun _ _ _ j h=>absurd h (Nat.not_lt_zero j)⟩
 | x::l,hs,i,m,hI,h0=>by
  have hf:=laid_fg x (hs x (by simp))
  have hk:=hf.fork
  have hv:=hk.inv m 0 hI h0
  have hnew:=fork_new hf hI h0
  rw [buildF]
  obtain ⟨m1,hm1⟩:∃ m1,m1=(forkB (laidF x) m 0).1:=⟨_,rfl⟩
  obtain ⟨e,he⟩:∃ e,e=(forkB (laidF x) m 0).2:=⟨_,rfl⟩
  have htg:=hk.tg m 0
  have hsub:=hk.sub m 0
  have hsnd:=hk.snd m 0
  have hcmp:=hk.cmp m 0
  rw [← hm1] at hv htg hsub hsnd hcmp
  rw [← he] at hv hnew hsnd hcmp
  rw [← hm1,← he]
  have hI2:NfaM.Inv (tgF m1 e (i:Int)):=hv.1.tag _ (by omega)
  have hl2:(tgF m1 e (i:Int)).len=m1.len:=by simp [tgF,Mc.len]
  have ih:=bt_all l (fun u hu=>hs u (by simp [hu])) (i+1) _ hI2 (by rw [hl2];omega)
  have het:e < m1.tg.length:=hv.2.2
  have ht2:∀ q,(tgF m1 e (i:Int)).tg.getD q (-1)=if q=e then (i:Int) else m.tg.getD q (-1):=fun q=>by rw [tg_put het,htg]
  refine ⟨ih.inv,by have:=ih.len;have:=hv.2.1;omega,fun q hq=>?_,fun B hB=>hsub B hI h0 (val_tg.1 (ih.sub B hB)),fun A hA hA0=>?_,fun B hB hB0 j hj w hw=>?_⟩
  ·rw [ih.tags q (by rw [hl2];have:=hv.2.1;omega),ht2,if_neg (by omega)]
  ·obtain ⟨A1, a1, a2, a3⟩ := hsnd A hI h0 hA
   obtain ⟨A2,b1,b2,b3⟩:=ih.snd A1 (val_tg.2 a1) (fun w=>by rw [a2 0 h0];exact hA0 w)
   refine ⟨A2,b1,fun q hq=>by rw [b2 q (by rw [hl2];have:=hv.2.1;omega),a2 q hq],fun q w hq hw ht=>?_⟩
   by_cases hq2:q < m1.len
   ·rw [ih.tags q (by rw [hl2]; exact hq2), ht2] at ht ⊢
    rw [b2 q (by rw [hl2];exact hq2)] at hw
    by_cases e1:q=e
    ·subst e1
     rw [if_pos rfl]
     obtain ⟨a,b,rfl,ha,hb⟩:=a3 w hw
     rw [(hA0 a).1 ha]
     exact ⟨0,Nat.succ_pos _,rfl,hb⟩
    ·rw [if_neg e1] at ht
     exfalso
     have:m.tg.getD q (-1) = -1:=by
      have:m.tg.length≤q:=hq
      simp [List.getD,this]
     omega
   ·obtain ⟨j, hj, h1, h2⟩ := b3 q w (by rw [hl2]; omega) hw ht
    exact ⟨j+1,Nat.succ_lt_succ hj,by rw [h1];congr 1;omega,h2⟩
  ·cases j with
   | zero =>
    have hB1:=hcmp B hI h0 (val_tg.1 (ih.sub B hB)) [] w hB0 hw
    rw [List.nil_append] at hB1
    refine ⟨e,by have:=ih.len;rw [hl2] at this;omega,?_,hB1⟩
    rw [ih.tags e (by rw [hl2];exact hv.2.2),ht2,if_pos rfl]
    rfl
   | succ j =>
    obtain ⟨q,h1,h2,h3⟩:=ih.cmp B hB hB0 j (Nat.lt_of_succ_lt_succ hj) w hw
    exact ⟨q,h1,by rw [h2];congr 1;omega,h3⟩
theorem start_inv:NfaM.Inv (stF NfaM.none0)∧(stF NfaM.none0).len=1:=⟨Inv.none.st,rfl⟩
theorem build_told {us:List Ns} (hs:∀ u∈us,Shp u) (w:List Int) (t:Int):TgP (buildF us 0 (stF NfaM.none0)) (goF (buildF us 0 (stF NfaM.none0)) w) t↔∃ j,∃ h:j < us.length,t=(j:Int)∧Lg us[j] w:=by
 obtain ⟨hI,hl⟩:=start_inv
 have hb:=bt_all us hs 0 _ hI (by rw [hl];exact Nat.one_pos)
 generalize buildF us 0 (stF NfaM.none0)=M at hb ⊢
 have hM0:0 < M.len:=by have:=hb.len;omega
 have hg:=go_inn hb.inv hM0 _ w rfl
 unfold TgP
 constructor
 ·rintro ⟨h0, k, hk, ht⟩
  have hr:=(hg k).1 hk
  obtain ⟨A',a1,a2,a3⟩:=hb.snd (fun q w=>q=0∧w=[]) ⟨fun i k hk=>by
   exfalso
   have:(stF NfaM.none0).fr=[[]]:=rfl
   rw [this] at hk
   match i,hk with
   | 0,hk=>cases hk
   | i+1,hk=>simp [List.getD] at hk,fun i k S hk=>by
   exfalso
   have:(stF NfaM.none0).ed=[[]]:=rfl
   rw [this] at hk
   match i,hk with
   | 0,hk=>cases hk
   | i+1,hk=>simp [List.getD] at hk⟩ (fun w=>⟨fun h=>h.2,fun h=>⟨rfl,h⟩⟩)
  have hA:=re_sub a1 (by rw [a2 0 (by rw [hl];exact Nat.one_pos)];exact ⟨rfl,rfl⟩) hr
  by_cases hk1:k < 1
  ·exfalso
   have:=hb.tags k (by rw [hl];exact hk1)
   obtain rfl:k=0:=by omega
   rw [ht] at this
   have h2:(stF NfaM.none0).tg.getD 0 (-1) = -1:=rfl
   omega
  ·obtain ⟨j, hj, h1, h2⟩ := a3 k w (by rw [hl]; omega) hA (by rw [ht]; exact h0)
   exact ⟨j,hj,by rw [← ht,h1,Nat.zero_add],h2⟩
 ·rintro ⟨j, hj, rfl, hw⟩
  obtain ⟨q,h1,h2,h3⟩:=hb.cmp (Re M) (re_val M) .start j hj w hw
  exact ⟨by omega,q,(hg q).2 h3,by rw [h2,Nat.zero_add]⟩
structure Bs (us : List Ns) (s : List Int) (r a : Nat) (b : Int) : Prop where
 hi:a≤s.length
 none:a=0→b = -1
 some:0 < a→∃ j,∃ h:j < us.length,j < r∧b=(j:Int)∧Lg us[j] (s.take a)∧∀ j',∀ h':j' < us.length,j' < j→¬ Lg us[j'] (s.take a)
 rest:∀ k,a < k→k≤s.length→∀ j,∀ h:j < us.length,j < r→¬ Lg us[j] (s.take k)
theorem Bs.start (us:List Ns) (s:List Int):Bs us s 0 0 (-1):=⟨Nat.zero_le _,fun _=>rfl,fun h=>absurd h (by decide),fun k _ _ j _ h=>absurd h (Nat.not_lt_zero j)⟩
theorem Bs.no {us:List Ns} {s:List Int} {r a:Nat} {b:Int} (h:Bs us s r a b) (hr:r < us.length) (hn:∀ k,a < k→k≤s.length→¬ Lg us[r] (s.take k)):Bs us s (r+1) a b :=
 ⟨h.hi,h.none,fun h0=>by
  obtain ⟨j,hj,h1,h2⟩:=h.some h0
  exact ⟨j,hj,by omega,h2⟩,fun k h1 h2 j hj hjr=>by
  by_cases e:j=r
  ·subst e;exact hn k h1 h2
  ·exact h.rest k h1 h2 j hj (by omega)⟩
theorem Bs.yes {us:List Ns} {s:List Int} {r a k:Nat} {b:Int} (h:Bs us s r a b) (hr:r < us.length) (hk:a < k) (hks:k≤s.length) (hl:Lg us[r] (s.take k)) (hn:∀ k',k < k'→k'≤s.length→¬ Lg us[r] (s.take k')):Bs us s (r+1) k (r:Int) :=
 ⟨hks,fun e=>by omega,fun _=>⟨r,hr,Nat.lt_succ_self r,rfl,hl,fun j' h' hj'=>h.rest k hk hks j' h' hj'⟩,fun k' h1 h2 j hj hjr=>by
  by_cases e:j=r
  ·subst e;exact hn k' h1 h2
  ·exact h.rest k' (by omega) h2 j hj (by omega)⟩
theorem Bs.lng {us:List Ns} (hs:∀ u∈us,Shp u) {s:List Int} {a:Nat} {b:Int} (h:Bs us s us.length a b):Lng (buildF us 0 (stF NfaM.none0)) s s.length a b:=by
 refine ⟨by omega,by have:=h.hi;omega,fun e=>h.none (by omega),fun h0=>?_,fun k h1 h2 t ht=>?_⟩
 ·obtain ⟨j, hj, _, rfl, hl, hf⟩ := h.some (by omega)
  rw [Int.toNat_natCast]
  refine ⟨(build_told hs _ _).2 ⟨j,hj,rfl,hl⟩,fun t ht=>?_⟩
  obtain ⟨j',hj',rfl,hl'⟩:=(build_told hs _ _).1 ht
  refine Int.ofNat_le.2 (Nat.le_of_not_lt (fun hlt=>hf j' hj' hlt hl'))
 ·obtain ⟨j', hj', rfl, hl'⟩ := (build_told hs _ _).1 ht
  exact h.rest k (by omega) h2 j' hj' hj' hl'
end SimM
