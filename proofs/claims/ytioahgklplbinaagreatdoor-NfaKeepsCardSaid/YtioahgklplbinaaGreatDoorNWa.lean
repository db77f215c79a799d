/- VSame, NKe, NKeeps, in one text. -/
import Derived.Test.YtioahgklplbinaaGreatDoorVRead
import Derived.Test.YtioahgklplbinaaGreatDoorRN
import Derived.Test.YtioahgklplbinaaGreatDoorNBa
/- The document's own Same of any two nodes: are they one tree? -/
namespace Go.Proofs.YtioahgklplbinaaGreatDoor
open Go.RowKit Go.Shelf Go.Maps SetM PropsM RxM WrM
noncomputable def sameB (t u:Ns):Bool:=@decide (t=u) (Classical.propDecidable _)
theorem sameB_true {t u:Ns}:sameB t u=true↔t=u:=by unfold sameB;exact @decide_eq_true_iff _ (Classical.propDecidable _)
theorem sameB_false {t u:Ns}:sameB t u=false↔¬ t=u:=by unfold sameB;exact @decide_eq_false_iff_not _ (Classical.propDecidable _)
def SameC (t:Ns):Prop:=∀ (u:Ns) (v w:Value) (W:World),RV W v t→RV W w u→Calls Tryz.prog 14 #[v,w] W fun e W'=>e=.returned (.bool (sameB t u))∧Below W.heap.size W W'
structure KidsAtR (W : World) (B g g' n n' k : Nat) (kc kc' : Nat) (a b c d e a' b' c' d' e' : Value) : Prop where
 r:W.cell? ⟨B,2,none⟩=some (.slice (some ⟨g,0,none⟩) n kc)
 r':W.cell? ⟨B+1,2,none⟩=some (.slice (some ⟨g',0,none⟩) n' kc')
 k0:W.cell? ⟨g,k*5,none⟩=some a
 k1:W.cell? ⟨g,k*5+1,none⟩=some b
 k2:W.cell? ⟨g,k*5+2,none⟩=some c
 k3:W.cell? ⟨g,k*5+3,none⟩=some d
 k4:W.cell? ⟨g,k*5+4,none⟩=some e
 j0:W.cell? ⟨g',k*5,none⟩=some a'
 j1:W.cell? ⟨g',k*5+1,none⟩=some b'
 j2:W.cell? ⟨g',k*5+2,none⟩=some c'
 j3:W.cell? ⟨g',k*5+3,none⟩=some d'
 j4:W.cell? ⟨g',k*5+4,none⟩=some e'
theorem KidsAtR.kept {W W':World} {m B g g' n n' k:Nat} {kc kc':Nat} {a b c d e a' b' c' d' e':Value} (h:KidsAtR W B g g' n n' k kc kc' a b c d e a' b' c' d' e') (hb:Below m W W') (h1:B+1 < m) (h2:g < m) (h3:g' < m):KidsAtR W' B g g' n n' k kc kc' a b c d e a' b' c' d' e' :=
 have q:∀ (x y:Nat) {v:Value},x < m→W.cell? ⟨x,y,none⟩=some v→W'.cell? ⟨x,y,none⟩=some v:=fun x y v hx hv=>(hb.cell (p:=⟨x,y,none⟩) hx).trans hv
 ⟨q _ _ (by omega) h.r,q _ _ (by omega) h.r',q _ _ h2 h.k0,q _ _ h2 h.k1,q _ _ h2 h.k2,q _ _ h2 h.k3,q _ _ h2 h.k4,q _ _ h3 h.j0,q _ _ h3 h.j1,q _ _ h3 h.j2,q _ _ h3 h.j3,q _ _ h3 h.j4⟩
theorem RV.five {W:World} {v:Value} {t:Ns} (h:RV W v t):∃ a b c d e,v=.agg #[a,b,c,d,e]:=by
 obtain ⟨k,sp,sn,sc,kp,kn,kc,mn,mx,rfl⟩:=h.form5
 exact ⟨_,_,_,_,_,rfl⟩
theorem take_step {α:Type} {a b:List α} {i:Nat} (hi:i < a.length) (hi':i < b.length) (h:a.take i=b.take i) (he:a[i]=b[i]):a.take (i+1)=b.take (i+1):=by
 rw [List.take_add_one,List.take_add_one,h,List.getElem?_eq_getElem hi,List.getElem?_eq_getElem hi',he]
set_option maxRecDepth 100000 in
set_option maxHeartbeats 8000000 in
theorem same_k (t:Ns) (ih:∀ x∈t.kids,SameC x):SameC t:=by
 intro u v w W hv hw
 obtain ⟨k,sl,kids,mn,mx⟩:=t
 obtain ⟨k',sl',kids',mn',mx'⟩:=u
 obtain ⟨sp,sc,kp,kc,rfl,⟨hsl,hkl⟩,hs,_,hk⟩:=hv.read
 obtain ⟨sp',sc',kp',kc',rfl,⟨hsl',hkl'⟩,hs',_,hk'⟩:=hw.read
 obtain ⟨q,hq⟩:∃ q,q=sameB (.mk k sl kids mn mx) (.mk k' sl' kids' mn' mx'):=⟨_,rfl⟩
 rw [← hq]
 have hqt:q=true↔(k=k'∧sl=sl'∧kids=kids'∧mn=mn'∧mx=mx'):=by
  rw [hq,sameB_true]
  constructor
  ·intro h;injection h with h1 h2 h3 h4 h5;exact ⟨h1,h2,h3,h4,h5⟩
  ·rintro ⟨rfl,rfl,rfl,rfl,rfl⟩;rfl
 obtain ⟨n,hn⟩:∃ n,n=kids.length:=⟨_,rfl⟩
 obtain ⟨n',hn'⟩:∃ n',n'=kids'.length:=⟨_,rfl⟩
 obtain ⟨m,hm⟩:∃ m,m=sl.length:=⟨_,rfl⟩
 obtain ⟨m',hm'⟩:∃ m',m'=sl'.length:=⟨_,rfl⟩
 have HA:=Lib.hid (fun V (hb:Below W.heap.size W V)=>alike_any sp sp' sc sc' sl sl' (by omega) (by omega) V (hs.step hb) (hs'.step hb))
 rw [← hm,← hm'] at HA
 rw [← hn,← hn',← hm,← hm']
 obtain ⟨V,hV⟩:∃ V,V=(W.alloc (.cells #[.int .u8 k,.slice sp m sc,.slice kp n kc,.int .i64 mn,.int .i64 mx] 48)).alloc (.cells #[.int .u8 k',.slice sp' m' sc',.slice kp' n' kc',.int .i64 mn',.int .i64 mx'] 48):=⟨_,rfl⟩
 have hbA:=(Below.refl W.heap.size W).alloc (Nat.le_refl _) (.cells #[.int .u8 k,.slice sp m sc,.slice kp n kc,.int .i64 mn,.int .i64 mx] 48)
 have hb0:Below W.heap.size W V:=by rw [hV];exact hbA.alloc (by rw [World.size_alloc];omega) _
 have hVz:V.heap.size=W.heap.size+2:=by rw [hV,World.size_alloc,World.size_alloc]
 have ka:V.cell? ⟨W.heap.size,2,none⟩=some (.slice kp n kc):=by
  rw [hV]
  refine (((Below.refl _ _).alloc (Nat.le_refl _) _).cell (p:=⟨W.heap.size,2,none⟩) (by rw [World.size_alloc];exact Nat.lt_succ_self _)).trans ?_
  rw [cell_of_row _ W.heap.size 2 _ _ _ (heap_alloc_new W _)];rfl
 have kb:V.cell? ⟨W.heap.size+1,2,none⟩=some (.slice kp' n' kc'):=by
  rw [hV]
  have h:=cell_of_row _ (W.alloc (.cells #[.int .u8 k,.slice sp m sc,.slice kp n kc,.int .i64 mn,.int .i64 mx] 48)).heap.size 2 _ _ _ (heap_alloc_new (W.alloc (.cells #[.int .u8 k,.slice sp m sc,.slice kp n kc,.int .i64 mn,.int .i64 mx] 48)) (.cells #[.int .u8 k',.slice sp' m' sc',.slice kp' n' kc',.int .i64 mn',.int .i64 mx'] 48))
  rw [World.size_alloc] at h
  exact h
 have HAV:=Lib.hid (HA.out V hb0)
 have HK:Hid (∀ (i:Nat) (hi:i < kids.length) (hi':i < kids'.length),∀ U,Below V.heap.size V U→∃ g g' a b c d e a' b' c' d' e',kp=some ⟨g,0,none⟩∧kp'=some ⟨g',0,none⟩∧(g < V.heap.size∧g' < V.heap.size)∧KidsAtR U W.heap.size g g' n n' i kc kc' a b c d e a' b' c' d' e'∧(∀ U',Below U.heap.size U U'→Calls Tryz.prog 14 #[.agg #[a,b,c,d,e],.agg #[a',b',c',d',e']] U' fun e W''=>e=.returned (.bool (sameB kids[i] kids'[i]))∧Below U'.heap.size U' W'')):=Lib.hid (by
  intro i hi hi' U hU
  obtain ⟨g,e1,⟨cs,hg⟩,hc⟩:=hk (by intro e;rw [e] at hi;simp at hi)
  obtain ⟨g',e1',⟨cs',hg'⟩,hc'⟩:=hk' (by intro e;rw [e] at hi';simp at hi')
  have hg:=(Array.getElem?_eq_some_iff.1 hg).1
  have hg':=(Array.getElem?_eq_some_iff.1 hg').1
  obtain ⟨x,hx,hcx⟩:=hc i hi
  obtain ⟨y,hy,hcy⟩:=hc' i hi'
  obtain ⟨a,b,c,d,e,rfl⟩:=hx.five
  obtain ⟨a',b',c',d',e',rfl⟩:=hy.five
  subst e1 e1'
  have q:∀ (z o:Nat) {w:Value},z < V.heap.size→V.cell? ⟨z,o,none⟩=some w→U.cell? ⟨z,o,none⟩=some w:=fun z o w hz hw=>(hU.cell (p:=⟨z,o,none⟩) hz).trans hw
  have q0:∀ (z o:Nat) {w:Value},z < W.heap.size→W.cell? ⟨z,o,none⟩=some w→U.cell? ⟨z,o,none⟩=some w:=fun z o w hz hw=>q z o (by omega) ((hb0.cell (p:=⟨z,o,none⟩) hz).trans hw)
  refine ⟨g,g',a,b,c,d,e,a',b',c',d',e',rfl,rfl,⟨by omega,by omega⟩,⟨q _ _ (by omega) ka,q _ _ (by omega) kb,q0 _ _ hg (hcx 0 (by decide)),q0 _ _ hg (hcx 1 (by decide)),q0 _ _ hg (hcx 2 (by decide)),q0 _ _ hg (hcx 3 (by decide)),q0 _ _ hg (hcx 4 (by decide)),q0 _ _ hg' (hcy 0 (by decide)),q0 _ _ hg' (hcy 1 (by decide)),q0 _ _ hg' (hcy 2 (by decide)),q0 _ _ hg' (hcy 3 (by decide)),q0 _ _ hg' (hcy 4 (by decide))⟩,fun U' hU'=>?_⟩
  have hWU':=hb0.trans ((hU.trans (hU'.mono hU.size)).mono hb0.size)
  exact ih kids[i] (List.getElem_mem hi) kids'[i] _ _ U' (hx.step hWU') (hy.step hWU'))
 have HB0:=Lib.hid hb0
 have hn1:n≤1000:=by omega
 have hn1':n'≤1000:=by omega
 have HQ:=Lib.hid hqt
 have hcase:¬ k=k'∨(k=k'∧¬ mn=mn')∨(k=k'∧mn=mn'∧¬ mx=mx')∨(k=k'∧mn=mn'∧mx=mx'∧¬ n=n')∨(k=k'∧mn=mn'∧mx=mx'∧n=n'):=by omega
 have HN:=Lib.hid hn
 have HN':=Lib.hid hn'
 clear ih hk hk' hv hw hs hs' hb0 hbA hq hqt hsl hsl' hkl hkl' HA hn hn' hm hm'
 go_enter Tryz.func14,Tryz.ntmps14
 rcases hcase with h1 | ⟨rfl,h1⟩ | ⟨rfl,rfl,h1⟩ | ⟨rfl,rfl,rfl,h1⟩ | ⟨rfl,rfl,rfl,rfl⟩
 ·have hz : ¬ (k : Int) = (k' : Int) := by omega
  have HF:Hid (q=false):=Lib.hid (by rw [← Bool.not_eq_true,HQ.out];exact fun h=>h1 h.1)
  clear h1
  go_wp2_with fail
  go_ret
  rw [← hV]
  exact ⟨by rw [HF.out];rfl,HB0.out⟩
 ·have HF : Hid (q = false) := Lib.hid (by rw [← Bool.not_eq_true, HQ.out]; exact fun h => h1 h.2.2.2.1)
  go_wp2_with fail
  go_ret
  rw [← hV]
  exact ⟨by rw [HF.out];rfl,HB0.out⟩
 ·have HF : Hid (q = false) := Lib.hid (by rw [← Bool.not_eq_true, HQ.out]; exact fun h => h1 h.2.2.2.2)
  go_wp2_with fail
  go_ret
  rw [← hV]
  exact ⟨by rw [HF.out];rfl,HB0.out⟩
 ·have HF : Hid (q = false) := Lib.hid (by rw [← Bool.not_eq_true, HQ.out]; exact fun h => h1 (by rw [HN.out, HN'.out, h.2.2.1]))
  have hz:¬ (n:Int)=(n':Int):=by omega
  clear h1
  go_wp2_with fail
  go_ret
  rw [← hV]
  exact ⟨by rw [HF.out];rfl,HB0.out⟩
 ·go_wp2_with fail
  rw [← hV]
  refine HAV.out.mono ?_
  rintro e w1 ⟨rfl,b1⟩
  have kz:w1.cell? ⟨W.heap.size,2,none⟩=some (.slice kp n kc):=(b1.cell (p:=⟨W.heap.size,2,none⟩) (by show W.heap.size < _;omega)).trans ka
  have HB1:=Lib.hid b1
  clear b1 hV HAV
  by_cases hsl:sl=sl'
  case neg =>
   have HF:Hid (q=false):=Lib.hid (by rw [← Bool.not_eq_true,HQ.out];exact fun h=>hsl h.2.1)
   rw [decide_eq_false hsl]
   clear hsl
   go_wp2_with fail
   go_ret
   exact ⟨by rw [HF.out];rfl,HB0.out.trans (HB1.out.mono HB0.out.size)⟩
  case pos =>
   rw [decide_eq_true hsl]
   have HSL:=Lib.hid hsl
   clear hsl
   go_wp2_with fail
   go_loopg [5,6] n (fun g s5 s6 wx=>∃ (i:Nat),i+g=n∧s5=.int .i64 i∧Hid (kids.take i=kids'.take i)∧Hid (Below V.heap.size V wx))
   case atStart=>exact ⟨0,by omega,rfl,Lib.hid rfl,HB1⟩
   case round =>
    obtain ⟨i,hig,rfl,HTK,hb⟩:=hrel
    have kx:=(hb.out.cell (p:=⟨W.heap.size,2,none⟩) (by show W.heap.size < _;omega)).trans ka
    cases gk with
    | zero =>
     have hl:¬ ((i:Int) < (n:Int)):=by omega
     have HF:Hid (q=true):=Lib.hid (HQ.out.2 ⟨by trivial,HSL.out,by
      have h:=HTK.out
      rw [List.take_of_length_le (by have:=HN.out;omega),List.take_of_length_le (by have:=HN'.out;omega)] at h
      exact h,by trivial,by trivial⟩)
     go_wp2
     go_ret
     exact ⟨by rw [HF.out];rfl,HB0.out.trans (hb.out.mono HB0.out.size)⟩
    | succ gk =>
     have hl:(i:Int) < (n:Int):=by omega
     have hi:i < kids.length:=by have:=HN.out;omega
     have hi':i < kids'.length:=by have:=HN'.out;omega
     obtain ⟨g,g',a,b,c,d,e,a',b',c',d',e',rfl,rfl,⟨hg,hg'⟩,hka,hcall⟩:=HK.out i hi hi' _ hb.out
     obtain ⟨o,ho⟩:∃ o,o=sameB kids[i] kids'[i]:=⟨_,rfl⟩
     rw [← ho] at hcall
     have HO:=Lib.hid ho
     have HKA:=Lib.hid hka
     have HCA:=Lib.hid hcall
     clear hka hcall ho
     have hwz:V.heap.size≤wr.heap.size:=hb.out.size
     have HKS:∀ U,Below wr.heap.size wr U→(U.cell? ⟨W.heap.size,2,none⟩=some (.slice (some ⟨g,0,none⟩) n kc)∧U.cell? ⟨W.heap.size+1,2,none⟩=some (.slice (some ⟨g',0,none⟩) n kc')∧U.cell? ⟨g,i*5,none⟩=some a∧U.cell? ⟨g,i*5+1,none⟩=some b∧U.cell? ⟨g,i*5+2,none⟩=some c∧U.cell? ⟨g,i*5+3,none⟩=some d∧U.cell? ⟨g,i*5+4,none⟩=some e∧U.cell? ⟨g',i*5,none⟩=some a'∧U.cell? ⟨g',i*5+1,none⟩=some b'∧U.cell? ⟨g',i*5+2,none⟩=some c'∧U.cell? ⟨g',i*5+3,none⟩=some d'∧U.cell? ⟨g',i*5+4,none⟩=some e'):=fun U hU=>by
      have h:=HKA.out.kept hU (by omega) (by omega) (by omega)
      exact ⟨h.r,h.r',h.k0,h.k1,h.k2,h.k3,h.k4,h.j0,h.j1,h.j2,h.j3,h.j4⟩
     have HKS:=Lib.hid HKS
     have h0:(0:Int)≤(i:Int):=by omega
     clear ka kz kb HK
     go_wp2_with fail
     have hr:Below wr.heap.size wr wr.drew:=(Below.refl _ _).drew
     go_region_held3 (fun U => U.cell? ⟨W.heap.size, 2, none⟩ = some (.slice (some ⟨g, 0, none⟩) n kc) ∧ U.cell? ⟨W.heap.size + 1, 2, none⟩ = some (.slice (some ⟨g', 0, none⟩) n kc') ∧ U.cell? ⟨g, i * 5, none⟩ = some a ∧ U.cell? ⟨g, i * 5 + 1, none⟩ = some b ∧ U.cell? ⟨g, i * 5 + 2, none⟩ = some c ∧ U.cell? ⟨g, i * 5 + 3, none⟩ = some d ∧ U.cell? ⟨g, i * 5 + 4, none⟩ = some e ∧ U.cell? ⟨g', i * 5, none⟩ = some a' ∧ U.cell? ⟨g', i * 5 + 1, none⟩ = some b' ∧ U.cell? ⟨g', i * 5 + 2, none⟩ = some c' ∧ U.cell? ⟨g', i * 5 + 3, none⟩ = some d' ∧ U.cell? ⟨g', i * 5 + 4, none⟩ = some e')
      (exact HKS.out _ hr)
      (first
       | (go_at_call 14;(refine (HCA.out _ hr).mono ?_);rintro e w3 ⟨rfl,b3⟩;have hr:=hr.trans (b3.mono hr.size)))
     have HBX:=Lib.hid (hb.out.trans (hr.mono hb.out.size))
     clear HKS HKA HCA kx hr b3
     cases o with
     | false =>
      have HF:Hid (q=false):=Lib.hid (by
       rw [← Bool.not_eq_true,HQ.out]
       rintro ⟨_,_,h,_⟩
       exact sameB_false.1 HO.out.symm (by simp only [h]))
      go_wp2
      go_ret
      exact ⟨by rw [HF.out];rfl,HB0.out.trans (HBX.out.mono HB0.out.size)⟩
     | true =>
      have HTK':=Lib.hid (take_step hi hi' HTK.out (sameB_true.1 HO.out.symm))
      clear HTK HO
      go_wp2
      go_roundg gk
      case measure=>omega
      case rel=>exact ⟨i+1,by omega,rfl,HTK',HBX⟩
theorem same_r : ∀ (t : Ns), SameC t
 | .mk k sl kids mn mx=>same_k _ (fun x _hx=>same_r x)
termination_by t=>SizeOf.sizeOf t
decreasing_by
 have:=List.sizeOf_lt_of_mem (show x∈kids from _hx)
 simp only [Ns.mk.sizeOf_spec]
 omega
end Go.Proofs.YtioahgklplbinaaGreatDoor

/- What the law does to a machine that was made: it writes into the sets' cells alone. -/
namespace Go.Proofs.YtioahgklplbinaaGreatDoor
open Go.RowKit Go.Shelf Go.Maps SetM PropsM RxM WrM NfaM
structure KB (B : Nat → Prop) (W V : World) : Prop where
 frm:Frm B W V
 size:V.heap.size=W.heap.size
 own:∀ k,B k→∃ cs cs' t,W.heap[k]? = some (.cells cs t (0,0))∧V.heap[k]? = some (.cells cs' t (0,0))∧cs'.size=cs.size
theorem KB.refl {B:Nat→Prop} {W:World} (h:∀ k,B k→Unf W k):KB B W W:=⟨Frm.refl _ _,rfl,fun k hk=>by
 obtain ⟨cs,t,e⟩:=h k hk
 exact ⟨cs,cs,t,e,e,rfl⟩⟩
theorem KB.store {B:Nat→Prop} {W V:World} (h:KB B W V) {g i:Nat} (hg:B g) (v:Value):KB B W (V.setCell ⟨g,i,none⟩ v):=by
 have hs:(V.setCell ⟨g,i,none⟩ v).heap.size=V.heap.size:=by simp [World.setCell]
 refine ⟨⟨h.frm.os,h.frm.tape,h.frm.output,by rw [hs];exact h.frm.size,fun k hk hB=>?_⟩,by rw [hs];exact h.size,fun k hk=>?_⟩
 ·rw [Below.heap_setCell _ _ _ _ (show k ≠ g from fun e => hB (e ▸ hg))]
  exact h.frm.block k hk hB
 ·obtain ⟨cs, cs', t, e1, e2, e3⟩ := h.own k hk
  by_cases hkg:k=g
  ·subst hkg
   exact ⟨cs,_,t,e1,heap_setC V k cs' t e2 i v,by simp [e3]⟩
  ·exact ⟨cs,cs',t,e1,by rw [Below.heap_setCell _ _ _ _ (show k≠g from hkg)];exact e2,e3⟩
theorem KB.below {B:Nat→Prop} {W V:World} {n:Nat} (h:KB B W V) (hB:∀ k,B k→n≤k) (hn:n≤W.heap.size):Below n W V:=h.frm.below hB hn
def MK (W:World) (B:Nat→Prop) (p0:Option Addr) (n:Nat) (ln:Nat→Nat) (L:Nat→Nat→Nat):Prop :=
 ∀ r,r < n→∃ g o P c,p0=some ⟨g,o,none⟩∧g < W.heap.size∧¬ B g∧W.cell? ⟨g,o+r,none⟩=some (.slice P (ln r) c) ∧
  ∀ k,k < ln r→∃ g' o' sp sc,P=some ⟨g',o',none⟩∧g' < W.heap.size∧¬ B g'∧W.cell? ⟨g',o'+k*2+1,none⟩=some (.slice sp (L r k) sc) ∧
   ∀ x,x < L r k→∃ gb ob y,sp=some ⟨gb,ob,none⟩∧B gb∧gb < W.heap.size∧W.cell? ⟨gb,ob+x*2,none⟩=some y∧W.frozen? ⟨gb,ob+x*2,none⟩=false
theorem KB.cell {B:Nat→Prop} {W V:World} (h:KB B W V) {g i:Nat} (hg:g < W.heap.size) (hB:¬ B g):V.cell? ⟨g,i,none⟩=W.cell? ⟨g,i,none⟩:=by
 unfold World.cell?
 rw [h.frm.block g hg hB]
theorem MK.step {B:Nat→Prop} {W V:World} {p0:Option Addr} {n:Nat} {ln:Nat→Nat} {L:Nat→Nat→Nat} (h:MK W B p0 n ln L) (hk:KB B W V):MK V B p0 n ln L:=fun r hr=>by
 obtain ⟨g,o,P,c,e,hg,hB,h1,h2⟩:=h r hr
 refine ⟨g,o,P,c,e,by rw [hk.size];exact hg,hB,(hk.cell hg hB).trans h1,fun k hk1=>?_⟩
 obtain ⟨g',o',sp,sc,e',hg',hB',h3,h4⟩:=h2 k hk1
 refine ⟨g',o',sp,sc,e',by rw [hk.size];exact hg',hB',(hk.cell hg' hB').trans h3,fun x hx=>?_⟩
 obtain ⟨gb,ob,y,eb,hb,hgb,h5,h6⟩:=h4 x hx
 obtain ⟨cs,cs',t,e1,e2,e3⟩:=hk.own gb hb
 have hlt:ob+x*2 < cs.size:=by
  rw [cell_of_row W gb _ cs t _ e1] at h5
  exact (Array.getElem?_eq_some_iff.1 h5).1
 exact ⟨gb,ob,cs'[ob+x*2]'(by rw [e3];exact hlt),eb,hb,by rw [hk.size];exact hgb,by rw [cell_of_row V gb _ cs' t _ e2];exact Array.getElem?_eq_getElem _,frozen_of_row V gb _ cs' t e2⟩
theorem MVx.toMK {W : World} {B : Nat → Prop} {R : Nat → Rw} {m : Mc} (h : MVx W B R m) (hu : ∀ k, B k → Unf W k) {p0 : Option Addr} {c0 : Nat} (e0 : (R 0).v = .slice p0 m.tg.length c0) :
  ∃ L:Nat→Nat→Nat,(∀ r,r < m.tg.length→∀ k,k < (m.ed.getD r []).length→L r k≤100000)∧MK W B p0 m.tg.length (fun r=>(m.ed.getD r []).length) L:=by
 refine ⟨fun r k=>((m.ed.getD r []).getD k (0,[])).2.length,fun r hr k hk=>?_,fun i hi'=>?_⟩
 ·obtain ⟨sp, sc, q1, q2, q3, q4, q5⟩ := EdC.get (h.re r hr).2.2.2 k hk
  show ((m.ed.getD r []).getD k (0,[])).2.length≤100000
  rw [getD_of hk]
  exact q3
 obtain ⟨g,c,a1,a2,a3⟩:=(h.fam.own 0 (by omega)).cells (by rw [h.r0.2.1];omega) (j:=i) (by rw [h.r0.2.1,h.r0.2.2.1];omega)
 have hB0:¬ B g:=h.nb g ⟨0,by omega,by rw [a1];rfl⟩
 rw [e0,h.r0.2.2.1] at a1
 injection a1 with b1 b2 b3
 rw [h.r0.2.2.2,List.getElem?_map,List.getElem?_range hi'] at a3
 have hre:=h.re i hi'
 obtain ⟨P,cc,hv⟩:=(h.fam.own (3+2*i) (by omega)).slice
 rw [hre.2.2.1] at hv
 refine ⟨g,0,P,cc,b1,a2,hB0,by rw [Nat.zero_add,a3,← hv];rfl,fun k hk=>?_⟩
 replace hk:k < (m.ed.getD i []).length:=hk
 obtain ⟨sp,sc,q1,q2,q3,q4,q5⟩:=EdC.get hre.2.2.2 k hk
 obtain ⟨g3,cc3,f1,f2,f3⟩:=(h.fam.own (3+2*i) (by omega)).cells (by rw [hre.2.1];omega) (j:=k*2+1) (by rw [hre.2.1,hre.2.2.1];omega)
 have hB3:¬ B g3:=h.nb g3 ⟨3+2*i,by omega,by rw [f1];rfl⟩
 rw [hv,hre.2.2.1] at f1
 injection f1 with f1
 have hL:((m.ed.getD i []).getD k (0,[])).2.length=(m.ed.getD i [])[k].2.length:=by rw [getD_of hk]
 refine ⟨g3,0,sp,sc,f1,f2,hB3,?_,fun x hx=>?_⟩
 ·show W.cell? ⟨g3, 0 + k * 2 + 1, none⟩ = some (.slice sp ((m.ed.getD i []).getD k (0, [])).2.length sc)
  rw [Nat.zero_add,f3,hL]
  exact q2
 ·have hx' : x < (m.ed.getD i [])[k].2.length := by rw [← hL]; exact hx
  have hne:(m.ed.getD i [])[k].2≠[]:=fun e=>by rw [e] at hx';cases hx'
  obtain ⟨gb,ob,e1,hgb,hc⟩:=q4 hne
  have hBb:=q5 hne _ e1
  obtain ⟨cs,t,ec⟩:=hu gb hBb
  exact ⟨gb,ob,_,e1,hBb,hgb,(hc x hx').1,frozen_of_row W gb _ cs t ec⟩
end Go.Proofs.YtioahgklplbinaaGreatDoor

/- The walk of NfaKeeps. -/
namespace Go.Proofs.YtioahgklplbinaaGreatDoor
open Go.RowKit Go.Shelf Go.Maps SetM PropsM RxM WrM NfaM
theorem pair_same {W : World} {P Q : Option Addr} {us : List Ns} (hx : NsL W P us) (hy : NsL W Q us) {i : Nat} (hi : i < us.length) :
  ∃ g g' a b c d e a' b' c' d' e',P=some ⟨g,0,none⟩∧Q=some ⟨g',0,none⟩∧∀ U,Below W.heap.size W U→(U.cell? ⟨g,i*5,none⟩=some a∧U.cell? ⟨g,i*5+1,none⟩=some b∧U.cell? ⟨g,i*5+2,none⟩=some c∧U.cell? ⟨g,i*5+3,none⟩=some d∧U.cell? ⟨g,i*5+4,none⟩=some e∧U.cell? ⟨g',i*5,none⟩=some a'∧U.cell? ⟨g',i*5+1,none⟩=some b'∧U.cell? ⟨g',i*5+2,none⟩=some c'∧U.cell? ⟨g',i*5+3,none⟩=some d'∧U.cell? ⟨g',i*5+4,none⟩=some e') ∧
   Calls Tryz.prog 14 #[.agg #[a,b,c,d,e],.agg #[a',b',c',d',e']] U fun r U''=>r=.returned (.bool true)∧Below U.heap.size U U'':=by
 obtain ⟨g,a,b,c,d,e,e1,hg,hv,r0,r1,r2,r3,r4⟩:=hx i hi
 obtain ⟨g',a',b',c',d',e',e1',hg',hv',s0,s1,s2,s3,s4⟩:=hy i hi
 refine ⟨g,g',a,b,c,d,e,a',b',c',d',e',e1,e1',fun U hU=>?_⟩
 have q:∀ (z o:Nat) {w:Value},z < W.heap.size→W.cell? ⟨z,o,none⟩=some w→U.cell? ⟨z,o,none⟩=some w:=fun z o w hz hw=>(hU.cell (p:=⟨z,o,none⟩) hz).trans hw
 refine ⟨⟨q _ _ hg r0,q _ _ hg r1,q _ _ hg r2,q _ _ hg r3,q _ _ hg r4,q _ _ hg' s0,q _ _ hg' s1,q _ _ hg' s2,q _ _ hg' s3,q _ _ hg' s4⟩,?_⟩
 have h:=same_r us[i] us[i] _ _ U (hv.step hU) (hv'.step hU)
 rw [sameB_true.2 rfl] at h
 exact h
set_option maxRecDepth 100000 in
set_option maxHeartbeats 16000000 in
theorem nfaKeeps_any {W : World} {A : Option Addr} {n ca : Nat} {rows : List (List Int)} (hU : UssR W A rows) (hn : n = rows.length) (h8 : n ≤ 9223372036854775807) (hA : Ar W) :
  Calls Tryz.prog 5 #[.slice A n ca] W fun e W'=>e=.returned (.bool true)∧Below W.heap.size W W':=by
 have HLS:=Lib.hid (fun (X:World) (hX:Below W.heap.size W X)=>list_f (ca:=ca) (hU.step hX) hn h8)
 have HA:=Lib.hid hA
 clear hU hn hA
 go_enter Tryz.func5,Tryz.ntmps5
 go_wp2_with fail
 refine (HLS.out W (Below.refl _ _)).mono ?_
 rintro e w1 ⟨v,rfl,hrow,b1⟩
 obtain ⟨P1,d1,us1,rfl,hxl,hlen,hall⟩:=list_x hrow b1
 obtain ⟨l1,hl1⟩:∃ l1,l1=us1.length:=⟨_,rfl⟩
 rw [← hl1]
 have HALL:=Lib.hid hall
 have HLEN:=Lib.hid hlen
 have HX1:=Lib.hid hxl
 have HL1:=Lib.hid hl1
 have hl8:l1≤1000:=by rw [hl1];exact hxl.l8
 have HPB:=Lib.hid (pbuild_c (pc:=d1) hxl.nb.toL hxl.al (HA.out.step b1) hl1 (by omega))
 clear hrow b1 hxl hlen hall hl1
 go_wp2_with fail
 refine HPB.out.mono ?_
 rintro e w2 ⟨v,rfl,h0,h1,b2⟩
 have HB2:=Lib.hid (HX1.out.below.trans (b2.mono HX1.out.below.size))
 by_cases hy:whyF us1=0
 ·obtain ⟨R, B, hm, rfl, _, hBu⟩ := h0 hy
  obtain ⟨_,_,hn8,_,he8⟩:=built_ok hy
  rw [hy]
  generalize buildF us1 0 (stF NfaM.none0)=m at hm hn8 he8
  obtain ⟨p0,c0,e0⟩:=(hm.fam.own 0 (by omega)).slice
  obtain ⟨p1,c1,e1⟩:=(hm.fam.own 1 (by omega)).slice
  obtain ⟨p2,c2,e2⟩:=(hm.fam.own 2 (by omega)).slice
  rw [hm.r0.2.2.1] at e0
  rw [hm.r1.2.2.1] at e1
  rw [hm.r2.2.2.1] at e2
  rw [e0,e1,e2]
  obtain ⟨V2,hV2⟩:∃ V,V=w2.alloc (.cells #[.slice p0 m.tg.length c0,.slice p1 m.tg.length c1,.slice p2 m.tg.length c2] 29):=⟨_,rfl⟩
  have al2:Below w2.heap.size w2 V2:=by rw [hV2];exact (Below.refl _ _).alloc (Nat.le_refl _) _
  have hx2:V2.heap[w2.heap.size]? = some (.cells #[.slice p0 m.tg.length c0,.slice p1 m.tg.length c1,.slice p2 m.tg.length c2] 29 (0,0)):=by rw [hV2];exact heap_alloc_new w2 _
  have hblt:∀ k,B k→k < w2.heap.size:=hm.bl
  have hm2:MVx V2 B R m:=hm.kept al2.size (fun k hk=>al2.block k (hk.elim (fun h=>hm.fam.lt h) (fun h=>hblt k h)))
  have hu2:∀ k,B k→Unf V2 k:=fun k hk=>(hBu k hk).2.of (al2.block k (hblt k hk))
  obtain ⟨L,hL,hMK⟩:=hm2.toMK hu2 e0
  have hlt2:=(Array.getElem?_eq_some_iff.1 hx2).1
  have hnB:¬ B w2.heap.size:=fun h=>Nat.lt_irrefl _ (hblt _ h)
  have HF:=Lib.hid (fun (U:World) (hU:KB B V2 U)=>And.intro (cells3 ((hU.frm.block _ hlt2 hnB).trans hx2)).1.1 (hMK.step hU))
  have HK0:=Lib.hid (KB.refl hu2)
  have HBel:=Lib.hid (fun (U:World) (hU:KB B V2 U)=>(b2.trans (al2.mono b2.size)).trans (hU.below (n:=w1.heap.size) (fun k hk=>(hBu k hk).1) (Nat.le_trans b2.size al2.size)))
  have HLE:=Lib.hid (fun r (hr:r < m.tg.length)=>And.intro (show (m.ed.getD r []).length≤2000 from by have:=row_le m.ed r;unfold eds at he8;omega) (hL r hr))
  obtain ⟨ln,hln⟩:∃ ln:Nat→Nat,ln=fun r=>(m.ed.getD r []).length:=⟨_,rfl⟩
  have hlnr:∀ r,(m.ed.getD r []).length=ln r:=fun r=>by rw [hln]
  rw [← hln] at HF
  simp only [hlnr] at HLE
  clear hx2 al2 hm hm2 hu2 hL hMK hBu hlt2 hnB hblt he8 b2 e0 e1 e2 hln hlnr h0 h1 hy HPB
  generalize m.tg.length=n2 at *
  go_upto_region 3 with fail
  rw [← hV2]
  clear hV2
  go_wp2_with fail
  go_loopg [6] n2 (fun gk s6 wx=>∃ r:Nat,r+gk=n2∧s6=.int .i64 r∧Hid (KB B V2 wx))
  case atStart=>exact ⟨0,by omega,rfl,HK0⟩
  case round =>
   obtain ⟨r,hrg,rfl,HK⟩:=hrel
   obtain ⟨w3,hw3⟩:∃ w3,w3=wr:=⟨_,rfl⟩
   subst hw3
   obtain ⟨a0,hMK⟩:=HF.out w3 HK.out
   cases gk with
   | zero =>
    obtain rfl:r=n2:=by omega
    have hlt:¬ (r:Int) < (r:Int):=by omega
    have hb13:=HBel.out w3 HK.out
    have HB3:=Lib.hid (HX1.out.below.trans (hb13.mono HX1.out.below.size))
    have HY:=Lib.hid (HLS.out w3 HB3.out)
    clear hMK HLE
    go_wp2_with fail
    refine HY.out.mono ?_
    rintro e w4 ⟨v,rfl,hrow,b4⟩
    obtain ⟨P2,d2,us2,rfl,hxl2,hlen2,hall2⟩:=list_x hrow b4
    obtain rfl:us2=us1:=List.ext_getElem (by rw [hlen2,HLEN.out]) (fun i hi hj=>by
     obtain ⟨q1,q2⟩:=hall2 i hi (by omega)
     obtain ⟨q3,q4⟩:=HALL.out i hj (by omega)
     exact nd_inj _ _ q2 q4 (by rw [q1,q3]))
    rw [← HL1.out]
    have hx1:NsL w4 P1 us2:=(HX1.out.nb.step (hb13.trans (b4.mono hb13.size))).toL
    have hx2:NsL w4 P2 us2:=hxl2.nb.toL
    have HPS:=Lib.hid (fun i (hi:i < l1)=>pair_same hx1 hx2 (i:=i) (by rw [← HL1.out];exact hi))
    have HB4:=Lib.hid (HB3.out.trans (b4.mono HB3.out.size))
    have HKN:=Lib.hid (fun U (hU:Below w4.heap.size w4 U)=>known8 (HA.out.step (HB4.out.trans (hU.mono HB4.out.size))))
    clear hrow b4 hxl2 hlen2 hall2 hx1 hx2 HY HLS HALL HLEN HX1 HL1 hb13 HB3 a0 HF HK HK0 HBel hrg hlt hn8
    go_wp2_with fail
    go_loopg [10] l1 (fun gk s10 wx=>∃ i:Nat,i+gk=l1∧s10=.int .i64 i∧Hid (Below w4.heap.size w4 wx))
    case atStart=>exact ⟨0,by omega,rfl,Lib.hid (Below.refl _ _)⟩
    case round =>
     obtain ⟨i,hig,rfl,HQ⟩:=hrel
     obtain ⟨w5,hw5⟩:∃ w5,w5=wr:=⟨_,rfl⟩
     subst hw5
     cases gk with
     | zero =>
      obtain rfl:i=l1:=by omega
      have hlt:¬ (i:Int) < (i:Int):=by omega
      have HK5:=Lib.hid (HKN.out w5 HQ.out)
      go_wp2_with fail
      refine HK5.out.mono ?_
      rintro e w6 ⟨rfl,b6⟩
      have HE:=Lib.hid (HB4.out.trans ((HQ.out.trans (b6.mono HQ.out.size)).mono HB4.out.size))
      clear b6
      go_wp2
      go_ret
      exact ⟨rfl,HE.out⟩
     | succ gki =>
      have hlt:(i:Int) < (l1:Int):=by omega
      have h0:(0:Int)≤(i:Int):=by omega
      have hwi:wrap64 ((i:Int)+1)=((i+1:Nat):Int):=by rw [IntWalk.wrap64_in _ (by omega)];omega
      obtain ⟨g,g',a,b,c,d,e,a',b',c',d',e',rfl,rfl,hc⟩:=HPS.out i (by omega)
      have HC:=Lib.hid (fun U (hU:Below w5.heap.size w5 U)=>hc U (HQ.out.trans (hU.mono HQ.out.size)))
      clear HKN HPS hc
      go_wp2_with fail
      have hr:Below w5.heap.size w5 w5.drew:=(Below.refl _ _).drew
      go_region_held3 (fun U => U.cell? ⟨g, i * 5, none⟩ = some a ∧ U.cell? ⟨g, i * 5 + 1, none⟩ = some b ∧ U.cell? ⟨g, i * 5 + 2, none⟩ = some c ∧ U.cell? ⟨g, i * 5 + 3, none⟩ = some d ∧ U.cell? ⟨g, i * 5 + 4, none⟩ = some e ∧ U.cell? ⟨g', i * 5, none⟩ = some a' ∧ U.cell? ⟨g', i * 5 + 1, none⟩ = some b' ∧ U.cell? ⟨g', i * 5 + 2, none⟩ = some c' ∧ U.cell? ⟨g', i * 5 + 3, none⟩ = some d' ∧ U.cell? ⟨g', i * 5 + 4, none⟩ = some e')
       (exact (HC.out _ hr).1)
       (first
        | (go_at_call 14;(refine (HC.out _ hr).2.mono ?_);rintro ee w7 ⟨rfl,b7⟩;have hr:=hr.trans (b7.mono hr.size)))
      have HBX:=Lib.hid (HQ.out.trans (hr.mono HQ.out.size))
      clear HC hr b7
      go_wp2
      go_roundg gki
      case measure=>omega
      case rel=>exact ⟨i+1,by omega,by first | rw [hwi] | rfl | simp,HBX⟩
   | succ gko =>
    have hlt:(r:Int) < (n2:Int):=by omega
    have hr2:r < n2:=by omega
    have hwr:wrap64 ((r:Int)+1)=((r+1:Nat):Int):=by rw [IntWalk.wrap64_in _ (by omega)];omega
    obtain ⟨g,o,P,c,rfl,_⟩:=hMK r hr2
    obtain ⟨le,hle⟩:∃ le,le=ln r:=⟨_,rfl⟩
    have HF2:Hid (∀ (U:World),KB B V2 U→U.cell? ⟨w2.heap.size,0,none⟩=some (.slice (some ⟨g,o,none⟩) n2 c0)∧∃ P c,U.cell? ⟨g,o+r,none⟩=some (.slice P le c)∧∀ k,k < le→∃ g' o' sp sc,P=some ⟨g',o',none⟩∧U.cell? ⟨g',o'+k*2+1,none⟩=some (.slice sp (L r k) sc)∧∀ x,x < L r k→∃ gb ob y,sp=some ⟨gb,ob,none⟩∧B gb∧U.cell? ⟨gb,ob+x*2,none⟩=some y∧U.frozen? ⟨gb,ob+x*2,none⟩=false):=Lib.hid (fun U hU=>by
     obtain ⟨q0,q1⟩:=HF.out U hU
     obtain ⟨g2,o2,P2,c2',e2,_,_,q2,q3⟩:=q1 r hr2
     cases e2
     refine ⟨q0,P2,c2',by rw [hle];exact q2,fun k hk=>?_⟩
     obtain ⟨g',o',sp,sc,e3,_,_,q4,q5⟩:=q3 k (by rw [← hle];exact hk)
     refine ⟨g',o',sp,sc,e3,q4,fun x hx=>?_⟩
     obtain ⟨gb,ob,y,e4,hb,_,q6,q7⟩:=q5 x hx
     exact ⟨gb,ob,y,e4,hb,q6,q7⟩)
    have hle8:le≤2000:=by rw [hle];exact (HLE.out r hr2).1
    have HL8:Hid (∀ k,k < le→L r k≤100000):=Lib.hid (fun k hk=>(HLE.out r hr2).2 k (by rw [← hle];exact hk))
    clear hMK hle
    clear a0
    obtain ⟨a0,P',c',a1,_⟩:=HF2.out w3 HK.out
    go_wp2_with fail
    go_loopg [7] le (fun g2k s7 wx=>∃ j:Nat,j+g2k=le∧s7=.int .i64 j∧Hid (KB B V2 wx))
    case atStart=>exact ⟨0,by omega,rfl,HK⟩
    case round =>
     obtain ⟨j,hjg,rfl,HK2⟩:=hrel
     obtain ⟨w4,hw4⟩:∃ w4,w4=wr:=⟨_,rfl⟩
     subst hw4
     clear a0 a1
     obtain ⟨a0,P2,c2',a1,hk2⟩:=HF2.out w4 HK2.out
     cases gk with
     | zero =>
      obtain rfl:j=le:=by omega
      have hlt2:¬ (j:Int) < (j:Int):=by omega
      clear hk2
      go_wp2
      go_roundg gko
      case measure=>omega
      case rel=>exact ⟨r+1,by omega,by first | rw [hwr] | rfl | simp,HK2⟩
     | succ gki =>
      have hlt2:(j:Int) < (le:Int):=by omega
      have hj2:j < le:=by omega
      have hwj:wrap64 ((j:Int)+1)=((j+1:Nat):Int):=by rw [IntWalk.wrap64_in _ (by omega)];omega
      obtain ⟨g',o',sp,sc,rfl,a2,_⟩:=hk2 j hj2
      obtain ⟨ls,hls⟩:∃ ls,ls=L r j:=⟨_,rfl⟩
      have hls8:ls≤100000:=by rw [hls];exact HL8.out j hj2
      have HF3:Hid (∀ (U:World),KB B V2 U→U.cell? ⟨w2.heap.size,0,none⟩=some (.slice (some ⟨g,o,none⟩) n2 c0)∧∃ g' o' c sp sc,U.cell? ⟨g,o+r,none⟩=some (.slice (some ⟨g',o',none⟩) le c)∧U.cell? ⟨g',o'+j*2+1,none⟩=some (.slice sp ls sc)∧∀ x,x < ls→∃ gb ob y,sp=some ⟨gb,ob,none⟩∧B gb∧U.cell? ⟨gb,ob+x*2,none⟩=some y∧U.frozen? ⟨gb,ob+x*2,none⟩=false):=Lib.hid (fun U hU=>by
       obtain ⟨q0,P3,c3,q1,q2⟩:=HF2.out U hU
       obtain ⟨g3,o3,sp3,sc3,rfl,q3,q4⟩:=q2 j hj2
       exact ⟨q0,g3,o3,c3,sp3,sc3,q1,by rw [hls];exact q3,fun x hx=>q4 x (by rw [← hls];exact hx)⟩)
      rw [← hls] at a2
      clear hls
      go_wp2_with fail
      go_loopg [8] ls (fun g3k s8 wx=>∃ x:Nat,x+g3k=ls∧s8=.int .i64 x∧Hid (KB B V2 wx))
      case atStart=>exact ⟨0,by omega,rfl,HK2⟩
      case round =>
       obtain ⟨x,hxg,rfl,HK3⟩:=hrel
       clear a0 a1 a2
       obtain ⟨a0,g3,o3,c3,sp3,sc3,a1,a2,hx3⟩:=HF3.out wr HK3.out
       cases gk with
       | zero =>
        obtain rfl:x=ls:=by omega
        have hlt3:¬ (x:Int) < (x:Int):=by omega
        clear hx3
        go_wp2
        go_roundg gki
        case measure=>omega
        case rel=>exact ⟨j+1,by omega,by first | rw [hwj] | rfl | simp,HK3⟩
       | succ gkx =>
        have hlt3:(x:Int) < (ls:Int):=by omega
        have hwx:wrap64 ((x:Int)+1)=((x+1:Nat):Int):=by rw [IntWalk.wrap64_in _ (by omega)];omega
        obtain ⟨gb,ob,y,rfl,hBb,a3,a4⟩:=hx3 x (by omega)
        have HKS:=Lib.hid (HK3.out.store (i:=ob+x*2) hBb (.int .i64 7))
        go_wp2
        go_roundg gkx
        case measure=>omega
        case rel=>exact ⟨x+1,by omega,by first | rw [hwx] | rfl | simp,HKS⟩
 ·have hy1 : ¬ ((whyF us1 : Nat) : Int) = 0 := by omega
  have hz:=h1 hy
  subst hz
  have hyl:=why_le us1
  obtain ⟨y,hyy⟩:∃ y,y=whyF us1:=⟨_,rfl⟩
  rw [← hyy] at hy1 ⊢
  obtain ⟨V2,hV2⟩:∃ V,V=w2.alloc (.cells #[.slice none 0 0,.slice none 0 0,.slice none 0 0] 29):=⟨_,rfl⟩
  have al2:Below w2.heap.size w2 V2:=by rw [hV2];exact (Below.refl _ _).alloc (Nat.le_refl _) _
  have HB3:=Lib.hid (HB2.out.trans (al2.mono HB2.out.size))
  have HKN:=Lib.hid (known8 (HA.out.step HB3.out))
  clear al2 h0 h1 hy hyy hyl HPB b2
  go_upto_region 3 with fail
  rw [← hV2]
  clear hV2
  go_wp2_with fail
  refine HKN.out.mono ?_
  rintro e w4 ⟨rfl,b4⟩
  have HE:=Lib.hid (HB3.out.trans (b4.mono HB3.out.size))
  clear b4
  go_wp2
  go_ret
  exact ⟨rfl,HE.out⟩
end Go.Proofs.YtioahgklplbinaaGreatDoor
