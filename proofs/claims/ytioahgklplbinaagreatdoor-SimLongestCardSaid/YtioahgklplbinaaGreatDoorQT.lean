/- QTree, QPure, in one text. -/
import Derived.Test.YtioahgklplbinaaGreatDoorQFb
namespace Go.Proofs.YtioahgklplbinaaGreatDoor
open Go.RowKit Go.Shelf Go.Maps SetM PropsM RxM
section
variable {R:Nat} {W W' W0:World} {s:ByteArray} {dv:Value} {rest r:List Int} {N:Nat×Nat} {d f n:Nat} {z c:Int} {σ:Out Unit}
theorem timesQ_some {p:Int×Int} {r r':List Int} (h:timesQ r=.ok (some p) r'):r'.length < r.length:=by
 unfold timesQ at h
 split at h
 ·rename_i h1;cases h;have:=tail_lt h1;omega
 split at h
 ·rename_i h1;cases h;have:=tail_lt h1;omega
 split at h
 ·rename_i h1;cases h;have:=tail_lt h1;omega
 split at h
 ·rename_i h1
  split at h
  ·cases h
  ·rename_i h2;cases h;have:=tail_lt h1.1;have:=bounds_len h2;omega
 ·cases h
theorem timesQ_none {r r':List Int} (h:timesQ r=.ok none r'):r'=r:=by
 unfold timesQ at h
 split at h
 ·cases h
 split at h
 ·cases h
 split at h
 ·cases h
 split at h
 ·split at h
  ·cases h
  ·cases h
 ·cases h;rfl
theorem repLQ_len : ∀ (f : Nat) (x y : Nd) (r r' : List Int), repLQ f x r = .ok y r' → r'.length ≤ r.length
 | 0,_,_,_,_,h=>by simp [repLQ] at h
 | f+1,x,y,r,r',h=>by
  unfold repLQ at h
  split at h
  ·cases h
  ·rename_i h1;cases h;rw [timesQ_none h1];omega
  ·rename_i h1;have:=timesQ_some h1;have:=repLQ_len f _ _ _ _ h;omega
theorem repQ_lt {atom:List Int→Out Nd} (ha:Lt atom):Lt (repQ atom):=by
 intro r x r' h
 unfold repQ at h
 split at h
 ·cases h
 ·rename_i h1;have:=ha _ _ _ h1;have:=repLQ_len _ _ _ _ _ h;omega
theorem catLQ_len {rep : List Int → Out Nd} (ha : Lt rep) : ∀ (f : Nat) (acc l : List Nd) (r r' : List Int), catLQ rep f acc r = .ok l r' → r'.length ≤ r.length
 | 0,_,_,_,_,h=>by simp [catLQ] at h
 | f+1,acc,l,r,r',h=>by
  unfold catLQ at h
  split at h
  ·cases h;omega
  ·split at h
   ·cases h
   ·rename_i h1;have:=ha _ _ _ h1;have:=catLQ_len ha f _ _ _ _ h;omega
theorem catQ_le {rep:List Int→Out Nd} (ha:Lt rep):Le (catQ rep):=by
 intro r x r' h
 unfold catQ at h
 split at h
 ·cases h
 ·rename_i h1;cases h;exact catLQ_len ha _ _ _ _ _ h1
theorem atomQ_lt {br nm:List Int→List Int→Out Nd} (hb:∀ r0,Le (br r0)) (hm:∀ r0,Le (nm r0)) {cl:Bool}:Lt (atomQ br nm cl):=by
 intro r x r' h
 cases r with
 | nil=>simp [atomQ] at h
 | cons c t =>
  simp only [atomQ] at h
  split at h
  ·have:=hb _ _ _ _ h;simp;omega
  split at h
  ·have:=hm _ _ _ _ h;simp;omega
  split at h
  ·cases h;simp
  split at h
  ·unfold classQ at h
   split at h
   ·cases h
   ·rename_i h1;cases h;have:=class_len h1;simp;omega
  split at h
  ·split at h
   ·cases h
   ·rename_i h1;cases h;have:=esc_len h1;simp;omega
  split at h
  ·cases h
  ·cases h;simp
def altQ (nm : Bool → List Int → List Int → Out Nd) : Nat → Bool → List Int → Out Nd
 | 0,cl=>altB (catQ (repQ (atomQ (fun r0 _=>.err 61 r0) (nm cl) cl)))
 | n+1,cl=>altB (catQ (repQ (atomQ (fun _ r=>groupF (altQ nm n) cl r) (nm cl) cl)))
theorem altQ_le {nm : Bool → List Int → List Int → Out Nd} (hm : ∀ cl r0, Le (nm cl r0)) : ∀ (n : Nat) (cl : Bool), Le (altQ nm n cl)
 | 0,cl=>altB_len (catQ_le (repQ_lt (atomQ_lt (fun r0 r x r' h=>by cases h) (hm cl))))
 | n+1,cl=>altB_len (catQ_le (repQ_lt (atomQ_lt (fun r0 r x r' h=>by have:=group_len (altQ_le hm n) r x r' h;omega) (hm cl))))
set_option maxRecDepth 100000 in
set_option maxHeartbeats 2000000 in
theorem bracket_no (hN : N.2 ≤ R) (hd : d = 20) (r0 : List Int) (h : Rr R W s dv rest d f) :
  Calls Tryz.prog 127 #[.pointer (some ⟨R,0,none⟩),.int .i64 ((s.size:Int) - ((U.UtfM.wr r0).length:Nat))] W (NodeQ N R s dv d f (.err 61 r0) W):=by
 have hRW:=h.lt
 obtain ⟨V,hV⟩:∃ V,V=W.alloc (.cells #[.int .u8 0,.slice none 0 0,.slice none 0 0,.int .i64 0,.int .i64 0] 48):=⟨_,rfl⟩
 have hb0:Below W.heap.size W V:=by rw [hV];exact (Below.refl W.heap.size W).alloc (Nat.le_refl _) _
 have HZ:Hid (V.heap.size=W.heap.size+1):=Lib.hid (by rw [hV];exact World.size_alloc _ _)
 have HB5:Hid (B5 V W.heap.size):=Lib.hid (by rw [hV];exact B5.new W _ _ _ _ _)
 have HR:Hid (Rr R V s dv rest d f):=Lib.hid (h.kept hb0)
 have HF:=Lib.hid (fail_c (σ:= .ok () rest) 61 ((s.size:Int) - ((U.UtfM.wr r0).length:Nat)) r0 (by omega) (fun _ _ _=>rfl) HR.out)
 have HB0:=Lib.hid hb0
 have hzv:=HZ.out
 have c3:=h.c3
 have hge:(d:Int) ≥ 20:=by omega
 clear h hb0
 go_enter Tryz.func127,Tryz.ntmps127
 go_wp2_with fail
 rw [← hV]
 clear hV
 refine HF.out.mono ?_
 rintro e w4 ⟨rfl,h1,g1⟩
 have HRR:Hid (Rs R w4 s dv d f (.err 61 r0)):=Lib.hid h1
 have HG:=Lib.hid g1
 have hsz:=HG.out.size
 have hv:NV w4 (Old N (W.heap.size+1)) (.agg #[.int .u8 0,.slice none 0 0,.slice none 0 0,.int .i64 0,.int .i64 0]) (.mk 0 none0 [] 0 0):=empty_nv
 have h5:=HB5.out.gr HG.out (by omega)
 obtain ⟨⟨x0,x1,x2,x3,x4,k0,k1,k2,k3,k4⟩,f0,f1,f2,f3,f4⟩:=h5.cells
 have H5:=Lib.hid h5
 have HV:=Lib.hid hv
 clear hv h5 h1 g1 HF
 go_wp2
 exact ret_node rfl rfl H5.out ⟨_,_,rfl,put5_nv (R:=R) _ _ _ _ _ HV.out (by omega) hRW (by omega),fun y r h=>(by cases h),Rs.put5 HRR.out (by omega) _ _ _ _ _,put5_grR _ _ _ _ _ ((Gr.of HB0.out).trans HG.out) (Nat.le_refl _)⟩
def NamedQ (N:Nat×Nat) (R:Nat) (s:ByteArray) (dv:Value) (W0:World) (nm:Bool→List Int→List Int→Out Nd):Prop :=
 ∀ (W:World) (rest r0:List Int) (d f:Nat),Gr R W0 W→Rr R W s dv rest d f→Calls Tryz.prog 128 #[.pointer (some ⟨R,0,none⟩),.int .i64 ((s.size:Int) - ((U.UtfM.wr r0).length:Nat))] W (NodeQ N R s dv d f (nm (decide (0 < f)) r0 rest) W)
theorem fq_imp {g:FuncId} {P Q:List Int→Prop} {F:List Int→Out Nd} (h:FQ g N R s dv d f W0 P F) (hPQ:∀ r,Q r→P r):FQ g N R s dv d f W0 Q F:=fun W rest hq hg hr=>h W rest (hPQ rest hq) hg hr
theorem alt_all (hN : N.2 ≤ R) {nm : Bool → List Int → List Int → Out Nd} (hm : ∀ cl r0, Le (nm cl r0)) (HNM : NamedQ N R s dv W0 nm) : ∀ (n d f : Nat), d + n = 20 → f ≤ d → FQs 58 N R s dv d f W0 (altQ nm n (decide (0 < f)))
 | 0,d,f,hd,hf=>by
  have hb:∀ r0:List Int,Le (fun _:List Int=>(Out.err 61 r0:Out Nd)):=fun r0 r x r' h=>by cases h
  exact alt_q hN (catQ_le (repQ_lt (atomQ_lt hb (hm _)))) (cat_q hN (repQ_lt (atomQ_lt hb (hm _))) (fq_imp (rep_q hN (atom_q hN (fun W rest r0 hg hr=>bracket_no hN (by omega) r0 hr) (fun W rest r0 hg hr=>HNM W rest r0 d f hg hr))) (fun _ _=>trivial)))
 | n+1,d,f,hd,hf=>by
  have hb:∀ r0:List Int,Le (fun r:List Int=>groupF (altQ nm n) (decide (0 < f)) r):=fun r0 r x r' h=>by have:=group_len (altQ_le hm n) r x r' h;omega
  refine alt_q hN (catQ_le (repQ_lt (atomQ_lt hb (hm _)))) (cat_q hN (repQ_lt (atomQ_lt hb (hm _))) (fq_imp (rep_q hN (atom_q hN (fun W rest r0 hg hr=>?_) (fun W rest r0 hg hr=>HNM W rest r0 d f hg hr))) (fun _ _=>trivial)))
  exact bracket_q hN (by omega) (by omega) (fun f1 hf1=>alt_all hN hm HNM n (d+1) f1 (by omega) (by omega)) _ hg hr
end
end Go.Proofs.YtioahgklplbinaaGreatDoor
namespace Go.Proofs.YtioahgklplbinaaGreatDoor
open Go.RowKit Go.Shelf Go.Maps SetM PropsM RxM
def badH (r:List Int):Prop:=∃ c t,r=c::t∧inS stopS c=true∧c≠124∧c≠41
def Rq {α:Type} (o o':Out α):Prop:=o=o'∨∃ x r,o'=.ok x r∧o=.err 60 r∧badH r
theorem badH.at {r:List Int} (h:badH r):at1 124 r=false∧at1 41 r=false∧r≠[]:=by
 obtain ⟨c,t,rfl,_,h1,h2⟩:=h
 exact ⟨decide_eq_false h1,decide_eq_false h2,by simp⟩
theorem times_eq {r:List Int} (h:r≠[123]):timesQ r=timesF r:=by
 unfold timesQ timesF
 cases h42:at1 42 r with
 | true=>rfl
 | false =>
 cases h43:at1 43 r with
 | true=>rfl
 | false =>
 cases h63:at1 63 r with
 | true=>rfl
 | false =>
 cases h123:at1 123 r with
 | false=>rfl
 | true =>
  have hr:=at1_true h123
  have ht:r.tail≠[]:=fun e=>h (by rw [hr,e])
  cases boundsF r.tail <;> simp [ht]
theorem repL_eq : ∀ (f : Nat) (x : Nd) (r : List Int), repLQ f x r = repL f x r ∨ (repL f x r = .err 60 [] ∧ ∃ y, repLQ f x r = .ok y [123])
 | 0,_,_=>.inl rfl
 | f+1,x,r=>by
  by_cases h:r=[123]
  ·subst h
   exact .inr ⟨rfl,x,rfl⟩
  ·rw [repLQ_succ, repL_succ, times_eq h]
   cases timesF r with
   | err e y=>exact .inl rfl
   | ok p r1=>cases p with
    | none=>exact .inl rfl
    | some p=>exact repL_eq f _ r1
theorem catL_eq {D : List Df} {g : Option (Bool → List Int → Out Nd)} {cl : Bool} {br : List Int → List Int → Out Nd}
  (hbr:∀ (c:Int) (t:List Int),(c::t).length≤200→br (c::t) t=match g with
   | none=>.err 61 (c::t)
   | some f=>groupF f cl t) (hlt:Lt (atomF D g cl)):∀ (f:Nat) (acc:List Nd) (r:List Int),r.length < f→r.length≤200→Rq (catLQ (repQ (atomQ br (namedF D cl) cl)) f acc r) (catL (atomF D g cl) f acc r)
 | 0,_,_,h,_=>by omega
 | f+1,acc,[],_,_=>.inl rfl
 | f+1,acc,c::t,hf,h200=>by
  rw [catLQ_succ,catL]
  by_cases h1:c=124∨c=41
  ·rw [if_pos (.inr (by rcases h1 with rfl | rfl <;> simp [at1])), if_pos (.inr (h1.elim (fun e => by rw [e]; exact (by decide : inS stopS 124 = true)) (fun e => by rw [e]; exact (by decide : inS stopS 41 = true))))]
   exact .inl rfl
  ·have hn:¬ (c::t=[]∨at1 124 (c::t)=true∨at1 41 (c::t)=true):=by
    rintro (h | h | h)
    ·cases h
    ·exact h1 (.inl (of_decide_eq_true h))
    ·exact h1 (.inr (of_decide_eq_true h))
   rw [if_neg hn]
   cases hs:inS stopS c with
   | true =>
    rw [if_pos (.inr hs)]
    refine .inr ⟨acc,c::t,rfl,?_,c,t,rfl,hs,fun e=>h1 (.inl e),fun e=>h1 (.inr e)⟩
    have hm:c∈stopS:=List.contains_iff_mem.1 hs
    have h5:c≠40∧c≠123∧c≠46∧c≠91∧c≠92:=by simp [stopS] at hm;omega
    have:atomQ br (namedF D cl) cl (c::t)=.err 60 (c::t):=by
     unfold atomQ
     dsimp only
     rw [if_neg h5.1,if_neg h5.2.1,if_neg h5.2.2.1,if_neg h5.2.2.2.1,if_neg h5.2.2.2.2,if_pos hs]
    unfold repQ
    rw [this]
   | false =>
    have hsee:sees (inS stopS) (c::t)=false:=hs
    rw [if_neg (by rw [hsee];simp)]
    have hat:atomQ br (namedF D cl) cl (c::t)=atomF D g cl (c::t):=by
     unfold atomQ atomF classQ
     dsimp only
     by_cases e1:c=40
     ·rw [if_pos e1,if_pos e1];exact hbr c t h200
     rw [if_neg e1,if_neg e1]
     by_cases e2:c=123
     ·rw [if_pos e2,if_pos e2]
     rw [if_neg e2,if_neg e2]
     by_cases e3:c=46
     ·subst e3;rfl
     rw [if_neg e3]
     by_cases e4:c=91
     ·rw [if_pos e4,if_pos e4];cases classF t <;> rfl
     rw [if_neg e4,if_neg e4]
     by_cases e5:c=92
     ·rw [if_pos e5,if_pos e5];cases escF (c::t) t <;> rfl
     rw [if_neg e5,if_neg e5,if_neg (by rw [hs];simp),if_neg e3]
    unfold repQ
    rw [hat]
    cases ha:atomF D g cl (c::t) with
    | err e y=>exact .inl rfl
    | ok x r1 =>
     dsimp only
     have hl:=hlt _ _ _ ha
     rcases repL_eq 201 x r1 with h | ⟨h,y,h2⟩
     ·rw [h]
      cases hr:repL 201 x r1 with
      | err e y=>exact .inl rfl
      | ok y r2 =>
       have:=rep_len _ _ _ _ _ hr
       exact catL_eq hbr hlt f _ r2 (by simp at hf hl;omega) (by simp at h200 hl;omega)
     ·rw [h, h2]
      dsimp only
      refine .inl ?_
      cases f with
      | zero=>simp at hf
      | succ f=>rfl
theorem cat_rq {D : List Df} {g : Option (Bool → List Int → Out Nd)} {cl : Bool} {br : List Int → List Int → Out Nd}
  (hbr:∀ (c:Int) (t:List Int),(c::t).length≤200→br (c::t) t=match g with
   | none=>.err 61 (c::t)
   | some f=>groupF f cl t) (hlt:Lt (atomF D g cl)) (r:List Int) (h:r.length≤200):Rq (catQ (repQ (atomQ br (namedF D cl) cl)) r) (catF (atomF D g cl) r):=by
 unfold catQ catF
 rcases catL_eq hbr hlt 201 [] r (by omega) h with e | ⟨l,r1,e1,e2,hb⟩
 ·rw [e];exact .inl rfl
 ·rw [e1,e2];exact .inr ⟨_,r1,rfl,rfl,hb⟩
theorem altL_rq {C C' : List Int → Out Nd} (hC : ∀ r, r.length ≤ 200 → Rq (C r) (C' r)) (hle : Le C') : ∀ (f : Nat) (acc : List Nd) (r : List Int), r.length < f → r.length ≤ 200 → Rq (altL C f acc r) (altL C' f acc r)
 | 0,_,_,h,_=>by omega
 | f+1,acc,r,hf,h200=>by
  rw [altLq_succ,altLq_succ]
  cases h:at1 124 r with
  | false=>exact .inl rfl
  | true =>
   have htl:=tail_lt h
   simp only [if_true]
   rcases hC r.tail (by omega) with e | ⟨x,r1,e1,e2,hb⟩
   ·rw [e]
    cases hc:C' r.tail with
    | err e y=>exact .inl rfl
    | ok x r1 =>
     have:=hle _ _ _ hc
     exact altL_rq hC hle f _ r1 (by omega) (by omega)
   ·rw [e1, e2]
    dsimp only
    obtain ⟨f,rfl⟩:∃ f',f=f'+1:=⟨f - 1,by omega⟩
    rw [altLq_succ,hb.at.1]
    exact .inr ⟨_,r1,rfl,rfl,hb⟩
theorem altB_rq {C C':List Int→Out Nd} (hC:∀ r,r.length≤200→Rq (C r) (C' r)) (hle:Le C') (r:List Int) (h:r.length≤200):Rq (altB C r) (altB C' r):=by
 unfold altB
 rcases hC r h with e | ⟨x,r1,e1,e2,hb⟩
 ·rw [e]
  cases hc:C' r with
  | err e y=>exact .inl rfl
  | ok x r1 =>
   have:=hle _ _ _ hc
   dsimp only
   rcases altL_rq hC hle 201 [x] r1 (by omega) (by omega) with e | ⟨l,r2,e1,e2,hb⟩
   ·rw [e];exact .inl rfl
   ·rw [e1,e2];exact .inr ⟨_,r2,rfl,rfl,hb⟩
 ·rw [e1, e2]
  dsimp only
  rw [altLq_succ,hb.at.1]
  exact .inr ⟨_,r1,rfl,rfl,hb⟩
theorem inner_eq {F F':Bool→List Int→Out Nd} (cl:Bool) (r:List Int) (h:Rq (F cl r) (F' cl r)):innerF F cl r=innerF F' cl r:=by
 unfold innerF
 rcases h with e | ⟨x,r1,e1,e2,hb⟩
 ·rw [e]
 ·rw [e1, e2]
  dsimp only
  rw [needq_at,hb.at.2.1]
  rfl
theorem group_eq {F F':Bool→List Int→Out Nd} (hF:∀ cl r,r.length≤200→Rq (F cl r) (F' cl r)) (cl:Bool) (r:List Int) (h:r.length≤200):groupF F cl r=groupF F' cl r:=by
 unfold groupF
 have h1:r.tail.length≤r.length:=by simp
 have h2:r.tail.tail.tail.length≤r.length:=by simp;omega
 rw [inner_eq true _ (hF true _ (by omega)),inner_eq cl _ (hF cl _ h)]
theorem alt_rq (D : List Df) : ∀ (n : Nat) (cl : Bool) (r : List Int), r.length ≤ 200 → Rq (altQ (fun cl => namedF D cl) n cl r) (altF D n cl r)
 | 0,cl,r,h=>altB_rq (fun r h=>cat_rq (g:=none) (fun c t _=>rfl) (atom_len (by simp)) r h) (cat_len (atom_len (by simp))) r h
 | n+1,cl,r,h=>altB_rq (fun r h=>cat_rq (g:=some (altF D n)) (fun c t hl=>group_eq (alt_rq D n) cl t (by simp at hl;omega)) (atom_len (by rintro g hg c;cases hg;exact alt_len D n c)) r h) (cat_len (atom_len (by rintro g hg c;cases hg;exact alt_len D n c))) r h
end Go.Proofs.YtioahgklplbinaaGreatDoor
