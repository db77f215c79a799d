/- The document's Parse at any text of scalars. -/
import Derived.Test.YtioahgklplbinaaGreatDoorQNamed
import Derived.Test.YtioahgklplbinaaGreatDoorWE
import Derived.Test.YtioahgklplbinaaGreatDoorPURE
import Derived.Test.YtioahgklplbinaaGreatDoorUQ
import Derived.Laws.StructEq
import Derived.Test.YtioahgklplbinaaGreatDoorVM
import Derived.Test.YtioahgklplbinaaGreatDoorRText
import Derived.Deep.DeepCutAuto
namespace Go.Proofs.YtioahgklplbinaaGreatDoor
open Go.RowKit Go.Shelf Go.Maps SetM PropsM RxM
theorem results6 {tmps : Array Value} {w : World} {B : Nat} {a b c d e : Value} {n z : Int} (h1 : tmps.getD 4 undef = .pointer (some ⟨B, 0, none⟩)) (h2 : tmps.getD 5 undef = .int .i64 n) (h3 : tmps.getD 6 undef = .int .i64 z)
  (b1:w.heap[B]? = some (.cells #[a,b,c,d,e] 48 (0,0))) :
  (results Tryz.f30 tmps).run Tryz.prog w=.ok (.tuple #[.agg #[a,b,c,d,e],.int .i64 n,.int .i64 z]) w:=by
 have h1':tmps[4]?.getD undef=.pointer (some ⟨B,0,none⟩):=by simpa using h1
 have h2':tmps[5]?.getD undef=.int .i64 n:=by simpa using h2
 have h3':tmps[6]?.getD undef=.int .i64 z:=by simpa using h3
 have q0:w.cell? ⟨B,0,none⟩=some a:=cell_of_row w _ 0 _ _ _ b1
 have q1:w.cell? ⟨B,1,none⟩=some b:=cell_of_row w _ 1 _ _ _ b1
 have q2:w.cell? ⟨B,2,none⟩=some c:=cell_of_row w _ 2 _ _ _ b1
 have q3:w.cell? ⟨B,3,none⟩=some d:=cell_of_row w _ 3 _ _ _ b1
 have q4:w.cell? ⟨B,4,none⟩=some e:=cell_of_row w _ 4 _ _ _ b1
 simp [results,Tryz.results30,h1',h2',h3',go_sem,q0,q1,q2,q3,q4]
theorem ret_parse6 {Q : Ending → World → Prop} {tmps : Array Value} {w1 : World} {B : Nat} {a b c d e : Value} {n z : Int} (h1 : tmps.getD 4 undef = .pointer (some ⟨B, 0, none⟩)) (h2 : tmps.getD 5 undef = .int .i64 n) (h3 : tmps.getD 6 undef = .int .i64 z)
  (h5:B5 w1 B) (hQ:Q (.returned (.tuple #[.agg #[a,b,c,d,e],.int .i64 n,.int .i64 z])) (put5 w1 B a b c d e)) :
  bodyPost Tryz.prog Tryz.f30 Q .ret { tmps:=tmps,defers:=[] } (((((w1.setCell ⟨B,0,none⟩ a).setCell ⟨B,1,none⟩ b).setCell ⟨B,2,none⟩ c).setCell ⟨B,3,none⟩ d).setCell ⟨B,4,none⟩ e) :=
 bodyPost_ret (results6 h1 h2 h3 (put5_b5 a b c d e h5)) rfl hQ
theorem DefQ.step {N:Nat×Nat} {W W':World} {dv:Value} {D:List Df} (h:DefQ N W dv D) (hb:Below W.heap.size W W'):DefQ N W' dv D:=by
 obtain ⟨h1,h2,P,c,e,hi⟩:=h
 refine ⟨h1,Nat.le_trans h2 hb.size,P,c,e,fun i hlt=>?_⟩
 obtain ⟨g,nm,x0,x1,x2,x3,x4,e1,hg,hnm,hd,hn,hc,hf⟩:=hi i hlt
 exact ⟨g,nm,x0,x1,x2,x3,x4,e1,hg,hnm,hd.below hb (by omega),hn.imp (fun b hA hlt=>⟨hA,hb.block b hlt⟩) hb.size,hc,hf⟩
theorem DefQ.nil (W:World):DefQ (0,0) W (.slice none 0 0) []:=⟨by simp,Nat.zero_le _,none,0,rfl,fun i hi=>by simp at hi⟩
theorem Gr.below' {R:Nat} {a b c:World} (h:Gr R b c) (k:Below a.heap.size a b) (hR:a.heap.size≤R):Below a.heap.size a c:=h.below k hR
def endO : Out Nd → Out Nd
 | .err e x=>.err e x
 | .ok x r1=>if r1=[] then .ok x [] else .err 60 r1
theorem whole_q (D:List Df) (r:List Int) (h:r.length≤200):WrM.wholeF D r=endO (altQ (fun cl=>namedF D cl) 20 false r):=by
 have hf:WrM.wholeF D r=endO (altF D 20 false r):=by
  unfold WrM.wholeF endO
  cases altF D 20 false r <;> rfl
 rw [hf]
 rcases alt_rq D 20 false r h with e | ⟨x,r1,e1,e2,hb⟩
 ·rw [e]
 ·rw [e1, e2]
  unfold endO
  dsimp only
  rw [if_neg hb.at.2.2]
def PaR (N : Nat × Nat) (n : Nat) (s : ByteArray) (W' : World) (v : Value) (ez pz : Int) : Out Nd → Prop
 | .ok y _=>NV W' (Old N n) v y∧ez=0∧pz=0
 | .err m r=>v=.agg #[.int .u8 0,.slice none 0 0,.slice none 0 0,.int .i64 0,.int .i64 0]∧ez=m∧m≠0∧pz=(s.size:Int) - ((U.UtfM.wr r).length:Nat)
def PaP (N:Nat×Nat) (s:ByteArray) (o:Out Nd) (W:World) (e:Ending) (W':World):Prop :=
 ∃ v ez pz,e=.returned (.tuple #[v,.int .i64 ez,.int .i64 pz])∧PaR N W.heap.size s W' v ez pz o∧Below W.heap.size W W'
set_option maxRecDepth 100000 in
set_option maxHeartbeats 4000000 in
theorem parse_q {W : World} {s : ByteArray} {D : List Df} {dv : Value} {xs : List Int} {N : Nat × Nat} (hs : bs s = U.UtfM.wr xs) (hsc : ∀ c ∈ xs, U.UtfM.Sc c) (hsm : s.size ≤ 200) (hDQ : DefQ N W dv D) :
  Calls Tryz.prog 30 #[.string s,dv] W (PaP N s (WrM.wholeF D xs) W):=by
 have hlen:(bs s).length=s.size:=bs_len s
 have hN0:N.2≤W.heap.size:=hDQ.2.1
 obtain ⟨P,c,rfl⟩:∃ P c,dv=.slice P D.length c:=let ⟨_,_,P,c,e,_⟩:=hDQ;⟨P,c,e⟩
 obtain ⟨V,hV⟩:∃ V,V=W.alloc (.cells #[.int .u8 0,.slice none 0 0,.slice none 0 0,.int .i64 0,.int .i64 0] 48):=⟨_,rfl⟩
 have hb0:Below W.heap.size W V:=by rw [hV];exact (Below.refl W.heap.size W).alloc (Nat.le_refl _) _
 have hVz:V.heap.size=W.heap.size+1:=by rw [hV];exact World.size_alloc _ _
 have HB5:Hid (B5 V W.heap.size):=Lib.hid (by rw [hV];exact B5.new W _ _ _ _ _)
 have hcv:=conv_b s
 have HF:Hid (Calls Tryz.prog 57 #[.slice (some ⟨W.heap.size+1,0,none⟩) s.size (capB V s)] ((V.alloc (objB V s)).drew) fun e W'=>e=.returned (.int .i64 (-1))∧Below V.heap.size V W'):=Lib.hid (by
  have h1:=U.rfirst_c (c:=capB V s) (by_conv s V) (by rw [hlen];omega) (by rw [hlen];unfold capB;exact grownCap_ge _ _ _ _)
  rw [hlen,hs,U.UtfM.first_wr] at h1
  rw [show (V.alloc (objB V s)).drew=V.drew.alloc (objB V s) from rfl,← hVz]
  exact h1.mono (fun e W' h=>⟨h.1,(below_conv s V).trans (h.2.mono (below_conv s V).size)⟩))
 obtain ⟨o,ho⟩:∃ o,o=altQ (fun cl=>namedF D cl) 20 false xs:=⟨_,rfl⟩
 have HP:Hid (∀ W1,Below V.heap.size V W1→Calls Tryz.prog 58 #[.pointer (some ⟨W1.heap.size,0,none⟩)] (W1.alloc (.cells #[.string s,.int .i64 0,.slice P D.length c,.int .i64 0,.int .i64 0,.int .i64 0,.int .i64 0] 106)) (NodeQ N W1.heap.size s (.slice P D.length c) 0 0 o (W1.alloc (.cells #[.string s,.int .i64 0,.slice P D.length c,.int .i64 0,.int .i64 0,.int .i64 0,.int .i64 0] 106)))):=Lib.hid (fun W1 hW1=>by
  have hz:=hW1.size
  have hR:Rr W1.heap.size (W1.alloc (.cells #[.string s,.int .i64 0,.slice P D.length c,.int .i64 0,.int .i64 0,.int .i64 0,.int .i64 0] 106)) s (.slice P D.length c) xs 0 0:=⟨by
   have e:(s.size:Int) - ((U.UtfM.wr xs).length:Nat)=0:=by rw [← hs,hlen];omega
   rw [e]
   exact heap_alloc_new W1 _,⟨[],by rw [hs];rfl⟩,hsc,hsm⟩
  have hall:=hDQ.step ((hb0.trans (hW1.mono hb0.size)).trans (((Below.refl W1.heap.size W1).alloc (Nat.le_refl _) (.cells #[.string s,.int .i64 0,.slice P D.length c,.int .i64 0,.int .i64 0,.int .i64 0,.int .i64 0] 106)).mono (by omega)))
  have hc:=alt_all (N:=N) (R:=W1.heap.size) (s:=s) (dv:= .slice P D.length c) (by omega) (fun cl r0 r x r' h=>Nat.le_of_lt (named_len h)) (named_q (by omega) hall) 20 0 0 rfl (Nat.le_refl _) _ (.ok () xs) (Gr.refl _ _) hR
  rw [ho]
  exact hc)
 have HO:Hid (WrM.wholeF D xs=endO o):=Lib.hid (by
  have hl:xs.length≤200:=by
   have hR:Rr V.heap.size (V.alloc (.cells #[.string s,.int .i64 0,.slice P D.length c,.int .i64 0,.int .i64 0,.int .i64 0,.int .i64 0] 106)) s (.slice P D.length c) xs 0 0:=⟨by
    have e:(s.size:Int) - ((U.UtfM.wr xs).length:Nat)=0:=by rw [← hs,hlen];omega
    rw [e]
    exact heap_alloc_new V _,⟨[],by rw [hs];rfl⟩,hsc,hsm⟩
   exact hR.few
  rw [whole_q D xs hl,ho])
 obtain ⟨oo,hoo⟩:∃ oo,oo=WrM.wholeF D xs:=⟨_,rfl⟩
 rw [← hoo] at HO ⊢
 have hl1:¬ (200:Int) < (s.size:Int):=by omega
 have HB0:=Lib.hid hb0
 have HZ:=Lib.hid hVz
 have HN0:=Lib.hid hN0
 clear hb0 hVz hlen hs hsc hDQ ho hoo hN0
 go_enter Tryz.func30,Tryz.ntmps30
 go_wp2_with fail
 rw [← hV]
 clear hV
 go_wp2_with fail
 refine HF.out.mono ?_
 rintro e w1 ⟨rfl,b1⟩
 have HPA:=Lib.hid (HP.out w1 b1)
 have HB1:=Lib.hid b1
 clear b1 HF HP hcv
 go_wp2_with fail
 refine HPA.out.mono ?_
 rintro e w3 ⟨v,x,rfl,hv,hx,hr,g3⟩
 have hz1:=World.size_alloc w1 (.cells #[.string s,.int .i64 0,.slice P D.length c,.int .i64 0,.int .i64 0,.int .i64 0,.int .i64 0] 106)
 have hb2:Below w1.heap.size w1 (w1.alloc (.cells #[.string s,.int .i64 0,.slice P D.length c,.int .i64 0,.int .i64 0,.int .i64 0,.int .i64 0] 106)):=(Below.refl _ _).alloc (Nat.le_refl _) _
 obtain ⟨kk,sp,sn,sc,kp,kn,kc,mn,mx,rfl⟩:=NV.form5 hv
 have hz3:=g3.size
 obtain ⟨R,hR⟩:∃ R,R=w1.heap.size:=⟨_,rfl⟩
 rw [hz1,← hR] at hv
 rw [← hR] at hr g3
 have hal:=(Below.refl w3.heap.size w3).alloc (Nat.le_refl _) (.cells #[.int .u8 kk,.slice sp sn sc,.slice kp kn kc,.int .i64 mn,.int .i64 mx] 48)
 have hx3:=heap_alloc_new w3 (.cells #[.int .u8 kk,.slice sp sn sc,.slice kp kn kc,.int .i64 mn,.int .i64 mx] 48)
 obtain ⟨V4,hV4⟩:∃ V4,V4=w3.alloc (.cells #[.int .u8 kk,.slice sp sn sc,.slice kp kn kc,.int .i64 mn,.int .i64 mx] 48):=⟨_,rfl⟩
 rw [← hV4] at hal hx3
 have hr4:=hr.kept hal
 obtain ⟨X,hX⟩:∃ X,X=w3.heap.size:=⟨_,rfl⟩
 rw [← hX] at hx3
 have hWR:W.heap.size < R:=by have:=HZ.out;have:=HB1.out.size;omega
 have hRX:R < X:=by omega
 have hg4:Gr R (w1.alloc (.cells #[.string s,.int .i64 0,.slice P D.length c,.int .i64 0,.int .i64 0,.int .i64 0,.int .i64 0] 106)) V4:=g3.trans (Gr.of hal)
 have hb4:Below V.heap.size V V4:=HB1.out.trans ((hg4.below hb2 (by omega)).mono HB1.out.size)
 have h5:B5 V4 W.heap.size:=HB5.out.gr (R:=V.heap.size+1) (Gr.of hb4) (by have:=HZ.out;omega)
 have HB4:=Lib.hid (HB0.out.trans (hb4.mono HB0.out.size))
 have H5:=Lib.hid h5
 have HV:Hid (NV V4 (Old N (R+1)) (.agg #[.int .u8 kk,.slice sp sn sc,.slice kp kn kc,.int .i64 mn,.int .i64 mx]) x):=Lib.hid (hv.imp (fun b hA hlt=>⟨hA,hal.block b hlt⟩) hal.size)
 have HWR:=Lib.hid hWR
 have HR4:=Lib.hid hr4
 have HX:=Lib.hid hx
 have HX3:=Lib.hid hx3
 have hXV:X < V4.heap.size:=(Array.getElem?_eq_some_iff.1 hx3).1
 have e0:=hX
 have e1:=hV4
 have e2:=hR
 clear hz1 hb2 hz3 hR hv hr g3 hal hx3 hV4 hr4 hX hg4 hb4 h5 HPA HB1 hx
 go_upto_region 8 with fail
 rw [← e0,← e1]
 try rw [← e2]
 clear e0 e1 e2
 obtain ⟨⟨x0,x1,x2,x3,x4,k0,k1,k2,k3,k4⟩,f0,f1,f2,f3,f4⟩:=H5.out.cells
 have a0:V4.cell? ⟨X,0,none⟩=some (.int .u8 kk):=cell_of_row V4 X 0 _ _ _ HX3.out
 have a1:V4.cell? ⟨X,1,none⟩=some (.slice sp sn sc):=cell_of_row V4 X 1 _ _ _ HX3.out
 have a2:V4.cell? ⟨X,2,none⟩=some (.slice kp kn kc):=cell_of_row V4 X 2 _ _ _ HX3.out
 have a3:V4.cell? ⟨X,3,none⟩=some (.int .i64 mn):=cell_of_row V4 X 3 _ _ _ HX3.out
 have a4:V4.cell? ⟨X,4,none⟩=some (.int .i64 mx):=cell_of_row V4 X 4 _ _ _ HX3.out
 cases o with
 | ok y r =>
  have HR:Hid (Rr R V4 s (.slice P D.length c) r 0 0):=HR4
  have hxy:=HX.out y r rfl
  subst hxy
  have c1:=HR.out.c1
  have c5:=HR.out.c5
  by_cases hr:r=[]
  ·subst hr
   have HOE:Hid (oo=.ok x []):=Lib.hid (by rw [HO.out];rfl)
   rw [U.UtfM.wr_nil] at c1
   simp only [List.length_nil,Int.natCast_zero,Int.sub_zero] at c1
   have hl2:¬ (s.size:Int) < (s.size:Int):=by omega
   clear HO HX hXV
   go_wp2
   refine ret_parse6 rfl rfl rfl H5.out ⟨_,_,_,rfl,?_,put5_below _ _ _ _ _ HB4.out (Nat.le_refl _)⟩
   rw [HOE.out]
   exact ⟨HV.out.imp (fun b hA _=>⟨hA.imp id (fun h=>by have:=HWR.out;omega),put5_block _ _ _ _ _ _ _ b (by have:=HWR.out;have:=HN0.out;rcases hA with h | h <;> omega)⟩) (by rw [put5_size];exact Nat.le_refl _),rfl,rfl⟩
  ·have HOE : Hid (oo = .err 60 r) := Lib.hid (by rw [HO.out]; unfold endO; dsimp only; rw [if_neg hr])
   have hlr:=HR.out.len
   have hwp:0 < (U.UtfM.wr r).length:=by
    cases r with
    | nil=>exact absurd rfl hr
    | cons a t=>exact Nat.lt_of_le_of_lt (Nat.zero_le _) (wr_len_pos (HR.out.sc a (by simp)) t)
   have hl2:(s.size:Int) - ((U.UtfM.wr r).length:Nat) < (s.size:Int):=by omega
   have HF:=Lib.hid (fail_c (σ:= .ok () r) 60 ((s.size:Int) - ((U.UtfM.wr r).length:Nat)) r (by omega) (fun _ _ e=>by cases e;rfl) HR.out)
   clear HO HX hlr hwp
   go_wp2_with fail
   refine HF.out.mono ?_
   rintro e w6 ⟨rfl,h6,g6⟩
   have H6:Hid (Rs R w6 s (.slice P D.length c) 0 0 (.err 60 r)):=Lib.hid h6
   have H56:Hid (B5 w6 W.heap.size):=Lib.hid (H5.out.gr g6 (by omega))
   have HB6:Hid (Below W.heap.size W w6):=Lib.hid (g6.below' HB4.out (by omega))
   clear h6 g6 HF c1 c5 k0 k1 k2 k3 k4 f0 f1 f2 f3 f4 a0 a1 a2 a3 a4
   obtain ⟨ix,nx,zx,hix,hnx,hcx,_,herr⟩:=H6.out.cells
   obtain ⟨c0,c1,c2,c3,c4,c5,c6,cz⟩:=hcx w6 (Below.refl _ _)
   obtain ⟨d0,d1,d2,d3,d4,d5,d6,_⟩:=hcx w6.drew (Below.refl _ _).drew
   obtain ⟨hne1,hne2,hne3⟩:=herr _ _ rfl
   have g5:((nx:Int) == 0)=false:=by simp;omega
   have g6:((nx:Int) != 0)=true:=by simp;omega
   have g7:¬ (nx:Int)=0:=by omega
   have h5e:=H56.out
   obtain ⟨⟨x0,x1,x2,x3,x4,k0,k1,k2,k3,k4⟩,f0,f1,f2,f3,f4⟩:=h5e.cells
   have hnR:W.heap.size≠R:=by omega
   have hnR2:R≠W.heap.size:=by omega
   have HPR:Hid (PaR N W.heap.size s (put5 w6.drew W.heap.size (.int .u8 0) (.slice none 0 0) (.slice none 0 0) (.int .i64 0) (.int .i64 0)) (.agg #[.int .u8 0,.slice none 0 0,.slice none 0 0,.int .i64 0,.int .i64 0]) nx zx oo):=Lib.hid (by
    rw [HOE.out]
    exact ⟨rfl,by omega,by omega,hne3⟩)
   clear hcx cz herr h5e hne1 hne3
   go_wp2
   go_region
   all_goals
    go_wp2
    refine ret_parse6 (w1:=w6.drew) rfl rfl rfl H56.out ⟨_,_,_,rfl,HPR.out,put5_below (W:=w6.drew) _ _ _ _ _ HB6.out.drew (Nat.le_refl _)⟩
 | err n r =>
  have HOE:Hid (oo=.err n r):=Lib.hid (by rw [HO.out];rfl)
  have H6:Hid (Rs R V4 s (.slice P D.length c) 0 0 (.err n r)):=HR4
  have H56:=H5
  have HB6:=HB4
  obtain ⟨w6,rfl⟩:∃ w6,w6=V4:=⟨_,rfl⟩
  clear HO HX HR4
  obtain ⟨ix,nx,zx,hix,hnx,hcx,_,herr⟩:=H6.out.cells
  obtain ⟨c0,c1,c2,c3,c4,c5,c6,cz⟩:=hcx w6 (Below.refl _ _)
  obtain ⟨d0,d1,d2,d3,d4,d5,d6,_⟩:=hcx w6.drew (Below.refl _ _).drew
  obtain ⟨hne1,hne2,hne3⟩:=herr _ _ rfl
  have g5:((nx:Int) == 0)=false:=by simp;omega
  have g6:((nx:Int) != 0)=true:=by simp;omega
  have g7:¬ (nx:Int)=0:=by omega
  have h5e:=H56.out
  obtain ⟨⟨x0,x1,x2,x3,x4,k0,k1,k2,k3,k4⟩,f0,f1,f2,f3,f4⟩:=h5e.cells
  have hnR:W.heap.size≠R:=by omega
  have hnR2:R≠W.heap.size:=by omega
  have HPR:Hid (PaR N W.heap.size s (put5 w6.drew W.heap.size (.int .u8 0) (.slice none 0 0) (.slice none 0 0) (.int .i64 0) (.int .i64 0)) (.agg #[.int .u8 0,.slice none 0 0,.slice none 0 0,.int .i64 0,.int .i64 0]) nx zx oo):=Lib.hid (by
   rw [HOE.out]
   exact ⟨rfl,by omega,by omega,hne3⟩)
  clear hcx cz herr h5e hne1 hne3
  go_wp2
  go_region
  all_goals
   go_wp2
   refine ret_parse6 (w1:=w6.drew) rfl rfl rfl H56.out ⟨_,_,_,rfl,HPR.out,put5_below (W:=w6.drew) _ _ _ _ _ HB6.out.drew (Nat.le_refl _)⟩
end Go.Proofs.YtioahgklplbinaaGreatDoor
