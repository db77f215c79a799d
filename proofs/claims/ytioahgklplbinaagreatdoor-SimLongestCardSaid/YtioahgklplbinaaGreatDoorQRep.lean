/- The document's reader: an atom, and the signs behind it. -/
import Derived.Test.YtioahgklplbinaaGreatDoorQClass
import Derived.Test.YtioahgklplbinaaGreatDoorRN
namespace Go.Proofs.YtioahgklplbinaaGreatDoor
open Go.RowKit Go.Shelf Go.Maps SetM PropsM RxM
section
variable {R:Nat} {W W' W0:World} {s:ByteArray} {dv:Value} {rest r:List Int} {N:Nat×Nat} {d f n:Nat} {z c:Int} {σ:Out Unit}
def FQ (g:FuncId) (N:Nat×Nat) (R:Nat) (s:ByteArray) (dv:Value) (d f:Nat) (W0:World) (P:List Int→Prop) (F:List Int→Out Nd):Prop :=
 ∀ (W:World) (rest:List Int),P rest→Gr R W0 W→Rr R W s dv rest d f→Calls Tryz.prog g #[.pointer (some ⟨R,0,none⟩)] W (NodeQ N R s dv d f (F rest) W)
def timesQ (r:List Int):Out (Option (Int×Int)) :=
 if at1 42 r then .ok (some (0,-1)) r.tail
 else if at1 43 r then .ok (some (1,-1)) r.tail
 else if at1 63 r then .ok (some (0,1)) r.tail
 else if at1 123 r=true∧r.tail≠[]∧sees isL r.tail=false then (match boundsF r.tail with
  | .err e x=>.err e x
  | .ok p r1=>.ok (some p) r1)
 else .ok none r
def repLQ : Nat → Nd → List Int → Out Nd
 | 0,_,r=>.err 0 r
 | f+1,x,r=>match timesQ r with
  | .err e y=>.err e y
  | .ok none r1=>.ok x r1
  | .ok (some p) r1=>repLQ f (.mk 4 none0 [x] p.1 p.2) r1
def repQ (atom:List Int→Out Nd) (r:List Int):Out Nd :=
 match atom r with
 | .err e x=>.err e x
 | .ok x r1=>repLQ 201 x r1
theorem repLQ_succ (f:Nat) (x:Nd) (r:List Int):repLQ (f+1) x r=match timesQ r with
  | .err e y=>.err e y
  | .ok none r1=>.ok x r1
  | .ok (some p) r1=>repLQ f (.mk 4 none0 [x] p.1 p.2) r1:=rfl
def RSt (o:Out Nd) (g:Nat) (x:Nd) (σ:Out Unit):Prop :=
 (∃ r fu,σ=.ok () r∧o=repLQ fu x r∧r.length < fu∧r.length≤g)∨(∃ n y,σ=.err n y∧o=.err n y)
set_option maxRecDepth 100000 in
set_option maxHeartbeats 8000000 in
theorem rep_q (hN:N.2≤R) {P:List Int→Prop} {atom:List Int→Out Nd} (HA:FQ 118 N R s dv d f W0 P atom):FQ 101 N R s dv d f W0 P (repQ atom):=by
 intro W rest hP hC h
 have hRW:=h.lt
 have hsm:=h.small
 obtain ⟨o,ho⟩:∃ o,o=repQ atom rest:=⟨_,rfl⟩
 rw [← ho]
 have HO:=Lib.hid ho
 unfold repQ at HO
 obtain ⟨V,hV⟩:∃ V,V=W.alloc (.cells #[.int .u8 0,.slice none 0 0,.slice none 0 0,.int .i64 0,.int .i64 0] 48):=⟨_,rfl⟩
 have hb0:Below W.heap.size W V:=by rw [hV];exact (Below.refl W.heap.size W).alloc (Nat.le_refl _) _
 have HZ:Hid (V.heap.size=W.heap.size+1):=Lib.hid (by rw [hV];exact World.size_alloc _ _)
 have HB5:Hid (B5 V W.heap.size):=Lib.hid (by rw [hV];exact B5.new W _ _ _ _ _)
 have HA0:=Lib.hid (HA V rest hP (hC.trans (Gr.of hb0)) (h.kept hb0))
 have HB0:=Lib.hid hb0
 have hzv:=HZ.out
 clear h ho hb0 hC HA
 go_enter Tryz.func101,Tryz.ntmps101
 go_wp2_with fail
 rw [← hV]
 clear hV
 refine HA0.out.mono ?_
 rintro e w1 ⟨v,x,rfl,hv,hx,hr,g1⟩
 obtain ⟨k,sp,sn,sc,kp,kn,kc,mn,mx,rfl⟩:=NV.form5 hv
 have hB3:W.heap.size < w1.heap.size:=by have:=g1.size;omega
 obtain ⟨V1,hV1⟩:∃ V1,V1=w1.alloc (.cells #[.int .u8 k,.slice sp sn sc,.slice kp kn kc,.int .i64 mn,.int .i64 mx] 48):=⟨_,rfl⟩
 have hb1:Below w1.heap.size w1 V1:=by rw [hV1];exact (Below.refl _ _).alloc (Nat.le_refl _) _
 have HVN:Hid (VarN V1 (Old N (W.heap.size+1)) w1.heap.size x):=Lib.hid (by
  rw [hV1]
  refine ⟨k,sp,sn,sc,kp,kn,kc,mn,mx,heap_alloc_new w1 _,?_⟩
  refine NV.imp hv (fun b hA hlt=>⟨⟨?_,by omega⟩,((Below.refl w1.heap.size w1).alloc (Nat.le_refl _) _).block b hlt⟩) (by rw [World.size_alloc];omega)
  rw [HZ.out] at hA
  exact hA)
 have HR:=Lib.hid (hr.kept hb1)
 have HG:=Lib.hid (g1.trans (Gr.of hb1))
 have HST:Hid (RSt o 200 x (Out.u (atom rest))):=Lib.hid (by
  rw [HO.out]
  cases hn:atom rest with
  | err e y=>exact .inr ⟨e,y,rfl,rfl⟩
  | ok y r1 =>
   have hxy:=hx y r1 hn
   subst hxy
   rw [hn] at hr
   have hf:r1.length≤200:=Rr.few (show Rr R w1 s dv r1 d f from hr)
   exact .inl ⟨r1,201,rfl,rfl,by omega,hf⟩)
 obtain ⟨σ0,hσ0⟩:∃ σ0,σ0=Out.u (atom rest):=⟨_,rfl⟩
 rw [← hσ0] at HR HST
 clear hv hr hb1 hσ0 HO hx g1 HA0
 go_wp2_with fail
 rw [← hV1]
 clear hV1
 obtain ⟨B,hB⟩:∃ B,B=w1.heap.size:=⟨_,rfl⟩
 rw [← hB] at HVN hB3 ⊢
 clear hB
 have hVB:V.heap.size≤B:=by omega
 go_loopg [] 200 (fun g wx=>∃ x σ,Hid (VarN wx (Old N (W.heap.size+1)) B x)∧Hid (Rs R wx s dv d f σ)∧Hid (Gr R V wx)∧Hid (RSt o g x σ))
 case atStart=>exact ⟨x,σ0,HVN,HR,HG,HST⟩
 case round =>
  clear HST HVN
  obtain ⟨x,σ,HVN,HR,HG,HST⟩:=hrel
  by_cases herr:∃ n y,σ=.err n y
  ·obtain ⟨n, y, rfl⟩ := herr
   have HOE:Hid (o=.err n y):=Lib.hid (by
    rcases HST.out with ⟨_,_,h,_⟩ | ⟨_,_,h,h2⟩
    ·cases h
    ·cases h;exact h2)
   have HPO:Hid ((∀ y r,o=.ok y r→x=y)∧Out.u o=.err n y):=Lib.hid (by rw [HOE.out];exact ⟨fun y r h=>(by cases h),rfl⟩)
   clear HST HOE
   have HT:=Lib.hid (tk_err ⟨#[42]⟩ (lowq1 42 (by decide)) (by decide) HR.out)
   go_wp2_with fail
   refine HT.out.mono ?_
   rintro e w1 ⟨rfl,h1,g1⟩
   have HVN:=Lib.hid (HVN.out.gr g1 (by omega) (by omega))
   have HG:=Lib.hid (HG.out.trans g1)
   have HR:=Lib.hid h1
   clear h1 g1 HT
   have HT:=Lib.hid (tk_err ⟨#[43]⟩ (lowq1 43 (by decide)) (by decide) HR.out)
   go_wp2_with fail
   refine HT.out.mono ?_
   rintro e w1 ⟨rfl,h1,g1⟩
   have HVN:=Lib.hid (HVN.out.gr g1 (by omega) (by omega))
   have HG:=Lib.hid (HG.out.trans g1)
   have HR:=Lib.hid h1
   clear h1 g1 HT
   have HT:=Lib.hid (tk_err ⟨#[63]⟩ (lowq1 63 (by decide)) (by decide) HR.out)
   go_wp2_with fail
   refine HT.out.mono ?_
   rintro e w1 ⟨rfl,h1,g1⟩
   have HVN:=Lib.hid (HVN.out.gr g1 (by omega) (by omega))
   have HG:=Lib.hid (HG.out.trans g1)
   have HR:=Lib.hid h1
   clear h1 g1 HT
   have HSQ:=Lib.hid (fun (Y:World) (hY:Rs R Y s dv d f (.err n y))=>see_q hY)
   have hlk:lookS (.err n y) = -1:=rfl
   rw [hlk] at HSQ
   go_wp2_with fail
   dsimp only [List.append]
   go_quiet ((go_at_call 100;exact Calls.quiet_of (HSQ.out _ (HR.out.kept (drewN_below _)))))
   have HVN:=Lib.hid (HVN.out.gr (Gr.of (R:=R) (drewN_below nq)) (by omega) (by omega))
   have HG:=Lib.hid (HG.out.trans (Gr.of (drewN_below nq)))
   have HR:=Lib.hid (HR.out.kept (drewN_below nq))
   generalize w1.drewN nq=w2 at *
   have hBlt:=HVN.out.lt
   obtain ⟨k,sp,sn,sc,kp,kn,kc,mn,mx,hb,hn⟩:=HVN.out
   have HNN:=Lib.hid hn
   have HBB:=Lib.hid hb
   obtain ⟨q0,q1,q2,q3,q4⟩:w2.cell? ⟨B,0,none⟩=some (.int .u8 k)∧w2.cell? ⟨B,1,none⟩=some (.slice sp sn sc)∧w2.cell? ⟨B,2,none⟩=some (.slice kp kn kc)∧w2.cell? ⟨B,3,none⟩=some (.int .i64 mn)∧w2.cell? ⟨B,4,none⟩=some (.int .i64 mx) :=
    ⟨cell_of_row w2 B 0 _ _ _ hb,cell_of_row w2 B 1 _ _ _ hb,cell_of_row w2 B 2 _ _ _ hb,cell_of_row w2 B 3 _ _ _ hb,cell_of_row w2 B 4 _ _ _ hb⟩
   have h5:=HB5.out.gr HG.out (by omega)
   obtain ⟨⟨x0,x1,x2,x3,x4,k0,k1,k2,k3,k4⟩,f0,f1,f2,f3,f4⟩:=h5.cells
   have H5:=Lib.hid h5
   clear h5 hn hb
   go_wp2
   exact ret_node rfl rfl H5.out ⟨_,x,rfl,put5_nv (R:=R) _ _ _ _ _ (HNN.out.imp (fun b hA hlt=>⟨hA.1,rfl⟩) (Nat.le_refl _)) (Nat.lt_succ_self _) hRW (Nat.le_succ _),HPO.out.1,by rw [HPO.out.2];exact Rs.put5 HR.out (by omega) _ _ _ _ _,put5_grR _ _ _ _ _ ((Gr.of HB0.out).trans HG.out) (Nat.le_refl _)⟩
  ·obtain ⟨r,fu,rfl,ho1,hlf,hlg⟩:∃ r fu,σ=.ok () r∧o=repLQ fu x r∧r.length < fu∧r.length≤gk:=by
    rcases HST.out with h | ⟨n,y,h,_⟩
    ·exact h
    ·exact absurd ⟨n,y,h⟩ herr
   obtain ⟨fu,rfl⟩:∃ f',fu=f'+1:=⟨fu - 1,by omega⟩
   rw [repLQ_succ] at ho1
   have HO1:=Lib.hid ho1
   have HR:Hid (Rr R wr s dv r d f):=HR
   clear ho1 HST herr
   cases h42:at1 42 r with
   | true =>
    have HST:Hid (RSt o r.tail.length (.mk 4 none0 [x] 0 (-1)) (.ok () r.tail)):=Lib.hid (.inl ⟨r.tail,fu,rfl,by rw [HO1.out];unfold timesQ;rw [if_pos h42],by have:=tail_lt h42;omega,Nat.le_refl _⟩)
    have htl:=tail_lt h42
    have HT:=Lib.hid (tk_yes 42 (by decide) HR.out h42)
    go_wp2_with fail
    refine HT.out.mono ?_
    rintro e w1 ⟨rfl,h1,g1⟩
    have HVN:=Lib.hid (HVN.out.gr g1 (by omega) (by omega))
    have HG:=Lib.hid (HG.out.trans g1)
    have HR:Hid (Rs R w1 s dv d f (.ok () r.tail)):=Lib.hid h1
    clear h1 g1 HT
    have hBlt:=HVN.out.lt
    obtain ⟨k,sp,sn,sc,kp,kn,kc,mn,mx,hb,hn⟩:=HVN.out
    have HNN:=Lib.hid hn
    have HBB:=Lib.hid hb
    obtain ⟨q0,q1,q2,q3,q4⟩:w1.cell? ⟨B,0,none⟩=some (.int .u8 k)∧w1.cell? ⟨B,1,none⟩=some (.slice sp sn sc)∧w1.cell? ⟨B,2,none⟩=some (.slice kp kn kc)∧w1.cell? ⟨B,3,none⟩=some (.int .i64 mn)∧w1.cell? ⟨B,4,none⟩=some (.int .i64 mx) :=
     ⟨cell_of_row w1 B 0 _ _ _ hb,cell_of_row w1 B 1 _ _ _ hb,cell_of_row w1 B 2 _ _ _ hb,cell_of_row w1 B 3 _ _ _ hb,cell_of_row w1 B 4 _ _ _ hb⟩
    obtain ⟨f0,f1,f2,f3,f4⟩:w1.frozen? ⟨B,0,none⟩=false∧w1.frozen? ⟨B,1,none⟩=false∧w1.frozen? ⟨B,2,none⟩=false∧w1.frozen? ⟨B,3,none⟩=false∧w1.frozen? ⟨B,4,none⟩=false :=
     ⟨by simp [World.frozen?,hb],by simp [World.frozen?,hb],by simp [World.frozen?,hb],by simp [World.frozen?,hb],by simp [World.frozen?,hb]⟩
    have hsz1:=HG.out.size
    have HVR:=Lib.hid (VarN.rep (n:=W.heap.size+1) k sp sn sc kp kn kc mn mx hb hn (by omega) 0 (-1))
    have GX:=Lib.hid (put5_grR (.int .u8 4) (.slice none 0 0) (.slice (some ⟨w1.heap.size,0,none⟩) 1 1) (.int .i64 0) (.int .i64 (-1)) HG.out hVB)
    have HRX:=Lib.hid (Rs.put5 HR.out (show R≠B by omega) (.int .u8 4) (.slice none 0 0) (.slice (some ⟨w1.heap.size,0,none⟩) 1 1) (.int .i64 0) (.int .i64 (-1)))
    have hal:=fun U:World=>(Below.refl U.heap.size U).alloc (Nat.le_refl _) (.cells #[.int .u8 k,.slice sp sn sc,.slice kp kn kc,.int .i64 mn,.int .i64 mx] 48)
    have HAL:=Lib.hid hal
    clear hn hb hal
    go_wp2
    go_roundg r.tail.length
    case measure=>omega
    case rel=>exact ⟨.mk 4 none0 [x] 0 (-1),(.ok () r.tail),HVR,Lib.hid (HRX.out.kept (HAL.out _)),Lib.hid (GX.out.trans (Gr.of (HAL.out _))),HST⟩
   | false =>
   have HT1:=Lib.hid (tk_no 42 (by decide) HR.out h42)
   cases h43:at1 43 r with
   | true =>
    have HST:Hid (RSt o r.tail.length (.mk 4 none0 [x] 1 (-1)) (.ok () r.tail)):=Lib.hid (.inl ⟨r.tail,fu,rfl,by rw [HO1.out];unfold timesQ;rw [if_neg (by rw [h42];simp),if_pos h43],by have:=tail_lt h43;omega,Nat.le_refl _⟩)
    have htl:=tail_lt h43
    have HT:=Lib.hid (tk_no 42 (by decide) HR.out h42)
    go_wp2_with fail
    refine HT.out.mono ?_
    rintro e w1 ⟨rfl,h1,g1⟩
    have HVN:=Lib.hid (HVN.out.gr g1 (by omega) (by omega))
    have HG:=Lib.hid (HG.out.trans g1)
    have HR:Hid (Rr R w1 s dv r d f):=Lib.hid h1
    clear h1 g1 HT
    have HT:=Lib.hid (tk_yes 43 (by decide) HR.out h43)
    go_wp2_with fail
    refine HT.out.mono ?_
    rintro e w1 ⟨rfl,h1,g1⟩
    have HVN:=Lib.hid (HVN.out.gr g1 (by omega) (by omega))
    have HG:=Lib.hid (HG.out.trans g1)
    have HR:Hid (Rs R w1 s dv d f (.ok () r.tail)):=Lib.hid h1
    clear h1 g1 HT
    have hBlt:=HVN.out.lt
    obtain ⟨k,sp,sn,sc,kp,kn,kc,mn,mx,hb,hn⟩:=HVN.out
    have HNN:=Lib.hid hn
    have HBB:=Lib.hid hb
    obtain ⟨q0,q1,q2,q3,q4⟩:w1.cell? ⟨B,0,none⟩=some (.int .u8 k)∧w1.cell? ⟨B,1,none⟩=some (.slice sp sn sc)∧w1.cell? ⟨B,2,none⟩=some (.slice kp kn kc)∧w1.cell? ⟨B,3,none⟩=some (.int .i64 mn)∧w1.cell? ⟨B,4,none⟩=some (.int .i64 mx) :=
     ⟨cell_of_row w1 B 0 _ _ _ hb,cell_of_row w1 B 1 _ _ _ hb,cell_of_row w1 B 2 _ _ _ hb,cell_of_row w1 B 3 _ _ _ hb,cell_of_row w1 B 4 _ _ _ hb⟩
    obtain ⟨f0,f1,f2,f3,f4⟩:w1.frozen? ⟨B,0,none⟩=false∧w1.frozen? ⟨B,1,none⟩=false∧w1.frozen? ⟨B,2,none⟩=false∧w1.frozen? ⟨B,3,none⟩=false∧w1.frozen? ⟨B,4,none⟩=false :=
     ⟨by simp [World.frozen?,hb],by simp [World.frozen?,hb],by simp [World.frozen?,hb],by simp [World.frozen?,hb],by simp [World.frozen?,hb]⟩
    have hsz1:=HG.out.size
    have HVR:=Lib.hid (VarN.rep (n:=W.heap.size+1) k sp sn sc kp kn kc mn mx hb hn (by omega) 1 (-1))
    have GX:=Lib.hid (put5_grR (.int .u8 4) (.slice none 0 0) (.slice (some ⟨w1.heap.size,0,none⟩) 1 1) (.int .i64 1) (.int .i64 (-1)) HG.out hVB)
    have HRX:=Lib.hid (Rs.put5 HR.out (show R≠B by omega) (.int .u8 4) (.slice none 0 0) (.slice (some ⟨w1.heap.size,0,none⟩) 1 1) (.int .i64 1) (.int .i64 (-1)))
    have hal:=fun U:World=>(Below.refl U.heap.size U).alloc (Nat.le_refl _) (.cells #[.int .u8 k,.slice sp sn sc,.slice kp kn kc,.int .i64 mn,.int .i64 mx] 48)
    have HAL:=Lib.hid hal
    clear hn hb hal
    go_wp2
    go_roundg r.tail.length
    case measure=>omega
    case rel=>exact ⟨.mk 4 none0 [x] 1 (-1),(.ok () r.tail),HVR,Lib.hid (HRX.out.kept (HAL.out _)),Lib.hid (GX.out.trans (Gr.of (HAL.out _))),HST⟩
   | false =>
   cases h63:at1 63 r with
   | true =>
    have HST:Hid (RSt o r.tail.length (.mk 4 none0 [x] 0 1) (.ok () r.tail)):=Lib.hid (.inl ⟨r.tail,fu,rfl,by rw [HO1.out];unfold timesQ;rw [if_neg (by rw [h42];simp),if_neg (by rw [h43];simp),if_pos h63],by have:=tail_lt h63;omega,Nat.le_refl _⟩)
    have htl:=tail_lt h63
    have HT:=Lib.hid (tk_no 42 (by decide) HR.out h42)
    go_wp2_with fail
    refine HT.out.mono ?_
    rintro e w1 ⟨rfl,h1,g1⟩
    have HVN:=Lib.hid (HVN.out.gr g1 (by omega) (by omega))
    have HG:=Lib.hid (HG.out.trans g1)
    have HR:Hid (Rr R w1 s dv r d f):=Lib.hid h1
    clear h1 g1 HT
    have HT:=Lib.hid (tk_no 43 (by decide) HR.out h43)
    go_wp2_with fail
    refine HT.out.mono ?_
    rintro e w1 ⟨rfl,h1,g1⟩
    have HVN:=Lib.hid (HVN.out.gr g1 (by omega) (by omega))
    have HG:=Lib.hid (HG.out.trans g1)
    have HR:Hid (Rr R w1 s dv r d f):=Lib.hid h1
    clear h1 g1 HT
    have HT:=Lib.hid (tk_yes 63 (by decide) HR.out h63)
    go_wp2_with fail
    refine HT.out.mono ?_
    rintro e w1 ⟨rfl,h1,g1⟩
    have HVN:=Lib.hid (HVN.out.gr g1 (by omega) (by omega))
    have HG:=Lib.hid (HG.out.trans g1)
    have HR:Hid (Rs R w1 s dv d f (.ok () r.tail)):=Lib.hid h1
    clear h1 g1 HT
    have hBlt:=HVN.out.lt
    obtain ⟨k,sp,sn,sc,kp,kn,kc,mn,mx,hb,hn⟩:=HVN.out
    have HNN:=Lib.hid hn
    have HBB:=Lib.hid hb
    obtain ⟨q0,q1,q2,q3,q4⟩:w1.cell? ⟨B,0,none⟩=some (.int .u8 k)∧w1.cell? ⟨B,1,none⟩=some (.slice sp sn sc)∧w1.cell? ⟨B,2,none⟩=some (.slice kp kn kc)∧w1.cell? ⟨B,3,none⟩=some (.int .i64 mn)∧w1.cell? ⟨B,4,none⟩=some (.int .i64 mx) :=
     ⟨cell_of_row w1 B 0 _ _ _ hb,cell_of_row w1 B 1 _ _ _ hb,cell_of_row w1 B 2 _ _ _ hb,cell_of_row w1 B 3 _ _ _ hb,cell_of_row w1 B 4 _ _ _ hb⟩
    obtain ⟨f0,f1,f2,f3,f4⟩:w1.frozen? ⟨B,0,none⟩=false∧w1.frozen? ⟨B,1,none⟩=false∧w1.frozen? ⟨B,2,none⟩=false∧w1.frozen? ⟨B,3,none⟩=false∧w1.frozen? ⟨B,4,none⟩=false :=
     ⟨by simp [World.frozen?,hb],by simp [World.frozen?,hb],by simp [World.frozen?,hb],by simp [World.frozen?,hb],by simp [World.frozen?,hb]⟩
    have hsz1:=HG.out.size
    have HVR:=Lib.hid (VarN.rep (n:=W.heap.size+1) k sp sn sc kp kn kc mn mx hb hn (by omega) 0 1)
    have GX:=Lib.hid (put5_grR (.int .u8 4) (.slice none 0 0) (.slice (some ⟨w1.heap.size,0,none⟩) 1 1) (.int .i64 0) (.int .i64 1) HG.out hVB)
    have HRX:=Lib.hid (Rs.put5 HR.out (show R≠B by omega) (.int .u8 4) (.slice none 0 0) (.slice (some ⟨w1.heap.size,0,none⟩) 1 1) (.int .i64 0) (.int .i64 1))
    have hal:=fun U:World=>(Below.refl U.heap.size U).alloc (Nat.le_refl _) (.cells #[.int .u8 k,.slice sp sn sc,.slice kp kn kc,.int .i64 mn,.int .i64 mx] 48)
    have HAL:=Lib.hid hal
    clear hn hb hal
    go_wp2
    go_roundg r.tail.length
    case measure=>omega
    case rel=>exact ⟨.mk 4 none0 [x] 0 1,(.ok () r.tail),HVR,Lib.hid (HRX.out.kept (HAL.out _)),Lib.hid (GX.out.trans (Gr.of (HAL.out _))),HST⟩
   | false =>
   have HTQ:Hid (timesQ r=if at1 123 r=true∧r.tail≠[]∧sees isL r.tail=false then (match boundsF r.tail with
     | .err e x=>.err e x
     | .ok p r1=>.ok (some p) r1) else .ok none r):=Lib.hid (by unfold timesQ;rw [if_neg (by rw [h42];simp),if_neg (by rw [h43];simp),if_neg (by rw [h63];simp)])
   clear HT1
   have HT:=Lib.hid (tk_no 42 (by decide) HR.out h42)
   go_wp2_with fail
   refine HT.out.mono ?_
   rintro e w1 ⟨rfl,h1,g1⟩
   have HVN:=Lib.hid (HVN.out.gr g1 (by omega) (by omega))
   have HG:=Lib.hid (HG.out.trans g1)
   have HR:Hid (Rr R w1 s dv r d f):=Lib.hid h1
   clear h1 g1 HT
   have HT:=Lib.hid (tk_no 43 (by decide) HR.out h43)
   go_wp2_with fail
   refine HT.out.mono ?_
   rintro e w1 ⟨rfl,h1,g1⟩
   have HVN:=Lib.hid (HVN.out.gr g1 (by omega) (by omega))
   have HG:=Lib.hid (HG.out.trans g1)
   have HR:Hid (Rr R w1 s dv r d f):=Lib.hid h1
   clear h1 g1 HT
   have HT:=Lib.hid (tk_no 63 (by decide) HR.out h63)
   go_wp2_with fail
   refine HT.out.mono ?_
   rintro e w1 ⟨rfl,h1,g1⟩
   have HVN:=Lib.hid (HVN.out.gr g1 (by omega) (by omega))
   have HG:=Lib.hid (HG.out.trans g1)
   have HR:Hid (Rr R w1 s dv r d f):=Lib.hid h1
   clear h1 g1 HT
   clear h42 h43 h63
   obtain ⟨z,hz⟩:∃ z,z=lookS (.ok () r):=⟨_,rfl⟩
   have hlk:=lookq_c HR.out
   rw [← hz] at hlk
   have HSQ:=Lib.hid (fun (Y:World) (hY:Rs R Y s dv d f (.ok () r))=>see_q hY)
   rw [← hz] at HSQ
   clear hz
   obtain ⟨q,hq⟩:∃ q,q=decide (at1 123 r=true∧r.tail≠[]∧sees isL r.tail=false):=⟨_,rfl⟩
   have HQ:=Lib.hid hq
   have HLK:=Lib.hid hlk
   have hlen:=HR.out.len
   obtain ⟨i,hi⟩:∃ i,i=s.size - (U.UtfM.wr r).length:=⟨_,rfl⟩
   have hcz:(s.size:Int) - ((U.UtfM.wr r).length:Nat)=(i:Int):=by omega
   have hii:i+(U.UtfM.wr r).length=s.size:=by omega
   have HII:=Lib.hid hii
   have KC1:Hid (∀ Y,Rr R Y s dv r d f→Y.cell? ⟨R,0,none⟩=some (.string s)∧Y.cell? ⟨R,1,none⟩=some (.int .i64 (i:Int))∧Y.frozen? ⟨R,1,none⟩=false):=Lib.hid (fun Y hY=>⟨hY.c0,by rw [← hcz];exact hY.c1,hY.fz 1⟩)
   have ew:IntKind.i64.wrap ((i:Int)+1)=(i:Int)+1:=IntWalk.i64_in _ (by omega)
   have l0:(0:Int)≤(i:Int)+1:=by omega
   clear hq hlk hlen hi hii hcz
   go_wp2_with fail
   go_cut [18] (fun s18 wc=>s18=.bool q∧∃ m,wc=w1.drewN m)
   case first =>
    dsimp only [List.append]
    obtain ⟨c0,c1,kz⟩:=KC1.out _ HR.out
    by_cases hz:z=123
    ·obtain ⟨t,rfl⟩:∃ t,r=123::t:=by
      rcases HLK.out with ⟨h1,h2⟩ | ⟨c',t',h,⟨h1,h2,h3⟩ | ⟨h1,h2,h3⟩⟩
      ·omega
      ·exact ⟨t',by rw [h];congr 1;omega⟩
      ·omega
     subst hz
     cases t with
     | nil =>
      have hmv:(U.UtfM.wr [123]).length=1:=by decide
      have l1:¬ (i:Int)+1 < (s.size:Int):=by have:=HII.out;omega
      have hqf:q=false:=by rw [HQ.out];exact decide_eq_false (fun h=>h.2.1 rfl)
      clear hmv
      go_quiet ((go_at_call 100;exact Calls.quiet_of (HSQ.out _ (HR.out.kept (drewN_below _)))))
      go_wp2
      go_meet
      exact ⟨by rw [hqf],_,rfl⟩
     | cons c t =>
      have hscc:=HR.out.sc c (by simp)
      obtain ⟨nb,lb,hwr,nb0,nb1,hnb⟩:=wr_head hscc t
      have hwl:U.UtfM.wr (123::c::t)=123::nb::lb:=by rw [wr_head_low (HR.out.sc 123 (by simp)) (by omega),hwr]
      have hl2:(U.UtfM.wr (123::c::t)).length=lb.length+2:=by rw [hwl];simp
      have hix:=Rr.byte HR.out i 1 HII.out nb (by rw [hwl];rfl)
      rw [show ((i+1:Nat):Int)=(i:Int)+1 from by omega] at hix
      have l1:(i:Int)+1 < (s.size:Int):=by have:=HII.out;omega
      have hrange:(q=true∧((nb < 65∧¬ nb > 90∧nb < 97∧¬ nb > 122)∨(¬ nb < 65∧nb > 90∧nb < 97∧¬ nb > 122)∨(¬ nb < 65∧nb > 90∧¬ nb < 97∧nb > 122)))∨(q=false∧((¬ nb < 65∧¬ nb > 90∧nb < 97∧¬ nb > 122)∨(¬ nb < 65∧nb > 90∧¬ nb < 97∧¬ nb > 122))):=by
       cases hh:isL c with
       | true =>
        refine .inr ⟨by rw [HQ.out];exact decide_eq_false (fun h=>by have h2:isL c=false:=h.2.2;rw [hh] at h2;cases h2),?_⟩
        simp only [isL,Bool.or_eq_true,decide_eq_true_eq] at hh
        omega
       | false =>
        refine .inl ⟨by rw [HQ.out];exact decide_eq_true ⟨rfl,by simp,hh⟩,?_⟩
        simp only [isL,Bool.or_eq_false_iff,decide_eq_false_iff_not] at hh
        omega
      clear hnb hwr hwl hscc hl2 nb0 nb1
      rcases hrange with ⟨hqf,⟨p1,p2,p3,p4⟩ | ⟨p1,p2,p3,p4⟩ | ⟨p1,p2,p3,p4⟩⟩ | ⟨hqf,⟨p1,p2,p3,p4⟩ | ⟨p1,p2,p3,p4⟩⟩
      all_goals
       go_quiet ((go_at_call 100;exact Calls.quiet_of (HSQ.out _ (HR.out.kept (drewN_below _)))))
       go_wp2
       go_meet
       exact ⟨by rw [hqf],_,rfl⟩
    ·have hzb : (z == 123) = false := by simp [hz]
     have hqf:q=false:=by
      rw [HQ.out]
      exact decide_eq_false (fun h=>by
       have h1:=at1_true h.1
       rcases HLK.out with ⟨h2,_⟩ | ⟨c',t',h2,⟨h3,_⟩ | ⟨_,_,h3⟩⟩
       ·rw [h2] at h1;cases h1
       ·rw [h2] at h1;cases h1;exact hz h3
       ·rw [h2] at h1;cases h1;omega)
     go_quiet ((go_at_call 100;exact Calls.quiet_of (HSQ.out _ (HR.out.kept (drewN_below _)))))
     go_wp2
     go_meet
     exact ⟨by rw [hqf],_,rfl⟩
   case rest =>
    obtain ⟨rfl,m,rfl⟩:=hcut
    have HVN:=Lib.hid (HVN.out.gr (Gr.of (R:=R) (drewN_below m)) (by omega) (by omega))
    have HG:=Lib.hid (HG.out.trans (Gr.of (drewN_below m)))
    have HR:=Lib.hid (HR.out.kept (drewN_below m))
    generalize w1.drewN m=w2 at *
    cases q with
    | false =>
     have hgo:=of_decide_eq_false HQ.out.symm
     have HPO:Hid ((∀ y r,o=.ok y r→x=y)∧Out.u o=.ok () r):=Lib.hid (by
      rw [HO1.out,HTQ.out,if_neg hgo]
      exact ⟨fun y r h=>(by cases h;rfl),rfl⟩)
     have HR:Hid (Rs R w2 s dv d f (.ok () r)):=HR
     clear hgo
     have hBlt:=HVN.out.lt
     obtain ⟨k,sp,sn,sc,kp,kn,kc,mn,mx,hb,hn⟩:=HVN.out
     have HNN:=Lib.hid hn
     have HBB:=Lib.hid hb
     obtain ⟨q0,q1,q2,q3,q4⟩:w2.cell? ⟨B,0,none⟩=some (.int .u8 k)∧w2.cell? ⟨B,1,none⟩=some (.slice sp sn sc)∧w2.cell? ⟨B,2,none⟩=some (.slice kp kn kc)∧w2.cell? ⟨B,3,none⟩=some (.int .i64 mn)∧w2.cell? ⟨B,4,none⟩=some (.int .i64 mx) :=
      ⟨cell_of_row w2 B 0 _ _ _ hb,cell_of_row w2 B 1 _ _ _ hb,cell_of_row w2 B 2 _ _ _ hb,cell_of_row w2 B 3 _ _ _ hb,cell_of_row w2 B 4 _ _ _ hb⟩
     have h5:=HB5.out.gr HG.out (by omega)
     obtain ⟨⟨x0,x1,x2,x3,x4,k0,k1,k2,k3,k4⟩,f0,f1,f2,f3,f4⟩:=h5.cells
     have H5:=Lib.hid h5
     clear h5 hn hb
     go_wp2
     exact ret_node rfl rfl H5.out ⟨_,x,rfl,put5_nv (R:=R) _ _ _ _ _ (HNN.out.imp (fun b hA hlt=>⟨hA.1,rfl⟩) (Nat.le_refl _)) (Nat.lt_succ_self _) hRW (Nat.le_succ _),HPO.out.1,by rw [HPO.out.2];exact Rs.put5 HR.out (by omega) _ _ _ _ _,put5_grR _ _ _ _ _ ((Gr.of HB0.out).trans HG.out) (Nat.le_refl _)⟩
    | true =>
     have hgo:=of_decide_eq_true HQ.out.symm
     obtain ⟨t,hrt⟩:∃ t,r=123::t:=⟨_,at1_true hgo.1⟩
     have hmv:(U.UtfM.wr r).length=(U.UtfM.wr r.tail).length+1:=by rw [hrt,wr_head_low (HR.out.sc 123 (by rw [hrt];simp)) (by omega)];simp
     have HM:=Lib.hid (fun Y (hU:Rr R Y s dv r d f)=>hU.move (p:=[123]) (rest':=r.tail) (x:=(i:Int)+1) (by rw [hrt];rfl) (by have:=HII.out;omega))
     have htl:=tail_lt hgo.1
     have HTQ2:Hid (timesQ r=match boundsF r.tail with
      | .err e x=>.err e x
      | .ok p r1=>.ok (some p) r1):=Lib.hid (by rw [HTQ.out,if_pos hgo])
     clear hgo hmv hrt
     obtain ⟨c0,c1,kz⟩:=KC1.out _ HR.out
     have HR3:=Lib.hid (HM.out _ HR.out)
     have g3:=Gr.set (R:=R) w2 1 (.int .i64 ((i:Int)+1))
     have HVN3:=Lib.hid (HVN.out.gr g3 (by omega) (by omega))
     have HG3:=Lib.hid (HG.out.trans g3)
     have HTI:=Lib.hid (times6_c HR3.out)
     clear g3
     go_wp2_with fail
     refine HTI.out.mono ?_
     rintro e w1 ⟨a,b,rfl,a0,a1,b0,b1,hab,h1,g1⟩
     have HVN:=Lib.hid (HVN3.out.gr g1 (by omega) (by omega))
     have HG:=Lib.hid (HG3.out.trans g1)
     have HR:=Lib.hid h1
     have HST:Hid (∃ m,m < gk∧RSt o m (.mk 4 none0 [x] a b) (Out.u (boundsF r.tail))):=Lib.hid (by
      cases hbd:boundsF r.tail with
      | err e y=>exact ⟨0,by omega,.inr ⟨e,y,rfl,by rw [HO1.out,HTQ2.out,hbd]⟩⟩
      | ok p r1 =>
       have:=bounds_len hbd
       refine ⟨r1.length,by omega,.inl ⟨r1,fu,rfl,?_,by omega,Nat.le_refl _⟩⟩
       rw [HO1.out,HTQ2.out,hbd,hab p r1 hbd])
     obtain ⟨m,hm,hst⟩:=HST.out
     have HST:=Lib.hid hst
     clear h1 g1 hst hab c0 c1 kz
     generalize Out.u (boundsF r.tail)=σ8 at *
     have hBlt:=HVN.out.lt
     obtain ⟨k,sp,sn,sc,kp,kn,kc,mn,mx,hb,hn⟩:=HVN.out
     have HNN:=Lib.hid hn
     have HBB:=Lib.hid hb
     obtain ⟨q0,q1,q2,q3,q4⟩:w1.cell? ⟨B,0,none⟩=some (.int .u8 k)∧w1.cell? ⟨B,1,none⟩=some (.slice sp sn sc)∧w1.cell? ⟨B,2,none⟩=some (.slice kp kn kc)∧w1.cell? ⟨B,3,none⟩=some (.int .i64 mn)∧w1.cell? ⟨B,4,none⟩=some (.int .i64 mx) :=
      ⟨cell_of_row w1 B 0 _ _ _ hb,cell_of_row w1 B 1 _ _ _ hb,cell_of_row w1 B 2 _ _ _ hb,cell_of_row w1 B 3 _ _ _ hb,cell_of_row w1 B 4 _ _ _ hb⟩
     obtain ⟨f0,f1,f2,f3,f4⟩:w1.frozen? ⟨B,0,none⟩=false∧w1.frozen? ⟨B,1,none⟩=false∧w1.frozen? ⟨B,2,none⟩=false∧w1.frozen? ⟨B,3,none⟩=false∧w1.frozen? ⟨B,4,none⟩=false :=
      ⟨by simp [World.frozen?,hb],by simp [World.frozen?,hb],by simp [World.frozen?,hb],by simp [World.frozen?,hb],by simp [World.frozen?,hb]⟩
     have hsz1:=HG.out.size
     have HVR:=Lib.hid (VarN.rep (n:=W.heap.size+1) k sp sn sc kp kn kc mn mx hb hn (by omega) a b)
     have GX:=Lib.hid (put5_grR (.int .u8 4) (.slice none 0 0) (.slice (some ⟨w1.heap.size,0,none⟩) 1 1) (.int .i64 a) (.int .i64 b) HG.out hVB)
     have HRX:=Lib.hid (Rs.put5 HR.out (show R≠B by omega) (.int .u8 4) (.slice none 0 0) (.slice (some ⟨w1.heap.size,0,none⟩) 1 1) (.int .i64 a) (.int .i64 b))
     have hal:=fun U:World=>(Below.refl U.heap.size U).alloc (Nat.le_refl _) (.cells #[.int .u8 k,.slice sp sn sc,.slice kp kn kc,.int .i64 mn,.int .i64 mx] 48)
     have HAL:=Lib.hid hal
     clear hn hb hal
     go_wp2
     go_roundg m
     case measure=>omega
     case rel=>exact ⟨.mk 4 none0 [x] a b,σ8,HVR,Lib.hid (HRX.out.kept (HAL.out _)),Lib.hid (GX.out.trans (Gr.of (HAL.out _))),HST⟩
end
end Go.Proofs.YtioahgklplbinaaGreatDoor
