/- QBracket, QAtom, in one text. -/
import Derived.Test.YtioahgklplbinaaGreatDoorQFc
/- The document's reader: what stands in brackets. -/
namespace Go.Proofs.YtioahgklplbinaaGreatDoor
open Go.RowKit Go.Shelf Go.Maps SetM PropsM RxM
section
variable {R:Nat} {W W' W0:World} {s:ByteArray} {dv:Value} {rest r:List Int} {N:Nat×Nat} {d f n:Nat} {z c:Int} {σ:Out Unit}
theorem Rs.c3 (h:Rs R W s dv d f σ):W.cell? ⟨R,3,none⟩=some (.int .i64 d):=by
 obtain ⟨i,n,z,_,_,hc,_⟩:=h.cells
 exact (hc W (Below.refl _ _)).2.2.2.1
theorem Rs.fz (h:Rs R W s dv d f σ) (j:Nat):W.frozen? ⟨R,j,none⟩=false:=by
 obtain ⟨i,n,z,_,_,hc,_⟩:=h.cells
 exact (hc W (Below.refl _ _)).2.2.2.2.2.2.2 j
theorem inner_q (F:Bool→List Int→Out Nd) (cl:Bool) (σ1:Out Unit) (o:Out Nd) (ho:o=bindS σ1 (innerF F cl)) {x:Nd} (hx:∀ y r,bindS σ1 (F cl)=.ok y r→x=y):Out.u o=mustO 41 (Out.u (bindS σ1 (F cl)))∧∀ y r,o=.ok y r→x=y:=by
 subst ho
 cases σ1 with
 | err n y=>exact ⟨rfl,fun y r h=>by cases h⟩
 | ok u r =>
  have hx':∀ y r1,F cl r=.ok y r1→x=y:=hx
  show Out.u (innerF F cl r)=mustO 41 (Out.u (F cl r))∧∀ y r1,innerF F cl r=.ok y r1→x=y
  unfold innerF
  cases hF:F cl r with
  | err e y=>exact ⟨rfl,fun y r h=>by cases h⟩
  | ok y r1 =>
   dsimp only
   show _=Out.u (needF 41 r1)∧_
   cases needF 41 r1 with
   | err e z=>exact ⟨rfl,fun y r h=>by cases h⟩
   | ok u r2=>exact ⟨rfl,fun z r h=>by cases h;exact hx' y r1 hF⟩
theorem group_yes (F:Bool→List Int→Out Nd) (cl:Bool) (r:List Int) (h:at1 63 r=true):groupF F cl r=bindS (mustS [105,58] (.ok () r.tail)) (innerF F true):=by
 unfold groupF
 rw [if_pos h]
 show _=bindS (if [105,58] <+: r.tail then _ else _) _
 by_cases hh:([105,58]:List Int) <+: r.tail
 ·rw [if_pos hh]
  obtain ⟨t,ht⟩:=hh
  rw [← ht]
  rfl
 ·rw [if_neg hh,if_neg (fun h2=>hh (by
   have h3:=at1_true h2.1
   rw [h3]
   exact (two_pre 105 58 105 _).2 ⟨rfl,h2.2⟩))]
  rfl
theorem group_no (F:Bool→List Int→Out Nd) (cl:Bool) (r:List Int) (h:at1 63 r=false):groupF F cl r=bindS (.ok () r) (innerF F cl):=by
 unfold groupF
 rw [if_neg (by rw [h];simp)]
 rfl
set_option maxRecDepth 100000 in
set_option maxHeartbeats 4000000 in
theorem bracket_q (hN : N.2 ≤ R) (hd : d < 20) (hf : f ≤ 100) {F : Bool → List Int → Out Nd} (HA : ∀ f1, f1 = f ∨ f1 = f + 1 → FQs 58 N R s dv (d + 1) f1 W0 (F (decide (0 < f1)))) (zp : Int) (hC : Gr R W0 W) (h : Rr R W s dv rest d f) :
  Calls Tryz.prog 127 #[.pointer (some ⟨R,0,none⟩),.int .i64 zp] W (NodeQ N R s dv d f (groupF F (decide (0 < f)) rest) W):=by
 have hRW:=h.lt
 obtain ⟨o,ho⟩:∃ o,o=groupF F (decide (0 < f)) rest:=⟨_,rfl⟩
 rw [← ho]
 obtain ⟨d1,hd1⟩:∃ d1,d1=d+1:=⟨_,rfl⟩
 have ew:IntKind.i64.wrap ((d:Int)+1)=(d1:Int):=by rw [IntWalk.i64_in _ (by omega)];omega
 have ew2:IntKind.i64.wrap ((d1:Int) - 1)=(d:Int):=by rw [IntWalk.i64_in _ (by omega)];omega
 rw [← hd1] at HA
 have hdi:(d:Int) < 20:=by omega
 have hd20:¬ (d:Int) ≥ 20:=by omega
 have HA0:=Lib.hid HA
 have hW1:=Rs.deeper (σ:= .ok () rest) h d1
 have gW1:=Gr.set (R:=R) W 3 (.int .i64 (d1:Int))
 have hz1:(W.setCell ⟨R,3,none⟩ (.int .i64 (d1:Int))).heap.size=W.heap.size:=World.size_setCell _ _ _
 obtain ⟨V,hV⟩:∃ V,V=(W.setCell ⟨R,3,none⟩ (.int .i64 (d1:Int))).alloc (.cells #[.int .u8 0,.slice none 0 0,.slice none 0 0,.int .i64 0,.int .i64 0] 48):=⟨_,rfl⟩
 have hb0:Below (W.setCell ⟨R,3,none⟩ (.int .i64 (d1:Int))).heap.size (W.setCell ⟨R,3,none⟩ (.int .i64 (d1:Int))) V:=by rw [hV];exact (Below.refl _ _).alloc (Nat.le_refl _) _
 have HZ:Hid (V.heap.size=W.heap.size+1):=Lib.hid (by rw [hV,World.size_alloc,hz1])
 have HB5:Hid (B5 V W.heap.size):=Lib.hid (by rw [hV];have:=B5.new (W.setCell ⟨R,3,none⟩ (.int .i64 (d1:Int))) (.int .u8 0) (.slice none 0 0) (.slice none 0 0) (.int .i64 0) (.int .i64 0);rw [hz1] at this;exact this)
 have HR1:=Lib.hid (hW1.kept hb0)
 have HG0:=Lib.hid (gW1.trans (Gr.of hb0))
 have HC0:=Lib.hid (hC.trans HG0.out)
 have HG1:Hid (Gr R V V):=Lib.hid (Gr.refl _ _)
 have hzv:=HZ.out
 have c3:=h.c3
 have kz3:=h.fz 3
 clear h hb0 hC HA hd1 hW1 gW1 hz1
 cases h63:at1 63 rest with
 | true =>
  have HO:Hid (o=bindS (mustS [105,58] (.ok () rest.tail)) (innerF F true)):=Lib.hid (by rw [ho];exact group_yes _ _ _ h63)
  have HT:=Lib.hid (tk_yes 63 (by decide) (show Rr R _ s dv rest d1 f from HR1.out) h63)
  obtain ⟨f1,hf1⟩:∃ f1,f1=f+1:=⟨_,rfl⟩
  have ef:IntKind.i64.wrap ((f:Int)+1)=(f1:Int):=by rw [IntWalk.i64_in _ (by omega)];omega
  have ef2:IntKind.i64.wrap ((f1:Int) - 1)=(f:Int):=by rw [IntWalk.i64_in _ (by omega)];omega
  have HA1:=Lib.hid (HA0.out f1 (.inr hf1))
  have hdec:decide (0 < f1)=true:=decide_eq_true (by omega)
  rw [hdec] at HA1
  clear h63 ho hf1 hdec
  go_enter Tryz.func127,Tryz.ntmps127
  go_wp2_with fail
  rw [← hV]
  clear hV
  refine HT.out.mono ?_
  rintro e w1 ⟨rfl,h1,g1⟩
  have HR:Hid (Rs R w1 s dv d1 f (.ok () rest.tail)):=Lib.hid h1
  have HG:=Lib.hid (HG1.out.trans g1)
  have HMU:=Lib.hid (must_c ⟨#[105,58]⟩ (lowq2 105 58 (by decide) (by decide)) (by decide) HR.out)
  clear h1 g1 HT c3 kz3 HR1
  go_wp2_with fail
  refine HMU.out.mono ?_
  rintro e w2 ⟨rfl,h1,g1⟩
  obtain ⟨σ1,hσ1⟩:∃ x,x=mustS [105,58] (.ok () rest.tail):=⟨_,rfl⟩
  replace h1:Rs R w2 s dv d1 f (mustS [105,58] (.ok () rest.tail)):=h1
  rw [← hσ1] at h1 HO
  have HR:=Lib.hid h1
  have HG:=Lib.hid (HG.out.trans g1)
  clear h1 g1 HMU hσ1
  have c4:=HR.out.c4
  have kz4:=HR.out.fz 4
  have HR4:=Lib.hid (HR.out.folded f1)
  have HG4:=Lib.hid (HG.out.trans (Gr.set (R:=R) w2 4 (.int .i64 (f1:Int))))
  have HRP:=Lib.hid (HA1.out _ σ1 (HC0.out.trans HG4.out) HR4.out)
  have hz2:=HG4.out.size
  go_wp2_with fail
  refine HRP.out.mono ?_
  rintro e w3 ⟨v,x,rfl,hv,hx,hr,g3⟩
  have hIN:=inner_q F true σ1 o HO.out hx
  obtain ⟨k,sp,sn,sc,kp,kn,kc,mn,mx,rfl⟩:=NV.form5 hv
  have hz3:=g3.size
  obtain ⟨B,hB⟩:∃ B,B=w3.heap.size:=⟨_,rfl⟩
  have c4:=hr.c4
  have kz4:=hr.fz 4
  have hRw3:=hr.lt
  have g36:=Gr.set (R:=R) w3 4 (.int .i64 (f:Int))
  have hz36:(w3.setCell ⟨R,4,none⟩ (.int .i64 (f:Int))).heap.size=w3.heap.size:=World.size_setCell _ _ _
  obtain ⟨w4,hw4⟩:∃ w4,w4=(w3.setCell ⟨R,4,none⟩ (.int .i64 (f:Int))).alloc (.cells #[.int .u8 k,.slice sp sn sc,.slice kp kn kc,.int .i64 mn,.int .i64 mx] 48):=⟨_,rfl⟩
  have hal:Below (w3.setCell ⟨R,4,none⟩ (.int .i64 (f:Int))).heap.size (w3.setCell ⟨R,4,none⟩ (.int .i64 (f:Int))) w4:=by rw [hw4];exact (Below.refl _ _).alloc (Nat.le_refl _) _
  have hv2:=NV.gr hv g36 (by omega) (Nat.le_refl _) hN
  have HVN6:Hid (VarN w4 (Old N (W.heap.size+1)) B x):=Lib.hid (by
   rw [hw4,hB,← hz36]
   refine ⟨k,sp,sn,sc,kp,kn,kc,mn,mx,heap_alloc_new _ _,?_⟩
   exact NV.imp hv2 (fun b hA hlt=>⟨⟨hA.imp id (fun h=>by omega),by omega⟩,((Below.refl _ _).alloc (Nat.le_refl _) _).block b hlt⟩) (by rw [World.size_alloc];omega))
  have HIN:=Lib.hid hIN
  have hBR:B≠R:=by omega
  have hBW:W.heap.size < B:=by omega
  obtain ⟨σ2,hσ2⟩:∃ σ2,σ2=Out.u (bindS σ1 (F true)):=⟨_,rfl⟩
  rw [← hσ2] at hr HIN
  have HR6:=Lib.hid ((hr.folded f).kept hal)
  have HG6:=Lib.hid (HG4.out.trans (g3.trans (g36.trans (Gr.of hal))))
  have HMU:=Lib.hid (must1_all (R:=R) (s:=s) (dv:=dv) (d:=d1) (f:=f) 41 (by decide) σ2)
  clear hv hv2 hx hr hal hIN g3 g36 hσ2 HRP hz36
  go_wp2_with fail
  rw [← hw4]
  clear hw4
  rw [← hB]
  clear hB
  refine (HMU.out _ HR6.out).mono ?_
  rintro e w5 ⟨rfl,h5,g5⟩
  replace h5:Rs R w5 s dv d1 f (mustO 41 σ2):=h5
  have HR7:=Lib.hid h5
  have HG7:=Lib.hid (HG6.out.trans g5)
  have HVN7:=Lib.hid (HVN6.out.gr g5 (by omega) hBR)
  have c3:=HR7.out.c3
  have kz3:=HR7.out.fz 3
  have HR8:=Lib.hid (HR7.out.deeper d)
  have g8:=Gr.set (R:=R) w5 3 (.int .i64 (d:Int))
  have HG8:=Lib.hid (HG7.out.trans g8)
  have HVN8:=Lib.hid (HVN7.out.gr g8 (by omega) hBR)
  clear h5 g5 g8 HMU
  obtain ⟨k,sp,sn,sc,kp,kn,kc,mn,mx,hb,hn⟩:=HVN7.out
  obtain ⟨q0,q1,q2,q3,q4⟩:w5.cell? ⟨B,0,none⟩=some (.int .u8 k)∧w5.cell? ⟨B,1,none⟩=some (.slice sp sn sc)∧w5.cell? ⟨B,2,none⟩=some (.slice kp kn kc)∧w5.cell? ⟨B,3,none⟩=some (.int .i64 mn)∧w5.cell? ⟨B,4,none⟩=some (.int .i64 mx) :=
   ⟨cell_of_row w5 B 0 _ _ _ hb,cell_of_row w5 B 1 _ _ _ hb,cell_of_row w5 B 2 _ _ _ hb,cell_of_row w5 B 3 _ _ _ hb,cell_of_row w5 B 4 _ _ _ hb⟩
  have HNN:Hid (NV (w5.setCell ⟨R,3,none⟩ (.int .i64 (d:Int))) (Old N (W.heap.size+1)) (.agg #[.int .u8 k,.slice sp sn sc,.slice kp kn kc,.int .i64 mn,.int .i64 mx]) x):=Lib.hid (NV.gr (NV.imp hn (fun b hA hlt=>⟨hA.1,rfl⟩) (Nat.le_refl _)) (Gr.set (R:=R) w5 3 (.int .i64 (d:Int))) (by omega) (Nat.le_refl _) hN)
  have h5:=HB5.out.gr HG8.out (by omega)
  have h5':=HB5.out.gr HG7.out (by omega)
  obtain ⟨⟨x0,x1,x2,x3,x4,k0,k1,k2,k3,k4⟩,f0,f1,f2,f3,f4⟩:=h5'.cells
  have H5:=Lib.hid h5
  clear h5 h5' hb hn
  go_wp2
  exact ret_node rfl rfl H5.out ⟨_,x,rfl,put5_nv (R:=R) _ _ _ _ _ HNN.out (by omega) hRW (by omega),HIN.out.2,by rw [HIN.out.1];exact Rs.put5 HR8.out (by omega) _ _ _ _ _,put5_grR _ _ _ _ _ (HG0.out.trans HG8.out) (Nat.le_refl _)⟩
 | false =>
  have HO:Hid (o=bindS (.ok () rest) (innerF F (decide (0 < f)))):=Lib.hid (by rw [ho];exact group_no _ _ _ h63)
  have HT:=Lib.hid (tk_no 63 (by decide) (show Rr R _ s dv rest d1 f from HR1.out) h63)
  obtain ⟨f1,hf1⟩:∃ f1,f1=f:=⟨_,rfl⟩
  have ef:IntKind.i64.wrap (f:Int)=(f1:Int):=by rw [IntWalk.i64_in _ (by omega)];omega
  have ef2:IntKind.i64.wrap (f1:Int)=(f:Int):=by rw [IntWalk.i64_in _ (by omega)];omega
  have HA1:=Lib.hid (HA0.out f1 (.inl hf1))
  rw [hf1] at HA1
  rw [← hf1] at HA1
  obtain ⟨cl,hcl⟩:∃ cl,cl=decide (0 < f):=⟨_,rfl⟩
  have hcl1:decide (0 < f1)=cl:=by rw [hf1,hcl]
  rw [hcl1] at HA1
  rw [← hcl] at HO
  clear h63 ho hf1 hcl hcl1
  go_enter Tryz.func127,Tryz.ntmps127
  go_wp2_with fail
  rw [← hV]
  clear hV
  refine HT.out.mono ?_
  rintro e w2 ⟨rfl,h1,g1⟩
  obtain ⟨σ1,hσ1⟩:∃ x:Out Unit,x=.ok () rest:=⟨_,rfl⟩
  replace h1:Rs R w2 s dv d1 f (.ok () rest):=h1
  rw [← hσ1] at h1 HO
  have HR:=Lib.hid h1
  have HG:=Lib.hid (HG1.out.trans g1)
  clear h1 g1 HT c3 kz3 HR1 hσ1
  have c4:=HR.out.c4
  have kz4:=HR.out.fz 4
  have HR4:=Lib.hid (HR.out.folded f1)
  have HG4:=Lib.hid (HG.out.trans (Gr.set (R:=R) w2 4 (.int .i64 (f1:Int))))
  have HRP:=Lib.hid (HA1.out _ σ1 (HC0.out.trans HG4.out) HR4.out)
  have hz2:=HG4.out.size
  go_wp2_with fail
  refine HRP.out.mono ?_
  rintro e w3 ⟨v,x,rfl,hv,hx,hr,g3⟩
  have hIN:=inner_q F cl σ1 o HO.out hx
  obtain ⟨k,sp,sn,sc,kp,kn,kc,mn,mx,rfl⟩:=NV.form5 hv
  have hz3:=g3.size
  obtain ⟨B,hB⟩:∃ B,B=w3.heap.size:=⟨_,rfl⟩
  have c4:=hr.c4
  have kz4:=hr.fz 4
  have hRw3:=hr.lt
  have g36:=Gr.set (R:=R) w3 4 (.int .i64 (f:Int))
  have hz36:(w3.setCell ⟨R,4,none⟩ (.int .i64 (f:Int))).heap.size=w3.heap.size:=World.size_setCell _ _ _
  obtain ⟨w4,hw4⟩:∃ w4,w4=(w3.setCell ⟨R,4,none⟩ (.int .i64 (f:Int))).alloc (.cells #[.int .u8 k,.slice sp sn sc,.slice kp kn kc,.int .i64 mn,.int .i64 mx] 48):=⟨_,rfl⟩
  have hal:Below (w3.setCell ⟨R,4,none⟩ (.int .i64 (f:Int))).heap.size (w3.setCell ⟨R,4,none⟩ (.int .i64 (f:Int))) w4:=by rw [hw4];exact (Below.refl _ _).alloc (Nat.le_refl _) _
  have hv2:=NV.gr hv g36 (by omega) (Nat.le_refl _) hN
  have HVN6:Hid (VarN w4 (Old N (W.heap.size+1)) B x):=Lib.hid (by
   rw [hw4,hB,← hz36]
   refine ⟨k,sp,sn,sc,kp,kn,kc,mn,mx,heap_alloc_new _ _,?_⟩
   exact NV.imp hv2 (fun b hA hlt=>⟨⟨hA.imp id (fun h=>by omega),by omega⟩,((Below.refl _ _).alloc (Nat.le_refl _) _).block b hlt⟩) (by rw [World.size_alloc];omega))
  have HIN:=Lib.hid hIN
  have hBR:B≠R:=by omega
  have hBW:W.heap.size < B:=by omega
  obtain ⟨σ2,hσ2⟩:∃ σ2,σ2=Out.u (bindS σ1 (F cl)):=⟨_,rfl⟩
  rw [← hσ2] at hr HIN
  have HR6:=Lib.hid ((hr.folded f).kept hal)
  have HG6:=Lib.hid (HG4.out.trans (g3.trans (g36.trans (Gr.of hal))))
  have HMU:=Lib.hid (must1_all (R:=R) (s:=s) (dv:=dv) (d:=d1) (f:=f) 41 (by decide) σ2)
  clear hv hv2 hx hr hal hIN g3 g36 hσ2 HRP hz36
  go_wp2_with fail
  rw [← hw4]
  clear hw4
  rw [← hB]
  clear hB
  refine (HMU.out _ HR6.out).mono ?_
  rintro e w5 ⟨rfl,h5,g5⟩
  replace h5:Rs R w5 s dv d1 f (mustO 41 σ2):=h5
  have HR7:=Lib.hid h5
  have HG7:=Lib.hid (HG6.out.trans g5)
  have HVN7:=Lib.hid (HVN6.out.gr g5 (by omega) hBR)
  have c3:=HR7.out.c3
  have kz3:=HR7.out.fz 3
  have HR8:=Lib.hid (HR7.out.deeper d)
  have g8:=Gr.set (R:=R) w5 3 (.int .i64 (d:Int))
  have HG8:=Lib.hid (HG7.out.trans g8)
  have HVN8:=Lib.hid (HVN7.out.gr g8 (by omega) hBR)
  clear h5 g5 g8 HMU
  obtain ⟨k,sp,sn,sc,kp,kn,kc,mn,mx,hb,hn⟩:=HVN7.out
  obtain ⟨q0,q1,q2,q3,q4⟩:w5.cell? ⟨B,0,none⟩=some (.int .u8 k)∧w5.cell? ⟨B,1,none⟩=some (.slice sp sn sc)∧w5.cell? ⟨B,2,none⟩=some (.slice kp kn kc)∧w5.cell? ⟨B,3,none⟩=some (.int .i64 mn)∧w5.cell? ⟨B,4,none⟩=some (.int .i64 mx) :=
   ⟨cell_of_row w5 B 0 _ _ _ hb,cell_of_row w5 B 1 _ _ _ hb,cell_of_row w5 B 2 _ _ _ hb,cell_of_row w5 B 3 _ _ _ hb,cell_of_row w5 B 4 _ _ _ hb⟩
  have HNN:Hid (NV (w5.setCell ⟨R,3,none⟩ (.int .i64 (d:Int))) (Old N (W.heap.size+1)) (.agg #[.int .u8 k,.slice sp sn sc,.slice kp kn kc,.int .i64 mn,.int .i64 mx]) x):=Lib.hid (NV.gr (NV.imp hn (fun b hA hlt=>⟨hA.1,rfl⟩) (Nat.le_refl _)) (Gr.set (R:=R) w5 3 (.int .i64 (d:Int))) (by omega) (Nat.le_refl _) hN)
  have h5:=HB5.out.gr HG8.out (by omega)
  have h5':=HB5.out.gr HG7.out (by omega)
  obtain ⟨⟨x0,x1,x2,x3,x4,k0,k1,k2,k3,k4⟩,f0,f1,f2,f3,f4⟩:=h5'.cells
  have H5:=Lib.hid h5
  clear h5 h5' hb hn
  go_wp2
  exact ret_node rfl rfl H5.out ⟨_,x,rfl,put5_nv (R:=R) _ _ _ _ _ HNN.out (by omega) hRW (by omega),HIN.out.2,by rw [HIN.out.1];exact Rs.put5 HR8.out (by omega) _ _ _ _ _,put5_grR _ _ _ _ _ (HG0.out.trans HG8.out) (Nat.le_refl _)⟩
end
end Go.Proofs.YtioahgklplbinaaGreatDoor

/- The document's reader: an atom. -/
namespace Go.Proofs.YtioahgklplbinaaGreatDoor
open Go.RowKit Go.Shelf Go.Maps SetM PropsM RxM
section
variable {R:Nat} {W W' W0:World} {s:ByteArray} {dv:Value} {rest r:List Int} {N:Nat×Nat} {d f n:Nat} {z c:Int} {σ:Out Unit}
def atomQ (br nm : List Int → List Int → Out Nd) (cl : Bool) : List Int → Out Nd
 | []=>.err 60 []
 | c :: t => if c = 40 then br (c :: t) t
  else if c=123 then nm (c::t) t
  else if c=46 then .ok (chN cl (notK (Tells [(10,10)]))) t
  else if c=91 then classQ cl t
  else if c=92 then (match escF (c::t) t with
   | .err e x=>.err e x
   | .ok p r1=>.ok (chN cl (Tells (pcS p))) r1)
  else if inS stopS c then .err 60 (c::t)
  else .ok (chN cl (Tells [(c,c)])) t
theorem at1_ne {b c:Int} {t:List Int} (h:at1 b (c::t)=false):c≠b:=of_decide_eq_false h
set_option maxRecDepth 100000 in
set_option maxHeartbeats 8000000 in
theorem atom_q (hN : N.2 ≤ R) {br nm : List Int → List Int → Out Nd}
  (HBR:∀ (W:World) (rest r0:List Int),Gr R W0 W→Rr R W s dv rest d f→Calls Tryz.prog 127 #[.pointer (some ⟨R,0,none⟩),.int .i64 ((s.size:Int) - ((U.UtfM.wr r0).length:Nat))] W (NodeQ N R s dv d f (br r0 rest) W))
  (HNM:∀ (W:World) (rest r0:List Int),Gr R W0 W→Rr R W s dv rest d f→Calls Tryz.prog 128 #[.pointer (some ⟨R,0,none⟩),.int .i64 ((s.size:Int) - ((U.UtfM.wr r0).length:Nat))] W (NodeQ N R s dv d f (nm r0 rest) W)) :
  FQ 118 N R s dv d f W0 (fun _=>True) (atomQ br nm (decide (0 < f))):=by
 intro W rest _ hC h
 have hRW:=h.lt
 have hsm:=h.small
 obtain ⟨cl,hcl⟩:∃ cl,cl=decide (0 < f):=⟨_,rfl⟩
 rw [← hcl]
 have HCL:=Lib.hid hcl
 clear hcl
 obtain ⟨o,ho⟩:∃ o,o=atomQ br nm cl rest:=⟨_,rfl⟩
 rw [← ho]
 obtain ⟨V,hV⟩:∃ V,V=W.alloc (.cells #[.int .u8 0,.slice none 0 0,.slice none 0 0,.int .i64 0,.int .i64 0] 48):=⟨_,rfl⟩
 have hb0:Below W.heap.size W V:=by rw [hV];exact (Below.refl W.heap.size W).alloc (Nat.le_refl _) _
 have HZ:Hid (V.heap.size=W.heap.size+1):=Lib.hid (by rw [hV];exact World.size_alloc _ _)
 have HB5:Hid (B5 V W.heap.size):=Lib.hid (by rw [hV];exact B5.new W _ _ _ _ _)
 have HR:Hid (Rr R V s dv rest d f):=Lib.hid (h.kept hb0)
 have HG:Hid (Gr R V V):=Lib.hid (Gr.refl _ _)
 have HB0:=Lib.hid hb0
 have HC0:=Lib.hid (hC.trans (Gr.of hb0))
 have HBR:=Lib.hid HBR
 have HNM:=Lib.hid HNM
 have hzv:=HZ.out
 have c1:=h.c1
 have HSC:=Lib.hid h.sc
 clear h hb0 hC
 cases h40:at1 40 rest with
 | true =>
  have HO:Hid (o=br rest rest.tail):=Lib.hid (by rw [ho,at1_true h40];rfl)
  clear ho
  go_enter Tryz.func118,Tryz.ntmps118
  have HT:=Lib.hid (tk_yes 40 (by decide) HR.out h40)
  go_wp2_with fail
  rw [← hV]
  clear hV
  refine HT.out.mono ?_
  rintro e w1 ⟨rfl,h1,g1⟩
  have HR:Hid (Rr R w1 s dv rest.tail d f):=Lib.hid h1
  have HG:=Lib.hid (HG.out.trans g1)
  clear h1 g1 HT
  have HS:=Lib.hid (HBR.out w1 rest.tail rest (HC0.out.trans HG.out) HR.out)
  have hsz:=HG.out.size
  go_wp2_with fail
  refine HS.out.mono ?_
  rintro e w2 ⟨v,x,rfl,hv,hx,hr,g2⟩
  have HG:=Lib.hid (HG.out.trans g2)
  have HX:Hid (∀ y r,o=.ok y r→x=y):=Lib.hid (by rw [HO.out];exact hx)
  have HRR:Hid (Rs R w2 s dv d f (Out.u o)):=Lib.hid (by rw [HO.out];exact hr)
  clear g2 hx hr HS
  have h5:=HB5.out.gr HG.out (by omega)
  obtain ⟨⟨x0,x1,x2,x3,x4,k0,k1,k2,k3,k4⟩,f0,f1,f2,f3,f4⟩:=h5.cells
  have H5:=Lib.hid h5
  have HV:=Lib.hid hv
  obtain ⟨k,sp,sn,sc,kp,kn,kc,mn,mx,rfl⟩:=NV.form5 hv
  clear hv h5
  go_wp2
  exact ret_node rfl rfl H5.out ⟨_,_,rfl,put5_nv (R:=R) _ _ _ _ _ HV.out (by omega) hRW (by omega),HX.out,Rs.put5 HRR.out (by omega) _ _ _ _ _,put5_grR _ _ _ _ _ ((Gr.of HB0.out).trans HG.out) (Nat.le_refl _)⟩
 | false =>
 cases h123:at1 123 rest with
 | true =>
  have HO:Hid (o=nm rest rest.tail):=Lib.hid (by rw [ho,at1_true h123];rfl)
  clear ho
  go_enter Tryz.func118,Tryz.ntmps118
  have HT:=Lib.hid (tk_no 40 (by decide) HR.out h40)
  go_wp2_with fail
  rw [← hV]
  clear hV
  refine HT.out.mono ?_
  rintro e w1 ⟨rfl,h1,g1⟩
  have HR:Hid (Rr R w1 s dv rest d f):=Lib.hid h1
  have HG:=Lib.hid (HG.out.trans g1)
  clear h1 g1 HT
  have HT:=Lib.hid (tk_yes 123 (by decide) HR.out h123)
  go_wp2_with fail
  refine HT.out.mono ?_
  rintro e w1 ⟨rfl,h1,g1⟩
  have HR:Hid (Rr R w1 s dv rest.tail d f):=Lib.hid h1
  have HG:=Lib.hid (HG.out.trans g1)
  clear h1 g1 HT
  have HS:=Lib.hid (HNM.out w1 rest.tail rest (HC0.out.trans HG.out) HR.out)
  have hsz:=HG.out.size
  go_wp2_with fail
  refine HS.out.mono ?_
  rintro e w2 ⟨v,x,rfl,hv,hx,hr,g2⟩
  have HG:=Lib.hid (HG.out.trans g2)
  have HX:Hid (∀ y r,o=.ok y r→x=y):=Lib.hid (by rw [HO.out];exact hx)
  have HRR:Hid (Rs R w2 s dv d f (Out.u o)):=Lib.hid (by rw [HO.out];exact hr)
  clear g2 hx hr HS
  have h5:=HB5.out.gr HG.out (by omega)
  obtain ⟨⟨x0,x1,x2,x3,x4,k0,k1,k2,k3,k4⟩,f0,f1,f2,f3,f4⟩:=h5.cells
  have H5:=Lib.hid h5
  have HV:=Lib.hid hv
  obtain ⟨k,sp,sn,sc,kp,kn,kc,mn,mx,rfl⟩:=NV.form5 hv
  clear hv h5
  go_wp2
  exact ret_node rfl rfl H5.out ⟨_,_,rfl,put5_nv (R:=R) _ _ _ _ _ HV.out (by omega) hRW (by omega),HX.out,Rs.put5 HRR.out (by omega) _ _ _ _ _,put5_grR _ _ _ _ _ ((Gr.of HB0.out).trans HG.out) (Nat.le_refl _)⟩
 | false =>
 cases h46:at1 46 rest with
 | true =>
  have HO:Hid (o=.ok (chN cl (notK (Tells [(10,10)]))) rest.tail):=Lib.hid (by rw [ho,at1_true h46];rfl)
  clear ho
  go_enter Tryz.func118,Tryz.ntmps118
  have HT:=Lib.hid (tk_no 40 (by decide) HR.out h40)
  go_wp2_with fail
  rw [← hV]
  clear hV
  refine HT.out.mono ?_
  rintro e w1 ⟨rfl,h1,g1⟩
  have HR:Hid (Rr R w1 s dv rest d f):=Lib.hid h1
  have HG:=Lib.hid (HG.out.trans g1)
  clear h1 g1 HT
  have HT:=Lib.hid (tk_no 123 (by decide) HR.out h123)
  go_wp2_with fail
  refine HT.out.mono ?_
  rintro e w1 ⟨rfl,h1,g1⟩
  have HR:Hid (Rr R w1 s dv rest d f):=Lib.hid h1
  have HG:=Lib.hid (HG.out.trans g1)
  clear h1 g1 HT
  have HT:=Lib.hid (tk_yes 46 (by decide) HR.out h46)
  go_wp2_with fail
  refine HT.out.mono ?_
  rintro e w1 ⟨rfl,h1,g1⟩
  have HR:Hid (Rr R w1 s dv rest.tail d f):=Lib.hid h1
  have HG:=Lib.hid (HG.out.trans g1)
  clear h1 g1 HT
  have hal:=(Below.refl w1.heap.size w1).alloc (Nat.le_refl _) (.cells #[.int .i64 10,.int .i64 10] 45)
  have HNT:=Lib.hid (rnot_n (c:=1) (sl_new w1 10 10) (by simp) (wide_pt 10 (by omega)))
  have HR:=Lib.hid (Rr.kept HR.out hal)
  have HG:=Lib.hid (HG.out.trans (Gr.of hal))
  clear hal
  go_wp2_with fail
  refine HNT.out.mono ?_
  rintro e w4 ⟨P4,c4,o4,rfl,i4,n4,s4,z4,a4,b4⟩
  have HR:=Lib.hid (Rr.kept HR.out b4)
  have HG:=Lib.hid (HG.out.trans (Gr.of b4))
  have HI4:=Lib.hid i4
  have hw4:Wide o4:=wide_set i4 (fun _ h=>h.1)
  have n4':o4.length≤6:=by simpa using n4
  have HS4:=Lib.hid s4
  clear i4 s4 z4 a4 b4 HNT n4
  have HS:=Lib.hid (chars_q (σ:= .ok () rest.tail) (c:=c4) (K:=notK (Tells [(10,10)])) N hN HR.out HS4.out (by omega) (fun o1 h=>by
   have h2:=h.congr (HI4.out.tells (fun _ h=>h.1))
   rw [h2.eq HI4.out (fun _=>Iff.rfl)]
   omega) hw4 (fun y=>HI4.out.tells (fun _ h=>h.1) y))
  have hsz:=HG.out.size
  go_wp2_with fail
  refine HS.out.mono ?_
  rintro e w9 ⟨v,rfl,hv,b9⟩
  have HG:=Lib.hid (HG.out.trans (Gr.of b9))
  have HX:Hid (∀ y r,o=.ok y r→chN (decide (0 < f)) (notK (Tells [(10,10)]))=y):=Lib.hid (fun y r h=>(by rw [HO.out] at h;cases h;rw [HCL.out]))
  have HRR:Hid (Rs R w9 s dv d f (Out.u o)):=Lib.hid (by rw [HO.out];exact Rr.kept HR.out b9)
  clear b9 HS
  have h5:=HB5.out.gr HG.out (by omega)
  obtain ⟨⟨x0,x1,x2,x3,x4,k0,k1,k2,k3,k4⟩,f0,f1,f2,f3,f4⟩:=h5.cells
  have H5:=Lib.hid h5
  have HV:=Lib.hid hv
  obtain ⟨k,sp,sn,sc,kp,kn,kc,mn,mx,rfl⟩:=NV.form5 hv
  clear hv h5
  go_wp2
  exact ret_node rfl rfl H5.out ⟨_,_,rfl,put5_nv (R:=R) _ _ _ _ _ HV.out (by omega) hRW (by omega),HX.out,Rs.put5 HRR.out (by omega) _ _ _ _ _,put5_grR _ _ _ _ _ ((Gr.of HB0.out).trans HG.out) (Nat.le_refl _)⟩
 | false =>
 cases h91:at1 91 rest with
 | true =>
  have HO:Hid (o=classQ cl rest.tail):=Lib.hid (by rw [ho,at1_true h91];rfl)
  clear ho
  go_enter Tryz.func118,Tryz.ntmps118
  have HT:=Lib.hid (tk_no 40 (by decide) HR.out h40)
  go_wp2_with fail
  rw [← hV]
  clear hV
  refine HT.out.mono ?_
  rintro e w1 ⟨rfl,h1,g1⟩
  have HR:Hid (Rr R w1 s dv rest d f):=Lib.hid h1
  have HG:=Lib.hid (HG.out.trans g1)
  clear h1 g1 HT
  have HT:=Lib.hid (tk_no 123 (by decide) HR.out h123)
  go_wp2_with fail
  refine HT.out.mono ?_
  rintro e w1 ⟨rfl,h1,g1⟩
  have HR:Hid (Rr R w1 s dv rest d f):=Lib.hid h1
  have HG:=Lib.hid (HG.out.trans g1)
  clear h1 g1 HT
  have HT:=Lib.hid (tk_no 46 (by decide) HR.out h46)
  go_wp2_with fail
  refine HT.out.mono ?_
  rintro e w1 ⟨rfl,h1,g1⟩
  have HR:Hid (Rr R w1 s dv rest d f):=Lib.hid h1
  have HG:=Lib.hid (HG.out.trans g1)
  clear h1 g1 HT
  have HT:=Lib.hid (tk_yes 91 (by decide) HR.out h91)
  go_wp2_with fail
  refine HT.out.mono ?_
  rintro e w1 ⟨rfl,h1,g1⟩
  have HR:Hid (Rr R w1 s dv rest.tail d f):=Lib.hid h1
  have HG:=Lib.hid (HG.out.trans g1)
  clear h1 g1 HT
  have HS:=Lib.hid (class_q N hN HR.out)
  have hsz:=HG.out.size
  go_wp2_with fail
  refine HS.out.mono ?_
  rintro e w2 ⟨v,x,rfl,hv,hx,hr,g2⟩
  have HG:=Lib.hid (HG.out.trans g2)
  have HX:Hid (∀ y r,o=.ok y r→x=y):=Lib.hid (by rw [HO.out,HCL.out];exact hx)
  have HRR:Hid (Rs R w2 s dv d f (Out.u o)):=Lib.hid (by rw [HO.out,HCL.out];exact hr)
  clear g2 hx hr HS
  have h5:=HB5.out.gr HG.out (by omega)
  obtain ⟨⟨x0,x1,x2,x3,x4,k0,k1,k2,k3,k4⟩,f0,f1,f2,f3,f4⟩:=h5.cells
  have H5:=Lib.hid h5
  have HV:=Lib.hid hv
  obtain ⟨k,sp,sn,sc,kp,kn,kc,mn,mx,rfl⟩:=NV.form5 hv
  clear hv h5
  go_wp2
  exact ret_node rfl rfl H5.out ⟨_,_,rfl,put5_nv (R:=R) _ _ _ _ _ HV.out (by omega) hRW (by omega),HX.out,Rs.put5 HRR.out (by omega) _ _ _ _ _,put5_grR _ _ _ _ _ ((Gr.of HB0.out).trans HG.out) (Nat.le_refl _)⟩
 | false =>
 cases h92:at1 92 rest with
 | true =>
  have HO:Hid (o=match escF rest rest.tail with
   | .err e x=>.err e x
   | .ok p r1=>.ok (chN cl (Tells (pcS p))) r1):=Lib.hid (by rw [ho,at1_true h92];rfl)
  clear ho
  go_enter Tryz.func118,Tryz.ntmps118
  have HT:=Lib.hid (tk_no 40 (by decide) HR.out h40)
  go_wp2_with fail
  rw [← hV]
  clear hV
  refine HT.out.mono ?_
  rintro e w1 ⟨rfl,h1,g1⟩
  have HR:Hid (Rr R w1 s dv rest d f):=Lib.hid h1
  have HG:=Lib.hid (HG.out.trans g1)
  clear h1 g1 HT
  have HT:=Lib.hid (tk_no 123 (by decide) HR.out h123)
  go_wp2_with fail
  refine HT.out.mono ?_
  rintro e w1 ⟨rfl,h1,g1⟩
  have HR:Hid (Rr R w1 s dv rest d f):=Lib.hid h1
  have HG:=Lib.hid (HG.out.trans g1)
  clear h1 g1 HT
  have HT:=Lib.hid (tk_no 46 (by decide) HR.out h46)
  go_wp2_with fail
  refine HT.out.mono ?_
  rintro e w1 ⟨rfl,h1,g1⟩
  have HR:Hid (Rr R w1 s dv rest d f):=Lib.hid h1
  have HG:=Lib.hid (HG.out.trans g1)
  clear h1 g1 HT
  have HT:=Lib.hid (tk_no 91 (by decide) HR.out h91)
  go_wp2_with fail
  refine HT.out.mono ?_
  rintro e w1 ⟨rfl,h1,g1⟩
  have HR:Hid (Rr R w1 s dv rest d f):=Lib.hid h1
  have HG:=Lib.hid (HG.out.trans g1)
  clear h1 g1 HT
  have HT:=Lib.hid (tk_yes 92 (by decide) HR.out h92)
  go_wp2_with fail
  refine HT.out.mono ?_
  rintro e w1 ⟨rfl,h1,g1⟩
  have HR:Hid (Rr R w1 s dv rest.tail d f):=Lib.hid h1
  have HG:=Lib.hid (HG.out.trans g1)
  clear h1 g1 HT
  have HES:=Lib.hid (escape_q rest HR.out)
  go_wp2_with fail
  refine HES.out.mono ?_
  rintro e w5 ⟨P5,c5,l5,k5,rfl,l1,l2,l3,l4,l6,l7,l8,l9,hr,g5⟩
  have HR:=Lib.hid hr
  have HG:=Lib.hid (HG.out.trans g5)
  have HS5:=Lib.hid l3
  have HP5:=Lib.hid l9
  clear g5 hr l3 l4 l6 l7 l8 l9 HES
  have HS:=Lib.hid (chars_q (c:=c5) (K:=Tells l5) N hN HR.out HS5.out (by omega) (fun o1 h=>by have:=nf_len (l:=l5) h.1 h.2;omega) l2 (fun _=>Iff.rfl))
  have hsz:=HG.out.size
  go_wp2_with fail
  refine HS.out.mono ?_
  rintro e w9 ⟨v,rfl,hv,b9⟩
  have HG:=Lib.hid (HG.out.trans (Gr.of b9))
  have HX:Hid (∀ y r,o=.ok y r→chN (decide (0 < f)) (Tells l5)=y):=Lib.hid (fun y r h=>(by
   rw [HO.out] at h
   cases hes:escF rest rest.tail with
   | err e x=>rw [hes] at h;cases h
   | ok p r1 =>
    rw [hes] at h
    cases h
    rw [HCL.out,show Tells l5=Tells (pcS p) from funext fun y=>propext (pc_tells (HP5.out p _ hes) y)]))
  have HRR:Hid (Rs R w9 s dv d f (Out.u o)):=Lib.hid (by
   have h2:=HR.out.kept b9
   rw [HO.out]
   cases hes:escF rest rest.tail with
   | err e x=>rw [hes] at h2;exact h2
   | ok p r1=>rw [hes] at h2;exact h2)
  clear b9 HS
  have h5:=HB5.out.gr HG.out (by omega)
  obtain ⟨⟨x0,x1,x2,x3,x4,k0,k1,k2,k3,k4⟩,f0,f1,f2,f3,f4⟩:=h5.cells
  have H5:=Lib.hid h5
  have HV:=Lib.hid hv
  obtain ⟨k,sp,sn,sc,kp,kn,kc,mn,mx,rfl⟩:=NV.form5 hv
  clear hv h5
  go_wp2
  exact ret_node rfl rfl H5.out ⟨_,_,rfl,put5_nv (R:=R) _ _ _ _ _ HV.out (by omega) hRW (by omega),HX.out,Rs.put5 HRR.out (by omega) _ _ _ _ _,put5_grR _ _ _ _ _ ((Gr.of HB0.out).trans HG.out) (Nat.le_refl _)⟩
 | false =>
 obtain ⟨z,hz⟩:∃ z,z=lookS (.ok () rest):=⟨_,rfl⟩
 have hlk:=lookq_c HR.out
 rw [← hz] at hlk
 have HSEE:=Lib.hid (see_all (R:=R) (s:=s) (dv:=dv) (d:=d) (f:=f) z hz)
 have HIN:=Lib.hid (fun Y=>in_c z ⟨#[124,41,93,125,42,43,63]⟩ (by decide) (W:=Y))
 have hbl:bs (⟨#[124,41,93,125,42,43,63]⟩:ByteArray)=stopS:=rfl
 rw [hbl] at HIN
 clear hbl hz
 by_cases hbad:z < 0∨inS stopS z=true
 ·have HO:Hid (o=.err 60 rest):=Lib.hid (by
   rw [ho]
   rcases hlk with ⟨h1,h2⟩ | ⟨c,t,rfl,⟨h1,h2,h3⟩ | ⟨h1,h2,h3⟩⟩
   ·rw [h1];rfl
   ·subst h1
    have h5:inS stopS z=true:=hbad.elim (fun h=>absurd h (by omega)) id
    unfold atomQ
    dsimp only
    rw [if_neg (at1_ne h40),if_neg (at1_ne h123),if_neg (at1_ne h46),if_neg (at1_ne h91),if_neg (at1_ne h92),if_pos h5]
   ·have h5 : inS stopS z = true := hbad.elim (fun h => absurd h (by omega)) id
    have hm:z∈stopS:=List.contains_iff_mem.1 h5
    simp [stopS] at hm
    omega)
  clear ho hlk
  by_cases hz0:z < 0
  ·clear hbad
   go_enter Tryz.func118,Tryz.ntmps118
   have HT:=Lib.hid (tk_no 40 (by decide) HR.out h40)
   go_wp2_with fail
   rw [← hV]
   clear hV
   refine HT.out.mono ?_
   rintro e w1 ⟨rfl,h1,g1⟩
   have HR:Hid (Rr R w1 s dv rest d f):=Lib.hid h1
   have HG:=Lib.hid (HG.out.trans g1)
   clear h1 g1 HT
   have HT:=Lib.hid (tk_no 123 (by decide) HR.out h123)
   go_wp2_with fail
   refine HT.out.mono ?_
   rintro e w1 ⟨rfl,h1,g1⟩
   have HR:Hid (Rr R w1 s dv rest d f):=Lib.hid h1
   have HG:=Lib.hid (HG.out.trans g1)
   clear h1 g1 HT
   have HT:=Lib.hid (tk_no 46 (by decide) HR.out h46)
   go_wp2_with fail
   refine HT.out.mono ?_
   rintro e w1 ⟨rfl,h1,g1⟩
   have HR:Hid (Rr R w1 s dv rest d f):=Lib.hid h1
   have HG:=Lib.hid (HG.out.trans g1)
   clear h1 g1 HT
   have HT:=Lib.hid (tk_no 91 (by decide) HR.out h91)
   go_wp2_with fail
   refine HT.out.mono ?_
   rintro e w1 ⟨rfl,h1,g1⟩
   have HR:Hid (Rr R w1 s dv rest d f):=Lib.hid h1
   have HG:=Lib.hid (HG.out.trans g1)
   clear h1 g1 HT
   have HT:=Lib.hid (tk_no 92 (by decide) HR.out h92)
   go_wp2_with fail
   refine HT.out.mono ?_
   rintro e w1 ⟨rfl,h1,g1⟩
   have HR:Hid (Rr R w1 s dv rest d f):=Lib.hid h1
   have HG:=Lib.hid (HG.out.trans g1)
   clear h1 g1 HT
   clear c1
   go_wp2_with fail
   refine (HSEE.out _ HR.out).mono ?_
   rintro e w2 ⟨rfl,b1⟩
   have HG:=Lib.hid (HG.out.trans (Gr.of (R:=R) b1))
   have HR:=Lib.hid (Rr.kept HR.out b1)
   clear b1
   have HF:=Lib.hid (fail_c (σ:= .ok () rest) 60 ((s.size:Int) - ((U.UtfM.wr rest).length:Nat)) rest (by omega) (fun _ _ _=>rfl) HR.out)
   have c1:=HR.out.c1
   go_wp2_with fail
   refine HF.out.mono ?_
   rintro e w4 ⟨rfl,h1,g1⟩
   have HRR:Hid (Rs R w4 s dv d f (Out.u o)):=Lib.hid (by rw [HO.out];exact h1)
   have HG:=Lib.hid (HG.out.trans g1)
   have hsz:=HG.out.size
   have hv:NV w4 (Old N (W.heap.size+1)) (.agg #[.int .u8 0,.slice none 0 0,.slice none 0 0,.int .i64 0,.int .i64 0]) (.mk 0 none0 [] 0 0):=empty_nv
   have HX:Hid (∀ y r,o=.ok y r→(Nd.mk 0 none0 [] 0 0)=y):=Lib.hid (fun y r h=>(by rw [HO.out] at h;cases h))
   clear h1 g1 HF c1
   have h5:=HB5.out.gr HG.out (by omega)
   obtain ⟨⟨x0,x1,x2,x3,x4,k0,k1,k2,k3,k4⟩,f0,f1,f2,f3,f4⟩:=h5.cells
   have H5:=Lib.hid h5
   have HV:=Lib.hid hv
   clear hv h5
   go_wp2
   exact ret_node rfl rfl H5.out ⟨_,_,rfl,put5_nv (R:=R) _ _ _ _ _ HV.out (by omega) hRW (by omega),HX.out,Rs.put5 HRR.out (by omega) _ _ _ _ _,put5_grR _ _ _ _ _ ((Gr.of HB0.out).trans HG.out) (Nat.le_refl _)⟩
  ·have hz0' : ¬ z < 0 := hz0
   have hin:inS stopS z=true:=hbad.elim (fun h=>absurd h (by omega)) id
   rw [hin] at HIN
   clear hbad
   go_enter Tryz.func118,Tryz.ntmps118
   have HT:=Lib.hid (tk_no 40 (by decide) HR.out h40)
   go_wp2_with fail
   rw [← hV]
   clear hV
   refine HT.out.mono ?_
   rintro e w1 ⟨rfl,h1,g1⟩
   have HR:Hid (Rr R w1 s dv rest d f):=Lib.hid h1
   have HG:=Lib.hid (HG.out.trans g1)
   clear h1 g1 HT
   have HT:=Lib.hid (tk_no 123 (by decide) HR.out h123)
   go_wp2_with fail
   refine HT.out.mono ?_
   rintro e w1 ⟨rfl,h1,g1⟩
   have HR:Hid (Rr R w1 s dv rest d f):=Lib.hid h1
   have HG:=Lib.hid (HG.out.trans g1)
   clear h1 g1 HT
   have HT:=Lib.hid (tk_no 46 (by decide) HR.out h46)
   go_wp2_with fail
   refine HT.out.mono ?_
   rintro e w1 ⟨rfl,h1,g1⟩
   have HR:Hid (Rr R w1 s dv rest d f):=Lib.hid h1
   have HG:=Lib.hid (HG.out.trans g1)
   clear h1 g1 HT
   have HT:=Lib.hid (tk_no 91 (by decide) HR.out h91)
   go_wp2_with fail
   refine HT.out.mono ?_
   rintro e w1 ⟨rfl,h1,g1⟩
   have HR:Hid (Rr R w1 s dv rest d f):=Lib.hid h1
   have HG:=Lib.hid (HG.out.trans g1)
   clear h1 g1 HT
   have HT:=Lib.hid (tk_no 92 (by decide) HR.out h92)
   go_wp2_with fail
   refine HT.out.mono ?_
   rintro e w1 ⟨rfl,h1,g1⟩
   have HR:Hid (Rr R w1 s dv rest d f):=Lib.hid h1
   have HG:=Lib.hid (HG.out.trans g1)
   clear h1 g1 HT
   clear c1
   go_wp2_with fail
   refine (HSEE.out _ HR.out).mono ?_
   rintro e w2 ⟨rfl,b1⟩
   have HG:=Lib.hid (HG.out.trans (Gr.of (R:=R) b1))
   have HR:=Lib.hid (Rr.kept HR.out b1)
   clear b1
   go_wp2_with fail
   refine (HSEE.out _ HR.out).mono ?_
   rintro e w2 ⟨rfl,b1⟩
   have HG:=Lib.hid (HG.out.trans (Gr.of (R:=R) b1))
   have HR:=Lib.hid (Rr.kept HR.out b1)
   clear b1
   go_wp2_with fail
   refine (HIN.out _).mono ?_
   rintro e w9 ⟨rfl,rfl⟩
   have HF:=Lib.hid (fail_c (σ:= .ok () rest) 60 ((s.size:Int) - ((U.UtfM.wr rest).length:Nat)) rest (by omega) (fun _ _ _=>rfl) HR.out)
   have c1:=HR.out.c1
   go_wp2_with fail
   refine HF.out.mono ?_
   rintro e w4 ⟨rfl,h1,g1⟩
   have HRR:Hid (Rs R w4 s dv d f (Out.u o)):=Lib.hid (by rw [HO.out];exact h1)
   have HG:=Lib.hid (HG.out.trans g1)
   have hsz:=HG.out.size
   have hv:NV w4 (Old N (W.heap.size+1)) (.agg #[.int .u8 0,.slice none 0 0,.slice none 0 0,.int .i64 0,.int .i64 0]) (.mk 0 none0 [] 0 0):=empty_nv
   have HX:Hid (∀ y r,o=.ok y r→(Nd.mk 0 none0 [] 0 0)=y):=Lib.hid (fun y r h=>(by rw [HO.out] at h;cases h))
   clear h1 g1 HF c1
   have h5:=HB5.out.gr HG.out (by omega)
   obtain ⟨⟨x0,x1,x2,x3,x4,k0,k1,k2,k3,k4⟩,f0,f1,f2,f3,f4⟩:=h5.cells
   have H5:=Lib.hid h5
   have HV:=Lib.hid hv
   clear hv h5
   go_wp2
   exact ret_node rfl rfl H5.out ⟨_,_,rfl,put5_nv (R:=R) _ _ _ _ _ HV.out (by omega) hRW (by omega),HX.out,Rs.put5 HRR.out (by omega) _ _ _ _ _,put5_grR _ _ _ _ _ ((Gr.of HB0.out).trans HG.out) (Nat.le_refl _)⟩
 ·have hz0 : ¬ z < 0 := fun h => hbad (.inl h)
  have hin:inS stopS z=false:=by
   cases hh:inS stopS z with
   | true=>exact absurd (.inr hh) hbad
   | false=>rfl
  rw [hin] at HIN
  obtain ⟨c,t,hr,hc⟩:∃ c t,rest=c::t∧inS stopS c=false:=by
   rcases hlk with ⟨h1,h2⟩ | ⟨c,t,rfl,⟨h1,h2,h3⟩ | ⟨h1,h2,h3⟩⟩
   ·omega
   ·exact ⟨c,t,rfl,by rw [← h1];exact hin⟩
   ·refine ⟨c, t, rfl, ?_⟩
    rw [Bool.eq_false_iff]
    intro h
    have hm:c∈stopS:=List.contains_iff_mem.1 h
    simp [stopS] at hm
    omega
  have HO:Hid (o=.ok (chN cl (Tells [(c,c)])) t):=Lib.hid (by
   rw [ho,hr]
   rw [hr] at h40 h123 h46 h91 h92
   unfold atomQ
   dsimp only
   rw [if_neg (at1_ne h40),if_neg (at1_ne h123),if_neg (at1_ne h46),if_neg (at1_ne h91),if_neg (at1_ne h92),if_neg (by rw [hc];simp)])
  have HRE:=Lib.hid hr
  have HSN:Hid (-9223372036854775808≤c):=Lib.hid (by have:=HSC.out c (by rw [hr];simp);unfold U.UtfM.Sc at this;omega)
  clear ho hlk hbad hin hr hc
  go_enter Tryz.func118,Tryz.ntmps118
  have HT:=Lib.hid (tk_no 40 (by decide) HR.out h40)
  go_wp2_with fail
  rw [← hV]
  clear hV
  refine HT.out.mono ?_
  rintro e w1 ⟨rfl,h1,g1⟩
  have HR:Hid (Rr R w1 s dv rest d f):=Lib.hid h1
  have HG:=Lib.hid (HG.out.trans g1)
  clear h1 g1 HT
  have HT:=Lib.hid (tk_no 123 (by decide) HR.out h123)
  go_wp2_with fail
  refine HT.out.mono ?_
  rintro e w1 ⟨rfl,h1,g1⟩
  have HR:Hid (Rr R w1 s dv rest d f):=Lib.hid h1
  have HG:=Lib.hid (HG.out.trans g1)
  clear h1 g1 HT
  have HT:=Lib.hid (tk_no 46 (by decide) HR.out h46)
  go_wp2_with fail
  refine HT.out.mono ?_
  rintro e w1 ⟨rfl,h1,g1⟩
  have HR:Hid (Rr R w1 s dv rest d f):=Lib.hid h1
  have HG:=Lib.hid (HG.out.trans g1)
  clear h1 g1 HT
  have HT:=Lib.hid (tk_no 91 (by decide) HR.out h91)
  go_wp2_with fail
  refine HT.out.mono ?_
  rintro e w1 ⟨rfl,h1,g1⟩
  have HR:Hid (Rr R w1 s dv rest d f):=Lib.hid h1
  have HG:=Lib.hid (HG.out.trans g1)
  clear h1 g1 HT
  have HT:=Lib.hid (tk_no 92 (by decide) HR.out h92)
  go_wp2_with fail
  refine HT.out.mono ?_
  rintro e w1 ⟨rfl,h1,g1⟩
  have HR:Hid (Rr R w1 s dv rest d f):=Lib.hid h1
  have HG:=Lib.hid (HG.out.trans g1)
  clear h1 g1 HT
  clear c1
  go_wp2_with fail
  refine (HSEE.out _ HR.out).mono ?_
  rintro e w2 ⟨rfl,b1⟩
  have HG:=Lib.hid (HG.out.trans (Gr.of (R:=R) b1))
  have HR:=Lib.hid (Rr.kept HR.out b1)
  clear b1
  go_wp2_with fail
  refine (HSEE.out _ HR.out).mono ?_
  rintro e w2 ⟨rfl,b1⟩
  have HG:=Lib.hid (HG.out.trans (Gr.of (R:=R) b1))
  have HR:=Lib.hid (Rr.kept HR.out b1)
  clear b1
  go_wp2_with fail
  refine (HIN.out _).mono ?_
  rintro e w9 ⟨rfl,rfl⟩
  have HR:Hid (Rr R w2 s dv (c::t) d f):=Lib.hid (by have:=HR.out;rw [HRE.out] at this;exact this)
  have HSL:=Lib.hid (scalar_q HR.out)
  go_wp2_with fail
  refine HSL.out.mono ?_
  rintro e w5 ⟨g,rfl,hg,hs,h1,g1⟩
  have HR:=Lib.hid h1
  have HS5:=Lib.hid hs
  have HG:=Lib.hid (HG.out.trans g1)
  clear h1 g1 hs hg HSL
  have HS:=Lib.hid (chars_q (σ:= .ok () t) (c:=1) (K:=Tells [(c,c)]) N hN HR.out HS5.out (by simp) (fun o1 h=>by have:=nf_len (l:=[(c,c)]) h.1 h.2;simp at this;omega) (wide_pt _ HSN.out) (fun _=>Iff.rfl))
  have hsz:=HG.out.size
  go_wp2_with fail
  refine HS.out.mono ?_
  rintro e w9 ⟨v,rfl,hv,b9⟩
  have HG:=Lib.hid (HG.out.trans (Gr.of b9))
  have HX:Hid (∀ y r,o=.ok y r→chN (decide (0 < f)) (Tells [(c,c)])=y):=Lib.hid (fun y r h=>(by rw [HO.out] at h;cases h;rw [HCL.out]))
  have HRR:Hid (Rs R w9 s dv d f (Out.u o)):=Lib.hid (by rw [HO.out];exact Rr.kept HR.out b9)
  clear b9 HS
  have h5:=HB5.out.gr HG.out (by omega)
  obtain ⟨⟨x0,x1,x2,x3,x4,k0,k1,k2,k3,k4⟩,f0,f1,f2,f3,f4⟩:=h5.cells
  have H5:=Lib.hid h5
  have HV:=Lib.hid hv
  obtain ⟨k,sp,sn,sc,kp,kn,kc,mn,mx,rfl⟩:=NV.form5 hv
  clear hv h5
  go_wp2
  exact ret_node rfl rfl H5.out ⟨_,_,rfl,put5_nv (R:=R) _ _ _ _ _ HV.out (by omega) hRW (by omega),HX.out,Rs.put5 HRR.out (by omega) _ _ _ _ _,put5_grR _ _ _ _ _ ((Gr.of HB0.out).trans HG.out) (Nat.le_refl _)⟩
end
end Go.Proofs.YtioahgklplbinaaGreatDoor
