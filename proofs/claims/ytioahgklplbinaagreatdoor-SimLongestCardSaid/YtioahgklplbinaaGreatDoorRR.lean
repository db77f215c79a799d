/- RR6b, RR6c, RR6d, RR6f, in one text. -/
import Derived.Test.YtioahgklplbinaaGreatDoorRA
import Derived.Test.YtioahgklplbinaaGreatDoorRN
import Derived.Test.YtioahgklplbinaaGreatDoorRQ
import Derived.Test.YtioahgklplbinaaGreatDoorUQ
import Derived.Test.YtioahgklplbinaaGreatDoorPURE
namespace Go.Proofs.YtioahgklplbinaaGreatDoor
open Go.RowKit Go.Shelf Go.Maps SetM PropsM RxM
variable {R:Nat} {W:World} {i:Nat}
set_option maxRecDepth 100000 in
set_option maxHeartbeats 1000000 in
theorem rnorm_n {W:World} {P:Option Addr} {c:Nat} {l:List Sp} (hs:Sl W P l) (hl:l.length≤100000) (hw:Wide l):Calls Tryz.prog 38 #[.slice P l.length c] W (SetNew W (fun r=>Tells l r) (4+2*l.length)):=by
 obtain ⟨w,hwW⟩:∃ w,w=W:=⟨_,rfl⟩
 rw [← hwW] at hs ⊢
 clear hwW
 have hc:=rmake_any P none c 0 l [] 2 (by simp) hl (by simp) hw (fun s h=>by simp at h) w hs Spans.nil
 have HC:=Lib.hid hc
 clear hc hs hw
 go_enter Tryz.func38,Tryz.ntmps38
 go_wp2_with fail
 refine HC.out.mono ?_
 rintro e w' h
 obtain ⟨v,out,rfl,h2,h3,h4,h5,h6⟩:=h
 go_wp2
 go_ret
 exact SetPost.toNew ⟨v,out,rfl,h2,fun r=>(h3 r).trans (by rw [kf2];have h0:Tells l r→Sc r:=fun h=>h.1;have h1:=tells_nil r;simp [h1];exact h0),by simpa using h4,h5,h6⟩
theorem sl_new (W:World) (x y:Int):Sl (W.alloc (.cells #[.int .i64 x,.int .i64 y] 45)) (some ⟨W.heap.size,0,none⟩) [(x,y)]:=fun _=>⟨W.heap.size,0,rfl,by rw [World.size_alloc];exact Nat.lt_succ_self _,fun j hj=>by
 have:j=0:=by simpa using hj
 subst this
 exact ⟨cell_of_row _ W.heap.size 0 _ _ _ (heap_alloc_new W _),cell_of_row _ W.heap.size 1 _ _ _ (heap_alloc_new W _)⟩⟩
end Go.Proofs.YtioahgklplbinaaGreatDoor
namespace Go.Proofs.YtioahgklplbinaaGreatDoor
open Go.RowKit Go.Shelf Go.Maps SetM PropsM RxM
variable {R:Nat} {W:World} {i:Nat}
end Go.Proofs.YtioahgklplbinaaGreatDoor
namespace Go.Proofs.YtioahgklplbinaaGreatDoor
open Go.RowKit Go.Shelf Go.Maps SetM PropsM RxM
variable {R:Nat} {W:World} {i:Nat}
theorem sl_cells {W:World} {g:Nat} {x y:Int} (h:Sl W (some ⟨g,0,none⟩) [(x,y)]):g < W.heap.size∧W.cell? ⟨g,0,none⟩=some (.int .i64 x)∧W.cell? ⟨g,1,none⟩=some (.int .i64 y):=by
 obtain ⟨b,off,e,hb,hc⟩:=h (by simp)
 cases e
 have:=hc 0 (by simp)
 exact ⟨hb,by simpa using this.1,by simpa using this.2⟩
theorem Gr.cellAt {R:Nat} {W W':World} (h:Gr R W W') {g o:Nat} (hg:g < W.heap.size) (hne:g≠R):W'.cell? ⟨g,o,none⟩=W.cell? ⟨g,o,none⟩:=World.cell?_of_block (h.block g hg (fun e=>hne (by cases e;rfl)))
theorem sl_gr {R:Nat} {W W':World} {P:Option Addr} {l:List Sp} (h:Sl W P l) (hg:Gr R W W') (hne:∀ a,P=some a→a.block≠R):Sl W' P l:=fun hn=>by
 obtain ⟨b,off,e,hb,hc⟩:=h hn
 have:=hne _ e
 exact ⟨b,off,e,Nat.lt_of_lt_of_le hb hg.size,fun j hj=>⟨(hg.cellAt hb this).trans (hc j hj).1,(hg.cellAt hb this).trans (hc j hj).2⟩⟩
end Go.Proofs.YtioahgklplbinaaGreatDoor
namespace Go.Proofs.YtioahgklplbinaaGreatDoor
open Go.RowKit Go.Shelf Go.Maps SetM PropsM RxM
variable {R:Nat} {W:World} {i j:Nat}
theorem row_one {W : World} {base : Nat} {A : Nat → Prop} {v : Value} {t : Nd} (hown : RowN W base A v [t]) :
  ∃ (g cap:Nat) (k:Int) (sp:Option Addr) (sn sc:Nat) (kp:Option Addr) (kn kc:Nat) (mn mx:Int),v=.slice (some ⟨g,0,none⟩) 1 cap∧NV W A (.agg #[.int .u8 k,.slice sp sn sc,.slice kp kn kc,.int .i64 mn,.int .i64 mx]) t ∧
   W.cell? ⟨g,0,none⟩=some (.int .u8 k)∧W.cell? ⟨g,1,none⟩=some (.slice sp sn sc)∧W.cell? ⟨g,2,none⟩=some (.slice kp kn kc)∧W.cell? ⟨g,3,none⟩=some (.int .i64 mn)∧W.cell? ⟨g,4,none⟩=some (.int .i64 mx):=by
 obtain ⟨us,h1,h2⟩:=hown
 obtain ⟨m,hm,hi⟩:=h2
 match us,hm with
 | [u],_ =>
  have hu:=hi 0 (by simp) u rfl
  obtain ⟨uk,sp,sn,sc,kp,kn,kc,mn,mx,rfl⟩:=hu.form5
  obtain ⟨g,cap,rfl,hbg,hg⟩:=h1.form (by simp)
  have hc:=h1.cells (g:=g) rfl
  have e0:∀ j,(⟨g,0,none⟩:Addr).add j=⟨g,j,none⟩:=fun j=>by unfold Addr.add;split <;> simp_all
  refine ⟨g,cap,uk,sp,sn,sc,kp,kn,kc,mn,mx,rfl,NV.imp ⟨m,hu⟩ (fun x hx hlt=>⟨hx.1,rfl⟩) (Nat.le_refl _),?_,?_,?_,?_,?_⟩
  ·have:=hc 0 _ rfl;rwa [e0] at this
  ·have:=hc 1 _ rfl;rwa [e0] at this
  ·have:=hc 2 _ rfl;rwa [e0] at this
  ·have:=hc 3 _ rfl;rwa [e0] at this
  ·have:=hc 4 _ rfl;rwa [e0] at this
end Go.Proofs.YtioahgklplbinaaGreatDoor
