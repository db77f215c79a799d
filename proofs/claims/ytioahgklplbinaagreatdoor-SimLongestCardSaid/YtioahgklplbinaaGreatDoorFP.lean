/- FOrbit, FRefO, in one text. -/
import Derived.Test.YtioahgklplbinaaGreatDoorFO
import Derived.Test.YtioahgklplbinaaGreatDoorPURE
import Derived.Test.YtioahgklplbinaaGreatDoorRE
namespace Go.Proofs.YtioahgklplbinaaGreatDoor
open Go.RowKit Go.Shelf SetM
def IntsW (W:World) (P:Option Addr) (l:List Int):Prop:=Ints W.heap.size W P l
theorem IntsW.step {W W':World} {P:Option Addr} {l:List Int} (h:IntsW W P l) (hb:Below W.heap.size W W'):IntsW W' P l:=(Ints.below hb h).mono hb.size
end Go.Proofs.YtioahgklplbinaaGreatDoor
namespace Go.Proofs.YtioahgklplbinaaGreatDoor
open Go.RowKit Go.Shelf SetM
theorem all_tells (r:Int):Tells [(0,1114111)] r↔Sc r:=⟨fun h=>h.1,fun h=>⟨h,(mem_cons _ _ _).2 (.inl (by unfold Sc at h;show 0≤r∧r≤1114111;omega))⟩⟩
set_option maxRecDepth 100000 in
set_option maxHeartbeats 2000000 in
theorem rorbit_c (r:Int) (W:World):Calls Tryz.prog 148 #[.int .i64 r] W fun e W'=>∃ P c o,e=.returned (.slice P (List.length o) c)∧IsOrbit r o∧IntsW W' P o∧Below W.heap.size W W':=by
 obtain ⟨i0,hi,hz0,hz1,hz2⟩:=info_parts infoI
 have hb0:Below W.heap.size W (W.alloc (.cells (cellsS [(0,1114111)]).toArray 45)):=(Below.refl _ W).alloc (Nat.le_refl _) _
 have hz0':(W.alloc (.cells (cellsS [(0,1114111)]).toArray 45)).heap.size=W.heap.size+1:=World.size_alloc _ _
 have hs0:=spans_new W [(0,1114111)]
 rw [← hz0'] at hs0
 have hh:=rhas_any (some ⟨W.heap.size,0,none⟩) 1 [(0,1114111)] r _ hs0 (by simp)
 rw [show (cellsS [(0,1114111)]).toArray = #[.int .i64 0,.int .i64 1114111] from rfl] at hh hb0
 have HH:=Lib.hid hh
 have HB0:=Lib.hid hb0
 clear hh hs0 hz0' hb0
 by_cases hsc:Sc r
 ·have hd : decide (Tells [(0, 1114111)] r) = true := decide_eq_true ((all_tells r).2 hsc)
  rw [hd] at HH
  have HO:=Lib.hid (doc_orbit r hsc)
  clear hd hsc
  go_enter Tryz.func148,Tryz.ntmps148
  go_wp2_with (go_at_call 65;refine HH.out.mono ?_;rintro e w1 ⟨rfl,rfl⟩)
  have hbx:=HB0.out
  generalize W.alloc (.cells #[.int .i64 0,.int .i64 1114111] 45)=W1 at *
  clear HH HB0
  go_loopg [3,5] 12288 (fun g s3 s5 wx=>∃ k:Nat,k+g=12288∧s5=.int .i64 k∧wx.ownsRow W.heap.size 3 1 s3 (docL r k).length ((docL r k).map (Value.int .i64))∧Below W.heap.size W wx)
  case atStart=>exact ⟨0,by omega,rfl,World.ownsRow_nil _ _ _ _,hbx⟩
  case round =>
   obtain ⟨k,hkg,rfl,hown,hb⟩:=hrel
   have hdl:=docL_len r k
   have hsz:=hb.size
   clear hbx
   cases gk with
   | zero =>
    have hkz:¬ ((k:Int) < 12288):=by omega
    obtain rfl:k=12288:=by omega
    by_cases hr:12288≤r
    ·have HO2 := HO.out
     rw [if_pos hr] at HO2
     have HO:=Lib.hid HO2
     clear HO2
     go_wp2_with (at_builtin;refine wpList_append_own _ rfl _ _ 27 rfl W.heap.size 3 i0 (.int .i64 0) 1 8 Tryz.underlying27 hi hz0 hz1 hz2 rfl (by decide) _ _ _ rfl (hown.alloc _) ⟨wr.heap.size,0,none⟩ 1 1 [.int .i64 r] rfl rfl (cell_news _ _ _) (by simp [Value.oneCell']) (by unfold maxLen;omega) (by omega) (by rw [World.size_alloc];omega) ?_;intro v' w6 hown' hgrow _)
     have hb6:=(hb.alloc hsz (.cells #[.int .i64 r] 3)).grown hgrow (by rw [World.size_alloc];omega) (fun j hj=>(hown.lt j hj).1)
     have hown7:w6.ownsRow W.heap.size 3 1 v' (docL r 12288++[r]).length ((docL r 12288++[r]).map (Value.int .i64)):=by rw [List.length_append,List.map_append];exact hown'
     obtain ⟨P2,c2,rfl,hi2,_⟩:=ints_of hown7
     have H2:=Lib.hid hi2
     clear hi2 hown7 hown' hgrow hown
     go_ret
     exact ⟨P2,c2,_,rfl,HO.out,H2.out,hb6⟩
    ·have HO2 := HO.out
     rw [if_neg hr,List.append_nil] at HO2
     have HO:=Lib.hid HO2
     clear HO2
     obtain ⟨P2,c2,rfl,hi2,_⟩:=ints_of hown
     have H2:=Lib.hid hi2
     clear hi2 hown
     go_wp2
     go_ret
     exact ⟨P2,c2,_,rfl,HO.out,H2.out,hb⟩
   | succ g =>
    have hkz:(k:Int) < 12288:=by omega
    have HS:=Lib.hid (docL_succ r k)
    generalize docL r k=L at *
    have hfk:=rfold_c (k:Int)
    have hfr:=rfold_c r
    generalize foldF (k:Int)=fk at *
    generalize foldF r=fr at *
    have HFK:=Lib.hid hfk
    have HFR:=Lib.hid hfr
    clear hfk hfr
    by_cases he:fk=fr
    ·have HS2 := HS.out
     rw [if_pos he] at HS2
     have HS:=Lib.hid HS2
     clear HS2
     have he2:(fk == fr)=true:=by rw [beq_iff_eq];exact he
     clear he
     go_wp2_with (first | (go_at_call 147;(with_reducible refine (HFK.out _).mono ?_);rintro e w2 ⟨rfl,rfl⟩) | (go_at_call 147;(with_reducible refine (HFR.out _).mono ?_);rintro e w2 ⟨rfl,rfl⟩) | (at_builtin;refine wpList_append_own _ rfl _ _ 27 rfl W.heap.size 3 i0 (.int .i64 0) 1 8 Tryz.underlying27 hi hz0 hz1 hz2 rfl (by decide) _ _ _ rfl (hown.alloc _) ⟨wr.heap.size,0,none⟩ 1 1 [.int .i64 k] rfl rfl (cell_news _ _ _) (by simp [Value.oneCell']) (by unfold maxLen;omega) (by omega) (by rw [World.size_alloc];omega) ?_;intro v' w6 hown' hgrow _))
     go_roundg g
     case measure=>omega
     case rel =>
      have hb6:=(hb.alloc hsz (.cells #[.int .i64 k] 3)).grown hgrow (by rw [World.size_alloc];omega) (fun j hj=>(hown.lt j hj).1)
      exact ⟨k+1,by omega,by go_num,by rw [HS.out,List.length_append,List.map_append];exact hown',hb6⟩
    ·have HS2 := HS.out
     rw [if_neg he,List.append_nil] at HS2
     have HS:=Lib.hid HS2
     clear HS2
     have he2:(fk == fr)=false:=by rw [beq_eq_false_iff_ne];exact he
     clear he
     go_wp2_with (first | (go_at_call 147;(with_reducible refine (HFK.out _).mono ?_);rintro e w2 ⟨rfl,rfl⟩) | (go_at_call 147;(with_reducible refine (HFR.out _).mono ?_);rintro e w2 ⟨rfl,rfl⟩))
     go_roundg g
     case measure=>omega
     case rel=>exact ⟨k+1,by omega,by go_num,by rw [HS.out];exact hown,hb⟩
 ·have hd : decide (Tells [(0, 1114111)] r) = false := decide_eq_false (fun h => hsc ((all_tells r).1 h))
  rw [hd] at HH
  have HO:=Lib.hid (no_orbit hsc)
  clear hd hsc
  go_enter Tryz.func148,Tryz.ntmps148
  go_wp2_with (go_at_call 65;refine HH.out.mono ?_;rintro e w1 ⟨rfl,rfl⟩)
  go_ret
  exact ⟨none,0,[],rfl,HO.out,fun h=>absurd rfl h,HB0.out⟩
end Go.Proofs.YtioahgklplbinaaGreatDoor
