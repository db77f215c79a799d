/- PLoose, PMap, PRLoose, PRSpans, PREnds, in one text. -/
import Derived.Handy
import Derived.Test.YtioahgklplbinaaGreatDoorPURE
import Derived.Test.YtioahgklplbinaaGreatDoorWE
import Derived.Lib.Hide
import Derived.WalkKit
import Derived.WalkMore
import Derived.Outline
import Derived.Deep.LoopGhost
import Derived.Deep.QuietTactic
import Derived.BigQuiet
import Derived.Deep.DeepCutAuto
import Derived.Test.YtioahgklplbinaaGreatDoorSET
import Derived.Maps.OwnOps
import Derived.Maps.OwnSet
import Derived.Maps.Views
import Derived.Sort.KeysCollected
import Derived.Laws.BytesArg
import Derived.Laws.Concat
import Derived.Laws.Strings2
import Derived.Test.YtioahgklplbinaaGreatDoorFO
import Derived.Laws.AppendOwnNone
import Derived.Test.YtioahgklplbinaaGreatDoorRE
import Derived.Deep.AppendLies
import Derived.Deep.RegionLaw
import Derived.WalkSmall
import Derived.IntWalk
namespace Go.Proofs.YtioahgklplbinaaGreatDoor
open Go.RowKit Go.Shelf SetM PropsM
theorem str_ix (s:ByteArray) (k:Nat) (h:k < s.data.toList.length):∀ w,(Instr.index 9 (.string s) (.int .i64 (k:Int))).run Tryz.prog w=.ok (.int .u8 ((s.data.toList[k].toNat:Nat):Int)) w:=by
 intro w
 have h1:k < s.size:=h
 rw [run_index_string w 9 s .i64 k Tryz.underlying9,dif_pos ⟨by omega,by omega⟩]
 rfl
theorem size_data (s:ByteArray):s.size=s.data.toList.length:=rfl
end Go.Proofs.YtioahgklplbinaaGreatDoor
namespace Go.Proofs.YtioahgklplbinaaGreatDoor
open Go.RowKit Go.Shelf Go.Maps SetM PropsM
def Strs (n₀:Nat) (W:World) (A:Option Addr) (l:List Bs):Prop :=
 l≠[]→∃ b off,A=some ⟨b,off,none⟩∧b < n₀∧∀ j (h:j < l.length),W.cell? ⟨b,off+j,none⟩=some (.string ⟨l[j].toArray⟩)
theorem strs_new (W:World) (l:List Bs) (T:TypeId):Strs (W.alloc (.cells (l.map fun x=>Value.string ⟨x.toArray⟩).toArray T)).heap.size (W.alloc (.cells (l.map fun x=>Value.string ⟨x.toArray⟩).toArray T)) (some ⟨W.heap.size,0,none⟩) l:=fun _ =>
 ⟨W.heap.size,0,rfl,by rw [World.size_alloc];omega,fun j hj=>by
  rw [cell_of_row _ W.heap.size _ _ _ _ (heap_alloc_new W _),List.getElem?_toArray,List.getElem?_map,Nat.zero_add,List.getElem?_eq_getElem hj];rfl⟩
theorem cell_lt {W:World} {a:Addr} {v:Value} (hc:W.cell? a=some v):a.block < W.heap.size:=by
 unfold World.cell? at hc
 rcases Nat.lt_or_ge a.block W.heap.size with h | h
 ·exact h
 ·rw [Array.getElem?_eq_none h] at hc;simp at hc
end Go.Proofs.YtioahgklplbinaaGreatDoor
namespace Go.Proofs.YtioahgklplbinaaGreatDoor
open Go.RowKit Go.Shelf SetM PropsM
theorem one_conv (w:World) (x:UInt8):(convert 50 9 (.slice (some ⟨w.heap.size,0,none⟩) 1 1)).run Tryz.prog (w.alloc (.cells #[.int .u8 ((x.toNat:Nat):Int)] 5))=.ok (.string ⟨#[x]⟩) (w.alloc (.cells #[.int .u8 ((x.toNat:Nat):Int)] 5)):=by
 have h:=run_convert_bytes_arg (w.alloc (.cells #[.int .u8 ((x.toNat:Nat):Int)] 5)) 50 5 Tryz.underlying50 Tryz.underlying5 w.heap.size 0 1 1 [((x.toNat:Nat):Int)] rfl (fun i hi=>by
  rw [cell_of_row _ w.heap.size _ _ _ _ (heap_alloc_new w _)]
  match i,hi with
  | 0,_=>rfl) 9 Tryz.underlying9
 rw [h]
 have e:strOfNums [((x.toNat:Nat):Int)]=⟨#[x]⟩:=by simp [strOfNums]
 rw [e]
theorem str_add (acc y:Bs) (h:acc.length≤1000000) (hy:y.length≤1000000):∀ w t,(binOp .add t (.string ⟨acc.toArray⟩) (.string ⟨y.toArray⟩)).run Tryz.prog w=.ok (.string ⟨(acc++y).toArray⟩) w:=by
 intro w t
 rw [binOp_string_add]
 exact run_string_add_lists w acc y (by omega) (by omega)
set_option maxRecDepth 100000 in
set_option maxHeartbeats 2000000 in
theorem rloose_any (s : ByteArray) (hs : s.data.toList.length ≤ 1000000) (w : World) :
  Calls Tryz.prog 159 #[.string s] w fun e w'=>e=.returned (.string ⟨(looseL s.data.toList).toArray⟩)∧Below w.heap.size w w':=by
 have HIX:=Lib.hid (str_ix s)
 have HSZ:=Lib.hid (size_data s)
 go_enter Tryz.func159,Tryz.ntmps159
 go_wp2
 go_loopg [3,4] s.size (fun g s3 s4 wx=>∃ k:Nat,k+g=s.size∧s4=.int .i64 k∧s3=.string ⟨(sq (s.data.toList.take k)).toArray⟩∧Below w.heap.size w wx)
 case atStart=>exact ⟨0,by omega,rfl,rfl,Below.refl _ w⟩
 case round =>
  obtain ⟨k,hkg,rfl,rfl,hb⟩:=hrel
  cases gk with
  | zero =>
   have hkz:¬ ((k:Int) < (s.size:Int)):=by omega
   have HT:s.data.toList.take k=s.data.toList:=List.take_of_length_le (by have:=HSZ.out;omega)
   have HQ:(sq s.data.toList).length≤1000000:=Nat.le_trans (sq_len _) hs
   have HL:=Lib.hid (show looseL s.data.toList=cutIs (sq s.data.toList) from rfl)
   rw [HT]
   generalize sq s.data.toList=q at *
   clear HT HIX
   have hx1:({ data:=q.toArray }:ByteArray).extract 0 2=⟨(q.take 2).toArray⟩:=by rw [ByteArray.extract_mk];rfl
   have hx2:({ data:=q.toArray }:ByteArray).extract 2 q.length=⟨(q.drop 2).toArray⟩:=by rw [ByteArray.extract_mk,List.take_of_length_le (by rw [List.length_drop];omega)]
   by_cases h2:2 < q.length
   ·by_cases h1 : q.take 2 = [105, 115]
    ·have G := Lib.hid (HL.out.trans (if_pos ⟨h2, h1⟩))
     go_wp2
     go_ret
     exact ⟨by rw [G.out];rfl,hb⟩
    ·have G := Lib.hid (HL.out.trans (if_neg (fun h => h1 h.2)))
     have h1':(q.take 2 == [105,115])=false:=by simpa using h1
     clear h1
     go_wp2
     go_ret
     exact ⟨by rw [G.out];rfl,hb⟩
   ·have G := Lib.hid (HL.out.trans (if_neg (fun h => h2 h.1)))
    have hz:¬ ((2:Int) < (q.length:Int)):=by omega
    go_wp2
    go_ret
    exact ⟨by rw [G.out];rfl,hb⟩
  | succ g =>
   have hk:k < s.data.toList.length:=by have:=HSZ.out;omega
   have hkz:(k:Int) < (s.size:Int):=by omega
   have hix:=HIX.out k hk
   have HT:=Lib.hid (sq_take hk)
   have HLE:(sq (s.data.toList.take k)).length≤1000000:=Nat.le_trans (sq_len _) (by rw [List.length_take];omega)
   have HBW:=hb.size
   generalize s.data.toList[k]=x at *
   generalize sq (s.data.toList.take k)=acc at *
   have hx0:(0:Int)≤(x.toNat:Int):=by omega
   have hx1:(x.toNat:Int)≤255:=by have:=x.toNat_lt;omega
   by_cases h1:(x.toNat:Int)=45
   ·rw [sq1_skip (.inl h1), List.append_nil] at HT
    have g1:((x.toNat:Int) == 45)=true:=by simpa using h1
    clear h1
    go_wp2
    go_roundg g
    case measure=>omega
    case rel=>exact ⟨k+1,by omega,by go_num,by rw [HT.out],hb⟩
   ·have g1 : ((x.toNat : Int) == 45) = false := by simpa using h1
    by_cases h2:(x.toNat:Int)=95
    ·rw [sq1_skip (.inr (.inl h2)), List.append_nil] at HT
     have g2:((x.toNat:Int) == 95)=true:=by simpa using h2
     clear h1 h2
     go_wp2
     go_roundg g
     case measure=>omega
     case rel=>exact ⟨k+1,by omega,by go_num,by rw [HT.out],hb⟩
    ·have g2 : ((x.toNat : Int) == 95) = false := by simpa using h2
     by_cases h3:(x.toNat:Int)=32
     ·rw [sq1_skip (.inr (.inr h3)), List.append_nil] at HT
      have g3:((x.toNat:Int) == 32)=true:=by simpa using h3
      clear h1 h2 h3
      go_wp2
      go_roundg g
      case measure=>omega
      case rel=>exact ⟨k+1,by omega,by go_num,by rw [HT.out],hb⟩
     ·have g3 : ((x.toNat : Int) == 32) = false := by simpa using h3
      by_cases h4:(65:Int)≤(x.toNat:Int)
      ·by_cases h5 : (x.toNat : Int) ≤ 90
       ·obtain ⟨e1, e2⟩ := sq1_low h4 h5
        rw [e1] at HT
        have hcv:=one_conv wr (x+32)
        rw [e2] at hcv
        have had:=str_add acc [x+32] HLE (by simp)
        clear e1 e2 h1 h2 h3
        go_wp2
        go_roundg g
        case measure=>omega
        case rel=>exact ⟨k+1,by omega,by go_num,by rw [HT.out];exact congrArg Value.string (ByteArray.mk_append_mk acc [_]),hb.alloc HBW _⟩
       ·rw [sq1_stay h1 h2 h3 (fun h => h5 h.2)] at HT
        have hcv:=one_conv wr x
        have had:=str_add acc [x] HLE (by simp)
        clear h1 h2 h3
        go_wp2
        go_roundg g
        case measure=>omega
        case rel=>exact ⟨k+1,by omega,by go_num,by rw [HT.out];exact congrArg Value.string (ByteArray.mk_append_mk acc [_]),hb.alloc HBW _⟩
      ·rw [sq1_stay h1 h2 h3 (fun h => h4 h.1)] at HT
       have hcv:=one_conv wr x
       have had:=str_add acc [x] HLE (by simp)
       clear h1 h2 h3
       go_wp2
       go_roundg g
       case measure=>omega
       case rel=>exact ⟨k+1,by omega,by go_num,by rw [HT.out];exact congrArg Value.string (ByteArray.mk_append_mk acc [_]),hb.alloc HBW _⟩
end Go.Proofs.YtioahgklplbinaaGreatDoor
namespace Go.Proofs.YtioahgklplbinaaGreatDoor
open Go.RowKit Go.Shelf SetM
def flatS (l:List Sp):List Int:=l.flatMap fun s=>[s.1,s.2]
theorem flatS_len (l:List Sp):(flatS l).length=2*l.length:=by
  induction l with
  | nil=>rfl
  | cons s t ih => have : flatS (s :: t) = [s.1, s.2] ++ flatS t := rfl
                   rw [this,List.length_append,ih,List.length_cons];simp;omega
theorem flatS_at (l:List Sp):∀ (k:Nat) (h:k < l.length),(flatS l)[2*k]'(by rw [flatS_len];omega)=l[k].1∧(flatS l)[2*k+1]'(by rw [flatS_len];omega)=l[k].2:=by
 induction l with
 | nil=>intro k h;simp at h
 | cons s t ih =>
  intro k h
  match k,h with
  | 0,_=>exact ⟨rfl,rfl⟩
  | k+1,h=>exact ih k (by simpa using h)
set_option maxRecDepth 100000 in
set_option maxHeartbeats 4000000 in
theorem rspans_any (P : Option Addr) (c n : Nat) (l : List Sp) (hn : n = 2 * l.length) (hl : l.length ≤ 1000) (w : World) (hI : Ints w.heap.size w P (flatS l)) :
  Calls Tryz.prog 161 #[.slice P n c] w fun e w'=>∃ P' c',e=.returned (.slice P' l.length c')∧Sl w' P' l∧(P'=none→c'=0)∧Below w.heap.size w w':=by
 obtain ⟨i0,hi0,hz0,hz1,hz2⟩:=info_parts infoS
 have HI:=Lib.hid hI
 have HN:=Lib.hid hn
 have HF:=Lib.hid (flatS_at l)
 have HFL:=Lib.hid (flatS_len l)
 clear hI hn
 go_enter Tryz.func161,Tryz.ntmps161
 go_wp2
 go_loopg [3,4] l.length (fun g s3 s4 wx=>∃ k m:Nat,k+g=l.length∧m=2*k∧s4=.int .i64 m∧wx.ownsRow w.heap.size 45 2 s3 (l.take k).length (cellsS (l.take k))∧Below w.heap.size w wx)
 case atStart=>exact ⟨0,0,by omega,rfl,rfl,World.ownsRow_nil _ _ _ _,Below.refl _ _⟩
 case round =>
  obtain ⟨k,m,hkg,hm,rfl,hown,hb⟩:=hrel
  have HM:=Lib.hid hm
  clear hm
  have hmb:(m:Int)≤2000:=by have:=HM.out;omega
  have hw1:wrap64 ((m:Int)+1)=(m:Int)+1:=IntWalk.wrap64_in _ ⟨by omega,by omega⟩
  have hw3:wrap64 ((m:Int)+2)=(m:Int)+2:=IntWalk.wrap64_in _ ⟨by omega,by omega⟩
  cases gk with
  | zero =>
   have hkz:¬ ((m:Int)+1 < (n:Int)):=by have:=HN.out;have:=HM.out;omega
   rw [List.take_of_length_le (by omega)] at hown
   go_wp2
   go_ret
   obtain ⟨P',c',rfl,hs,hp⟩:=spans_of0 hown
   exact ⟨P',c',rfl,hs,hp,hb⟩
  | succ g =>
   have hk:k < l.length:=by omega
   have hkz:(m:Int)+1 < (n:Int):=by have:=HN.out;have:=HM.out;omega
   have hkz0:(m:Int) < (n:Int):=by omega
   obtain ⟨bb,off,rfl,hbb,hc⟩:=(Ints.below hb HI.out) (by intro h;have h1:=congrArg List.length h;rw [HFL.out] at h1;simp at h1;omega)
   have c0:wr.cell? ⟨bb,off+m,none⟩=some (.int .i64 l[k].1):=by
    have h1:=hc (2*k) (by rw [HFL.out];omega)
    rw [(HF.out k hk).1] at h1
    rw [HM.out];exact h1
   have c1:wr.cell? ⟨bb,off+(m+1),none⟩=some (.int .i64 l[k].2):=by
    have h1:=hc (2*k+1) (by rw [HFL.out];omega)
    rw [(HF.out k hk).2] at h1
    rw [HM.out];exact h1
   have HT:=Lib.hid (List.take_succ_eq_append_getElem hk)
   have HTL:(l.take k).length≤1000:=by rw [List.length_take];omega
   have hsz:=hb.size
   have HOW:=Lib.hid hown
   clear hc hown
   generalize l[k]=s at *
   generalize l.take k=Lk at *
   obtain ⟨x,y⟩:=s
   dsimp only at c0 c1
   obtain ⟨m',hm'⟩:∃ m':Nat,m'=m+1:=⟨_,rfl⟩
   have hw2:IntKind.i64.wrap ((m:Int)+1)=(m':Int):=by
    have h1:IntKind.i64.wrap ((m:Int)+1)=(m:Int)+1:=by simp [IntKind.wrap,IntKind.signed,IntKind.bits];omega
    rw [h1,hm'];rfl
   have hkm:(m':Int) < (n:Int):=by omega
   rw [← hm'] at c1
   have HM':=Lib.hid hm'
   clear hm'
   go_wp2
   go_region_law ((refine step_append_lies _ (by rfl) _ _ _ (by rfl) w.heap.size 45 i0 _ 2 16 Tryz.underlying41 hi0 hz0 hz1 hz2 rfl (by omega) _ _ _ (by rfl) ((HOW.out.alloc _).drew) ⟨wr.heap.size,0,none⟩ 1 1 [.int .i64 x,.int .i64 y] (by rfl) (by rfl) (World.news_of_block (cs:=#[.int .i64 x,.int .i64 y]) (t:=45) (fr:=(0,0)) (heap_alloc_new wr _)) (by simp [Value.oneCell']) (by omega) (by unfold maxLen;omega) (by omega) (by simp;omega) (wr.heap.size+1) (by simp) ?_;intro gg cap w4 hown' hgrow hat hlt))
   all_goals
    have hbn:Below w.heap.size w w4:=(((hb.alloc hsz _).drew).grown hgrow (by simp;omega) (fun j hj=>(HOW.out.lt j hj).1))
    go_wp2
    go_roundg g
    case measure=>omega
    case rel=>exact ⟨k+1,m+2,by omega,by have:=HM.out;omega,by go_num,by rw [HT.out,cellsS_append,List.length_append];exact hown',hbn⟩
end Go.Proofs.YtioahgklplbinaaGreatDoor
namespace Go.Proofs.YtioahgklplbinaaGreatDoor
open Go.RowKit Go.Shelf SetM PropsM
theorem ints_new (W:World) (l:List Int) (T:TypeId):Ints (W.alloc (.cells (l.map (Value.int .i64)).toArray T)).heap.size (W.alloc (.cells (l.map (Value.int .i64)).toArray T)) (some ⟨W.heap.size,0,none⟩) l:=fun _ =>
 ⟨W.heap.size,0,rfl,by rw [World.size_alloc];omega,fun j hj=>by
  rw [cell_of_row _ W.heap.size _ _ _ _ (heap_alloc_new W _),List.getElem?_toArray,List.getElem?_map,Nat.zero_add,List.getElem?_eq_getElem hj];rfl⟩
def EndsOk (i:Nat):Prop:=∀ w:World,Calls Tryz.prog 162 #[.string ⟨(nameOf i).toArray⟩] w fun e w'=>∃ P c n,e=.returned (.slice P n c)∧n=2*(runsOf i).length∧Ints w'.heap.size w' P (flatS (runsOf i))∧Below w.heap.size w w'
set_option maxRecDepth 100000 in
set_option maxHeartbeats 2000000 in
theorem ends_0:EndsOk 0:=by
 intro w
 rw [show nameOf 0=[97,110,121] from rfl]
 go_enter Tryz.func162,Tryz.ntmps162
 go_wp2
 go_ret
 exact ⟨_,_,_,rfl,rfl,ints_new w (flatS (runsOf 0)) 3,(Below.refl _ w).alloc (Nat.le_refl _) _⟩
set_option maxRecDepth 100000 in
set_option maxHeartbeats 2000000 in
theorem ends_1:EndsOk 1:=by
 intro w
 rw [show nameOf 1=[97,115,99,105,105] from rfl]
 go_enter Tryz.func162,Tryz.ntmps162
 go_wp2
 go_ret
 exact ⟨_,_,_,rfl,rfl,ints_new w (flatS (runsOf 1)) 3,(Below.refl _ w).alloc (Nat.le_refl _) _⟩
set_option maxRecDepth 100000 in
set_option maxHeartbeats 2000000 in
theorem ends_2:EndsOk 2:=by
 intro w
 rw [show nameOf 2=[98,108,97,110,107] from rfl]
 go_enter Tryz.func162,Tryz.ntmps162
 go_wp2
 go_ret
 exact ⟨_,_,_,rfl,rfl,ints_new w (flatS (runsOf 2)) 3,(Below.refl _ w).alloc (Nat.le_refl _) _⟩
set_option maxRecDepth 100000 in
set_option maxHeartbeats 2000000 in
theorem ends_3:EndsOk 3:=by
 intro w
 rw [show nameOf 3=[99,121,114,105,108,108,105,99] from rfl]
 go_enter Tryz.func162,Tryz.ntmps162
 go_wp2
 go_ret
 exact ⟨_,_,_,rfl,rfl,ints_new w (flatS (runsOf 3)) 3,(Below.refl _ w).alloc (Nat.le_refl _) _⟩
set_option maxRecDepth 100000 in
set_option maxHeartbeats 2000000 in
theorem ends_4:EndsOk 4:=by
 intro w
 rw [show nameOf 4=[100,105,103,105,116] from rfl]
 go_enter Tryz.func162,Tryz.ntmps162
 go_wp2
 go_ret
 exact ⟨_,_,_,rfl,rfl,ints_new w (flatS (runsOf 4)) 3,(Below.refl _ w).alloc (Nat.le_refl _) _⟩
set_option maxRecDepth 100000 in
set_option maxHeartbeats 2000000 in
theorem ends_5:EndsOk 5:=by
 intro w
 rw [show nameOf 5=[103,114,101,101,107] from rfl]
 go_enter Tryz.func162,Tryz.ntmps162
 go_wp2
 go_ret
 exact ⟨_,_,_,rfl,rfl,ints_new w (flatS (runsOf 5)) 3,(Below.refl _ w).alloc (Nat.le_refl _) _⟩
set_option maxRecDepth 100000 in
set_option maxHeartbeats 2000000 in
theorem ends_6:EndsOk 6:=by
 intro w
 rw [show nameOf 6=[104,97,110] from rfl]
 go_enter Tryz.func162,Tryz.ntmps162
 go_wp2
 go_ret
 exact ⟨_,_,_,rfl,rfl,ints_new w (flatS (runsOf 6)) 3,(Below.refl _ w).alloc (Nat.le_refl _) _⟩
set_option maxRecDepth 100000 in
set_option maxHeartbeats 2000000 in
theorem ends_7:EndsOk 7:=by
 intro w
 rw [show nameOf 7=[104,101,120] from rfl]
 go_enter Tryz.func162,Tryz.ntmps162
 go_wp2
 go_ret
 exact ⟨_,_,_,rfl,rfl,ints_new w (flatS (runsOf 7)) 3,(Below.refl _ w).alloc (Nat.le_refl _) _⟩
set_option maxRecDepth 100000 in
set_option maxHeartbeats 2000000 in
theorem ends_8:EndsOk 8:=by
 intro w
 rw [show nameOf 8=[108,97,116,105,110] from rfl]
 go_enter Tryz.func162,Tryz.ntmps162
 go_wp2
 go_ret
 exact ⟨_,_,_,rfl,rfl,ints_new w (flatS (runsOf 8)) 3,(Below.refl _ w).alloc (Nat.le_refl _) _⟩
set_option maxRecDepth 100000 in
set_option maxHeartbeats 2000000 in
theorem ends_10:EndsOk 10:=by
 intro w
 rw [show nameOf 10=[108,111,119,101,114] from rfl]
 go_enter Tryz.func162,Tryz.ntmps162
 go_wp2
 go_ret
 exact ⟨_,_,_,rfl,rfl,ints_new w (flatS (runsOf 10)) 3,(Below.refl _ w).alloc (Nat.le_refl _) _⟩
set_option maxRecDepth 100000 in
set_option maxHeartbeats 2000000 in
theorem ends_11:EndsOk 11:=by
 intro w
 rw [show nameOf 11=[117,112,112,101,114] from rfl]
 go_enter Tryz.func162,Tryz.ntmps162
 go_wp2
 go_ret
 exact ⟨_,_,_,rfl,rfl,ints_new w (flatS (runsOf 11)) 3,(Below.refl _ w).alloc (Nat.le_refl _) _⟩
theorem ends_c (i:Nat) (hi:i < 13) (h9:i≠9) (h12:i≠12):EndsOk i:=by
 rcases (show i=0∨i=1∨i=2∨i=3∨i=4∨i=5∨i=6∨i=7∨i=8∨i=10∨i=11 by omega) with rfl | rfl | rfl | rfl | rfl | rfl | rfl | rfl | rfl | rfl | rfl
 ·exact ends_0
 ·exact ends_1
 ·exact ends_2
 ·exact ends_3
 ·exact ends_4
 ·exact ends_5
 ·exact ends_6
 ·exact ends_7
 ·exact ends_8
 ·exact ends_10
 ·exact ends_11
end Go.Proofs.YtioahgklplbinaaGreatDoor
