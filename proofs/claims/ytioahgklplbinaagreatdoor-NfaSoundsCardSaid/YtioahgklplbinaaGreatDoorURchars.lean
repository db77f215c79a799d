/- The document's own Chars, First, Same. -/
import Derived.Test.YtioahgklplbinaaGreatDoorURdec
import Derived.Test.YtioahgklplbinaaGreatDoorWE
import Derived.Laws.StructEq
namespace Go.Proofs.YtioahgklplbinaaGreatDoor.U
open Go.RowKit Go.Shelf UtfM
set_option maxRecDepth 100000 in
set_option maxHeartbeats 2000000 in
theorem rchars_c {W:World} {A:Option Addr} {c:Nat} {l:List Int} (hs:By W A l) (hl:l.length≤1000000) (hlc:l.length≤c):Calls Tryz.prog 84 #[.slice A l.length c] W (CharsPost W l):=by
 obtain ⟨i0,hi,hz0,hz1,hz2⟩:=info_parts infoC
 obtain ⟨w,hwW⟩:∃ w,w=W:=⟨_,rfl⟩
 rw [← hwW] at hs ⊢
 clear hwW
 have HS:=Lib.hid hs
 clear hs
 go_enter Tryz.func84,Tryz.ntmps84
 go_wp2
 go_loopg [3,4] l.length (fun g s3 s4 wx=>∃ (k:Nat) (done:List Ch),k+g=l.length∧s4=.int .i64 k∧done.length≤k∧Hid (chars 0 l=done++chars k (l.drop k))∧wx.ownsRow w.heap.size 139 3 s3 done.length (cellsC done)∧Below w.heap.size w wx)
 case atStart=>exact ⟨0,[],by omega,rfl,by simp,Lib.hid (by simp),World.ownsRow_nil _ _ _ _,Below.refl _ _⟩
 case round =>
  obtain ⟨k,done,hkg,rfl,hdk,HE,hown,hb⟩:=hrel
  by_cases hk:k < l.length
  ·have hkz : (k : Int) < (l.length : Int) := by omega
   have hs:=HS.out.step hb
   obtain ⟨b,off,rfl,hbb,_⟩:=hs.2 (by intro h;rw [h] at hk;simp at hk)
   have hkl:k≤l.length:=by omega
   have hkc:¬ (c=k):=by omega
   have hne:l.drop k≠[]:=by intro h;have:=congrArg List.length h;simp at this;omega
   have hok:=dec_ok (hs.1.drop k) hne
   have hst:=chars_step (hs.1.drop k) hne k
   unfold DecOk at hok
   rw [List.length_drop] at hok
   have HST:=Lib.hid hst
   have HSB:=Lib.hid hs
   have hdc:=rdecode_at (c:=c - k) (k:=k) hs hkl
   have HDC:=Lib.hid hdc
   clear hst hs hne hdc
   go_wp2_with fail
   refine HDC.out.mono ?_
   rintro e w1 ⟨rfl,b1⟩
   unfold decV
   obtain ⟨p,hp⟩:∃ p,dec (l.drop k)=p:=⟨_,rfl⟩
   rw [hp] at HST hok ⊢
   obtain ⟨r,n⟩:=p
   dsimp only at *
   have hn1:=hok.1
   have hn2:=hok.2.1
   have HP:=Lib.hid hp
   have hb1:=hb.trans (b1.mono hb.size)
   have hsz:=hb1.size
   have hown1:=own_below hown b1
   clear hp hok hown hb b1 HDC
   go_wp2_with (at_builtin;refine wpList_append_own _ rfl _ _ 136 rfl w.heap.size 139 i0 (.agg #[.int .i64 0,.int .i64 0,.int .i64 0]) 3 24 Tryz.underlying136 hi hz0 hz1 hz2 rfl (by decide) _ _ _ rfl (hown1.alloc _) ⟨w1.heap.size,0,none⟩ 1 1 [.int .i64 r,.int .i64 k,.int .i64 n] rfl rfl (cell_news _ _ _) (by simp [Value.oneCell']) (by unfold maxLen;omega) (by omega) (by rw [World.size_alloc];omega) ?_;intro v' w2 hown' hgrow _)
   go_roundg (gk - n)
   case measure=>omega
   case rel=>exact ⟨k+n,done++[(r,k,n)],by omega,by go_num,by simp;omega,Lib.hid (by rw [HE.out,HST.out,List.drop_drop];simp),by rw [cellsC_append,List.length_append];exact hown',(hb1.alloc hsz _).grown hgrow (by rw [World.size_alloc];omega) (fun j hj=>(hown1.lt j hj).1)⟩
  ·have hkz : ¬ ((k : Int) < (l.length : Int)) := by omega
   have hfin:chars 0 l=done:=by rw [HE.out,show l.drop k=[] from List.drop_eq_nil_of_le (by omega),chars_nil];simp
   have HF:=Lib.hid hfin
   clear hfin
   go_wp2
   go_ret
   rw [← HF.out] at hown
   obtain ⟨P,cp,rfl,hcs⟩:=chars_of hown
   exact ⟨P,cp,rfl,hcs,hb⟩
set_option maxRecDepth 100000 in
set_option maxHeartbeats 2000000 in
theorem rfirst_c {W:World} {A:Option Addr} {c:Nat} {l:List Int} (hs:By W A l) (hl:l.length≤1000000) (hlc:l.length≤c):Calls Tryz.prog 57 #[.slice A l.length c] W fun e W'=>e=.returned (.int .i64 (first l))∧Below W.heap.size W W':=by
 obtain ⟨w,hwW⟩:∃ w,w=W:=⟨_,rfl⟩
 rw [← hwW] at hs ⊢
 clear hwW
 have hcl:=chars_len_le l hs.1 0
 have HS:=Lib.hid hs
 clear hs
 go_enter Tryz.func57,Tryz.ntmps57
 go_wp2_with fail
 refine (rchars_c HS.out hl hlc).mono ?_
 rintro e w1 ⟨P,cp,rfl,hcs,b1⟩
 have HCS:=Lib.hid hcs
 have HFI:Hid (first l=firstOf ((chars 0 l).drop 0)):=Lib.hid rfl
 clear hcs
 generalize chars 0 l=cs at *
 go_wp2
 go_loopg [4] cs.length (fun g s4 wx=>∃ (k:Nat),k+g=cs.length∧s4=.int .i64 k∧Hid (first l=firstOf (cs.drop k))∧w1=wx)
 case atStart=>exact ⟨0,by omega,rfl,HFI,rfl⟩
 case round =>
  obtain ⟨k,hkg,rfl,HF,rfl⟩:=hrel
  cases gk with
  | zero =>
   have hkz:¬ ((k:Int) < (cs.length:Int)):=by omega
   have hfin:first l = -1:=by rw [HF.out,List.drop_eq_nil_of_le (by omega)];rfl
   have HR:=Lib.hid hfin
   clear hfin
   go_wp2
   go_ret
   refine ⟨?_,b1⟩
   rw [HR.out];rfl
  | succ g =>
   have hk:k < cs.length:=by omega
   have hkz:(k:Int) < (cs.length:Int):=by omega
   obtain ⟨b,off,rfl,hbb,hc⟩:=HCS.out (by intro h;rw [h] at hk;simp at hk)
   obtain ⟨c0,c1,_⟩:=hc k hk
   have hdr:cs.drop k=cs[k]::cs.drop (k+1):=(List.getElem_cons_drop hk).symm
   have HDR:=Lib.hid hdr
   clear hc hdr
   generalize cs[k]=y at *
   obtain ⟨r,at0,n0⟩:=y
   dsimp only at *
   by_cases hr:r < 0
   ·have HR : Hid (first l = at0) := Lib.hid (by rw [HF.out, HDR.out, firstOf_bad hr])
    go_wp2
    go_ret
    refine ⟨?_,b1⟩
    rw [HR.out];rfl
   ·have HN : Hid (first l = firstOf (cs.drop (k + 1))) := Lib.hid (by rw [HF.out, HDR.out, firstOf_good (by simp only; omega)])
    go_wp2
    go_roundg g
    case measure=>omega
    case rel=>exact ⟨k+1,by omega,by go_num,HN,rfl⟩
end Go.Proofs.YtioahgklplbinaaGreatDoor.U
