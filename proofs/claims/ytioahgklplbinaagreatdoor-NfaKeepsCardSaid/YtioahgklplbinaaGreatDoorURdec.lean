/- The document's own Decode. -/
import Derived.Test.YtioahgklplbinaaGreatDoorUR
import Derived.Deep.RegionWith
import Derived.BigRegion
namespace Go.Proofs.YtioahgklplbinaaGreatDoor.U
open Go.RowKit Go.Shelf UtfM
theorem second_q (a b:Int) (w:World):Calls Tryz.prog 117 #[.int .u8 a,.int .u8 b] w fun e w'=>e=.returned (.bool (secondF a b))∧w'=w :=
 (second_c a b w).mono fun _ _ ⟨h1,h2⟩=>⟨h1,h2.symm⟩
theorem secondF_take {a:Int} {s:Shape} (h:lead a=some s) (hm:s.more≠0) (b:Int):secondF a b=takeB s 0 b:=by
 unfold takeB
 simp only [if_true]
 unfold lead at h
 unfold secondF
 repeat' split at h
 all_goals first | (cases h;done) | skip
 all_goals obtain rfl:=Option.some.inj h
 all_goals first | (exact absurd rfl hm) | skip
 all_goals (repeat' split) <;> first | rfl | omega
theorem rdec_empty (A:Option Addr) (c:Nat) (w:World):Calls Tryz.prog 99 #[.slice A 0 c] w (DecPost w []):=by
 go_enter Tryz.func99,Tryz.ntmps99
 go_wp2
 go_ret2
 exact ⟨rfl,Below.refl _ _⟩
set_option maxRecDepth 100000 in
set_option maxHeartbeats 2000000 in
theorem rdec_full (b off c:Nat) (l:List Int) (hne:0 < l.length) (w:World) (hs:By w (some ⟨b,off,none⟩) l):Calls Tryz.prog 99 #[.slice (some ⟨b,off,none⟩) l.length c] w (DecPost w l):=by
 obtain ⟨b',off',he,hbb,hcell⟩:=hs.2 (List.length_pos_iff.1 hne)
 cases he
 have h0:=hcell 0 hne
 rw [Nat.add_zero] at h0
 have ha:=hs.1 l[0] (List.getElem_mem hne)
 have hlz:((l.length:Int) == 0)=false:=by rw [beq_eq_false_iff_ne];omega
 have hlp:(0:Int) < (l.length:Int):=by omega
 have HC:=Lib.hid hcell
 have HB:=Lib.hid hs.1
 obtain ⟨t,ht⟩:∃ t,l=l[0]::t:=⟨l.drop 1,by rw [← drop_cons hne];simp⟩
 have HT:=Lib.hid ht
 clear hs hcell ht
 generalize l[0]=a at *
 have ha0:=ha.1
 have ha1:=ha.2
 clear ha
 cases hl:lead a with
 | none =>
  have hlo:longF a=0:=by unfold longF;rw [hl]
  have HN:=Lib.hid hl
  have HLO:=Lib.hid hlo
  clear hl hlo
  go_enter Tryz.func99,Tryz.ntmps99
  go_wp2_with fail
  refine (long_c a _).mono ?_
  rintro e w1 ⟨rfl,rfl⟩
  rw [HLO.out]
  go_wp2
  go_ret2
  exact dec_shut (m:=1) (by rw [HT.out,dec_none HN.out]) rfl (Below.refl _ _)
 | some s =>
  have hlo:longF a=s.more+1:=by unfold longF;rw [hl]
  have hst:=DecAt.start (t:=t) hl ha0
  rw [← HT.out] at hst
  have hin:=lead_in hl ha0
  have HST:=Lib.hid hst
  have HIN:=Lib.hid hin
  have HLO:=Lib.hid hlo
  have HL:=Lib.hid hl
  have h3:=hin.2.2.1
  clear hst hin hl hlo
  by_cases hm0:s.more=0
  ·have hres := HST.out.done hm0.symm
   have hbits:s.bits=a:=by
    have h1:a < 128:=by
     rcases lead_cases a with h | h | h | h | h
     ·exact h
     ·rw [HL.out] at h;cases h
     ·have:=HL.out;rw [lead2 h.1 h.2] at this;cases this;simp at hm0
     ·obtain ⟨lo,hi,e,_⟩:=lead3 h.1 h.2;rw [e] at HL;have:=HL.out;cases this;simp at hm0
     ·obtain ⟨lo,hi,e,_⟩:=lead4 h.1 h.2;rw [e] at HL;have:=HL.out;cases this;simp at hm0
    have:=HL.out;rw [lead1 h1] at this;cases this;rfl
   rw [hbits] at hres
   have HR:=Lib.hid hres
   clear hres hbits
   go_enter Tryz.func99,Tryz.ntmps99
   go_wp2_with fail
   refine (long_c a _).mono ?_
   rintro e w1 ⟨rfl,rfl⟩
   rw [HLO.out,hm0]
   go_wp2
   go_ret2
   exact dec_shut (m:=1) HR.out (by omega) (Below.refl _ _)
  ·obtain ⟨base,hbase,hbits⟩:∃ base:Int,((s.more=1∧base=192)∨(s.more=2∧base=224)∨(s.more=3∧base=240))∧s.bits=a - base:=by
    have hh:=HL.out
    rcases lead_cases a with h | h | h | h | h
    ·rw [lead1 h] at hh;cases hh;simp at hm0
    ·rw [hh] at h;cases h
    ·rw [lead2 h.1 h.2] at hh;cases hh;exact ⟨192,.inl ⟨rfl,rfl⟩,rfl⟩
    ·obtain ⟨lo,hi,e,_⟩:=lead3 h.1 h.2;rw [e] at hh;cases hh;exact ⟨224,.inr (.inl ⟨rfl,rfl⟩),rfl⟩
    ·obtain ⟨lo,hi,e,_⟩:=lead4 h.1 h.2;rw [e] at hh;cases hh;exact ⟨240,.inr (.inr ⟨rfl,rfl⟩),rfl⟩
   have hsec:=secondF_take HL.out hm0
   have HSEC:=Lib.hid hsec
   rw [hbits] at HST
   have HBI:=Lib.hid hbits
   clear hsec hbits
   have hmm:(s.more=1∧base=192)∨(s.more=2∧base=224)∨(s.more=3∧base=240):=hbase
   clear hbase
   go_enter Tryz.func99,Tryz.ntmps99
   go_wp2_with fail
   refine (long_c a _).mono ?_
   rintro e w1 ⟨rfl,rfl⟩
   rw [HLO.out]
   rcases hmm with ⟨hm,rfl⟩ | ⟨hm,rfl⟩ | ⟨hm,rfl⟩
   ·rw [hm]
    have hdec0:=HST.out
    have HMM:=Lib.hid hm
    clear hm hm0
    go_wp2
    go_region
    have hbV:Below w.heap.size w (w.alloc (.cells #[.int .i64 0,.int .i64 0,.int .i64 192,.int .i64 224,.int .i64 240] 3)).drew:=below_drewN ((Below.refl _ _).alloc (Nat.le_refl _) _) 1
    generalize (w.alloc (.cells #[.int .i64 0,.int .i64 0,.int .i64 192,.int .i64 224,.int .i64 240] 3)).drew=V at *
    go_wp2
    go_loopg [5,6] 1 (fun g s5 s6 wx=>∃ (i:Nat) (r:Int),i+g=2∧1≤i∧i≤l.length∧s6=.int .i64 i∧s5=.int .i64 r∧Hid (DecAt l s (i - 1) r)∧Below w.heap.size w wx)
    case atStart=>exact ⟨1,_,by omega,by omega,by omega,rfl,rfl,Lib.hid hdec0,hbV⟩
    case round =>
     clear hbV hdec0
     obtain ⟨i,r,hig,hi1,hil,rfl,rfl,HD,hb⟩:=hrel
     have HBB:=Lib.hid hb
     cases gk with
     | zero =>
      have hkz:¬ ((i:Int) < 2):=by omega
      have hres:=HD.out.done (by rw [HMM.out];omega)
      have HR:=Lib.hid hres
      clear hres hb
      go_wp2
      go_ret2
      exact dec_shut (m:=2) HR.out (by omega) HBB.out
     | succ g =>
      have hkz:(i:Int) < 2:=by omega
      have hk1:i - 1 < s.more:=by rw [HMM.out];omega
      by_cases hlen:i=l.length
      ·have hd : decide ((l.length : Int) ≤ (i : Int)) = true := decide_eq_true (by omega)
       have hres:=HD.out.short hk1 (by omega)
       have HR:=Lib.hid hres
       have hdn:decide (l.length≤i)=true:=decide_eq_true (by omega)
       clear hres hlen hb
       go_wp2
       go_quiet (fail)
       go_wp2
       go_ret2
       exact dec_shut (m:=(i:Int)) HR.out (by omega) (below_drewN HBB.out _)
      ·have hlt : i < l.length := by omega
       have hd:decide ((l.length:Int)≤(i:Int))=false:=decide_eq_false (by omega)
       have hdn:decide (l.length≤i)=false:=decide_eq_false (by omega)
       have hlz2:(i:Int) < (l.length:Int):=by omega
       have c0:=(hb.cell (p:=⟨b,off,none⟩) hbb).trans h0
       have ci:=(hb.cell (p:=⟨b,off+i,none⟩) hbb).trans (HC.out i hlt)
       have hch:=HB.out l[i] (List.getElem_mem hlt)
       have hii:i - 1+1=i:=by omega
       have hbad:takeB s (i - 1) l[i]=false→dec l=(-1,i):=fun h=>by
        have:=HD.out.bad hk1 (by omega) (by simp only [hii];simpa [takeB] using h)
        rw [hii] at this;exact this
       have hnx:takeB s (i - 1) l[i]=true→128≤l[i]∧l[i]≤191→DecAt l s (i+1 - 1) (64*r+l[i] - 128):=fun h h8=>by
        have:=HD.out.next hk1 (by omega) (by simp only [hii];simpa [takeB] using h) (by simp only [hii];exact h8)
        simp only [hii] at this
        rw [show i+1 - 1=i from by omega,show 64*r+l[i] - 128=r*64+(l[i] - 128) from by omega];exact this
       have hr0:=HD.out.2.1
       have hr1:r≤524287:=by
        have:=HD.out.2.2
        rcases (by omega:i - 1=0∨i - 1=1∨i - 1=2) with h | h | h <;> rw [h] at this <;> simp at this <;> omega
       have HBAD:=Lib.hid hbad
       have HNX:=Lib.hid hnx
       have h128:takeB s (i - 1) l[i]=true→128≤l[i]∧l[i]≤191:=fun h=>by
        have hh:=HIN.out.2.2.2 (by have:=HMM.out;omega)
        have h':(if i - 1=0 then s.lo else 128)≤l[i]∧l[i]≤(if i - 1=0 then s.hi else 191):=by simpa [takeB] using h
        by_cases hk0:i - 1=0
        ·simp only [if_pos hk0] at h';omega
        ·simp only [if_neg hk0] at h';omega
       have H128:=Lib.hid h128
       have hc1:i=1→wr.cell? ⟨b,off+1,none⟩=some (.int .u8 l[i]):=fun h=>by
        have:=ci
        rw [show off+i=off+1 from by omega] at this;exact this
       have hl1:(1:Int) < (l.length:Int):=by omega
       clear hbad hnx h128 hii hlen
       generalize l[i]=ch at *
       by_cases hi0:i=1
       ·have c1 := hc1 hi0
        have ei:((i:Int) == 1)=true:=by rw [beq_iff_eq];omega
        have hse:secondF a ch=takeB s (i - 1) ch:=by rw [HSEC.out,show i - 1=0 from by omega]
        clear hc1 hi0 hb
        cases hT:takeB s (i - 1) ch with
        | false =>
         have hse2:secondF a ch=false:=hse.trans hT
         have hsq:∀ U,Calls Tryz.prog 117 #[.int .u8 a,.int .u8 ch] U fun e w'=>e=.returned (.bool false)∧w'=U:=fun U=>by have:=second_q a ch U;rwa [hse2] at this
         have HSQ:=Lib.hid hsq
         have HR:=Lib.hid (HBAD.out hT)
         clear hse hse2 hsq hT
         go_wp2
         go_quiet ((go_at_call 117;exact Calls.quiet_of_same (HSQ.out _)))
         go_wp2
         go_ret2
         exact dec_shut (m:=(i:Int)) HR.out (by omega) (below_drewN HBB.out _)
        | true =>
         have hse2:secondF a ch=true:=hse.trans hT
         have hsq:∀ U,Calls Tryz.prog 117 #[.int .u8 a,.int .u8 ch] U fun e w'=>e=.returned (.bool true)∧w'=U:=fun U=>by have:=second_q a ch U;rwa [hse2] at this
         have HSQ:=Lib.hid hsq
         obtain ⟨g8,g9⟩:=H128.out hT
         have HNN:=Lib.hid (HNX.out hT ⟨g8,g9⟩)
         have e1:decide (ch < 128)=false:=decide_eq_false (by omega)
         have e2:decide (191 < ch)=false:=decide_eq_false (by omega)
         clear hse hse2 hsq hT
         go_wp2
         go_quiet ((go_at_call 117;exact Calls.quiet_of_same (HSQ.out _)))
         go_wp2
         go_roundg g
         case measure=>omega
         case rel=>exact ⟨i+1,_,by omega,by omega,by omega,by go_num,rfl,HNN,below_drewN HBB.out _⟩
       ·have ei : ((i : Int) == 1) = false := by rw [beq_eq_false_iff_ne]; omega
        have hTi:takeB s (i - 1) ch=decide (128≤ch∧ch≤191):=by unfold takeB;rw [if_neg (by omega),if_neg (by omega)]
        clear hc1 hi0 hb
        by_cases g8:128≤ch
        ·have e1 : decide (ch < 128) = false := decide_eq_false (by omega)
         by_cases g9:ch≤191
         ·have HNN := Lib.hid (HNX.out (hTi.trans (decide_eq_true ⟨g8, g9⟩)) ⟨g8, g9⟩)
          have e2:decide (191 < ch)=false:=decide_eq_false (by omega)
          clear hTi
          go_wp2
          go_quiet (fail)
          go_wp2
          go_roundg g
          case measure=>omega
          case rel=>exact ⟨i+1,_,by omega,by omega,by omega,by go_num,rfl,HNN,below_drewN HBB.out _⟩
         ·have HR := Lib.hid (HBAD.out (hTi.trans (decide_eq_false (fun h => g9 h.2))))
          have e2:decide (191 < ch)=true:=decide_eq_true (by omega)
          clear hTi
          go_wp2
          go_quiet (fail)
          go_wp2
          go_ret2
          exact dec_shut (m:=(i:Int)) HR.out (by omega) (below_drewN HBB.out _)
        ·have HR := Lib.hid (HBAD.out (hTi.trans (decide_eq_false (fun h => g8 h.1))))
         have e1:decide (ch < 128)=true:=decide_eq_true (by omega)
         clear hTi
         go_wp2
         go_quiet (fail)
         go_wp2
         go_ret2
         exact dec_shut (m:=(i:Int)) HR.out (by omega) (below_drewN HBB.out _)
   ·rw [hm]
    have hdec0:=HST.out
    have HMM:=Lib.hid hm
    clear hm hm0
    go_wp2
    go_region
    have hbV:Below w.heap.size w (w.alloc (.cells #[.int .i64 0,.int .i64 0,.int .i64 192,.int .i64 224,.int .i64 240] 3)).drew:=below_drewN ((Below.refl _ _).alloc (Nat.le_refl _) _) 1
    generalize (w.alloc (.cells #[.int .i64 0,.int .i64 0,.int .i64 192,.int .i64 224,.int .i64 240] 3)).drew=V at *
    go_wp2
    go_loopg [5,6] 2 (fun g s5 s6 wx=>∃ (i:Nat) (r:Int),i+g=3∧1≤i∧i≤l.length∧s6=.int .i64 i∧s5=.int .i64 r∧Hid (DecAt l s (i - 1) r)∧Below w.heap.size w wx)
    case atStart=>exact ⟨1,_,by omega,by omega,by omega,rfl,rfl,Lib.hid hdec0,hbV⟩
    case round =>
     clear hbV hdec0
     obtain ⟨i,r,hig,hi1,hil,rfl,rfl,HD,hb⟩:=hrel
     have HBB:=Lib.hid hb
     cases gk with
     | zero =>
      have hkz:¬ ((i:Int) < 3):=by omega
      have hres:=HD.out.done (by rw [HMM.out];omega)
      have HR:=Lib.hid hres
      clear hres hb
      go_wp2
      go_ret2
      exact dec_shut (m:=3) HR.out (by omega) HBB.out
     | succ g =>
      have hkz:(i:Int) < 3:=by omega
      have hk1:i - 1 < s.more:=by rw [HMM.out];omega
      by_cases hlen:i=l.length
      ·have hd : decide ((l.length : Int) ≤ (i : Int)) = true := decide_eq_true (by omega)
       have hres:=HD.out.short hk1 (by omega)
       have HR:=Lib.hid hres
       have hdn:decide (l.length≤i)=true:=decide_eq_true (by omega)
       clear hres hlen hb
       go_wp2
       go_quiet (fail)
       go_wp2
       go_ret2
       exact dec_shut (m:=(i:Int)) HR.out (by omega) (below_drewN HBB.out _)
      ·have hlt : i < l.length := by omega
       have hd:decide ((l.length:Int)≤(i:Int))=false:=decide_eq_false (by omega)
       have hdn:decide (l.length≤i)=false:=decide_eq_false (by omega)
       have hlz2:(i:Int) < (l.length:Int):=by omega
       have c0:=(hb.cell (p:=⟨b,off,none⟩) hbb).trans h0
       have ci:=(hb.cell (p:=⟨b,off+i,none⟩) hbb).trans (HC.out i hlt)
       have hch:=HB.out l[i] (List.getElem_mem hlt)
       have hii:i - 1+1=i:=by omega
       have hbad:takeB s (i - 1) l[i]=false→dec l=(-1,i):=fun h=>by
        have:=HD.out.bad hk1 (by omega) (by simp only [hii];simpa [takeB] using h)
        rw [hii] at this;exact this
       have hnx:takeB s (i - 1) l[i]=true→128≤l[i]∧l[i]≤191→DecAt l s (i+1 - 1) (64*r+l[i] - 128):=fun h h8=>by
        have:=HD.out.next hk1 (by omega) (by simp only [hii];simpa [takeB] using h) (by simp only [hii];exact h8)
        simp only [hii] at this
        rw [show i+1 - 1=i from by omega,show 64*r+l[i] - 128=r*64+(l[i] - 128) from by omega];exact this
       have hr0:=HD.out.2.1
       have hr1:r≤524287:=by
        have:=HD.out.2.2
        rcases (by omega:i - 1=0∨i - 1=1∨i - 1=2) with h | h | h <;> rw [h] at this <;> simp at this <;> omega
       have HBAD:=Lib.hid hbad
       have HNX:=Lib.hid hnx
       have h128:takeB s (i - 1) l[i]=true→128≤l[i]∧l[i]≤191:=fun h=>by
        have hh:=HIN.out.2.2.2 (by have:=HMM.out;omega)
        have h':(if i - 1=0 then s.lo else 128)≤l[i]∧l[i]≤(if i - 1=0 then s.hi else 191):=by simpa [takeB] using h
        by_cases hk0:i - 1=0
        ·simp only [if_pos hk0] at h';omega
        ·simp only [if_neg hk0] at h';omega
       have H128:=Lib.hid h128
       have hc1:i=1→wr.cell? ⟨b,off+1,none⟩=some (.int .u8 l[i]):=fun h=>by
        have:=ci
        rw [show off+i=off+1 from by omega] at this;exact this
       have hl1:(1:Int) < (l.length:Int):=by omega
       clear hbad hnx h128 hii hlen
       generalize l[i]=ch at *
       by_cases hi0:i=1
       ·have c1 := hc1 hi0
        have ei:((i:Int) == 1)=true:=by rw [beq_iff_eq];omega
        have hse:secondF a ch=takeB s (i - 1) ch:=by rw [HSEC.out,show i - 1=0 from by omega]
        clear hc1 hi0 hb
        cases hT:takeB s (i - 1) ch with
        | false =>
         have hse2:secondF a ch=false:=hse.trans hT
         have hsq:∀ U,Calls Tryz.prog 117 #[.int .u8 a,.int .u8 ch] U fun e w'=>e=.returned (.bool false)∧w'=U:=fun U=>by have:=second_q a ch U;rwa [hse2] at this
         have HSQ:=Lib.hid hsq
         have HR:=Lib.hid (HBAD.out hT)
         clear hse hse2 hsq hT
         go_wp2
         go_quiet ((go_at_call 117;exact Calls.quiet_of_same (HSQ.out _)))
         go_wp2
         go_ret2
         exact dec_shut (m:=(i:Int)) HR.out (by omega) (below_drewN HBB.out _)
        | true =>
         have hse2:secondF a ch=true:=hse.trans hT
         have hsq:∀ U,Calls Tryz.prog 117 #[.int .u8 a,.int .u8 ch] U fun e w'=>e=.returned (.bool true)∧w'=U:=fun U=>by have:=second_q a ch U;rwa [hse2] at this
         have HSQ:=Lib.hid hsq
         obtain ⟨g8,g9⟩:=H128.out hT
         have HNN:=Lib.hid (HNX.out hT ⟨g8,g9⟩)
         have e1:decide (ch < 128)=false:=decide_eq_false (by omega)
         have e2:decide (191 < ch)=false:=decide_eq_false (by omega)
         clear hse hse2 hsq hT
         go_wp2
         go_quiet ((go_at_call 117;exact Calls.quiet_of_same (HSQ.out _)))
         go_wp2
         go_roundg g
         case measure=>omega
         case rel=>exact ⟨i+1,_,by omega,by omega,by omega,by go_num,rfl,HNN,below_drewN HBB.out _⟩
       ·have ei : ((i : Int) == 1) = false := by rw [beq_eq_false_iff_ne]; omega
        have hTi:takeB s (i - 1) ch=decide (128≤ch∧ch≤191):=by unfold takeB;rw [if_neg (by omega),if_neg (by omega)]
        clear hc1 hi0 hb
        by_cases g8:128≤ch
        ·have e1 : decide (ch < 128) = false := decide_eq_false (by omega)
         by_cases g9:ch≤191
         ·have HNN := Lib.hid (HNX.out (hTi.trans (decide_eq_true ⟨g8, g9⟩)) ⟨g8, g9⟩)
          have e2:decide (191 < ch)=false:=decide_eq_false (by omega)
          clear hTi
          go_wp2
          go_quiet (fail)
          go_wp2
          go_roundg g
          case measure=>omega
          case rel=>exact ⟨i+1,_,by omega,by omega,by omega,by go_num,rfl,HNN,below_drewN HBB.out _⟩
         ·have HR := Lib.hid (HBAD.out (hTi.trans (decide_eq_false (fun h => g9 h.2))))
          have e2:decide (191 < ch)=true:=decide_eq_true (by omega)
          clear hTi
          go_wp2
          go_quiet (fail)
          go_wp2
          go_ret2
          exact dec_shut (m:=(i:Int)) HR.out (by omega) (below_drewN HBB.out _)
        ·have HR := Lib.hid (HBAD.out (hTi.trans (decide_eq_false (fun h => g8 h.1))))
         have e1:decide (ch < 128)=true:=decide_eq_true (by omega)
         clear hTi
         go_wp2
         go_quiet (fail)
         go_wp2
         go_ret2
         exact dec_shut (m:=(i:Int)) HR.out (by omega) (below_drewN HBB.out _)
   ·rw [hm]
    have hdec0:=HST.out
    have HMM:=Lib.hid hm
    clear hm hm0
    go_wp2
    go_region
    have hbV:Below w.heap.size w (w.alloc (.cells #[.int .i64 0,.int .i64 0,.int .i64 192,.int .i64 224,.int .i64 240] 3)).drew:=below_drewN ((Below.refl _ _).alloc (Nat.le_refl _) _) 1
    generalize (w.alloc (.cells #[.int .i64 0,.int .i64 0,.int .i64 192,.int .i64 224,.int .i64 240] 3)).drew=V at *
    go_wp2
    go_loopg [5,6] 3 (fun g s5 s6 wx=>∃ (i:Nat) (r:Int),i+g=4∧1≤i∧i≤l.length∧s6=.int .i64 i∧s5=.int .i64 r∧Hid (DecAt l s (i - 1) r)∧Below w.heap.size w wx)
    case atStart=>exact ⟨1,_,by omega,by omega,by omega,rfl,rfl,Lib.hid hdec0,hbV⟩
    case round =>
     clear hbV hdec0
     obtain ⟨i,r,hig,hi1,hil,rfl,rfl,HD,hb⟩:=hrel
     have HBB:=Lib.hid hb
     cases gk with
     | zero =>
      have hkz:¬ ((i:Int) < 4):=by omega
      have hres:=HD.out.done (by rw [HMM.out];omega)
      have HR:=Lib.hid hres
      clear hres hb
      go_wp2
      go_ret2
      exact dec_shut (m:=4) HR.out (by omega) HBB.out
     | succ g =>
      have hkz:(i:Int) < 4:=by omega
      have hk1:i - 1 < s.more:=by rw [HMM.out];omega
      by_cases hlen:i=l.length
      ·have hd : decide ((l.length : Int) ≤ (i : Int)) = true := decide_eq_true (by omega)
       have hres:=HD.out.short hk1 (by omega)
       have HR:=Lib.hid hres
       have hdn:decide (l.length≤i)=true:=decide_eq_true (by omega)
       clear hres hlen hb
       go_wp2
       go_quiet (fail)
       go_wp2
       go_ret2
       exact dec_shut (m:=(i:Int)) HR.out (by omega) (below_drewN HBB.out _)
      ·have hlt : i < l.length := by omega
       have hd:decide ((l.length:Int)≤(i:Int))=false:=decide_eq_false (by omega)
       have hdn:decide (l.length≤i)=false:=decide_eq_false (by omega)
       have hlz2:(i:Int) < (l.length:Int):=by omega
       have c0:=(hb.cell (p:=⟨b,off,none⟩) hbb).trans h0
       have ci:=(hb.cell (p:=⟨b,off+i,none⟩) hbb).trans (HC.out i hlt)
       have hch:=HB.out l[i] (List.getElem_mem hlt)
       have hii:i - 1+1=i:=by omega
       have hbad:takeB s (i - 1) l[i]=false→dec l=(-1,i):=fun h=>by
        have:=HD.out.bad hk1 (by omega) (by simp only [hii];simpa [takeB] using h)
        rw [hii] at this;exact this
       have hnx:takeB s (i - 1) l[i]=true→128≤l[i]∧l[i]≤191→DecAt l s (i+1 - 1) (64*r+l[i] - 128):=fun h h8=>by
        have:=HD.out.next hk1 (by omega) (by simp only [hii];simpa [takeB] using h) (by simp only [hii];exact h8)
        simp only [hii] at this
        rw [show i+1 - 1=i from by omega,show 64*r+l[i] - 128=r*64+(l[i] - 128) from by omega];exact this
       have hr0:=HD.out.2.1
       have hr1:r≤524287:=by
        have:=HD.out.2.2
        rcases (by omega:i - 1=0∨i - 1=1∨i - 1=2) with h | h | h <;> rw [h] at this <;> simp at this <;> omega
       have HBAD:=Lib.hid hbad
       have HNX:=Lib.hid hnx
       have h128:takeB s (i - 1) l[i]=true→128≤l[i]∧l[i]≤191:=fun h=>by
        have hh:=HIN.out.2.2.2 (by have:=HMM.out;omega)
        have h':(if i - 1=0 then s.lo else 128)≤l[i]∧l[i]≤(if i - 1=0 then s.hi else 191):=by simpa [takeB] using h
        by_cases hk0:i - 1=0
        ·simp only [if_pos hk0] at h';omega
        ·simp only [if_neg hk0] at h';omega
       have H128:=Lib.hid h128
       have hc1:i=1→wr.cell? ⟨b,off+1,none⟩=some (.int .u8 l[i]):=fun h=>by
        have:=ci
        rw [show off+i=off+1 from by omega] at this;exact this
       have hl1:(1:Int) < (l.length:Int):=by omega
       clear hbad hnx h128 hii hlen
       generalize l[i]=ch at *
       by_cases hi0:i=1
       ·have c1 := hc1 hi0
        have ei:((i:Int) == 1)=true:=by rw [beq_iff_eq];omega
        have hse:secondF a ch=takeB s (i - 1) ch:=by rw [HSEC.out,show i - 1=0 from by omega]
        clear hc1 hi0 hb
        cases hT:takeB s (i - 1) ch with
        | false =>
         have hse2:secondF a ch=false:=hse.trans hT
         have hsq:∀ U,Calls Tryz.prog 117 #[.int .u8 a,.int .u8 ch] U fun e w'=>e=.returned (.bool false)∧w'=U:=fun U=>by have:=second_q a ch U;rwa [hse2] at this
         have HSQ:=Lib.hid hsq
         have HR:=Lib.hid (HBAD.out hT)
         clear hse hse2 hsq hT
         go_wp2
         go_quiet ((go_at_call 117;exact Calls.quiet_of_same (HSQ.out _)))
         go_wp2
         go_ret2
         exact dec_shut (m:=(i:Int)) HR.out (by omega) (below_drewN HBB.out _)
        | true =>
         have hse2:secondF a ch=true:=hse.trans hT
         have hsq:∀ U,Calls Tryz.prog 117 #[.int .u8 a,.int .u8 ch] U fun e w'=>e=.returned (.bool true)∧w'=U:=fun U=>by have:=second_q a ch U;rwa [hse2] at this
         have HSQ:=Lib.hid hsq
         obtain ⟨g8,g9⟩:=H128.out hT
         have HNN:=Lib.hid (HNX.out hT ⟨g8,g9⟩)
         have e1:decide (ch < 128)=false:=decide_eq_false (by omega)
         have e2:decide (191 < ch)=false:=decide_eq_false (by omega)
         clear hse hse2 hsq hT
         go_wp2
         go_quiet ((go_at_call 117;exact Calls.quiet_of_same (HSQ.out _)))
         go_wp2
         go_roundg g
         case measure=>omega
         case rel=>exact ⟨i+1,_,by omega,by omega,by omega,by go_num,rfl,HNN,below_drewN HBB.out _⟩
       ·have ei : ((i : Int) == 1) = false := by rw [beq_eq_false_iff_ne]; omega
        have hTi:takeB s (i - 1) ch=decide (128≤ch∧ch≤191):=by unfold takeB;rw [if_neg (by omega),if_neg (by omega)]
        clear hc1 hi0 hb
        by_cases g8:128≤ch
        ·have e1 : decide (ch < 128) = false := decide_eq_false (by omega)
         by_cases g9:ch≤191
         ·have HNN := Lib.hid (HNX.out (hTi.trans (decide_eq_true ⟨g8, g9⟩)) ⟨g8, g9⟩)
          have e2:decide (191 < ch)=false:=decide_eq_false (by omega)
          clear hTi
          go_wp2
          go_quiet (fail)
          go_wp2
          go_roundg g
          case measure=>omega
          case rel=>exact ⟨i+1,_,by omega,by omega,by omega,by go_num,rfl,HNN,below_drewN HBB.out _⟩
         ·have HR := Lib.hid (HBAD.out (hTi.trans (decide_eq_false (fun h => g9 h.2))))
          have e2:decide (191 < ch)=true:=decide_eq_true (by omega)
          clear hTi
          go_wp2
          go_quiet (fail)
          go_wp2
          go_ret2
          exact dec_shut (m:=(i:Int)) HR.out (by omega) (below_drewN HBB.out _)
        ·have HR := Lib.hid (HBAD.out (hTi.trans (decide_eq_false (fun h => g8 h.1))))
         have e1:decide (ch < 128)=true:=decide_eq_true (by omega)
         clear hTi
         go_wp2
         go_quiet (fail)
         go_wp2
         go_ret2
         exact dec_shut (m:=(i:Int)) HR.out (by omega) (below_drewN HBB.out _)
theorem rdec_c {W:World} {A:Option Addr} {c:Nat} {l:List Int} (hs:By W A l):Calls Tryz.prog 99 #[.slice A l.length c] W (DecPost W l):=by
 by_cases h:l=[]
 ·subst h;exact rdec_empty A c W
 ·obtain ⟨b, off, rfl, _, _⟩ := hs.2 h
  exact rdec_full b off c l (List.length_pos_iff.2 h) W hs
theorem rdecode_at {W:World} {b off c k:Nat} {l:List Int} (hs:By W (some ⟨b,off,none⟩) l) (_hk:k≤l.length):Calls Tryz.prog 99 #[.slice (some ⟨b,off+k,none⟩) (l.length - k) c] W (DecPost W (l.drop k)):=by
 have:=rdec_c (c:=c) (hs.drop k)
 rwa [List.length_drop] at this
end Go.Proofs.YtioahgklplbinaaGreatDoor.U
