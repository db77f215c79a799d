/- The document's reader: a scalar's number in hexadecimal digits. -/
import Derived.Test.YtioahgklplbinaaGreatDoorQB
import Derived.Test.YtioahgklplbinaaGreatDoorRA
import Derived.Test.YtioahgklplbinaaGreatDoorUQ
namespace Go.Proofs.YtioahgklplbinaaGreatDoor
open Go.RowKit Go.Shelf Go.Maps SetM PropsM RxM
section
variable {R:Nat} {W W':World} {s:ByteArray} {dv:Value} {rest r:List Int} {d f n:Nat} {z c:Int} {σ:Out Unit}
def hexQ (r0 r1:List Int):Out Int :=
 if (runF isH 6 r1).1=[] then .err 60 r1 else match needF 125 (runF isH 6 r1).2 with
  | .err e x=>.err e x
  | .ok _ r2=>if scB (hexN (runF isH 6 r1).1) then .ok (hexN (runF isH 6 r1).1) r2 else .err 60 r0
theorem hexq_at {r0 r1 pre r:List Int} (h:runF isH 6 r1=(pre,r)):hexQ r0 r1=if pre=[] then .err 60 r1 else match needF 125 r with
  | .err e x=>.err e x
  | .ok _ r2=>if scB (hexN pre) then .ok (hexN pre) r2 else .err 60 r0:=by
 unfold hexQ
 rw [h]
theorem hexN_push (l:List Int) (c:Int):hexN (l++[c])=hexN l*16+hexV c:=by unfold hexN;rw [List.foldl_append];rfl
theorem hexN_five {l:List Int} (h:∀ c∈l,isH c=true) (h6:l.length≤5):0≤hexN l∧hexN l < 1048576:=by
 have:=Hx.hexA_bound l 0 0 (by omega) (by decide) h
 have hp:=Hx.pow16 (0+l.length) 5 (by omega)
 exact ⟨this.1,Int.lt_of_lt_of_le this.2 hp⟩
theorem sc_iff (n:Int):(scB n=true↔U.UtfM.Sc n):=by unfold scB U.UtfM.Sc;simp only [decide_eq_true_eq]
def digV (z:Int):Int:=if 48≤z∧z≤57 then z - 48 else if 97≤z∧z≤102 then z - 97+10 else if 65≤z∧z≤70 then z - 65+10 else -1
theorem isH_iff (z:Int):isH z=true↔(48≤z∧z≤57)∨(97≤z∧z≤102)∨(65≤z∧z≤70):=by simp [isH,isD]
theorem digV_yes {z:Int} (h:isH z=true):0≤digV z∧digV z≤15∧hexV z=digV z∧0≤z∧z < 128:=by
 rcases (isH_iff z).1 h with h | h | h
 ·unfold digV hexV;rw [if_pos h,if_pos (by omega)];omega
 ·unfold digV hexV;rw [if_neg (by omega),if_pos h,if_neg (by omega),if_neg (by omega)];omega
 ·unfold digV hexV;rw [if_neg (by omega),if_neg (by omega),if_pos h,if_neg (by omega),if_pos (by omega)];omega
theorem digV_no {z:Int} (h:isH z=false):digV z = -1:=by
 have:¬ ((48≤z∧z≤57)∨(97≤z∧z≤102)∨(65≤z∧z≤70)):=fun e=>by rw [(isH_iff z).2 e] at h;cases h
 unfold digV
 rw [if_neg (by omega),if_neg (by omega),if_neg (by omega)]
theorem hexq_good {r0 rest r:List Int} {v:Int} (hq:hexQ r0 rest=match needF 125 r with
  | .err e x=>.err e x
  | .ok _ r2=>if scB v then .ok v r2 else .err 60 r0) (hs:U.UtfM.Sc v):Out.u (hexQ r0 rest)=Out.u (needF 125 r)∧∀ b x,hexQ r0 rest=.ok b x→v=b:=by
 rw [hq]
 cases needF 125 r with
 | err e x=>exact ⟨rfl,fun b x h=>by cases h⟩
 | ok u r2 =>
  dsimp only
  rw [if_pos ((sc_iff v).2 hs)]
  exact ⟨rfl,fun b x h=>by cases h;rfl⟩
theorem hexq_bad {r0 rest r:List Int} {v:Int} (hq:hexQ r0 rest=match needF 125 r with
  | .err e x=>.err e x
  | .ok _ r2=>if scB v then .ok v r2 else .err 60 r0) (hs:¬ U.UtfM.Sc v):Out.u (hexQ r0 rest)=failS 60 r0 (Out.u (needF 125 r))∧∀ b x,hexQ r0 rest=.ok b x→v=b:=by
 rw [hq]
 cases needF 125 r with
 | err e x=>exact ⟨rfl,fun b x h=>by cases h⟩
 | ok u r2 =>
  dsimp only
  rw [if_neg (fun h=>hs ((sc_iff v).1 h))]
  exact ⟨rfl,fun b x h=>by cases h⟩
def HexPost (R:Nat) (s:ByteArray) (dv:Value) (d f:Nat) (r0 r1:List Int) (W:World) (e:Ending) (W':World):Prop :=
 ∃ a:Int,e=.returned (.int .i64 a)∧0≤a∧a < 16777216∧(∀ b x,hexQ r0 r1=.ok b x→a=b)∧Rs R W' s dv d f (Out.u (hexQ r0 r1))∧Gr R W W'
set_option maxRecDepth 100000 in
set_option maxHeartbeats 4000000 in
theorem hexq_c (r0:List Int) (h:Rr R W s dv rest d f):Calls Tryz.prog 144 #[.pointer (some ⟨R,0,none⟩),.int .i64 ((s.size:Int) - ((U.UtfM.wr r0).length:Nat))] W (HexPost R s dv d f r0 rest W):=by
 have hsm:=h.small
 have HR:=Lib.hid h
 clear h
 obtain ⟨zp,hzp⟩:∃ zp,zp=(s.size:Int) - ((U.UtfM.wr r0).length:Nat):=⟨_,rfl⟩
 rw [← hzp]
 have HZP:=Lib.hid hzp
 clear hzp
 go_enter Tryz.func144,Tryz.ntmps144
 go_wp2_with fail
 go_loopg [5,6] 6 (fun g s5 s6 wx=>∃ (k:Nat) (pre r:List Int) (v:Int),k+g=6∧s5=.int .i64 v∧s6=.int .i64 k∧(k=0→v=0)∧(k≤5→v < 1048576)∧0≤v∧v < 16777216∧Hid (pre.length=k∧v=hexN pre∧(∀ c∈pre,isH c=true)∧rest=pre++r∧runF isH 6 rest=(pre++(runF isH (6 - k) r).1,(runF isH (6 - k) r).2))∧Hid (Rr R wx s dv r d f)∧Hid (Gr R W wx))
 case atStart=>exact ⟨0,[],rest,0,by omega,rfl,rfl,fun _=>rfl,by omega,by omega,by omega,Lib.hid ⟨rfl,rfl,by simp,rfl,rfl⟩,HR,Lib.hid (Gr.refl _ _)⟩
 case round =>
  obtain ⟨k,pre,r,v,hkg,rfl,rfl,hk0,hk1,hv0,hv9,HP,HR,HG⟩:=hrel
  have HEND:Hid (runF isH (6 - k) r=([],r)→(k=0→hexQ r0 rest=.err 60 rest∧r=rest)∧(k≠0→hexQ r0 rest=match needF 125 r with
    | .err e x=>.err e x
    | .ok _ r2=>if scB v then .ok v r2 else .err 60 r0)):=Lib.hid (fun hr=>by
   obtain ⟨h1,h2,_,h3,h4⟩:=HP.out
   rw [hr] at h4
   have hend:runF isH 6 rest=(pre,r):=by simpa using h4
   have hq:=hexq_at (r0:=r0) hend
   constructor
   ·intro hk
    have:pre=[]:=List.length_eq_zero_iff.1 (by omega)
    subst this
    exact ⟨by rw [hq,if_pos rfl],h3.symm⟩
   ·intro hk
    rw [hq,if_neg (fun e=>by subst e;simp at h1;omega),h2])
  cases gk with
  | zero =>
   have hkl:¬ (k:Int) < 6:=by omega
   have HN:=Lib.hid (HEND.out (run_end (.inl (by omega))))
   clear HEND
   have hk00:k≠0:=by omega
   have hkz:¬ (k:Int)=0:=by omega
   have hkb:((k:Int) == 0)=false:=by simp;omega
   have HQ:=Lib.hid (HN.out.2 hk00)
   have HMU:=Lib.hid (mu_c 125 (by decide) HR.out)
   clear HN
   go_wp2_with fail
   refine HMU.out.mono ?_
   rintro e w6 ⟨rfl,h6,g6⟩
   replace h6:Rs R w6 s dv d f (Out.u (needF 125 r)):=h6
   have H6:=Lib.hid h6
   have G6:=Lib.hid (HG.out.trans g6)
   clear h6 g6
   go_wp2_with fail
   refine (U.renc_c v _).mono ?_
   rintro e w7 ⟨Pe,ce,rfl,_,_,_,_,_,b7⟩
   have H7:=Lib.hid (H6.out.kept b7)
   have G7:=Lib.hid (G6.out.trans (Gr.of b7))
   clear b7
   by_cases hs:U.UtfM.Sc v
   ·have hp := U.UtfM.enc_pos hs
    have HGO:=Lib.hid (hexq_good HQ.out hs)
    generalize (U.UtfM.enc v).length=ln at *
    have hl0:¬ (ln:Int)=0:=by omega
    have hl1:((ln:Int) == 0)=false:=by simp;omega
    clear hs
    go_wp2
    go_ret
    exact ⟨v,rfl,by omega,by omega,HGO.out.2,by rw [HGO.out.1];exact H7.out,G7.out⟩
   ·have hp : (U.UtfM.enc v).length = 0 := by rw [U.UtfM.enc_nil.2 hs]; rfl
    have HGO:=Lib.hid (hexq_bad HQ.out hs)
    have HF:=Lib.hid (fail_c 60 zp r0 (by omega) (fun _ _ _=>HZP.out) H7.out)
    generalize (U.UtfM.enc v).length=ln at *
    subst hp
    clear hs
    go_wp2_with fail
    refine HF.out.mono ?_
    rintro e w8 ⟨rfl,h8,g8⟩
    have H8:=Lib.hid h8
    have G8:=Lib.hid (G7.out.trans g8)
    clear h8 g8
    go_wp2
    go_ret
    exact ⟨v,rfl,by omega,by omega,HGO.out.2,by rw [HGO.out.1];exact H8.out,G8.out⟩
  | succ gk =>
   have hkl:(k:Int) < 6:=by omega
   obtain ⟨z,hz⟩:∃ z,z=lookS (.ok () r):=⟨_,rfl⟩
   have hlk:=lookq_c HR.out
   rw [← hz] at hlk
   have HSEE:=Lib.hid (see_all (R:=R) (s:=s) (dv:=dv) (d:=d) (f:=f) z hz)
   clear hz
   have hz255:-1≤z∧z≤255:=by rcases hlk with ⟨_,h⟩ | ⟨c,t,_,h | h⟩ <;> omega
   have hdig:(0≤digV z∧∃ t,r=z::t∧isH z=true)∨(digV z = -1∧(r=[]∨sees isH r=false)):=by
    rcases hlk with ⟨h1,h2⟩ | ⟨c,t,rfl,⟨h1,h2,h3⟩ | ⟨h1,h2,h3⟩⟩
    ·exact .inr ⟨by rw [h2];decide,.inl h1⟩
    ·subst h1
     cases hh:isH z with
     | true=>exact .inl ⟨(digV_yes hh).1,t,rfl,rfl⟩
     | false=>exact .inr ⟨digV_no hh,.inr hh⟩
    ·have hh:∀ x:Int,103≤x→isH x=false:=fun x hx=>by
      rw [Bool.eq_false_iff]
      intro e
      have:=(isH_iff x).1 e
      omega
     exact .inr ⟨digV_no (hh z (by omega)),.inr (hh c (by omega))⟩
   clear hlk
   go_wp2_with fail
   refine (HSEE.out _ HR.out).mono ?_
   rintro e w1 ⟨rfl,b1⟩
   have HR1:=Lib.hid (HR.out.kept b1)
   have HG1:=Lib.hid (HG.out.trans (Gr.of b1))
   clear b1 HSEE
   obtain ⟨dz,hdz⟩:∃ dz,dz=digV z:=⟨_,rfl⟩
   rw [← hdz] at hdig
   have HDZ:=Lib.hid hdz
   have HDIG:=Lib.hid hdig
   clear hdig
   have h7:((¬ z ≥ 48∧z≤57∧¬ z ≥ 97∧z≤102∧¬ z ≥ 65∧z≤70)∨(z ≥ 48∧¬ z≤57∧¬ z ≥ 97∧z≤102∧¬ z ≥ 65∧z≤70)∨(z ≥ 48∧¬ z≤57∧¬ z ≥ 97∧z≤102∧z ≥ 65∧¬ z≤70)∨(z ≥ 48∧¬ z≤57∧z ≥ 97∧¬ z≤102∧z ≥ 65∧¬ z≤70))∧dz = -1 ∨
     ((z ≥ 48∧z≤57∧¬ z ≥ 97∧z≤102∧¬ z ≥ 65∧z≤70∧dz=z - 48)∨(z ≥ 48∧¬ z≤57∧¬ z ≥ 97∧z≤102∧z ≥ 65∧z≤70∧dz=z - 65+10)∨(z ≥ 48∧¬ z≤57∧z ≥ 97∧z≤102∧z ≥ 65∧¬ z≤70∧dz=z - 97+10)):=by
    rw [hdz]
    unfold digV
    by_cases p1:48≤z∧z≤57
    ·rw [if_pos p1];omega
    ·rw [if_neg p1]
     by_cases p2:97≤z∧z≤102
     ·rw [if_pos p2];omega
     ·rw [if_neg p2]
      by_cases p3:65≤z∧z≤70
      ·rw [if_pos p3];omega
      ·rw [if_neg p3];omega
   clear hdz
   rcases h7 with ⟨hst,hneg⟩ | hgo
   ·have HN:=Lib.hid (HEND.out (run_end (.inr (by
     rcases HDIG.out with ⟨h,_⟩ | ⟨_,h⟩
     ·omega
     ·exact h))))
    have HR:=HR1
    have HG:=HG1
    clear HEND HDIG HDZ HP
    rcases hst with ⟨q1,q2,q3,q4,q5,q6⟩ | ⟨q1,q2,q3,q4,q5,q6⟩ | ⟨q1,q2,q3,q4,q5,q6⟩ | ⟨q1,q2,q3,q4,q5,q6⟩
    all_goals
     by_cases hk00:k=0
     ·obtain rfl := hk0 hk00
      subst hk00
      have hrr:=(HN.out.1 rfl).2
      have HNE:=Lib.hid (HN.out.1 rfl).1
      have c1:=HR.out.c1
      have HF:=Lib.hid (fail_c (σ:= .ok () r) 60 ((s.size:Int) - ((U.UtfM.wr r).length:Nat)) rest (by omega) (fun _ _ _=>by rw [hrr]) HR.out)
      have hl0:((U.UtfM.enc 0).length:Int)=1:=by decide
      clear hrr
      go_wp2_with fail
      refine HF.out.mono ?_
      rintro e w5 ⟨rfl,h5,g5⟩
      have H5:Hid (Rs R w5 s dv d f (.err 60 rest)):=Lib.hid h5
      have G5:=Lib.hid (HG.out.trans g5)
      have HMU:=Lib.hid (mu_err ⟨#[125]⟩ (lowq1 125 (by decide)) (by decide) H5.out)
      clear h5 g5
      go_wp2_with fail
      refine HMU.out.mono ?_
      rintro e w6 ⟨rfl,h6,g6⟩
      have H6:=Lib.hid h6
      have G6:=Lib.hid (G5.out.trans g6)
      clear h6 g6
      go_wp2_with fail
      refine (U.renc_c 0 _).mono ?_
      rintro e w7 ⟨Pe,ce,rfl,_,_,_,_,_,b7⟩
      have H7:=Lib.hid (H6.out.kept b7)
      have G7:=Lib.hid (G6.out.trans (Gr.of b7))
      clear b7
      go_wp2
      go_ret
      exact ⟨0,rfl,by omega,by omega,fun b x e=>(by rw [HNE.out] at e;cases e),by rw [HNE.out];exact H7.out,G7.out⟩
     ·have hkz : ¬ (k : Int) = 0 := by omega
      have hkb:((k:Int) == 0)=false:=by simp;omega
      have HQ:=Lib.hid (HN.out.2 hk00)
      have HMU:=Lib.hid (mu_c 125 (by decide) HR.out)
      clear HN
      go_wp2_with fail
      refine HMU.out.mono ?_
      rintro e w6 ⟨rfl,h6,g6⟩
      replace h6:Rs R w6 s dv d f (Out.u (needF 125 r)):=h6
      have H6:=Lib.hid h6
      have G6:=Lib.hid (HG.out.trans g6)
      clear h6 g6
      go_wp2_with fail
      refine (U.renc_c v _).mono ?_
      rintro e w7 ⟨Pe,ce,rfl,_,_,_,_,_,b7⟩
      have H7:=Lib.hid (H6.out.kept b7)
      have G7:=Lib.hid (G6.out.trans (Gr.of b7))
      clear b7
      by_cases hs:U.UtfM.Sc v
      ·have hp := U.UtfM.enc_pos hs
       have HGO:=Lib.hid (hexq_good HQ.out hs)
       generalize (U.UtfM.enc v).length=ln at *
       have hl0:¬ (ln:Int)=0:=by omega
       have hl1:((ln:Int) == 0)=false:=by simp;omega
       clear hs
       go_wp2
       go_ret
       exact ⟨v,rfl,by omega,by omega,HGO.out.2,by rw [HGO.out.1];exact H7.out,G7.out⟩
      ·have hp : (U.UtfM.enc v).length = 0 := by rw [U.UtfM.enc_nil.2 hs]; rfl
       have HGO:=Lib.hid (hexq_bad HQ.out hs)
       have HF:=Lib.hid (fail_c 60 zp r0 (by omega) (fun _ _ _=>HZP.out) H7.out)
       generalize (U.UtfM.enc v).length=ln at *
       subst hp
       clear hs
       go_wp2_with fail
       refine HF.out.mono ?_
       rintro e w8 ⟨rfl,h8,g8⟩
       have H8:=Lib.hid h8
       have G8:=Lib.hid (G7.out.trans g8)
       clear h8 g8
       go_wp2
       go_ret
       exact ⟨v,rfl,by omega,by omega,HGO.out.2,by rw [HGO.out.1];exact H8.out,G8.out⟩
   ·obtain ⟨hd0,t,rfl,hD⟩:0≤dz∧∃ t,r=z::t∧isH z=true:=by
     rcases HDIG.out with h | ⟨h,_⟩
     ·exact h
     ·omega
    obtain ⟨_,hd15,hdv,hz0,hz128⟩:=digV_yes hD
    rw [← HDZ.out] at hd15 hdv
    have hv9:v < 1048576:=hk1 (by omega)
    have HP2:Hid ((pre++[z]).length=k+1∧v*16+dz=hexN (pre++[z])∧(∀ c∈pre++[z],isH c=true)∧rest=pre++[z]++t∧runF isH 6 rest=(pre++[z]++(runF isH (6 - (k+1)) t).1,(runF isH (6 - (k+1)) t).2)):=Lib.hid (by
     obtain ⟨h1,h2,h3,h4,h5⟩:=HP.out
     refine ⟨by simp [h1],by rw [hexN_push,h2,hdv],?_,by rw [h4];simp,?_⟩
     ·intro c hc
      rcases List.mem_append.1 hc with h | h
      ·exact h3 c h
      ·rw [List.mem_singleton.1 h];exact hD
     have e:runF isH (6 - k) (z::t)=(z::(runF isH (6 - (k+1)) t).1,(runF isH (6 - (k+1)) t).2):=by
      have e2:6 - k=(6 - (k+1))+1:=by omega
      rw [e2]
      simp [runF,hD]
     rw [h5,e]
     simp)
    have hbd:v*16+dz < 16777216:=by omega
    have hbd5:k+1≤5→v*16+dz < 1048576:=fun hk=>by
     have:=hexN_five (l:=pre++[z]) HP2.out.2.2.1 (by rw [HP2.out.1];exact hk)
     rw [← HP2.out.2.1] at this
     exact this.2
    have hlen:=HR1.out.len
    have hmv:(U.UtfM.wr (z::t)).length=(U.UtfM.wr t).length+1:=by rw [wr_head_low (HR1.out.sc z (by simp)) (by omega)];simp
    have HM:=Lib.hid (fun Y (hU:Rr R Y s dv (z::t) d f)=>hU.move (p:=[z]) (rest':=t) (x:=(s.size:Int) - ((U.UtfM.wr (z::t)).length:Nat)+1) rfl (by omega))
    have ew:IntKind.i64.wrap ((s.size:Int) - ((U.UtfM.wr (z::t)).length:Nat)+1)=(s.size:Int) - ((U.UtfM.wr (z::t)).length:Nat)+1:=IntWalk.i64_in _ (by omega)
    have e1:IntKind.i64.wrap (16*v)=16*v:=IntWalk.i64_in _ (by omega)
    have e21:IntKind.i64.wrap (16*v+(z - 48))=16*v+(z - 48):=IntWalk.i64_in _ (by omega)
    have e22:IntKind.i64.wrap (16*v+(z - 65+10))=16*v+(z - 65+10):=IntWalk.i64_in _ (by omega)
    have e23:IntKind.i64.wrap (16*v+(z - 97+10))=16*v+(z - 97+10):=IntWalk.i64_in _ (by omega)
    have e31:IntKind.i64.wrap (z - 48)=z - 48:=IntWalk.i64_in _ (by omega)
    have e32:IntKind.i64.wrap (z - 65)=z - 65:=IntWalk.i64_in _ (by omega)
    have e33:IntKind.i64.wrap (z - 65+10)=z - 65+10:=IntWalk.i64_in _ (by omega)
    have e34:IntKind.i64.wrap (z - 97)=z - 97:=IntWalk.i64_in _ (by omega)
    have e35:IntKind.i64.wrap (z - 97+10)=z - 97+10:=IntWalk.i64_in _ (by omega)
    have e4:IntKind.i64.wrap ((k:Int)+1)=(k:Int)+1:=IntWalk.i64_in _ (by omega)
    have c1:=HR1.out.c1
    have kz:=HR1.out.fz 1
    clear HDIG hlen hmv hD HEND hdv
    rcases hgo with ⟨q1,q2,q3,q4,q5,q6,q7⟩ | ⟨q1,q2,q3,q4,q5,q6,q7⟩ | ⟨q1,q2,q3,q4,q5,q6,q7⟩
    all_goals
     have kn1:¬ dz < 0:=by omega
     have kn2:=kn1
     rw [q7] at kn2
     have HQ7:=Lib.hid q7
     clear q7
     go_wp2
     go_roundg gk
     case measure=>omega
     case rel=>exact ⟨k+1,pre++[z],t,v*16+dz,by omega,by have:=HQ7.out;congr 1;omega,by simp,by omega,hbd5,by omega,hbd,HP2,Lib.hid (HM.out _ HR1.out),Lib.hid (HG1.out.trans (Gr.set _ 1 _))⟩
end
end Go.Proofs.YtioahgklplbinaaGreatDoor
