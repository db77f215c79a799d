/- QTimes, QSet, in one text. -/
/- The document's reader: how often, behind the bracket. -/
import Derived.Test.YtioahgklplbinaaGreatDoorQA
import Derived.Test.YtioahgklplbinaaGreatDoorQClose
namespace Go.Proofs.YtioahgklplbinaaGreatDoor
open Go.RowKit Go.Shelf Go.Maps SetM PropsM RxM
section
variable {R:Nat} {W W':World} {s:ByteArray} {dv:Value} {rest r:List Int} {d f n:Nat} {z c:Int} {σ:Out Unit}
def mustO (c : Int) : Out Unit → Out Unit
 | .ok _ r=>Out.u (needF c r)
 | .err n x=>.err n x
theorem must1_all (b:UInt8) (hb:(b.toNat:Int) < 128) (σ:Out Unit):∀ Y,Rs R Y s dv d f σ→Calls Tryz.prog 136 #[.pointer (some ⟨R,0,none⟩),.string ⟨#[b]⟩] Y fun e W'=>e=.returned (.tuple #[])∧Rs R W' s dv d f (mustO (b.toNat:Int) σ)∧Gr R Y W':=by
 intro Y h
 cases σ with
 | ok u r=>exact mu_c b hb h
 | err m x=>exact mu_err ⟨#[b]⟩ (lowq1 b hb) (by show (1:Nat)≤10;omega) h
def Big (a b:Int):Prop:=20 < max a b∨(b≠-1∧b < a)
open Classical in
noncomputable def endF (rest:List Int) (a b:Int) (σ:Out Unit):Out Unit:=match mustO 125 σ with
 | .err e x=>.err e x
 | .ok _ r3=>if Big a b then .err 63 rest else .ok () r3
theorem end_bad {a b:Int} (h:Big a b):endF rest a b σ=failS 63 rest (mustO 125 σ):=by
 unfold endF
 cases mustO 125 σ with
 | err e x=>rfl
 | ok u r=>dsimp only;rw [if_pos h];rfl
theorem end_good {a b:Int} (h:¬ Big a b):endF rest a b σ=mustO 125 σ:=by
 unfold endF
 cases mustO 125 σ with
 | err e x=>rfl
 | ok u r=>dsimp only;rw [if_neg h]
theorem bounds_q {rest r1:List Int} {a b:Int} {o:Out Unit} (h1:numF rest=.ok a r1) (h2:Out.u (mostF a r1)=o) (h3:∀ b' x,mostF a r1=.ok b' x→b=b'):Out.u (boundsF rest)=endF rest a b o∧∀ p x,boundsF rest=.ok p x→p=(a,b):=by
 unfold boundsF endF
 rw [h1]
 dsimp only
 subst h2
 cases hm:mostF a r1 with
 | err e x=>exact ⟨rfl,fun p x h=>by cases h⟩
 | ok b' r2 =>
  have:=h3 b' r2 hm
  subst this
  dsimp only [Out.u,mustO]
  cases hn:needF 125 r2 with
  | err e x=>exact ⟨rfl,fun p x h=>by cases h⟩
  | ok u r3 =>
   dsimp only
   by_cases hb:Big a b
   ·rw [if_pos hb]
    unfold Big at hb
    rw [if_pos hb]
    exact ⟨rfl,fun p x h=>by cases h⟩
   ·rw [if_neg hb]
    unfold Big at hb
    rw [if_neg hb]
    exact ⟨rfl,fun p x h=>by cases h;rfl⟩
theorem bounds_e {rest x:List Int} {e:Nat} (h1:numF rest=.err e x) (a b:Int):Out.u (boundsF rest)=endF rest a b (.err e x)∧∀ p y,boundsF rest=.ok p y→p=(a,b):=by
 unfold boundsF endF
 rw [h1]
 dsimp only
 exact ⟨rfl,fun p x h=>by cases h⟩
def TimesPost (R:Nat) (s:ByteArray) (dv:Value) (d f:Nat) (rest:List Int) (W:World) (e:Ending) (W':World):Prop :=
 ∃ a b:Int,e=.returned (.tuple #[.int .i64 a,.int .i64 b])∧0≤a∧a≤99∧-1≤b∧b≤99∧(∀ p x,boundsF rest=.ok p x→p=(a,b))∧Rs R W' s dv d f (Out.u (boundsF rest))∧Gr R W W'
set_option maxRecDepth 100000 in
set_option maxHeartbeats 2000000 in
theorem times6_c (h:Rr R W s dv rest d f):Calls Tryz.prog 119 #[.pointer (some ⟨R,0,none⟩)] W (TimesPost R s dv d f rest W):=by
 have hsm:=h.small
 have c1:=h.c1
 have HD:=Lib.hid (digitsq_c h)
 clear h
 go_enter Tryz.func119,Tryz.ntmps119
 go_wp2_with fail
 refine HD.out.mono ?_
 rintro e w1 ⟨a,rfl,a0,a9,hok,herr,h1,g1⟩
 have HG:=Lib.hid g1
 clear c1 HD g1
 cases hn:numF rest with
 | err n x =>
  rw [hn] at h1
  have ha:a=0:=herr n x hn
  subst ha
  have HR:=Lib.hid h1
  have HB:=Lib.hid (bounds_e hn 0 0)
  clear hn h1 hok herr
  have HT:=Lib.hid (tk_err ⟨#[44]⟩ (lowq1 44 (by decide)) (by decide) HR.out)
  go_wp2_with fail
  refine HT.out.mono ?_
  rintro e w2 ⟨rfl,h2,g2⟩
  have HR2:=Lib.hid h2
  have HG2:=Lib.hid (HG.out.trans g2)
  clear h2 g2 HT
  have HMU:=Lib.hid (must1_all (R:=R) (s:=s) (dv:=dv) (d:=d) (f:=f) 125 (by decide) (.err n x))
  go_wp2_with fail
  refine (HMU.out _ HR2.out).mono ?_
  rintro e w7 ⟨rfl,h7,g7⟩
  obtain ⟨σ7,hσ7⟩:∃ q,q=mustO 125 (.err n x):=⟨_,rfl⟩
  replace h7:Rs R w7 s dv d f (mustO 125 (.err n x)):=h7
  rw [← hσ7] at h7
  have HS7:=Lib.hid hσ7
  have HR7:=Lib.hid h7
  have HG7:=Lib.hid (HG2.out.trans g7)
  clear h7 g7 hσ7 HMU
  have hpost:σ7=Out.u (boundsF rest):=by
   rw [HB.out.1,HS7.out]
   exact (end_good (by unfold Big;omega)).symm
  have HPO:=Lib.hid hpost
  clear hpost
  go_wp2
  go_returns
  exact ⟨_,_,rfl,by omega,by omega,by omega,by omega,HB.out.2,by rw [← HPO.out];exact HR7.out,HG7.out⟩
 | ok a' r1 =>
  have ha:=hok a' r1 hn
  subst ha
  rw [hn] at h1
  have HR:Hid (Rr R w1 s dv r1 d f):=Lib.hid h1
  have HN:=Lib.hid hn
  clear hn h1 hok herr
  cases h44:at1 44 r1 with
  | false =>
   have HB:=Lib.hid (bounds_q (o:= .ok () r1) (b:=a) HN.out (by unfold mostF;rw [h44];rfl) (fun b' x e=>by unfold mostF at e;rw [h44] at e;cases e;rfl))
   have HT:=Lib.hid (tk_no 44 (by decide) HR.out h44)
   clear h44
   go_wp2_with fail
   refine HT.out.mono ?_
   rintro e w2 ⟨rfl,h2,g2⟩
   have HR2:Hid (Rs R w2 s dv d f (.ok () r1)):=Lib.hid h2
   have HG2:=Lib.hid (HG.out.trans g2)
   clear h2 g2 HT
   have HMU:=Lib.hid (must1_all (R:=R) (s:=s) (dv:=dv) (d:=d) (f:=f) 125 (by decide) (.ok () r1))
   go_wp2_with fail
   refine (HMU.out _ HR2.out).mono ?_
   rintro e w7 ⟨rfl,h7,g7⟩
   obtain ⟨σ7,hσ7⟩:∃ q,q=mustO 125 (.ok () r1):=⟨_,rfl⟩
   replace h7:Rs R w7 s dv d f (mustO 125 (.ok () r1)):=h7
   rw [← hσ7] at h7
   have HS7:=Lib.hid hσ7
   have HR7:=Lib.hid h7
   have HG7:=Lib.hid (HG2.out.trans g7)
   clear h7 g7 hσ7 HMU
   by_cases ga:a > 20
   ·have HFL := Lib.hid (fail_c (σ := σ7) 63 ((s.size : Int) - ((U.UtfM.wr rest).length : Nat)) rest (by omega) (fun _ _ _ => rfl) HR7.out)
    have hpost:failS 63 rest σ7=Out.u (boundsF rest):=by
     rw [HB.out.1,HS7.out]
     exact (end_bad (by unfold Big;omega)).symm
    have HPO:=Lib.hid hpost
    clear hpost
    go_wp2_with fail
    refine HFL.out.mono ?_
    rintro e w8 ⟨rfl,h8,g8⟩
    have HR8:=Lib.hid h8
    have HG8:=Lib.hid (HG7.out.trans g8)
    clear h8 g8
    go_wp2
    go_returns
    exact ⟨_,_,rfl,by omega,by omega,by omega,by omega,HB.out.2,by rw [← HPO.out];exact HR8.out,HG8.out⟩
   ·have hpost:σ7=Out.u (boundsF rest):=by
     rw [HB.out.1,HS7.out]
     exact (end_good (by unfold Big;omega)).symm
    have HPO:=Lib.hid hpost
    clear hpost
    go_wp2
    go_returns
    exact ⟨_,_,rfl,by omega,by omega,by omega,by omega,HB.out.2,by rw [← HPO.out];exact HR7.out,HG7.out⟩
  | true =>
   have HT:=Lib.hid (tk_yes 44 (by decide) HR.out h44)
   go_wp2_with fail
   refine HT.out.mono ?_
   rintro e w2 ⟨rfl,h2,g2⟩
   have HR2:Hid (Rr R w2 s dv r1.tail d f):=Lib.hid h2
   have HG2:=Lib.hid (HG.out.trans g2)
   clear h2 g2 HT
   obtain ⟨z,hz⟩:∃ z,z=lookS (.ok () r1.tail):=⟨_,rfl⟩
   have hlk:=lookq_c HR2.out
   rw [← hz] at hlk
   have HSEE:=Lib.hid (see_all (R:=R) (s:=s) (dv:=dv) (d:=d) (f:=f) z hz)
   clear hz
   have h125:(z=125∧at1 125 r1.tail=true)∨(¬ z=125∧at1 125 r1.tail=false):=by
    rcases hlk with ⟨h1,h2⟩ | ⟨c,t,e,⟨h1,h2,h3⟩ | ⟨h1,h2,h3⟩⟩
    ·exact .inr ⟨by omega,by rw [h1];rfl⟩
    ·rw [e]
     by_cases hc:c=125
     ·exact .inl ⟨by omega,decide_eq_true hc⟩
     ·exact .inr ⟨by omega,decide_eq_false hc⟩
    ·rw [e]
     exact .inr ⟨by omega,decide_eq_false (by omega)⟩
   clear hlk
   rcases h125 with ⟨rfl,h125⟩ | ⟨hz,h125⟩
   ·have HB := Lib.hid (bounds_q (o := .ok () r1.tail) (b := -1) HN.out (by unfold mostF; rw [h44, h125]; rfl) (fun b' x e => by unfold mostF at e; rw [h44, h125] at e; cases e; rfl))
    clear h44 h125
    go_wp2_with fail
    refine (HSEE.out _ HR2.out).mono ?_
    rintro e w3 ⟨rfl,b3⟩
    have HR3:Hid (Rs R w3 s dv d f (.ok () r1.tail)):=Lib.hid (Rr.kept HR2.out b3)
    have HG3:=Lib.hid (HG2.out.trans (Gr.of b3))
    clear b3
    have HMU:=Lib.hid (must1_all (R:=R) (s:=s) (dv:=dv) (d:=d) (f:=f) 125 (by decide) (.ok () r1.tail))
    go_wp2_with fail
    refine (HMU.out _ HR3.out).mono ?_
    rintro e w7 ⟨rfl,h7,g7⟩
    obtain ⟨σ7,hσ7⟩:∃ q,q=mustO 125 (.ok () r1.tail):=⟨_,rfl⟩
    replace h7:Rs R w7 s dv d f (mustO 125 (.ok () r1.tail)):=h7
    rw [← hσ7] at h7
    have HS7:=Lib.hid hσ7
    have HR7:=Lib.hid h7
    have HG7:=Lib.hid (HG3.out.trans g7)
    clear h7 g7 hσ7 HMU
    by_cases ga:a > 20
    ·have HFL := Lib.hid (fail_c (σ := σ7) 63 ((s.size : Int) - ((U.UtfM.wr rest).length : Nat)) rest (by omega) (fun _ _ _ => rfl) HR7.out)
     have hpost:failS 63 rest σ7=Out.u (boundsF rest):=by
      rw [HB.out.1,HS7.out]
      exact (end_bad (by unfold Big;omega)).symm
     have HPO:=Lib.hid hpost
     clear hpost
     go_wp2_with fail
     refine HFL.out.mono ?_
     rintro e w8 ⟨rfl,h8,g8⟩
     have HR8:=Lib.hid h8
     have HG8:=Lib.hid (HG7.out.trans g8)
     clear h8 g8
     go_wp2
     go_returns
     exact ⟨_,_,rfl,by omega,by omega,by omega,by omega,HB.out.2,by rw [← HPO.out];exact HR8.out,HG8.out⟩
    ·have hpost:σ7=Out.u (boundsF rest):=by
      rw [HB.out.1,HS7.out]
      exact (end_good (by unfold Big;omega)).symm
     have HPO:=Lib.hid hpost
     clear hpost
     go_wp2
     go_returns
     exact ⟨_,_,rfl,by omega,by omega,by omega,by omega,HB.out.2,by rw [← HPO.out];exact HR7.out,HG7.out⟩
   ·have hzb : (z == 125) = false := by simp [hz]
    have hzn:(z != 125)=true:=by simp [hz]
    have hmo:mostF a r1=numF r1.tail:=by unfold mostF;rw [h44,h125];rfl
    have HMO:=Lib.hid hmo
    clear h44 h125 hmo
    go_wp2_with fail
    refine (HSEE.out _ HR2.out).mono ?_
    rintro e w3 ⟨rfl,b3⟩
    have HR3:=Lib.hid (Rr.kept HR2.out b3)
    have HG3:=Lib.hid (HG2.out.trans (Gr.of b3))
    clear b3
    have HD:=Lib.hid (digitsq_c HR3.out)
    go_wp2_with fail
    refine HD.out.mono ?_
    rintro e w4 ⟨b,rfl,b0,b9,hok,herr,h4,g4⟩
    have HB:=Lib.hid (bounds_q (o:=Out.u (numF r1.tail)) (b:=b) HN.out (by rw [HMO.out]) (fun b' x e=>by rw [HMO.out] at e;exact hok b' x e))
    obtain ⟨σ4,hσ4⟩:∃ x,x=Out.u (numF r1.tail):=⟨_,rfl⟩
    rw [← hσ4] at h4 HB
    have HR4:=Lib.hid h4
    have HG4:=Lib.hid (HG3.out.trans g4)
    clear hok herr h4 g4 hσ4 HD hz hzb hzn
    have HMU:=Lib.hid (must1_all (R:=R) (s:=s) (dv:=dv) (d:=d) (f:=f) 125 (by decide) σ4)
    go_wp2_with fail
    refine (HMU.out _ HR4.out).mono ?_
    rintro e w7 ⟨rfl,h7,g7⟩
    obtain ⟨σ7,hσ7⟩:∃ q,q=mustO 125 σ4:=⟨_,rfl⟩
    replace h7:Rs R w7 s dv d f (mustO 125 σ4):=h7
    rw [← hσ7] at h7
    have HS7:=Lib.hid hσ7
    have HR7:=Lib.hid h7
    have HG7:=Lib.hid (HG4.out.trans g7)
    clear h7 g7 hσ7 HMU
    by_cases ga:a > 20
    ·have HFL := Lib.hid (fail_c (σ := σ7) 63 ((s.size : Int) - ((U.UtfM.wr rest).length : Nat)) rest (by omega) (fun _ _ _ => rfl) HR7.out)
     have hpost:failS 63 rest σ7=Out.u (boundsF rest):=by
      rw [HB.out.1,HS7.out]
      exact (end_bad (by unfold Big;omega)).symm
     have HPO:=Lib.hid hpost
     clear hpost
     go_wp2_with fail
     refine HFL.out.mono ?_
     rintro e w8 ⟨rfl,h8,g8⟩
     have HR8:=Lib.hid h8
     have HG8:=Lib.hid (HG7.out.trans g8)
     clear h8 g8
     go_wp2
     go_returns
     exact ⟨_,_,rfl,by omega,by omega,by omega,by omega,HB.out.2,by rw [← HPO.out];exact HR8.out,HG8.out⟩
    ·by_cases gb : b > 20
     ·have HFL := Lib.hid (fail_c (σ := σ7) 63 ((s.size : Int) - ((U.UtfM.wr rest).length : Nat)) rest (by omega) (fun _ _ _ => rfl) HR7.out)
      have hpost:failS 63 rest σ7=Out.u (boundsF rest):=by
       rw [HB.out.1,HS7.out]
       exact (end_bad (by unfold Big;omega)).symm
      have HPO:=Lib.hid hpost
      clear hpost
      go_wp2_with fail
      refine HFL.out.mono ?_
      rintro e w8 ⟨rfl,h8,g8⟩
      have HR8:=Lib.hid h8
      have HG8:=Lib.hid (HG7.out.trans g8)
      clear h8 g8
      go_wp2
      go_returns
      exact ⟨_,_,rfl,by omega,by omega,by omega,by omega,HB.out.2,by rw [← HPO.out];exact HR8.out,HG8.out⟩
     ·have gb0 : b ≥ 0 := b0
      by_cases gc:b < a
      ·have HFL := Lib.hid (fail_c (σ := σ7) 63 ((s.size : Int) - ((U.UtfM.wr rest).length : Nat)) rest (by omega) (fun _ _ _ => rfl) HR7.out)
       have hpost:failS 63 rest σ7=Out.u (boundsF rest):=by
        rw [HB.out.1,HS7.out]
        exact (end_bad (by unfold Big;omega)).symm
       have HPO:=Lib.hid hpost
       clear hpost
       go_wp2_with fail
       refine HFL.out.mono ?_
       rintro e w8 ⟨rfl,h8,g8⟩
       have HR8:=Lib.hid h8
       have HG8:=Lib.hid (HG7.out.trans g8)
       clear h8 g8
       go_wp2
       go_returns
       exact ⟨_,_,rfl,by omega,by omega,by omega,by omega,HB.out.2,by rw [← HPO.out];exact HR8.out,HG8.out⟩
      ·have hpost:σ7=Out.u (boundsF rest):=by
        rw [HB.out.1,HS7.out]
        exact (end_good (by unfold Big;omega)).symm
       have HPO:=Lib.hid hpost
       clear hpost
       go_wp2
       go_returns
       exact ⟨_,_,rfl,by omega,by omega,by omega,by omega,HB.out.2,by rw [← HPO.out];exact HR7.out,HG7.out⟩
end
end Go.Proofs.YtioahgklplbinaaGreatDoor
/- The document's reader: sets of scalars as nodes; the scalar that stands there. -/
namespace Go.Proofs.YtioahgklplbinaaGreatDoor
open Go.RowKit Go.Shelf Go.Maps SetM PropsM RxM
section
variable {R:Nat} {W W':World} {s:ByteArray} {dv:Value} {rest r:List Int} {d f n:Nat} {z c:Int} {σ:Out Unit}
theorem Rs.c4 (h:Rs R W s dv d f σ):W.cell? ⟨R,4,none⟩=some (.int .i64 f):=by
 obtain ⟨i,n,z,_,_,hc,_⟩:=h.cells
 exact (hc W (Below.refl _ _)).2.2.2.2.1
theorem closed_congr {K L:Int→Prop} (h:∀ r,K r↔L r) (r:Int):ClosedK K r↔ClosedK L r:=by
 unfold ClosedK
 exact ⟨fun ⟨u,x,y,z⟩=>⟨u,x,(h x).1 y,z⟩,fun ⟨u,x,y,z⟩=>⟨u,x,(h x).2 y,z⟩⟩
set_option maxRecDepth 100000 in
set_option maxHeartbeats 2000000 in
theorem chars_q {P : Option Addr} {c : Nat} {l : List Sp} {K : Int → Prop} (N : Nat × Nat) (hN : N.2 ≤ R) (h : Rs R W s dv d f σ) (hs : Sl W P l) (hl : l.length ≤ 100000) (hl2 : ∀ o1, IsSet o1 (fun r => Tells l r) → o1.length ≤ 43000) (hw : Wide l) (hK : ∀ r, Tells l r ↔ K r) :
  Calls Tryz.prog 129 #[.pointer (some ⟨R,0,none⟩),.slice P l.length c] W fun e W'=>∃ v,e=.returned v∧NV W' (Old N W.heap.size) v (chN (decide (0 < f)) K)∧Below W.heap.size W W':=by
 have hRW:=h.lt
 have hb0:=(Below.refl W.heap.size W).alloc (Nat.le_refl _) (.cells #[.int .u8 0,.slice none 0 0,.slice none 0 0,.int .i64 0,.int .i64 0] 48)
 have hz0:=World.size_alloc W (.cells #[.int .u8 0,.slice none 0 0,.slice none 0 0,.int .i64 0,.int .i64 0] 48)
 have h5:=B5.new W (.int .u8 0) (.slice none 0 0) (.slice none 0 0) (.int .i64 0) (.int .i64 0)
 have hs0:=hs.step hb0
 have HNO:=Lib.hid (rnorm_n (c:=c) hs0 (by omega) hw)
 have HB:=Lib.hid hb0
 have HZ:=Lib.hid hz0
 have HK:=Lib.hid hK
 have HL2:=Lib.hid hl2
 have H5:=Lib.hid h5
 have HR:=Lib.hid (h.kept hb0)
 clear hs hs0 hz0 hb0 h hK h5 hl2
 go_enter Tryz.func129,Tryz.ntmps129
 go_wp2_with fail
 refine HNO.out.mono ?_
 rintro e w1 ⟨P1,c1,o1,rfl,i1,n1,s1,z1,a1,b1⟩
 have h5:=H5.out.gr (R:=W.heap.size+1) (Gr.of b1) (by omega)
 obtain ⟨⟨x0,x1,x2,x3,x4,k0,k1,k2,k3,k4⟩,f0,f1,f2,f3,f4⟩:=h5.cells
 have HB1:=Lib.hid (HB.out.trans (b1.mono HB.out.size))
 have H51:=Lib.hid h5
 have cf:=(HR.out.kept b1).c4
 by_cases hf:f=0
 ·subst hf
  have HNV:Hid (NV w1 (Old N (W.heap.size+1)) (.agg #[.int .u8 1,.slice P1 o1.length c1,.slice none 0 0,.int .i64 0,.int .i64 0]) (chN (decide (0 < 0)) K)) :=
   Lib.hid (chars_nv (i1.congr HK.out) (by have:=HL2.out o1 i1;omega) s1 z1 (fun a ha=>.inr (by have:=a1 a ha;rw [HZ.out] at this;exact this)))
  clear i1 s1 z1 a1 b1 h5
  go_wp2
  exact ret_node rfl rfl H51.out ⟨_,rfl,put5_nv (R:=R) _ _ _ _ _ HNV.out (Nat.lt_succ_self _) hRW (Nat.le_succ _),put5_below _ _ _ _ _ HB1.out (Nat.le_refl _)⟩
 ·have hf0 : (f : Int) > 0 := by omega
  have hf1:decide (0 < f)=true:=decide_eq_true (by omega)
  have hw1:Wide o1:=wide_set i1 (fun r h=>h.1)
  have hl43:=HL2.out o1 i1
  have HCL:=Lib.hid (rclose_n (c:=c1) s1 hl43 hw1)
  have HI1:=Lib.hid i1
  have hz1:=b1.size
  have HF1:=Lib.hid hf1
  clear i1 s1 z1 a1 b1 h5 hw1 hf1 hl43 k0 k1 k2 k3 k4 f0 f1 f2 f3 f4
  go_wp2_with fail
  refine HCL.out.mono ?_
  rintro e w2 ⟨P2,c2,o2,rfl,i2,n2,s2,z2,a2,b2⟩
  have h5:=H51.out.gr (R:=W.heap.size+1) (Gr.of b2) (by omega)
  obtain ⟨⟨x0,x1,x2,x3,x4,k0,k1,k2,k3,k4⟩,f0,f1,f2,f3,f4⟩:=h5.cells
  have HB2:=Lib.hid (HB1.out.trans (b2.mono HB1.out.size))
  have H52:=Lib.hid h5
  have HNV:Hid (NV w2 (Old N (W.heap.size+1)) (.agg #[.int .u8 1,.slice P2 o2.length c2,.slice none 0 0,.int .i64 0,.int .i64 0]) (chN (decide (0 < f)) K)) :=
   Lib.hid (by rw [HF1.out];exact chars_nv ((i2.congr (closed_congr (HI1.out.tells (fun r h=>h.1)))).congr (closed_congr HK.out)) (by omega) s2 z2 (fun a ha=>.inr (by have:=a2 a ha;have:=HZ.out;omega)))
  clear i2 s2 z2 a2 b2 h5
  go_wp2
  exact ret_node rfl rfl H52.out ⟨_,rfl,put5_nv (R:=R) _ _ _ _ _ HNV.out (Nat.lt_succ_self _) hRW (Nat.le_succ _),put5_below _ _ _ _ _ HB2.out (Nat.le_refl _)⟩
theorem Rr.tail_bytes (h:Rr R W s dv rest d f):bs (s.extract (s.size - (U.UtfM.wr rest).length) s.size)=U.UtfM.wr rest:=by
 rw [extract_bytes]
 obtain ⟨pre,e⟩:=h.tl
 have hl:=congrArg List.length e
 rw [bs_len,List.length_append] at hl
 rw [show s.size - (U.UtfM.wr rest).length=pre.length from by omega,e,List.drop_left]
set_option maxRecDepth 100000 in
set_option maxHeartbeats 2000000 in
theorem scalar_q {c : Int} {t : List Int} (h : Rr R W s dv (c :: t) d f) :
    Calls Tryz.prog 134 #[.pointer (some ⟨R,0,none⟩)] W fun e W'=>∃ g,e=.returned (.slice (some ⟨g,0,none⟩) 1 1)∧W.heap.size≤g∧Sl W' (some ⟨g,0,none⟩) [(c,c)]∧Rr R W' s dv t d f∧Gr R W W':=by
  have hl:=h.len
  have hsm:=h.small
  have hsc:=h.sc c (by simp)
  have htb:=h.tail_bytes
  have hlen:(U.UtfM.wr (c::t)).length=(U.UtfM.enc c).length+(U.UtfM.wr t).length:=by rw [U.UtfM.wr_cons,List.length_append]
  obtain ⟨k,hk⟩:∃ k,k=s.size - (U.UtfM.wr (c::t)).length:=⟨_,rfl⟩
  obtain ⟨n,hn⟩:∃ n,n=(U.UtfM.enc c).length:=⟨_,rfl⟩
  have hkz:(s.size:Int) - ((U.UtfM.wr (c::t)).length:Nat)=(k:Int):=by omega
  have l1:(0:Int)≤(k:Int):=by omega
  have l2:(k:Int)≤(s.size:Int):=by omega
  rw [← hk] at htb
  have hdec:U.UtfM.dec (bs (s.extract k s.size))=(c,n):=by rw [htb,U.UtfM.wr_cons,U.UtfM.dec_enc hsc,hn]
  have HM:=Lib.hid (fun V (hV:Rr R V s dv (c::t) d f)=>hV.move (p:=[c]) (rest':=t) (x:=(k:Int)+(n:Nat)) rfl (by omega))
  have ew:IntKind.i64.wrap ((k:Int)+(n:Nat))=(k:Int)+(n:Nat):=IntWalk.i64_in _ (by omega)
  have HK:Hid (∀ V,Rr R V s dv (c::t) d f→V.cell? ⟨R,0,none⟩=some (.string s)∧V.cell? ⟨R,1,none⟩=some (.int .i64 (k:Int))):=Lib.hid (fun V hV=>⟨hV.c0,by rw [← hkz];exact hV.c1⟩)
  have HR:=Lib.hid h
  obtain ⟨u,hu⟩:∃ u,u=s.extract k s.size:=⟨_,rfl⟩
  rw [← hu] at hdec
  have HD:Hid (∀ V,Calls Tryz.prog 99 #[.slice (some ⟨V.heap.size,0,none⟩) u.size (capB V u)] (V.drew.alloc (objB V u)) fun e W'=>e=.returned (.tuple #[.int .i64 c,.int .i64 (n:Nat)])∧Below V.heap.size V W'):=Lib.hid (fun V=>by
    have hd:=U.rdec_c (c:=capB V u) (by_conv u V)
    rw [bs_len] at hd
    refine hd.mono ?_
    rintro e w' ⟨rfl,hb⟩
    refine ⟨?_,(below_conv _ V).trans (hb.mono (below_conv _ V).size)⟩
    unfold U.decV
    rw [hdec])
  have hcv:∀ w,(convert 9 50 (.string (s.extract k s.size))).run Tryz.prog w=.ok (.slice (some ⟨w.heap.size,0,none⟩) u.size (capB w u)) (w.drew.alloc (objB w u)):=by rw [← hu];exact conv_b u
  have k0:∀ V,Below W.heap.size W V→V.cell? ⟨R,0,none⟩=some (.string s):=fun V hV=>(HK.out V (h.kept hV)).1
  have k1:∀ V,Below W.heap.size W V→V.cell? ⟨R,1,none⟩=some (.int .i64 (k:Int)):=fun V hV=>(HK.out V (h.kept hV)).2
  have c0:=k0 W (Below.refl _ _)
  have c1:=k1 W (Below.refl _ _)
  clear h hl hdec hlen htb hk hn hkz hsc hu
  go_enter Tryz.func134,Tryz.ntmps134
  go_wp2_with fail
  have hr:Below W.heap.size W W.drew:=(Below.refl _ _).drew
  refine wp_region_held_drew (S:=(fun U=>U.cell? ⟨R,0,none⟩=some (.string s)∧U.cell? ⟨R,1,none⟩=some (.int .i64 (k:Int)))) (by kernel_rfl) (⟨k0 _ hr,k1 _ hr⟩) (fun hHeld=>?_)
  refine wpAnyH_take (i := 0) (oi := { dst := some 6, op := Op.move (Operand.tmp 0), type := 104, pos := "ref.go:241", after := #[], guard := none }) (v := ?_) rfl (by kernel_rfl) (by kernel_rfl) (by kernel_rfl) (fun _ _ _ h => h) (Or.inl ⟨by rfl, ?hy0⟩) (by assumption) ?_
  case hy0=>(intro ww hSw;(try dsimp only at hSw);first | (go_simp;done) | (go_simp;with_reducible rfl))
  try simp only [Act.put,List.setIfInBounds_toArray,List.set_cons_zero,List.set_cons_succ]
  refine wpAnyH_take (i := 1) (oi := { dst := some 7, op := Op.nilCheck (Operand.tmp 6), type := 0, pos := "ref.go:241", after := #[{ on := 0, ground := Ground.data }], guard := none }) (v := ?_) rfl (by kernel_rfl) (by kernel_rfl) (by kernel_rfl) (fun _ _ _ h => h) (Or.inl ⟨by rfl, ?hy1⟩) (by assumption) ?_
  case hy1=>(intro ww hSw;(try dsimp only at hSw);first | (go_simp;done) | (go_simp;with_reducible rfl))
  try simp only [Act.put,List.setIfInBounds_toArray,List.set_cons_zero,List.set_cons_succ]
  refine wpAnyH_take (i := 2) (oi := { dst := some 8, op := Op.fieldAddr 106 (Operand.tmp 7) 0, type := 0, pos := "ref.go:241", after := #[{ on := 1, ground := Ground.data }], guard := none }) (v := ?_) rfl (by kernel_rfl) (by kernel_rfl) (by kernel_rfl) (fun _ _ _ h => h) (Or.inl ⟨by rfl, ?hy2⟩) (by assumption) ?_
  case hy2=>(intro ww hSw;(try dsimp only at hSw);first | (go_simp;done) | (go_simp;with_reducible rfl))
  try simp only [Act.put,List.setIfInBounds_toArray,List.set_cons_zero,List.set_cons_succ]
  refine wpAnyH_take (i := 3) (oi := { dst := some 9, op := Op.load 9 (Operand.tmp 8), type := 9, pos := "ref.go:241", after := #[{ on := 2, ground := Ground.data }], guard := none }) (v := ?_) rfl (by kernel_rfl) (by kernel_rfl) (by kernel_rfl) (fun _ _ _ h => h) (Or.inl ⟨by rfl, ?hy3⟩) (by assumption) ?_
  case hy3=>(intro ww hSw;(try dsimp only at hSw);first | (go_simp;done) | (go_simp;with_reducible rfl))
  try simp only [Act.put,List.setIfInBounds_toArray,List.set_cons_zero,List.set_cons_succ]
  refine wpAnyH_take (i := 4) (oi := { dst := some 10, op := Op.move (Operand.tmp 0), type := 104, pos := "ref.go:241", after := #[], guard := none }) (v := ?_) rfl (by kernel_rfl) (by kernel_rfl) (by kernel_rfl) (fun _ _ _ h => h) (Or.inl ⟨by rfl, ?hy4⟩) (by assumption) ?_
  case hy4=>(intro ww hSw;(try dsimp only at hSw);first | (go_simp;done) | (go_simp;with_reducible rfl))
  try simp only [Act.put,List.setIfInBounds_toArray,List.set_cons_zero,List.set_cons_succ]
  refine wpAnyH_take (i := 5) (oi := { dst := some 11, op := Op.nilCheck (Operand.tmp 10), type := 0, pos := "ref.go:241", after := #[{ on := 4, ground := Ground.data }], guard := none }) (v := ?_) rfl (by kernel_rfl) (by kernel_rfl) (by kernel_rfl) (fun _ _ _ h => h) (Or.inl ⟨by rfl, ?hy5⟩) (by assumption) ?_
  case hy5=>(intro ww hSw;(try dsimp only at hSw);first | (go_simp;done) | (go_simp;with_reducible rfl))
  try simp only [Act.put,List.setIfInBounds_toArray,List.set_cons_zero,List.set_cons_succ]
  refine wpAnyH_take (i := 6) (oi := { dst := some 12, op := Op.fieldAddr 106 (Operand.tmp 11) 1, type := 0, pos := "ref.go:241", after := #[{ on := 5, ground := Ground.data }], guard := none }) (v := ?_) rfl (by kernel_rfl) (by kernel_rfl) (by kernel_rfl) (fun _ _ _ h => h) (Or.inl ⟨by rfl, ?hy6⟩) (by assumption) ?_
  case hy6=>(intro ww hSw;(try dsimp only at hSw);first | (go_simp;done) | (go_simp;with_reducible rfl))
  try simp only [Act.put,List.setIfInBounds_toArray,List.set_cons_zero,List.set_cons_succ]
  refine wpAnyH_take (i := 7) (oi := { dst := some 13, op := Op.load 3 (Operand.tmp 12), type := 3, pos := "ref.go:241", after := #[{ on := 6, ground := Ground.data }], guard := none }) (v := ?_) rfl (by kernel_rfl) (by kernel_rfl) (by kernel_rfl) (fun _ _ _ h => h) (Or.inl ⟨by rfl, ?hy7⟩) (by assumption) ?_
  case hy7=>(intro ww hSw;(try dsimp only at hSw);first | (go_simp;done) | (go_simp;with_reducible rfl))
  try simp only [Act.put,List.setIfInBounds_toArray,List.set_cons_zero,List.set_cons_succ]
  refine wpAnyH_take (i := 8) (oi := { dst := some 14, op := Op.slice 9 (Operand.tmp 9) (some (Operand.tmp 13)) none none, type := 9, pos := "ref.go:241", after := #[{ on := 3, ground := Ground.data }, { on := 7, ground := Ground.data }], guard := none }) (v := ?_) rfl (by kernel_rfl) (by kernel_rfl) (by kernel_rfl) (fun _ _ _ h => h) (Or.inl ⟨by rfl, ?hy8⟩) (by assumption) ?_
  case hy8=>(intro ww hSw;(try dsimp only at hSw);first | (go_simp;done) | (go_simp;with_reducible rfl))
  try simp only [Act.put,List.setIfInBounds_toArray,List.set_cons_zero,List.set_cons_succ]
  refine wpAnyH_ready (rs:=[9]) (by kernel_rfl) (by simp) ?_
  refine AllReadyH.cons (o := { dst := some 15, op := Op.convert 9 50 (Operand.tmp 14), type := 50, pos := "ref.go:241", after := #[{ on := 8, ground := Ground.data }], guard := none }) rfl (fun K hK => ?_) ?more9
  case more9=>exact AllReadyH.nil
  go_simp
  have hr:Below W.heap.size W (W.drew.drew.alloc (objB W.drew u)):=hr.trans ((below_conv u _).mono hr.size);have HDX:Calls Tryz.prog 99 #[.slice (some ⟨W.heap.size,0,none⟩) u.size (capB W.drew u)] (W.drew.drew.alloc (objB W.drew u)) fun e W2=>e=Ending.returned (Value.tuple #[Value.int IntKind.i64 c,Value.int IntKind.i64 (n:Nat)])∧Below W.heap.size W W2:=(HD.out W.drew).mono (fun e W2 h=>⟨h.1,⟨h.2.os,h.2.tape,h.2.output,h.2.size,h.2.block⟩⟩);rw [show (W.alloc (objB W.drew u)).drew.drew=W.drew.drew.alloc (objB W.drew u) from rfl];clear hHeld;generalize W.drew.drew.alloc (objB W.drew u)=W2 at *;generalize capB W.drew u=cap at *;have HDX:=Lib.hid HDX
  refine hK.out _ _ (⟨k0 _ hr,k1 _ hr⟩) (fun hHeld=>?_)
  clear hK K
  try simp only [Act.put,List.setIfInBounds_toArray,List.set_cons_zero,List.set_cons_succ]
  refine wpAnyH_ready (rs:=[10]) (by kernel_rfl) (by simp) ?_
  refine AllReadyH.cons (o := { dst := some 16, op := Op.call { callee := Callee.value (Operand.func 99), args := #[Operand.tmp 15], argTypes := #[50] }, type := 55, pos := "ref.go:241", after := #[{ on := 9, ground := Ground.data }], guard := none }) rfl (fun K hK => ?_) ?more10
  case more10=>exact AllReadyH.nil
  go_simp
  go_at_call 99;(refine (HDX.out).mono ?_);rintro e w3 ⟨rfl,hr⟩
  refine hK.out _ _ (⟨k0 _ hr,k1 _ hr⟩) (fun hHeld=>?_)
  clear hK K
  try simp only [Act.put,List.setIfInBounds_toArray,List.set_cons_zero,List.set_cons_succ]
  refine wpAnyH_take (i := 11) (oi := { dst := some 5, op := Op.move (Operand.tmp 16), type := 55, pos := "ref.go:241", after := #[{ on := 10, ground := Ground.data }], guard := none }) (v := ?_) rfl (by kernel_rfl) (by kernel_rfl) (by kernel_rfl) (fun _ _ _ h => h) (Or.inl ⟨by rfl, ?hy11⟩) (by assumption) ?_
  case hy11=>(intro ww hSw;(try dsimp only at hSw);first | (go_simp;done) | (go_simp;with_reducible rfl))
  try simp only [Act.put,List.setIfInBounds_toArray,List.set_cons_zero,List.set_cons_succ]
  refine wpAnyH_take (i := 12) (oi := { dst := some 17, op := Op.extract (Operand.tmp 5) 0, type := 3, pos := "ref.go:241", after := #[{ on := 11, ground := Ground.data }], guard := none }) (v := ?_) rfl (by kernel_rfl) (by kernel_rfl) (by kernel_rfl) (fun _ _ _ h => h) (Or.inl ⟨by rfl, ?hy12⟩) (by assumption) ?_
  case hy12=>(intro ww hSw;(try dsimp only at hSw);first | (go_simp;done) | (go_simp;with_reducible rfl))
  try simp only [Act.put,List.setIfInBounds_toArray,List.set_cons_zero,List.set_cons_succ]
  refine wpAnyH_take (i := 13) (oi := { dst := some 18, op := Op.extract (Operand.tmp 5) 1, type := 3, pos := "ref.go:241", after := #[{ on := 11, ground := Ground.data }, { on := 14, ground := Ground.gcOnly Departure.lateStores }], guard := none }) (v := ?_) rfl (by kernel_rfl) (by kernel_rfl) (by kernel_rfl) (fun _ _ _ h => h) (Or.inl ⟨by rfl, ?hy13⟩) (by assumption) ?_
  case hy13=>(intro ww hSw;(try dsimp only at hSw);first | (go_simp;done) | (go_simp;with_reducible rfl))
  try simp only [Act.put,List.setIfInBounds_toArray,List.set_cons_zero,List.set_cons_succ]
  refine wpAnyH_take (i := 14) (oi := { dst := some 3, op := Op.assign (Operand.tmp 17), type := 3, pos := "ref.go:241", after := #[{ on := 12, ground := Ground.data }, { on := 10, ground := Ground.chain }, { on := 0, ground := Ground.phase }, { on := 1, ground := Ground.phase }, { on := 2, ground := Ground.phase }, { on := 3, ground := Ground.phase }, { on := 4, ground := Ground.phase }, { on := 5, ground := Ground.phase }, { on := 6, ground := Ground.phase }, { on := 7, ground := Ground.phase }, { on := 8, ground := Ground.phase }, { on := 9, ground := Ground.phase }, { on := 10, ground := Ground.phase }, { on := 11, ground := Ground.phase }, { on := 12, ground := Ground.phase }, { on := 13, ground := Ground.textOnly Departure.lateStores }], guard := none }) (v := ?_) rfl (by kernel_rfl) (by kernel_rfl) (by kernel_rfl) (fun _ _ _ h => h) (Or.inl ⟨by rfl, ?hy14⟩) (by assumption) ?_
  case hy14=>(intro ww hSw;(try dsimp only at hSw);first | (go_simp;done) | (go_simp;with_reducible rfl))
  try simp only [Act.put,List.setIfInBounds_toArray,List.set_cons_zero,List.set_cons_succ]
  refine wpAnyH_take (i := 15) (oi := { dst := some 4, op := Op.assign (Operand.tmp 18), type := 3, pos := "ref.go:241", after := #[{ on := 13, ground := Ground.data }, { on := 14, ground := Ground.chain }, { on := 0, ground := Ground.phase }, { on := 1, ground := Ground.phase }, { on := 2, ground := Ground.phase }, { on := 3, ground := Ground.phase }, { on := 4, ground := Ground.phase }, { on := 5, ground := Ground.phase }, { on := 6, ground := Ground.phase }, { on := 7, ground := Ground.phase }, { on := 8, ground := Ground.phase }, { on := 9, ground := Ground.phase }, { on := 10, ground := Ground.phase }, { on := 11, ground := Ground.phase }, { on := 12, ground := Ground.phase }, { on := 13, ground := Ground.phase }, { on := 14, ground := Ground.phase }], guard := none }) (v := ?_) rfl (by kernel_rfl) (by kernel_rfl) (by kernel_rfl) (fun _ _ _ h => h) (Or.inl ⟨by rfl, ?hy15⟩) (by assumption) ?_
  case hy15=>(intro ww hSw;(try dsimp only at hSw);first | (go_simp;done) | (go_simp;with_reducible rfl))
  try simp only [Act.put,List.setIfInBounds_toArray,List.set_cons_zero,List.set_cons_succ]
  refine wpAnyH_done (by kernel_rfl) ?_ _
  have HR3:=Lib.hid (HR.out.kept hr)
  have q1:=(HK.out _ HR3.out).2
  have qz:=HR3.out.fz 1
  have HB3:=Lib.hid hr
  clear k0 k1 hr hHeld
  go_wp2
  go_ret
  have g3:=(Gr.of HB3.out).trans (Gr.set (R:=R) w3 1 (.int .i64 ((k:Int)+(n:Nat))))
  have hal:=(Below.refl _ (w3.setCell ⟨R,1,none⟩ (.int .i64 ((k:Int)+(n:Nat))))).alloc (Nat.le_refl _) (.cells #[.int .i64 c,.int .i64 c] 45)
  exact ⟨w3.heap.size,rfl,HB3.out.size,by have h:=sl_new (w3.setCell ⟨R,1,none⟩ (.int .i64 ((k:Int)+(n:Nat)))) c c;rwa [World.size_setCell] at h,(HM.out _ HR3.out).kept hal,g3.trans (Gr.of hal)⟩
end
end Go.Proofs.YtioahgklplbinaaGreatDoor
