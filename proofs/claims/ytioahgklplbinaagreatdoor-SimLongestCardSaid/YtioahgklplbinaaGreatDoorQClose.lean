/- The document's own Close: a set with all that are folded alike. -/
import Derived.Test.YtioahgklplbinaaGreatDoorFP
import Derived.Test.YtioahgklplbinaaGreatDoorRR
import Derived.Deep.RegionHeld3
namespace Go.Proofs.YtioahgklplbinaaGreatDoor
open Go.RowKit Go.Shelf Go.Maps SetM PropsM RxM
def KC (l:List Sp) (k:Nat) (r:Int):Prop:=Tells l r∨(Sc r∧∃ x:Int,0≤x∧x < k∧foldF x≠x∧foldF r=foldF x∧∃ u,Tells l u∧foldF u=foldF x)
theorem kc_sc {l:List Sp} {k:Nat} {r:Int} (h:KC l k r):Sc r:=by
 rcases h with h | h
 ·exact h.1
 ·exact h.1
theorem kc_zero (l:List Sp) (r:Int):KC l 0 r↔Tells l r:=by
 constructor
 ·rintro (h | ⟨_, x, h0, h1, _⟩)
  ·exact h
  ·omega
 ·exact .inl
theorem kc_mono {l:List Sp} {k:Nat} {r:Int} (h:KC l k r):KC l (k+1) r:=by
 rcases h with h | ⟨h,x,h0,h1,h2⟩
 ·exact .inl h
 ·exact .inr ⟨h,x,h0,by omega,h2⟩
theorem kc_back {l:List Sp} {k:Nat} {r:Int} (h:KC l (k+1) r):KC l k r∨(Sc r∧foldF (k:Int)≠k∧foldF r=foldF k∧∃ u,Tells l u∧foldF u=foldF k):=by
 rcases h with h | ⟨h,x,h0,h1,h2,h3,h4⟩
 ·exact .inl (.inl h)
 ·by_cases hx : x = k
  ·subst hx
   exact .inr ⟨h,h2,h3,h4⟩
  ·exact .inl (.inr ⟨h,x,h0,by omega,h2,h3,h4⟩)
theorem kc_same {l:List Sp} {k:Nat} (hf:foldF (k:Int)=k) (r:Int):KC l (k+1) r↔KC l k r :=
 ⟨fun h=>(kc_back h).elim id (fun h=>absurd hf h.2.1),kc_mono⟩
theorem kc_no {l:List Sp} {k:Nat} {o:List Int} (hk:k < 12288) (hO:IsOrbit (k:Int) o) (hno:∀ x∈o,¬ Tells l x) (r:Int):KC l (k+1) r↔KC l k r:=by
 refine ⟨fun h=>(kc_back h).elim id (fun h=>?_),kc_mono⟩
 obtain ⟨_,_,_,u,hu,he⟩:=h
 exact absurd hu (hno u ((hO.2 u).2 ⟨hu.1,by unfold Sc;omega,he⟩))
theorem kc_yes {l:List Sp} {k:Nat} {o:List Int} (hf:foldF (k:Int)≠k) (hO:IsOrbit (k:Int) o) (hyes:∃ x∈o,Tells l x) (r:Int):KC l (k+1) r↔KC l k r∨r∈o:=by
 obtain ⟨u,hu,ht⟩:=hyes
 have hu2:=(hO.2 u).1 hu
 constructor
 ·intro h
  rcases kc_back h with h | ⟨h1,_,h3,_⟩
  ·exact .inl h
  ·exact .inr ((hO.2 r).2 ⟨h1,hu2.2.1,h3⟩)
 ·rintro (h | h)
  ·exact kc_mono h
  ·have hr := (hO.2 r).1 h
   exact .inr ⟨hr.1,k,by omega,by omega,hf,hr.2.2,u,ht,hu2.2.2⟩
theorem kc_end (l:List Sp) (r:Int):KC l 12288 r↔ClosedK (Tells l) r:=by
 constructor
 ·rintro (h | ⟨h, x, _, _, _, h3, u, hu, he⟩)
  ·exact ⟨h.1,r,h,rfl⟩
  ·exact ⟨h,u,hu,he.trans h3.symm⟩
 ·rintro ⟨hs, x, hx, he⟩
  by_cases hxr:x=r
  ·subst hxr;exact .inl hx
  ·rcases foldF_far he with ⟨h1, h2⟩ | h
   ·have hx0 := hx.1
    have p1:0≤x:=by unfold Sc at hx0;omega
    have p2:0≤r:=by unfold Sc at hs;omega
    by_cases hr:foldF r=r
    ·refine .inr ⟨hs,x,p1,by omega,fun hxx=>hxr (by rw [← hxx,he,hr]),he.symm,x,hx,rfl⟩
    ·exact .inr ⟨hs,r,p2,by omega,hr,rfl,x,hx,he⟩
   ·exact absurd h hxr
theorem kc_low {l:List Sp} {k:Nat} {r:Int} (hk:k≤12288) (h:KC l k r):Tells l r∨(0≤r∧r < 12288):=by
 rcases h with h | ⟨hs,x,h0,h1,h2,h3,_⟩
 ·exact .inl h
 ·refine .inr ?_
  have p2:0≤r:=by unfold Sc at hs;omega
  rcases foldF_far h3 with h | h <;> omega
theorem nf_lows : ∀ (o : List Sp), Nf o → (o.map (·.1)).Pairwise (· < ·)
 | [],_=>List.Pairwise.nil
 | s::t,h=>by
  refine List.pairwise_cons.2 ⟨fun x hx=>?_,nf_lows t h.2.2⟩
  obtain ⟨u,hu,rfl⟩:=List.mem_map.1 hx
  have:=h.2.1 u hu
  have:=h.1
  show s.1 < u.1
  omega
theorem nf_gap : ∀ (o : List Sp), Nf o → ∀ s ∈ o, ¬ Mem o (s.1 - 1)
 | [],_,s,h=>by simp at h
 | u::t,hn,s,h=>by
  rintro ⟨v,hv,h1,h2⟩
  rcases List.mem_cons.1 h with rfl | hs
  ·rcases List.mem_cons.1 hv with rfl | hv
   ·omega
   ·have := hn.2.1 v hv
    have:=hn.1
    omega
  ·have h3 := hn.2.1 s hs
   rcases List.mem_cons.1 hv with rfl | hv
   ·omega
   ·exact nf_gap t hn.2.2 s hs ⟨v,hv,h1,h2⟩
theorem lows_len {o o0:List Sp} {K Q:Int→Prop} (h0:IsSet o0 K) (h:IsSet o Q) (hKQ:∀ r,K r→Q r) (hQ:∀ r,Q r→K r∨(0≤r∧r < 12288)):o.length≤o0.length+12288:=by
 have:=rise_len (o.map (·.1)) (o0.map (·.1)++(List.range 12288).map Int.ofNat) (nf_lows o h.1) (fun x hx=>by
  obtain ⟨s,hs,rfl⟩:=List.mem_map.1 hx
  have hle:=nf_le h.1 s hs
  have hm:Mem o s.1:=⟨s,hs,Int.le_refl _,hle⟩
  rcases hQ _ ((h.2 _).1 hm) with hk | hk
  ·obtain ⟨v, hv, h1, h2⟩ := (h0.2 _).2 hk
   refine List.mem_append_left _ (List.mem_map.2 ⟨v,hv,?_⟩)
   rcases Int.lt_or_eq_of_le h1 with h3 | h3
   ·exact absurd ((h.2 _).2 (hKQ _ ((h0.2 _).1 ⟨v,hv,by omega,by omega⟩))) (nf_gap o h.1 s hs)
   ·exact h3
  ·exact List.mem_append_right _ (List.mem_map.2 ⟨s.1.toNat,List.mem_range.2 (by omega),by show ((s.1.toNat:Nat):Int)=s.1;omega⟩))
 simp only [List.length_map,List.length_append,List.length_range] at this
 exact this
theorem one_tells {x:Int} (r:Int) (hx:Sc x):Tells [(x,x)] r↔r=x:=by
 constructor
 ·rintro ⟨_, s, hs, h1, h2⟩
  simp at hs
  subst hs
  exact Int.le_antisymm h2 h1
 ·rintro rfl
  exact ⟨hx,(r,r),by simp,Int.le_refl _,Int.le_refl _⟩
theorem make_next {o o':List Sp} {K:Int→Prop} {x:Int} (hK:∀ r,K r→Sc r) (hx:Sc x) (h:IsSet o K) (h':IsSet o' (fun r=>Sc r∧kfOf 14 (decide (Tells o r)) (decide (Tells [(x,x)] r))=true)):IsSet o' (fun r=>K r∨r=x):=by
 have ht:=h.tells hK
 refine h'.congr (fun r=>?_)
 rw [kf14]
 simp only [Bool.or_eq_true,decide_eq_true_eq,ht r,one_tells r hx]
 constructor
 ·exact fun h=>h.2
 ·rintro (h | rfl)
  ·exact ⟨hK r h,.inl h⟩
  ·exact ⟨hx,.inr rfl⟩
theorem orbit_sc {x:Int} {o:List Int} (hO:IsOrbit x o):∀ y∈o,Sc y:=fun y hy=>((hO.2 y).1 hy).1
theorem int_cell {W:World} {P:Option Addr} {l:List Int} (h:IntsW W P l) (i:Nat) (hi:i < l.length):∃ b off,P=some ⟨b,off,none⟩∧b < W.heap.size∧W.cell? ⟨b,off+i,none⟩=some (.int .i64 l[i]):=by
 obtain ⟨b,off,e,hb,hc⟩:=h (by intro h;rw [h] at hi;simp at hi)
 exact ⟨b,off,e,hb,hc i hi⟩
theorem SetNew.of {W:World} {K:Int→Prop} {N:Nat} {P:Option Addr} {c:Nat} {out:List Sp} {W':World} (h1:IsSet out K) (h2:out.length≤N) (h3:Sl W' P out) (h4:P=none→c=0) (h5:∀ a,P=some a→W.heap.size≤a.block) (h6:Below W.heap.size W W'):SetNew W K N (.returned (.slice P out.length c)) W':=⟨P,c,out,rfl,h1,h2,h3,h4,h5,h6⟩
set_option maxRecDepth 100000 in
set_option maxHeartbeats 4000000 in
theorem rclose_n {W:World} {P:Option Addr} {c:Nat} {l:List Sp} (hs:Sl W P l) (hl:l.length≤43000) (hw:Wide l):Calls Tryz.prog 142 #[.slice P l.length c] W (SetNew W (ClosedK (Tells l)) 100000):=by
 have HN:=Lib.hid (rnorm_n (c:=c) hs (by omega) hw)
 have HS:=Lib.hid hs
 clear hs hw
 go_enter Tryz.func142,Tryz.ntmps142
 go_wp2_with fail
 refine HN.out.mono ?_
 rintro e w1 ⟨P1,c1,o0,rfl,i1,n1,s1,z1,a1,b1⟩
 have HI0:=Lib.hid i1
 have H0:Hid (IsSet o0 (KC l 0)):=Lib.hid (i1.congr (fun r=>(kc_zero l r).symm))
 have HM0:=Lib.hid (And.intro s1 (And.intro z1 a1))
 have HB0:=Lib.hid b1
 clear i1 s1 z1 a1 b1 HN
 go_wp2_with fail
 go_loopg [3,4] 12288 (fun g s3 s4 wx=>∃ (k:Nat) (P1:Option Addr) (c1:Nat) (o:List Sp),k+g=12288∧s4=.int .i64 k∧s3=.slice P1 o.length c1∧Hid (IsSet o (KC l k))∧Hid (Sl wx P1 o∧(P1=none→c1=0)∧∀ a,P1=some a→W.heap.size≤a.block)∧Hid (Below W.heap.size W wx))
 case atStart=>exact ⟨0,P1,c1,o0,by omega,rfl,rfl,H0,HM0,HB0⟩
 case round =>
  obtain ⟨k,P2,c2,o,hkg,rfl,rfl,HI,HM,HB⟩:=hrel
  cases gk with
  | zero =>
   have hkz:¬ ((k:Int) < 12288):=by omega
   obtain rfl:k=12288:=by omega
   go_wp2
   go_ret
   refine SetNew.of (HI.out.congr (kc_end l)) ?_ HM.out.1 HM.out.2.1 HM.out.2.2 HB.out
   have:=lows_len HI0.out HI.out (fun r h=>.inl h) (fun r h=>kc_low (by omega) h)
   omega
  | succ g1 =>
   have hk:k < 12288:=by omega
   have hkz:(k:Int) < 12288:=by omega
   have HF:=Lib.hid (rfold_c (k:Int))
   by_cases hf:foldF (k:Int)=k
   ·have hI2 : IsSet o (KC l (k + 1)) := HI.out.congr (fun r => (kc_same hf r).symm)
    have HI2:=Lib.hid hI2
    generalize foldF (k:Int)=fk at *
    subst hf
    clear hI2
    go_wp2_with (go_at_call 147;(with_reducible refine (HF.out _).mono ?_);rintro e w2 ⟨rfl,rfl⟩)
    go_roundg g1
    case measure=>omega
    case rel=>exact ⟨k+1,P2,c2,o,by omega,by go_num,rfl,HI2,HM,HB⟩
   ·have HFN := Lib.hid hf
    have hfb:(foldF (k:Int) == k)=false:=by simp [hf]
    generalize foldF (k:Int)=fk at hf hfb HF
    have HOR:=Lib.hid (rorbit_c (k:Int) wr)
    go_wp2_with (go_at_call 147;(with_reducible refine (HF.out _).mono ?_);rintro e w2 ⟨rfl,rfl⟩)
    refine HOR.out.mono ?_
    rintro e w3 ⟨Po,co,ol,rfl,hO,hIo,b3⟩
    have hol:=orbit_len hO
    have HO:=Lib.hid hO
    have HIo:=Lib.hid hIo
    have HM3:Hid (Sl w3 P2 o∧(P2=none→c2=0)∧∀ a,P2=some a→W.heap.size≤a.block):=Lib.hid ⟨HM.out.1.step b3,HM.out.2⟩
    have HB3:=Lib.hid (HB.out.trans (b3.mono HB.out.size))
    clear hO hIo b3 HOR hf hfb HF
    go_wp2_with fail
    go_loopg [6,7] ol.length (fun g s6 s7 wy=>∃ (i:Nat),i+g=ol.length∧s7=.int .i64 i∧s6=.bool ((ol.take i).any fun x=>decide (Tells l x))∧Hid (Below w3.heap.size w3 wy))
    case atStart=>exact ⟨0,by omega,rfl,rfl,Lib.hid (Below.refl _ _)⟩
    case round =>
     obtain ⟨i,hig,rfl,rfl,HB4⟩:=hrel
     cases gk with
     | zero =>
      have hiz:¬ ((i:Int) < (ol.length:Int)):=by omega
      have hil:ol.take i=ol:=List.take_of_length_le (by omega)
      rw [hil]
      have HAV:Hid (∀ b,(ol.any fun x=>decide (Tells l x))=b→if b then ∃ x∈ol,Tells l x else ∀ x∈ol,¬ Tells l x):=Lib.hid (fun b hb=>by
       cases b with
       | true=>simpa using hb
       | false=>simpa using hb)
      generalize (ol.any fun x=>decide (Tells l x))=av at *
      have hav:=HAV.out av rfl
      clear HAV hil
      cases av with
      | false =>
       have hI2:IsSet o (KC l (k+1)):=HI.out.congr (fun r=>(kc_no hk HO.out hav r).symm)
       have HI2:=Lib.hid hI2
       have HM4:Hid (Sl wr P2 o∧(P2=none→c2=0)∧∀ a,P2=some a→W.heap.size≤a.block):=Lib.hid ⟨HM3.out.1.step HB4.out,HM3.out.2⟩
       have HB5:=Lib.hid (HB3.out.trans (HB4.out.mono HB3.out.size))
       clear hI2 hav
       go_wp2_with fail
       go_loopg [3,8] 0 (fun g s3 s8 LZ=>s3=.slice P2 o.length c2∧s8=.int .i64 0∧wr=LZ)
       case atStart=>exact ⟨rfl,rfl,rfl⟩
       case round =>
        obtain ⟨rfl,rfl,rfl⟩:=hrel
        by_cases h0:0 < ol.length
        ·have h0z : (0 : Int) < (ol.length : Int) := by omega
         go_wp2
         go_roundg g1
         case measure=>omega
         case rel=>exact ⟨k+1,P2,c2,o,by omega,by go_num,rfl,HI2,HM4,HB5⟩
        ·have h0z : ¬ (0 : Int) < (ol.length : Int) := by omega
         go_wp2
         go_roundg g1
         case measure=>omega
         case rel=>exact ⟨k+1,P2,c2,o,by omega,by go_num,rfl,HI2,HM4,HB5⟩
      | true =>
       have HAV:=Lib.hid hav
       clear hav
       have H0S:Hid (IsSet o (fun r=>KC l k r∨r∈ol.take 0)):=Lib.hid (HI.out.congr (fun r=>by simp))
       have HM4:Hid (Sl wr P2 o∧(P2=none→c2=0)∧∀ a,P2=some a→W.heap.size≤a.block):=Lib.hid ⟨HM3.out.1.step HB4.out,HM3.out.2⟩
       go_wp2_with fail
       go_loopg [3,8] ol.length (fun g s3 s8 wz=>∃ (j:Nat) (P3:Option Addr) (c3:Nat) (o3:List Sp),j+g=ol.length∧s8=.int .i64 j∧s3=.slice P3 o3.length c3∧Hid (IsSet o3 (fun r=>KC l k r∨r∈ol.take j))∧Hid (Sl wz P3 o3∧(P3=none→c3=0)∧∀ a,P3=some a→W.heap.size≤a.block)∧Hid (Below w3.heap.size w3 wz))
       case atStart=>exact ⟨0,P2,c2,o,by omega,rfl,rfl,H0S,HM4,HB4⟩
       case round =>
        obtain ⟨j,P3,c3,o3,hjg,rfl,rfl,HI3,HM5,HB5⟩:=hrel
        cases gk with
        | zero =>
         have hjz:¬ ((j:Int) < (ol.length:Int)):=by omega
         have hjl:ol.take j=ol:=List.take_of_length_le (by omega)
         have hI2:IsSet o3 (KC l (k+1)):=HI3.out.congr (fun r=>by rw [hjl];exact (kc_yes HFN.out HO.out HAV.out r).symm)
         have HI2:=Lib.hid hI2
         have HB6:=Lib.hid (HB3.out.trans (HB5.out.mono HB3.out.size))
         clear hI2 hjl
         go_wp2
         go_roundg g1
         case measure=>omega
         case rel=>exact ⟨k+1,P3,c3,o3,by omega,by go_num,rfl,HI2,HM5,HB6⟩
        | succ g3 =>
         have hj:j < ol.length:=by omega
         have hjz:(j:Int) < (ol.length:Int):=by omega
         obtain ⟨x,hx⟩:∃ x,x=ol[j]:=⟨_,rfl⟩
         have hxs:Sc x:=orbit_sc HO.out x (by rw [hx];exact List.getElem_mem hj)
         have hlen3:o3.length≤98292:=by
          have:=lows_len HI0.out HI3.out (fun r h=>.inl (.inl h)) (fun r h=>by
           rcases h with h | h
           ·exact kc_low (by omega) h
           ·have hr := (HO.out.2 r).1 (List.mem_of_mem_take h)
            have p2:0≤r:=by have:=hr.1;unfold Sc at this;omega
            rcases foldF_far hr.2.2 with h | h <;> exact .inr (by omega))
          omega
         have hwide:Wide o3:=wide_set HI3.out (fun r h=>by
          rcases h with h | h
          ·exact kc_sc h
          ·exact orbit_sc HO.out r (List.mem_of_mem_take h))
         have hwx:Wide [(x,x)]:=fun s h=>by
          simp at h
          subst h
          unfold Sc at hxs
          show -9223372036854775808≤x
          omega
         have HNX:Hid (∀ o',IsSet o' (fun r=>Sc r∧kfOf 14 (decide (Tells o3 r)) (decide (Tells [(x,x)] r))=true)→IsSet o' (fun r=>KC l k r∨r∈ol.take (j+1))):=Lib.hid (fun o' h' =>
          (make_next (fun r h=>h.elim kc_sc (fun h=>orbit_sc HO.out r (List.mem_of_mem_take h))) hxs HI3.out h').congr (fun r=>by
           rw [List.take_add_one,List.getElem?_eq_getElem hj,← hx]
           simp [or_assoc]))
         obtain ⟨b,off,rfl,hb,hc⟩:=int_cell (HIo.out.step HB5.out) j hj
         rw [← hx] at hc
         have j0:(0:Int)≤(j:Int):=by omega
         have hHB6:=HB3.out.trans (HB5.out.mono HB3.out.size)
         obtain ⟨w5,hw5⟩:∃ w5,w5=(wr.alloc (.cells #[.int .i64 x,.int .i64 x] 45)).drew:=⟨_,rfl⟩
         have hal:Below wr.heap.size wr w5:=by rw [hw5];exact ((Below.refl _ _).alloc (Nat.le_refl _) _).drew
         have hdr:Below W.heap.size W w5:=hHB6.trans (hal.mono hHB6.size)
         have hd3:Below w3.heap.size w3 w5:=HB5.out.trans (hal.mono HB5.out.size)
         have hsn:Sl w5 (some ⟨wr.heap.size,0,none⟩) [(x,x)]:=by rw [hw5];exact (sl_new wr x x).step (Below.refl _ _).drew
         have HMK:=Lib.hid (rmake_any P3 (some ⟨wr.heap.size,0,none⟩) c3 1 o3 [(x,x)] 14 (by simp) (by omega) (by simp) hwide hwx w5 (HM5.out.1.step hal) hsn)
         have HDD:=Lib.hid (And.intro hdr hd3)
         have HC:=Lib.hid hc
         have HCE:Hid (w5.cell? ⟨b,off+j,none⟩=some (.int .i64 x)):=Lib.hid ((hal.cell hb).trans hc)
         have HBL:Hid (b < w5.heap.size):=Lib.hid (Nat.lt_of_lt_of_le hb hal.size)
         rw [hw5] at HMK HCE HBL
         clear hwide hwx hHB6 hdr hd3 hsn hxs hx hlen3 hc hal
         go_wp2_with fail
         go_region_held3 (fun U => U.cell? ⟨b, off + j, none⟩ = some (.int .i64 x)) (first | exact HC.out | exact HCE.out)
          (first | (go_at_call 62;(refine HMK.out.mono ?_);rintro e w6 hp;obtain ⟨P6,c6,o6,rfl,i6,n6,s6,z6,a6,b6⟩:=hp.toNew;have HCE:=Lib.hid ((b6.cell (p:=⟨b,off+j,none⟩) HBL.out).trans HCE.out)))
         rw [← hw5] at b6 a6
         have hal:=Below.refl w5.heap.size w5
         have hb56:=hal.trans (b6.mono hal.size)
         have HI6:=Lib.hid (HNX.out o6 i6)
         have hszW:=HDD.out.1.size
         have hsz5:=hal.size
         have HM6:Hid (Sl w6 P6 o6∧(P6=none→c6=0)∧∀ a,P6=some a→W.heap.size≤a.block):=Lib.hid ⟨s6,z6,fun a ha=>by have:=a6 a ha;omega⟩
         have HB6:=Lib.hid (HDD.out.2.trans (hb56.mono HDD.out.2.size))
         clear i6 s6 z6 a6 b6 hal hb56 n6
         go_wp2
         go_roundg g3
         case measure=>omega
         case rel=>exact ⟨j+1,P6,c6,o6,by omega,by go_num,rfl,HI6,HM6,HB6⟩
     | succ g2 =>
      have hi:i < ol.length:=by omega
      have hiz:(i:Int) < (ol.length:Int):=by omega
      have HNX:Hid (((ol.take (i+1)).any fun x=>decide (Tells l x))=(((ol.take i).any fun x=>decide (Tells l x)) || decide (Tells l ol[i]))):=Lib.hid (by rw [List.take_add_one,List.getElem?_eq_getElem hi,List.any_append];simp)
      obtain ⟨x,hx⟩:∃ x,x=ol[i]:=⟨_,rfl⟩
      rw [← hx] at HNX
      obtain ⟨b,off,rfl,hb,hc⟩:=int_cell (HIo.out.step HB4.out) i hi
      rw [← hx] at hc
      have i0:(0:Int)≤(i:Int):=by omega
      have HH:=Lib.hid (rhas_any P c l x wr ((HS.out.step HB3.out).step HB4.out) (by omega))
      clear hx
      generalize ((ol.take i).any fun x=>decide (Tells l x))=av at *
      generalize decide (Tells l x)=tl at *
      cases av with
      | true =>
       go_wp2
       go_roundg g2
       case measure=>omega
       case rel=>exact ⟨i+1,by omega,by go_num,by rw [HNX.out];rfl,HB4⟩
      | false =>
       go_wp2_with (go_at_call 65;(with_reducible refine HH.out.mono ?_);rintro e w5 ⟨rfl,rfl⟩)
       go_roundg g2
       case measure=>omega
       case rel=>exact ⟨i+1,by omega,by go_num,by rw [HNX.out];rfl,HB4⟩
end Go.Proofs.YtioahgklplbinaaGreatDoor
