/- SetLaws: the walk. -/
import Derived.Test.YtnhkbafjjngomaaDoorSteps
namespace Go.Proofs.YtnhkbafjjngomaaDoor
open Go.RowKit Go.Shelf SetM

def TellsIff (l : List Sp) (K : Int → Prop) : Prop := ∀ r, Tells l r ↔ K r
theorem tellsIff {a : List Sp} {K : Int → Prop} (ha : IsSet a K) (hs : ∀ r, K r → Sc r) : TellsIff a K := ha.tells hs
theorem samelaw_c {W : World} {P Q : Option Addr} {c d : Nat} {l m : List Sp} (hs : Sl W P l) (ht : Sl W Q m) (hl : l.length ≤ 1000000) (hm : m.length ≤ 1000000) : Calls Tryd.prog 30 #[.slice P l.length c, .slice Q m.length d] W fun e W' => e = .returned (.bool (decide (l = m))) ∧ Below W.heap.size W W' := by
  go_enter Tryd.func30, Tryd.ntmps30
  go_wp2_with fail
  refine (alike_c hs ht hl hm).mono ?_
  rintro e W1 ⟨rfl, hb⟩
  go_wp2
  go_ret
  refine ⟨?_, hb⟩
  rfl

set_option maxRecDepth 100000 in
set_option maxHeartbeats 3000000 in
theorem setLaws_any (A B X : Option Addr) (ca cb cx : Nat) (cs ds es : List Int) (w : World) (hU : U16s w.heap.size w A cs) (hV : U16s w.heap.size w B ds) (hX : U16s w.heap.size w X es) (hC : Ctx w w) :
    Calls Tryd.prog 8 #[.slice A cs.length ca, .slice B ds.length cb, .slice X es.length cx] w fun e w' => e = .returned (.bool true) ∧ Below w.heap.size w w' := by
  go_enter Tryd.func8, Tryd.ntmps8
  go_wp2_with fail
  refine (make_c hU hC).mono ?_
  rintro e W1 ⟨PmA, cmA, rfl, SmA, ZmA, b1⟩
  have hC1 := hC.step b1
  clear b1
  have lmA := makeF_len cs
  generalize hlA : makeF cs = lA at *
  have HlA := Lib.hid hlA
  clear hlA
  go_wp2_with fail
  refine (norm_c hC1 SmA (by omega)).mono ?_
  rintro e W2 ⟨PA, cA, oA, rfl, IA, LA, SA, ZA, b2⟩
  have hC2 := hC1.step b2
  replace SmA := SmA.step b2
  clear b2
  have tA := tellsIff IA (fun r h => h.1)
  clear SmA
  go_wp2_with fail
  refine (make_c hV hC2).mono ?_
  rintro e W3 ⟨PmB, cmB, rfl, SmB, ZmB, b3⟩
  have hC3 := hC2.step b3
  replace SA := SA.step b3
  clear b3
  have lmB := makeF_len ds
  generalize hlB : makeF ds = lB at *
  clear hlB
  go_wp2_with fail
  refine (norm_c hC3 SmB (by omega)).mono ?_
  rintro e W4 ⟨PB, cB, oB, rfl, IB, LB, SB, ZB, b4⟩
  have hC4 := hC3.step b4
  replace SA := SA.step b4
  replace SmB := SmB.step b4
  clear b4
  have tB := tellsIff IB (fun r h => h.1)
  clear SmB
  go_wp2_with fail
  refine (make_c hX hC4).mono ?_
  rintro e W5 ⟨PmX, cmX, rfl, SmX, ZmX, b5⟩
  have hC5 := hC4.step b5
  replace SA := SA.step b5
  replace SB := SB.step b5
  clear b5
  have lmX := makeF_len es
  generalize hlX : makeF es = lX at *
  clear hlX
  go_wp2_with fail
  refine (norm_c hC5 SmX (by omega)).mono ?_
  rintro e W6 ⟨PX, cX, oX, rfl, IX, LX, SX, ZX, b6⟩
  have hC6 := hC5.step b6
  replace SA := SA.step b6
  replace SB := SB.step b6
  replace SmX := SmX.step b6
  clear b6
  have tX := tellsIff IX (fun r h => h.1)
  clear SmX
  go_wp2_with fail
  refine (inter_c hC6 SB SX (by omega) (by omega)).mono ?_
  rintro e W7 ⟨PJ, cJ, oJ, rfl, IJ, LJ, SJ, ZJ, b7⟩
  have hC7 := hC6.step b7
  replace SA := SA.step b7
  replace SB := SB.step b7
  replace SX := SX.step b7
  clear b7
  have tJ := tellsIff IJ (fun r h => h.1.1)
  go_wp2_with fail
  refine (union_c hC7 SA SJ ZA ZJ (by omega) (by omega)).mono ?_
  rintro e W8 ⟨PU1, cU1, oU1, rfl, IU1, LU1, SU1, ZU1, b8⟩
  have hC8 := hC7.step b8
  replace SA := SA.step b8
  replace SB := SB.step b8
  replace SX := SX.step b8
  replace SJ := SJ.step b8
  clear b8
  have tU1 := tellsIff IU1 (fun r h => h.elim (fun h => h.1) (fun h => h.1))
  go_wp2_with fail
  refine (union_c hC8 SA SB ZA ZB (by omega) (by omega)).mono ?_
  rintro e W9 ⟨PU2, cU2, oU2, rfl, IU2, LU2, SU2, ZU2, b9⟩
  have hC9 := hC8.step b9
  replace SA := SA.step b9
  replace SB := SB.step b9
  replace SX := SX.step b9
  replace SJ := SJ.step b9
  replace SU1 := SU1.step b9
  clear b9
  have tU2 := tellsIff IU2 (fun r h => h.elim (fun h => h.1) (fun h => h.1))
  go_wp2_with fail
  refine (union_c hC9 SA SX ZA ZX (by omega) (by omega)).mono ?_
  rintro e W10 ⟨PU3, cU3, oU3, rfl, IU3, LU3, SU3, ZU3, b10⟩
  have hC10 := hC9.step b10
  replace SA := SA.step b10
  replace SB := SB.step b10
  replace SX := SX.step b10
  replace SJ := SJ.step b10
  replace SU1 := SU1.step b10
  replace SU2 := SU2.step b10
  clear b10
  have tU3 := tellsIff IU3 (fun r h => h.elim (fun h => h.1) (fun h => h.1))
  go_wp2_with fail
  refine (inter_c hC10 SU2 SU3 (by omega) (by omega)).mono ?_
  rintro e W11 ⟨PJ2, cJ2, oJ2, rfl, IJ2, LJ2, SJ2, ZJ2, b11⟩
  have hC11 := hC10.step b11
  replace SA := SA.step b11
  replace SB := SB.step b11
  replace SX := SX.step b11
  replace SJ := SJ.step b11
  replace SU1 := SU1.step b11
  replace SU2 := SU2.step b11
  replace SU3 := SU3.step b11
  clear b11
  have tJ2 := tellsIff IJ2 (fun r h => h.1.1)
  have hq : Hid (oU1 = oJ2) := Lib.hid (IsSet.eq IU1 IJ2 (fun r => by
    have sA := (fun h => h.1 : Tells lA r → Sc r)
    have sB := (fun h => h.1 : Tells lB r → Sc r)
    simp only [tJ r, tU2 r, tU3 r, tA r, tB r, tX r]
    by_cases hs : Sc r <;> by_cases ha : Tells lA r <;> by_cases hb : Tells lB r <;> by_cases hx : Tells lX r <;> simp_all))
  go_wp2_with fail
  refine (samelaw_c SU1 SJ2 (by omega) (by omega)).mono ?_
  rintro e W12 ⟨rfl, b12⟩
  rw [decide_eq_true hq.out]
  have hC12 := hC11.step b12
  replace SA := SA.step b12
  replace SB := SB.step b12
  replace SX := SX.step b12
  replace SJ := SJ.step b12
  replace SU1 := SU1.step b12
  replace SU2 := SU2.step b12
  replace SU3 := SU3.step b12
  replace SJ2 := SJ2.step b12
  clear b12 hq
  clear SJ SU1 SU2 SU3 SJ2
  go_wp2_with fail
  refine (not_c hC12 SA (by omega)).mono ?_
  rintro e W13 ⟨PN1, cN1, oN1, rfl, IN1, LN1, SN1, ZN1, b13⟩
  have hC13 := hC12.step b13
  replace SA := SA.step b13
  replace SB := SB.step b13
  replace SX := SX.step b13
  clear b13
  have tN1 := tellsIff IN1 (fun r h => h.1)
  go_wp2_with fail
  refine (not_c hC13 SN1 (by omega)).mono ?_
  rintro e W14 ⟨PN2, cN2, oN2, rfl, IN2, LN2, SN2, ZN2, b14⟩
  have hC14 := hC13.step b14
  replace SA := SA.step b14
  replace SB := SB.step b14
  replace SX := SX.step b14
  replace SN1 := SN1.step b14
  clear b14
  have tN2 := tellsIff IN2 (fun r h => h.1)
  have hq : Hid (oN2 = oA) := Lib.hid (IsSet.eq IN2 IA (fun r => by
    have sA := (fun h => h.1 : Tells lA r → Sc r)
    have sB := (fun h => h.1 : Tells lB r → Sc r)
    simp only [tN1 r, tA r]
    by_cases hs : Sc r <;> by_cases ha : Tells lA r <;> by_cases hb : Tells lB r <;> by_cases hx : Tells lX r <;> simp_all))
  go_wp2_with fail
  refine (samelaw_c SN2 SA (by omega) (by omega)).mono ?_
  rintro e W15 ⟨rfl, b15⟩
  rw [decide_eq_true hq.out]
  have hC15 := hC14.step b15
  replace SA := SA.step b15
  replace SB := SB.step b15
  replace SX := SX.step b15
  replace SN1 := SN1.step b15
  replace SN2 := SN2.step b15
  clear b15 hq
  clear SN1 SN2
  go_wp2_with fail
  refine (union_c hC15 SA SB ZA ZB (by omega) (by omega)).mono ?_
  rintro e W16 ⟨PV, cV, oV, rfl, IV, LV, SV, ZV, b16⟩
  have hC16 := hC15.step b16
  replace SA := SA.step b16
  replace SB := SB.step b16
  replace SX := SX.step b16
  clear b16
  have tV := tellsIff IV (fun r h => h.elim (fun h => h.1) (fun h => h.1))
  go_wp2_with fail
  refine (not_c hC16 SV (by omega)).mono ?_
  rintro e W17 ⟨PNV, cNV, oNV, rfl, INV, LNV, SNV, ZNV, b17⟩
  have hC17 := hC16.step b17
  replace SA := SA.step b17
  replace SB := SB.step b17
  replace SX := SX.step b17
  replace SV := SV.step b17
  clear b17
  have tNV := tellsIff INV (fun r h => h.1)
  go_wp2_with fail
  refine (not_c hC17 SA (by omega)).mono ?_
  rintro e W18 ⟨PNA, cNA, oNA, rfl, INA, LNA, SNA, ZNA, b18⟩
  have hC18 := hC17.step b18
  replace SA := SA.step b18
  replace SB := SB.step b18
  replace SX := SX.step b18
  replace SV := SV.step b18
  replace SNV := SNV.step b18
  clear b18
  have tNA := tellsIff INA (fun r h => h.1)
  go_wp2_with fail
  refine (not_c hC18 SB (by omega)).mono ?_
  rintro e W19 ⟨PNB, cNB, oNB, rfl, INB, LNB, SNB, ZNB, b19⟩
  have hC19 := hC18.step b19
  replace SA := SA.step b19
  replace SB := SB.step b19
  replace SX := SX.step b19
  replace SV := SV.step b19
  replace SNV := SNV.step b19
  replace SNA := SNA.step b19
  clear b19
  have tNB := tellsIff INB (fun r h => h.1)
  go_wp2_with fail
  refine (inter_c hC19 SNA SNB (by omega) (by omega)).mono ?_
  rintro e W20 ⟨PJN, cJN, oJN, rfl, IJN, LJN, SJN, ZJN, b20⟩
  have hC20 := hC19.step b20
  replace SA := SA.step b20
  replace SB := SB.step b20
  replace SX := SX.step b20
  replace SV := SV.step b20
  replace SNV := SNV.step b20
  replace SNA := SNA.step b20
  replace SNB := SNB.step b20
  clear b20
  have tJN := tellsIff IJN (fun r h => h.1.1)
  have hq : Hid (oNV = oJN) := Lib.hid (IsSet.eq INV IJN (fun r => by
    have sA := (fun h => h.1 : Tells lA r → Sc r)
    have sB := (fun h => h.1 : Tells lB r → Sc r)
    simp only [tV r, tNA r, tNB r, tA r, tB r]
    by_cases hs : Sc r <;> by_cases ha : Tells lA r <;> by_cases hb : Tells lB r <;> by_cases hx : Tells lX r <;> simp_all))
  go_wp2_with fail
  refine (samelaw_c SNV SJN (by omega) (by omega)).mono ?_
  rintro e W21 ⟨rfl, b21⟩
  rw [decide_eq_true hq.out]
  have hC21 := hC20.step b21
  replace SA := SA.step b21
  replace SB := SB.step b21
  replace SX := SX.step b21
  replace SV := SV.step b21
  replace SNV := SNV.step b21
  replace SNA := SNA.step b21
  replace SNB := SNB.step b21
  replace SJN := SJN.step b21
  clear b21 hq
  clear SV SNV SNA SNB SJN
  go_wp2_with fail
  refine (minus_c hC21 SA SB (by omega) (by omega)).mono ?_
  rintro e W22 ⟨PD, cD, oD, rfl, ID, LD, SD, ZD, b22⟩
  have hC22 := hC21.step b22
  replace SA := SA.step b22
  replace SB := SB.step b22
  replace SX := SX.step b22
  clear b22
  have tD := tellsIff ID (fun r h => h.1.1)
  go_wp2_with fail
  refine (inter_c hC22 SA SB (by omega) (by omega)).mono ?_
  rintro e W23 ⟨PE, cE, oE, rfl, IE, LE, SE, ZE, b23⟩
  have hC23 := hC22.step b23
  replace SA := SA.step b23
  replace SB := SB.step b23
  replace SX := SX.step b23
  replace SD := SD.step b23
  clear b23
  have tE := tellsIff IE (fun r h => h.1.1)
  go_wp2_with fail
  refine (union_c hC23 SD SE ZD ZE (by omega) (by omega)).mono ?_
  rintro e W24 ⟨PF, cF, oF, rfl, IF, LF, SF, ZF, b24⟩
  have hC24 := hC23.step b24
  replace SA := SA.step b24
  replace SB := SB.step b24
  replace SX := SX.step b24
  replace SD := SD.step b24
  replace SE := SE.step b24
  clear b24
  have tF := tellsIff IF (fun r h => h.elim (fun h => h.1) (fun h => h.1))
  have hq : Hid (oF = oA) := Lib.hid (IsSet.eq IF IA (fun r => by
    have sA := (fun h => h.1 : Tells lA r → Sc r)
    have sB := (fun h => h.1 : Tells lB r → Sc r)
    simp only [tD r, tE r, tA r, tB r]
    by_cases hs : Sc r <;> by_cases ha : Tells lA r <;> by_cases hb : Tells lB r <;> by_cases hx : Tells lX r <;> simp_all))
  go_wp2_with fail
  refine (samelaw_c SF SA (by omega) (by omega)).mono ?_
  rintro e W25 ⟨rfl, b25⟩
  rw [decide_eq_true hq.out]
  have hC25 := hC24.step b25
  replace SA := SA.step b25
  replace SB := SB.step b25
  replace SX := SX.step b25
  replace SD := SD.step b25
  replace SE := SE.step b25
  replace SF := SF.step b25
  clear b25 hq
  clear SD SE SF
  go_wp2_with fail
  refine (known_c hC25).mono ?_
  rintro e W26 ⟨rfl, b26⟩
  have hC26 := hC25.step b26
  replace SA := SA.step b26
  replace SB := SB.step b26
  replace SX := SX.step b26
  clear b26
  go_wp2_with fail
  refine (not_c hC26 SA (by omega)).mono ?_
  rintro e W27 ⟨PNC, cNC, oNC, rfl, INC, LNC, SNC, ZNC, b27⟩
  have hC27 := hC26.step b27
  replace SA := SA.step b27
  replace SB := SB.step b27
  replace SX := SX.step b27
  clear b27
  have tNC := tellsIff INC (fun r h => h.1)
  go_wp2_with fail
  refine (inter_c hC27 SA SNC (by omega) (by omega)).mono ?_
  rintro e W28 ⟨PG, cG, oG, rfl, IG, LG, SG, ZG, b28⟩
  have hC28 := hC27.step b28
  replace SA := SA.step b28
  replace SB := SB.step b28
  replace SX := SX.step b28
  replace SNC := SNC.step b28
  clear b28
  have tG := tellsIff IG (fun r h => h.1.1)
  have hG : oG = [] := IsSet.eq (L := fun _ => False) IG ⟨trivial, fun r => ⟨fun h => mem_nil r h, fun h => h.elim⟩⟩ (fun r => by
    simp only [tNC r, tA r]
    by_cases hs : Sc r <;> by_cases ha : Tells lA r <;> simp_all)
  subst hG
  clear tG IG
  clear SNC SG
  go_wp2_with fail
  refine (not_c hC28 SA (by omega)).mono ?_
  rintro e W29 ⟨PNH, cNH, oNH, rfl, INH, LNH, SNH, ZNH, b29⟩
  have hC29 := hC28.step b29
  replace SA := SA.step b29
  replace SB := SB.step b29
  replace SX := SX.step b29
  clear b29
  have tNH := tellsIff INH (fun r h => h.1)
  go_wp2_with fail
  refine (union_c hC29 SA SNH ZA ZNH (by omega) (by omega)).mono ?_
  rintro e W30 ⟨PK, cK, oK, rfl, IK, LK, SK, ZK, b30⟩
  have hC30 := hC29.step b30
  replace SA := SA.step b30
  replace SB := SB.step b30
  replace SX := SX.step b30
  replace SNH := SNH.step b30
  clear b30
  have tK := tellsIff IK (fun r h => h.elim (fun h => h.1) (fun h => h.1))
  go_wp2_with fail
  refine (not_c (P := none) (c := 0) (l := []) hC30 Spans.nil (by simp)).mono ?_
  rintro e W31 ⟨PM, cM, oM, rfl, IM, LM, SM, ZM, b31⟩
  have hC31 := hC30.step b31
  replace SA := SA.step b31
  replace SB := SB.step b31
  replace SX := SX.step b31
  replace SNH := SNH.step b31
  replace SK := SK.step b31
  clear b31
  have hq : Hid (oK = oM) := Lib.hid (IsSet.eq IK IM (fun r => by
    have sA := (fun h => h.1 : Tells lA r → Sc r)
    have hN := tells_nil r
    simp only [tNH r, tA r]
    by_cases hs : Sc r <;> by_cases ha : Tells lA r <;> simp_all))
  have LM' : oM.length ≤ 4 := by simpa using LM
  go_wp2_with fail
  refine (samelaw_c SK SM (by omega) (by omega)).mono ?_
  rintro e W32 ⟨rfl, b32⟩
  rw [decide_eq_true hq.out]
  have hC32 := hC31.step b32
  replace SA := SA.step b32
  replace SB := SB.step b32
  replace SX := SX.step b32
  replace SNH := SNH.step b32
  replace SK := SK.step b32
  replace SM := SM.step b32
  clear b32 hq
  clear SNH SK SM
  go_wp2_with fail
  refine (make_c hU hC32).mono ?_
  rintro e W33 ⟨Pz, cz, rfl, Sz, Zz, b33⟩
  have hC33 := hC32.step b33
  replace SA := SA.step b33
  replace SB := SB.step b33
  replace SX := SX.step b33
  clear b33
  rw [HlA.out] at Sz ⊢
  go_wp2_with fail
  refine (same_c hC33 SA Sz (by omega) (by omega)).mono ?_
  rintro e W34 ⟨bb, rfl, hbb, b34⟩
  obtain rfl : bb = true := hbb.2 (fun r => tA r)
  have hC34 := hC33.step b34
  replace SA := SA.step b34
  replace SB := SB.step b34
  replace SX := SX.step b34
  replace Sz := Sz.step b34
  clear b34 hbb
  go_wp2
  go_ret
  exact ⟨rfl, hC34.below⟩
end Go.Proofs.YtnhkbafjjngomaaDoor
