/- RxHex's walk, where what stands round the number is the second of four. -/
import Derived.Test.YtahgljglleeloaaGreatDoorRHexL
namespace Go.Proofs.YtahgljglleeloaaGreatDoor
open Go.RowKit Go.Shelf Go.Maps SetM PropsM RxM
set_option maxRecDepth 100000 in
set_option maxHeartbeats 16000000 in
theorem rxHex_1 (a : Int) (g : Bool) (c : Int) (ha : 0 ≤ a) (hk : c.tmod 4 = 1) (w : World) (hC : Cf w w) :
    Calls Tryz.prog 3 #[.int .u32 a, .bool g, .int .u8 c] w fun e w' => e = .returned (.bool true) ∧ Below w.heap.size w w' := by
  have HC := Lib.hid hC
  obtain ⟨x, hx, hx1⟩ : ∃ x : Nat, a.tmod 2097152 = (x : Int) ∧ x < 2097152 := ⟨(a.tmod 2097152).toNat, by rw [Int.tmod_eq_emod_of_nonneg ha]; omega, by rw [Int.tmod_eq_emod_of_nonneg ha]; omega⟩
  have HX := Lib.hid hx1
  obtain ⟨xi, hxi⟩ : ∃ xi : Int, xi = (x : Int) := ⟨_, rfl⟩
  have hwx : wrap64 xi = xi := IntWalk.wrap64_in _ (by omega)
  have HXI := Lib.hid hxi
  rw [← hxi] at hx
  clear hxi hx1
  have HG : Hid (digS g = if g then ⟨#[48, 49, 50, 51, 52, 53, 54, 55, 56, 57, 65, 66, 67, 68, 69, 70]⟩ else ⟨#[48, 49, 50, 51, 52, 53, 54, 55, 56, 57, 97, 98, 99, 100, 101, 102]⟩) := Lib.hid rfl
  have hgz : (digS g).size = 16 := by cases g <;> rfl
  clear hC
  obtain ⟨al, hal⟩ : ∃ al, al = digS g := ⟨_, rfl⟩
  go_enter Tryz.func3, Tryz.ntmps3
  go_upto_if 19 with (fail)
  try simp only [hwx]
  go_cut [8] (fun s8 wc => s8 = .string al ∧ w = wc)
  case first =>
    cases g
    all_goals
      go_wp2
      go_meet
      first
        | exact ⟨by rw [hal]; rfl, rfl⟩
        | exact ⟨by rw [hwx], by rw [hal]; rfl, rfl⟩
  case rest =>
    obtain ⟨rfl, rfl⟩ := hcut
    rw [← hal] at hgz
    have HAL := Lib.hid hal
    have hgz : (al.size : Int) = 16 := by omega
    clear hal HG
    go_wp2
    go_loopg [9, 10] 6 (fun gk s9 s10 wx => ∃ (n : Nat) (ni : Int) (t : ByteArray), s10 = .int .i64 ni ∧ s9 = .string t ∧ Hid (ni = (n : Int)) ∧ Hid (HexD x n t) ∧ Hid (n < 16 ^ gk) ∧ t.size + gk = 6 ∧ w = wx)
    case atStart => exact ⟨x, xi, ⟨#[]⟩, by first | rfl | rw [hwx], rfl, HXI, Lib.hid ⟨(fun c h => by cases h), rfl⟩, Lib.hid (by have := HX.out; omega), rfl, rfl⟩
    case round =>
      obtain ⟨n, ni, t, rfl, rfl, HNI, HT, HLN, htz, rfl⟩ := hrel
      by_cases hex : n = 0 ∧ t.size ≠ 0
      · obtain ⟨rfl, ht0⟩ := hex
        obtain rfl : ni = 0 := HNI.out
        have hne : bs t ≠ [] := by intro e; have := bs_len t; rw [e] at this; simp at this; omega
        have hem : t.toList.isEmpty = false := bs_ne hne
        have hem2 : ¬ t.toList = [] := by intro e; rw [e] at hem; cases hem
        have HA := Lib.hid HT.out.all
        have h6 : (bs t).length ≤ 6 := by rw [bs_len]; omega
        have HN : Hid (hexN (bs t) = xi) := Lib.hid (by rw [HXI.out]; exact HT.out.num)
        have H6 := Lib.hid h6
        have HNE := Lib.hid hne
        have htl : t.size ≤ 6 := by omega
        have HSB : Hid (scB xi = true ↔ U.UtfM.Sc xi) := Lib.hid (scB_enc _)
        have HBW : Hid (∀ A B : Obj, Below w.heap.size w ((w.alloc A).alloc B)) := Lib.hid (fun A B => ((Below.refl w.heap.size w).alloc (Nat.le_refl _) A).alloc (by rw [World.size_alloc]; omega) B)
        have HCW : Hid (∀ A B : Obj, Cf w ((w.alloc A).alloc B)) := Lib.hid (fun A B => HC.out.step (HBW.out A B))
        clear hne h6 HT HLN htz HNI
        have hs1 : ¬ 9223372036854775807 < 4 + t.size := by omega
        have hs2 : ¬ 9223372036854775807 < 4 + t.size + 1 := by omega
        have hs3 : ¬ 9223372036854775807 < 4 + t.size + 1 + 0 := by omega
        have hbt : bs ((((⟨#[97]⟩ ++ ⟨#[92, 120, 123]⟩) ++ t) ++ ⟨#[125]⟩) ++ ⟨#[]⟩ : ByteArray) = 97 :: hexT (bs t) [] := by
          simp only [bs_append]
          unfold hexT
          simp [bs]
        have hlw : Low (97 :: hexT (bs t) []) := low_cons (by decide) (by decide) (hex_low HA.out (fun c h => by cases h))
        have hle : Low (hexT (bs t) []) := hex_low HA.out (fun c h => by cases h)
        have hz5 : ((((⟨#[97]⟩ ++ ⟨#[92, 120, 123]⟩) ++ t) ++ ⟨#[125]⟩) ++ ⟨#[]⟩ : ByteArray).size = (bs t).length + 5 := by rw [bs_str hbt]; unfold hexT; simp
        have h6 := H6.out
        have hbw : bs ((((⟨#[97]⟩ ++ ⟨#[92, 120, 123]⟩) ++ t) ++ ⟨#[125]⟩) ++ ⟨#[]⟩ : ByteArray) = U.UtfM.wr (97 :: hexT (bs t) []) := by rw [hbt, wr_low _ hlw]
        have hpl : (((((⟨#[97]⟩ ++ ⟨#[92, 120, 123]⟩) ++ t) ++ ⟨#[125]⟩) ++ ⟨#[]⟩ : ByteArray).size : Int) - ((U.UtfM.wr (hexT (bs t) [])).length : Nat) = 1 := by
          rw [wr_low _ hle, hz5]; unfold hexT; simp; omega
        have hw := hex_1 HNE.out H6.out HA.out
        rw [HN.out] at hw
        by_cases hsc : scB xi = true
        · rw [if_pos hsc] at hw
          have HP := Lib.hid (fun W (h : Cf w W) => parse_n hbw (low_len _ hlw) (by rw [hz5]; omega) h hw)
          have HSC := Lib.hid (sc_of hsc)
          have hs := sc_of hsc
          unfold Sc at hs
          clear hbt hlw hle hz5 hbw hpl hw hsc h6
          have hs := hs
          rcases (show (¬ (1114111 : Int) < xi ∧ ¬ (55296 : Int) ≤ xi) ∨ (¬ (1114111 : Int) < xi ∧ (55296 : Int) ≤ xi ∧ ¬ xi ≤ 57343) by have := HXI.out; omega) with ⟨q1, q2⟩ | ⟨q1, q2, q3⟩
          all_goals (
            go_wp2_with fail
            refine (HP.out _ (HCW.out _ _)).mono ?_
            rintro e w2 ⟨b2, v, rfl, hv⟩
            obtain ⟨sp, sl, sc, kp, kc, hve0, _, _, _, hk'⟩ := hv.read
            obtain ⟨gg, rfl, hgg, hi⟩ := hk' (by simp)
            obtain ⟨u, hu, hcu⟩ := hi 1 (by simp)
            obtain ⟨sp1, sl1, sc1, kp1, kc1, hue0, hK, _, hs', _⟩ := hu.read
            obtain rfl := one_is HSC.out hK
            have hue : u = .agg #[.int .u8 1, .slice sp1 1 sc1, .slice kp1 0 kc1, .int .i64 0, .int .i64 0] := hue0
            clear hue0
            subst hue
            have c6 : w2.cell? ⟨gg, 6, none⟩ = some (.slice sp1 1 sc1) := hcu 1 (by decide)
            have hve : v = .agg #[.int .u8 2, .slice sp sl.length sc, .slice (some ⟨gg, 0, none⟩) 2 kc, .int .i64 0, .int .i64 0] := hve0
            clear hve0
            subst hve
            have HS2 := Lib.hid hs'
            clear hs' hK hk' hi hu hcu
            obtain ⟨V1, hV1⟩ : ∃ V1, V1 = w2.alloc (.cells #[.int .u8 2, .slice sp sl.length sc, .slice (some ⟨gg, 0, none⟩) 2 kc, .int .i64 0, .int .i64 0] 27) := ⟨_, rfl⟩
            have hb1 : Below w2.heap.size w2 V1 := by rw [hV1]; exact (Below.refl w2.heap.size w2).alloc (Nat.le_refl _) _
            have HBV := Lib.hid ((HBW.out _ _).trans ((b2.trans (hb1.mono b2.size)).mono (HBW.out _ _).size))
            have HCV := Lib.hid (HC.out.step HBV.out)
            have hkb : V1.heap[w2.heap.size]? = some (.cells #[.int .u8 2, .slice sp sl.length sc, .slice (some ⟨gg, 0, none⟩) 2 kc, .int .i64 0, .int .i64 0] 27 (0, 0)) := by rw [hV1]; exact heap_alloc_new _ _
            have hlt : w2.heap.size < V1.heap.size := (Array.getElem?_eq_some_iff.1 hkb).1
            have HS := Lib.hid (HS2.out.step hb1)
            have HKN := Lib.hid (known_c HCV.out)
            have c6 := (hb1.cell (p := ⟨gg, 6, none⟩) hgg).trans c6
            have hgV : gg < V1.heap.size := by omega
            clear b2 hb1 HP hv HS2
            go_wp2_with fail
            rw [← hV1]
            clear hV1
            refine HKN.out.mono ?_
            rintro e w3 ⟨rfl, b3⟩
            have hk3 := (b3.block _ hlt).trans hkb
            have d0 := cell_of_row w3 _ 0 _ _ _ hk3
            have d1 := cell_of_row w3 _ 1 _ _ _ hk3
            have d2 := cell_of_row w3 _ 2 _ _ _ hk3
            simp only [List.getElem?_toArray, List.getElem?_cons_zero, List.getElem?_cons_succ] at d0 d1 d2
            have HB3 := Lib.hid (HBV.out.trans (b3.mono HBV.out.size))
            have HS3 := Lib.hid (HS.out.step b3)
            have c6 := (b3.cell (p := ⟨gg, 6, none⟩) hgV).trans c6
            have HHAS := Lib.hid (has_one (d := sc1) HSC.out HS3.out)
            have HSIZ := Lib.hid (size_one (d := sc1) HSC.out HS3.out)
            clear b3 hk3 hkb HKN HS
            go_wp2_with fail
            refine HHAS.out.mono ?_
            rintro e w4 ⟨rfl, rfl⟩
            go_wp2_with fail
            refine HSIZ.out.mono ?_
            rintro e w5 ⟨rfl, b5⟩
            go_wp2
            go_ret
            exact ⟨rfl, HB3.out.trans (b5.mono HB3.out.size)⟩)
        · rw [if_neg hsc] at hw
          have HP := Lib.hid (fun W (h : Cf w W) => parse_bad hbw (low_len _ hlw) (by rw [hz5]; omega) h hw 1 hpl)
          have hs : ¬ U.UtfM.Sc xi := fun h => hsc (HSB.out.2 h)
          unfold U.UtfM.Sc at hs
          clear hbt hlw hle hz5 hbw hpl hw hsc h6
          rcases (show (1114111 : Int) < xi ∨ (¬ (1114111 : Int) < xi ∧ (55296 : Int) ≤ xi ∧ xi ≤ 57343) by have := HXI.out; omega) with q1 | ⟨q1, q2, q3⟩
          all_goals (
            go_wp2_with fail
            refine (HP.out _ (HCW.out _ _)).mono ?_
            rintro e w2 ⟨rfl, b2⟩
            have hb1 := (Below.refl w2.heap.size w2).alloc (Nat.le_refl _) (.cells #[.int .u8 0, .slice none 0 0, .slice none 0 0, .int .i64 0, .int .i64 0] 27)
            have HBV := Lib.hid ((HBW.out _ _).trans ((b2.trans (hb1.mono b2.size)).mono (HBW.out _ _).size))
            have HKN := Lib.hid (known_c (HC.out.step HBV.out))
            clear b2 hb1 HP
            go_wp2_with fail
            refine HKN.out.mono ?_
            rintro e w3 ⟨rfl, b3⟩
            go_wp2
            go_ret
            exact ⟨rfl, HBV.out.trans (b3.mono HBV.out.size)⟩)
      · cases gk with
        | zero => exfalso; have := HLN.out; omega
        | succ gk =>
          have hm16 : n % 16 < 16 := Nat.mod_lt _ (by decide)
          have hn := HLN.out
          have hni := HNI.out
          have HN := Lib.hid (HT.out.next g)
          rw [← HAL.out] at HN
          have HZ := Lib.hid (ext_size g (n % 16) hm16 t)
          rw [← HAL.out] at HZ
          obtain ⟨mi, hmi⟩ : ∃ mi : Int, mi = ((n % 16 : Nat) : Int) := ⟨_, rfl⟩
          obtain ⟨qi, hqi⟩ : ∃ qi : Int, qi = ((n / 16 : Nat) : Int) := ⟨_, rfl⟩
          have hq : ni.tdiv 16 = qi := by rw [hni, hqi, Int.tdiv_eq_ediv_of_nonneg (by omega)]; omega
          have hm : ni.tmod 16 = mi := by rw [hni, hmi, Int.tmod_eq_emod_of_nonneg (by omega)]; omega
          have hnx : n < 16777216 := Nat.lt_of_lt_of_le hn (Nat.le_trans (Nat.pow_le_pow_right (by decide) (show gk + 1 ≤ 6 by omega)) (by decide))
          have HNQ : Hid (n / 16 < 16 ^ gk) := Lib.hid (by rw [Nat.pow_succ] at hn; omega)
          have HQI := Lib.hid hqi
          have hst : 0 < ni ∨ (ni = 0 ∧ t = ⟨#[]⟩) := by
            rcases Nat.eq_zero_or_pos n with h | h
            · exact .inr ⟨by omega, ByteArray.size_eq_zero_iff.1 (by omega)⟩
            · exact .inl (by omega)
          have hwm : wrap64 (mi + 1) = mi + 1 := IntWalk.wrap64_in _ (by omega)
          have hwq : wrap64 qi = qi := IntWalk.wrap64_in _ (by omega)
          have l0 : (0 : Int) ≤ mi := by omega
          have l1 : mi ≤ mi + 1 := by omega
          have l2 : mi + 1 ≤ 16 := by omega
          have l3 : (mi + 1).toNat = n % 16 + 1 := by omega
          have l4 : mi.toNat = n % 16 := by omega
          have HTZ : Hid (t.size + gk = 5) := Lib.hid (by omega)
          have hts : t.size ≤ 5 := by omega
          clear hn hnx hex HT HX hx hmi hqi hni HLN HNI htz hm16
          generalize n % 16 = m at *
          generalize n / 16 = q at *
          have hcat : ∀ w, (binOp .add 9 (.string (al.extract m (m + 1))) (.string t)).run Tryz.prog w = .ok (.string (al.extract m (m + 1) ++ t)) w := by
            intro w
            have h1 := HZ.out
            generalize al.extract m (m + 1) = u at *
            rw [ByteArray.size_append] at h1
            have hsx : ¬ 9223372036854775807 < u.size + t.size := by omega
            go_simp
            omega
          rcases hst with hpos | ⟨rfl, rfl⟩
          · go_wp2
            go_roundg gk
            case measure => omega
            case rel => exact ⟨q, qi, _, by rw [hwq], rfl, HQI, HN, HNQ, by have := HZ.out; have := HTZ.out; omega, rfl⟩
          · go_wp2
            go_roundg gk
            case measure => omega
            case rel => exact ⟨q, qi, _, by rw [hwq], rfl, HQI, HN, HNQ, by have := HZ.out; have := HTZ.out; omega, rfl⟩
end Go.Proofs.YtahgljglleeloaaGreatDoor
