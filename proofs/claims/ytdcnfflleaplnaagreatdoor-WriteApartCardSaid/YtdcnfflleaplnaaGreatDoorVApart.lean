/- The walk of WriteApart. -/
import Derived.Test.YtdcnfflleaplnaaGreatDoorVND
import Derived.Test.YtdcnfflleaplnaaGreatDoorVSame
import Derived.Test.YtdcnfflleaplnaaGreatDoorVM
namespace Go.Proofs.YtdcnfflleaplnaaGreatDoor
open Go.RowKit Go.Shelf Go.Maps SetM PropsM RxM WrM
theorem bs_strOf {l : List Int} (h : ∀ c ∈ l, 0 ≤ c ∧ c ≤ 255) : bs (strOf l) = l := by
  unfold strOf bs
  rw [List.toList_toArray, List.map_map]
  conv => rhs; rw [← List.map_id l]
  refine List.map_congr_left (fun c hc => ?_)
  have := h c hc
  simp
  omega
theorem strOf_inj {a b : List Int} (ha : ∀ c ∈ a, 0 ≤ c ∧ c ≤ 255) (hb : ∀ c ∈ b, 0 ≤ c ∧ c ≤ 255) (h : strOf a = strOf b) : a = b := by
  rw [← bs_strOf ha, ← bs_strOf hb, h]
theorem list_ne {a b : ByteArray} (h : a ≠ b) : (a.toList == b.toList) = false := by
  rw [beq_eq_false_iff_ne]
  intro e
  apply h
  rw [Lib.toList_data, Lib.toList_data] at e
  exact ByteArray.ext (Array.toList_inj.1 e)
set_option maxRecDepth 100000 in
set_option maxHeartbeats 8000000 in
theorem writeApart_any (A : Option Addr) (cs : List Int) (ca : Nat) (A' : Option Addr) (cs' : List Int) (ca' : Nat) (w : World) (hU : U8s w.heap.size w A cs) (hU' : U8s w.heap.size w A' cs') (hT : Tb w) :
    Calls Tryz.prog 6 #[.slice A cs.length ca, .slice A' cs'.length ca'] w fun e w' => e = .returned (.bool true) ∧ Below w.heap.size w w' := by
  have HN := Lib.hid (node_u A ca cs w hU)
  have HN' := Lib.hid (fun U (hb : Below w.heap.size w U) => node_u A' ca' cs' U ((hU'.below hb).up hb.size))
  have HT := Lib.hid hT
  obtain ⟨n, hn⟩ : ∃ n, n = cs.length := ⟨_, rfl⟩
  obtain ⟨n', hn'⟩ : ∃ n', n' = cs'.length := ⟨_, rfl⟩
  rw [← hn] at HN ⊢
  rw [← hn'] at HN' ⊢
  clear hU hU' hT hn hn'
  go_enter Tryz.func6, Tryz.ntmps6
  go_wp2_with fail
  refine HN.out.mono ?_
  rintro e w1 ⟨v, u, rfl, hv, hu, _, b1⟩
  obtain ⟨kk, sp, sn, sc, kp, kn, kc, mn, mx, rfl⟩ := hv.form5
  have hal := (Below.refl w1.heap.size w1).alloc (Nat.le_refl _) (.cells #[.int .u8 kk, .slice sp sn sc, .slice kp kn kc, .int .i64 mn, .int .i64 mx] 26)
  have hx1 := heap_alloc_new w1 (.cells #[.int .u8 kk, .slice sp sn sc, .slice kp kn kc, .int .i64 mn, .int .i64 mx] 26)
  obtain ⟨V, hV⟩ : ∃ V, V = w1.alloc (.cells #[.int .u8 kk, .slice sp sn sc, .slice kp kn kc, .int .i64 mn, .int .i64 mx] 26) := ⟨_, rfl⟩
  rw [← hV] at hal hx1
  have HC := Lib.hid (fun U (hU : Below V.heap.size V U) => Nd5.of hx1 hU)
  have HBV := Lib.hid (b1.trans (hal.mono b1.size))
  have HRV := Lib.hid (hv.step hal)
  have HNU := Lib.hid hu
  clear hv hu b1 hal hx1 HN
  go_upto_region 2 with fail
  rw [← hV]
  clear hV
  go_wp2_with fail
  refine (HN'.out V HBV.out).mono ?_
  rintro e w2 ⟨v', u', rfl, hv', hu', _, b2⟩
  obtain ⟨kk', sp', sn', sc', kp', kn', kc', mn', mx', rfl⟩ := hv'.form5
  have hal := (Below.refl w2.heap.size w2).alloc (Nat.le_refl _) (.cells #[.int .u8 kk', .slice sp' sn' sc', .slice kp' kn' kc', .int .i64 mn', .int .i64 mx'] 26)
  have hx1 := heap_alloc_new w2 (.cells #[.int .u8 kk', .slice sp' sn' sc', .slice kp' kn' kc', .int .i64 mn', .int .i64 mx'] 26)
  obtain ⟨Y, hY⟩ : ∃ Y, Y = w2.alloc (.cells #[.int .u8 kk', .slice sp' sn' sc', .slice kp' kn' kc', .int .i64 mn', .int .i64 mx'] 26) := ⟨_, rfl⟩
  rw [← hY] at hal hx1
  have hVY : Below V.heap.size V Y := b2.trans (hal.mono b2.size)
  have HC' := Lib.hid (fun U (hU : Below Y.heap.size Y U) => Nd5.of hx1 hU)
  have HCY := Lib.hid (fun U (hU : Below Y.heap.size Y U) => HC.out U (hVY.trans (hU.mono hVY.size)))
  have hTY : Tb Y := HT.out.step (HBV.out.trans (hVY.mono HBV.out.size))
  have hrv := HRV.out.step hVY
  have HBO := Lib.hid (Both.of hTY hrv HNU.out.wd HNU.out.len)
  have HBO' := Lib.hid (Both.of hTY (hv'.step hal) hu'.wd hu'.len)
  have HSM := Lib.hid (fun U (hU : Below Y.heap.size Y U) => same_r u u' _ _ U (hrv.step hU) ((hv'.step hal).step hU))
  have HB := Lib.hid (HBV.out.trans (hVY.mono HBV.out.size))
  clear hv' hu' b2 hal hx1 hVY hTY hrv HN' HC HT HRV HNU HBV
  go_upto_region 3 with fail
  rw [← hY]
  clear hY
  obtain ⟨k0, k1, k2, k3, k4⟩ := HCY.out Y (Below.refl _ _)
  go_wp2_with fail
  refine (HBO.out.s Y (Below.refl _ _)).mono ?_
  rintro e w3 ⟨rfl, b3⟩
  have HB3 := Lib.hid b3
  clear b3 k0 k1 k2 k3 k4
  cases hq : sndB u 0 with
  | false =>
    clear hq
    go_wp2_with fail
    refine (HBO.out.kn w3 HB3.out).mono ?_
    rintro e w4 ⟨rfl, b4⟩
    have HE := Lib.hid (HB.out.trans ((HB3.out.trans (b4.mono HB3.out.size)).mono HB.out.size))
    clear b4
    go_wp2
    go_ret
    exact ⟨rfl, HE.out⟩
  | true =>
    have HQ := Lib.hid hq
    clear hq
    obtain ⟨j0, j1, j2, j3, j4⟩ := HC'.out w3 HB3.out
    go_wp2_with fail
    refine (HBO'.out.s w3 HB3.out).mono ?_
    rintro e w4 ⟨rfl, b4⟩
    have HB4 := Lib.hid (HB3.out.trans (b4.mono HB3.out.size))
    clear b4 j0 j1 j2 j3 j4
    cases hq' : sndB u' 0 with
    | false =>
      clear hq'
      go_wp2_with fail
      refine (HBO.out.kn w4 HB4.out).mono ?_
      rintro e w5 ⟨rfl, b5⟩
      have HE := Lib.hid (HB.out.trans ((HB4.out.trans (b5.mono HB4.out.size)).mono HB.out.size))
      clear b5
      go_wp2
      go_ret
      exact ⟨rfl, HE.out⟩
    | true =>
      have HSS : Hid (sameB u u' = false → strOf (wrT u) ≠ strOf (wrT u')) := Lib.hid (fun hne he => by
        have e1 : wrT u = txt u := by unfold wrT; rw [HQ.out]; rfl
        have e2 : wrT u' = txt u' := by unfold wrT; rw [hq']; rfl
        rw [e1, e2] at he
        have h := strOf_inj (fun c hc => by have := txt_low u c hc; omega) (fun c hc => by have := txt_low u' c hc; omega) he
        exact sameB_false.1 hne (txt_inj (sndB_true.1 HQ.out).1 (sndB_true.1 hq').1 h))
      have HSE : Hid (sameB u u' = true → strOf (wrT u) = strOf (wrT u')) := Lib.hid (fun he => by rw [sameB_true.1 he])
      clear hq' HQ
      obtain ⟨k0, k1, k2, k3, k4⟩ := HCY.out w4 HB4.out
      obtain ⟨j0, j1, j2, j3, j4⟩ := HC'.out w4 HB4.out
      generalize sameB u u' = o at HSM HSS HSE
      go_wp2_with fail
      refine (HSM.out w4 HB4.out).mono ?_
      rintro e w5 ⟨rfl, b5⟩
      have HB5 := Lib.hid (HB4.out.trans (b5.mono HB4.out.size))
      clear b5 k0 k1 k2 k3 k4 j0 j1 j2 j3 j4 HSM
      go_upto_region 6 with fail
      have hr : Below w5.heap.size w5 w5.drew := (Below.refl _ _).drew
      cases o with
      | true =>
        have hs1 : ((strOf (wrT u)).toList == (strOf (wrT u')).toList) = true := by rw [HSE.out rfl]; exact beq_self_eq_true _
        clear HSS HSE
        go_region_held3 (fun U => (U.cell? ⟨w1.heap.size, 0, none⟩ = some (.int .u8 kk) ∧ U.cell? ⟨w1.heap.size, 1, none⟩ = some (.slice sp sn sc) ∧ U.cell? ⟨w1.heap.size, 2, none⟩ = some (.slice kp kn kc) ∧ U.cell? ⟨w1.heap.size, 3, none⟩ = some (.int .i64 mn) ∧ U.cell? ⟨w1.heap.size, 4, none⟩ = some (.int .i64 mx)) ∧ (U.cell? ⟨w2.heap.size, 0, none⟩ = some (.int .u8 kk') ∧ U.cell? ⟨w2.heap.size, 1, none⟩ = some (.slice sp' sn' sc') ∧ U.cell? ⟨w2.heap.size, 2, none⟩ = some (.slice kp' kn' kc') ∧ U.cell? ⟨w2.heap.size, 3, none⟩ = some (.int .i64 mn') ∧ U.cell? ⟨w2.heap.size, 4, none⟩ = some (.int .i64 mx')))
          (exact ⟨HCY.out _ (HB5.out.trans (hr.mono HB5.out.size)), HC'.out _ (HB5.out.trans (hr.mono HB5.out.size))⟩)
          (first
            | (go_at_call 9; (refine (HBO.out.kn _ (HB5.out.trans (hr.mono HB5.out.size))).mono ?_); rintro e w6 ⟨rfl, b6⟩; have hr := hr.trans (b6.mono hr.size))
            | (go_at_call 10; (with_reducible refine (HBO.out.w _ (HB5.out.trans (hr.mono HB5.out.size))).mono ?_); rintro e w6 ⟨rfl, b6⟩; have hr := hr.trans (b6.mono hr.size))
            | (go_at_call 10; (with_reducible refine (HBO'.out.w _ (HB5.out.trans (hr.mono HB5.out.size))).mono ?_); rintro e w6 ⟨rfl, b6⟩; have hr := hr.trans (b6.mono hr.size)))
        all_goals
          have HE := Lib.hid (HB.out.trans ((HB5.out.trans (hr.mono HB5.out.size)).mono HB.out.size))
          go_wp2
          go_ret
          exact ⟨rfl, HE.out⟩
      | false =>
        have hs1 := list_ne (HSS.out rfl)
        have hs2 := list_ne (Ne.symm (HSS.out rfl))
        clear HSS HSE
        go_region_held3 (fun U => (U.cell? ⟨w1.heap.size, 0, none⟩ = some (.int .u8 kk) ∧ U.cell? ⟨w1.heap.size, 1, none⟩ = some (.slice sp sn sc) ∧ U.cell? ⟨w1.heap.size, 2, none⟩ = some (.slice kp kn kc) ∧ U.cell? ⟨w1.heap.size, 3, none⟩ = some (.int .i64 mn) ∧ U.cell? ⟨w1.heap.size, 4, none⟩ = some (.int .i64 mx)) ∧ (U.cell? ⟨w2.heap.size, 0, none⟩ = some (.int .u8 kk') ∧ U.cell? ⟨w2.heap.size, 1, none⟩ = some (.slice sp' sn' sc') ∧ U.cell? ⟨w2.heap.size, 2, none⟩ = some (.slice kp' kn' kc') ∧ U.cell? ⟨w2.heap.size, 3, none⟩ = some (.int .i64 mn') ∧ U.cell? ⟨w2.heap.size, 4, none⟩ = some (.int .i64 mx')))
          (exact ⟨HCY.out _ (HB5.out.trans (hr.mono HB5.out.size)), HC'.out _ (HB5.out.trans (hr.mono HB5.out.size))⟩)
          (first
            | (go_at_call 9; (refine (HBO.out.kn _ (HB5.out.trans (hr.mono HB5.out.size))).mono ?_); rintro e w6 ⟨rfl, b6⟩; have hr := hr.trans (b6.mono hr.size))
            | (go_at_call 10; (with_reducible refine (HBO.out.w _ (HB5.out.trans (hr.mono HB5.out.size))).mono ?_); rintro e w6 ⟨rfl, b6⟩; have hr := hr.trans (b6.mono hr.size))
            | (go_at_call 10; (with_reducible refine (HBO'.out.w _ (HB5.out.trans (hr.mono HB5.out.size))).mono ?_); rintro e w6 ⟨rfl, b6⟩; have hr := hr.trans (b6.mono hr.size)))
        all_goals
          have HE := Lib.hid (HB.out.trans ((HB5.out.trans (hr.mono HB5.out.size)).mono HB.out.size))
          go_wp2
          go_ret
          exact ⟨rfl, HE.out⟩
end Go.Proofs.YtdcnfflleaplnaaGreatDoor
