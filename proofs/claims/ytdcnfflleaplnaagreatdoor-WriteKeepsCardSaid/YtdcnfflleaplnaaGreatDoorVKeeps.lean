/- The walk of WriteKeeps. -/
import Derived.Test.YtdcnfflleaplnaaGreatDoorVND
import Derived.Test.YtdcnfflleaplnaaGreatDoorRSame
namespace Go.Proofs.YtdcnfflleaplnaaGreatDoor
open Go.RowKit Go.Shelf Go.Maps SetM PropsM RxM WrM
set_option maxRecDepth 100000 in
set_option maxHeartbeats 8000000 in
theorem writeKeeps_any (A : Option Addr) (cs : List Int) (ca : Nat) (w : World) (hU : U8s w.heap.size w A cs) (hT : Tb w) :
    Calls Tryz.prog 7 #[.slice A cs.length ca] w fun e w' => e = .returned (.bool true) ∧ Below w.heap.size w w' := by
  have HN := Lib.hid (fun U (hb : Below w.heap.size w U) => node_u A ca cs U ((hU.below hb).up hb.size))
  have HT := Lib.hid hT
  obtain ⟨n, hn⟩ : ∃ n, n = cs.length := ⟨_, rfl⟩
  rw [← hn] at HN ⊢
  clear hU hT hn
  go_enter Tryz.func7, Tryz.ntmps7
  go_wp2_with fail
  refine (HN.out w (Below.refl _ _)).mono ?_
  rintro e w1 ⟨v, u, rfl, hv, hu, hnv, b1⟩
  obtain ⟨kk, sp, sn, sc, kp, kn, kc, mn, mx, rfl⟩ := hv.form5
  have hal := (Below.refl w1.heap.size w1).alloc (Nat.le_refl _) (.cells #[.int .u8 kk, .slice sp sn sc, .slice kp kn kc, .int .i64 mn, .int .i64 mx] 26)
  have hx1 := heap_alloc_new w1 (.cells #[.int .u8 kk, .slice sp sn sc, .slice kp kn kc, .int .i64 mn, .int .i64 mx] 26)
  obtain ⟨V, hV⟩ : ∃ V, V = w1.alloc (.cells #[.int .u8 kk, .slice sp sn sc, .slice kp kn kc, .int .i64 mn, .int .i64 mx] 26) := ⟨_, rfl⟩
  rw [← hV] at hal hx1
  have HC := Lib.hid (fun U (hU : Below V.heap.size V U) => Nd5.of hx1 hU)
  have HBO := Lib.hid (Both.of ((HT.out.step b1).step hal) (hv.step hal) hu.wd hu.len)
  have HNV := Lib.hid (fun U (hU : Below V.heap.size V U) => hnv.imp (B := fun b => w.heap.size ≤ b) (fun b hA hlt => ⟨hA, (hal.trans (hU.mono hal.size)).block b hlt⟩) (hal.trans (hU.mono hal.size)).size)
  have HB := Lib.hid (b1.trans (hal.mono b1.size))
  clear hv hu hnv b1 hal hx1 HT
  go_upto_region 2 with fail
  rw [← hV]
  clear hV
  obtain ⟨k0, k1, k2, k3, k4⟩ := HC.out V (Below.refl _ _)
  go_wp2_with fail
  refine (HBO.out.w V (Below.refl _ _)).mono ?_
  rintro e w2 ⟨rfl, b2⟩
  have HB2 := Lib.hid b2
  have HN2 : Hid (∀ U, Below w2.heap.size w2 U → Calls Tryz.prog 8 #[.slice A n ca] U fun e U' => ∃ a b c d f, e = .returned (.agg #[a, b, c, d, f]) ∧ NV U' (fun b => U.heap.size ≤ b) (.agg #[a, b, c, d, f]) (ndF cs) ∧ Below U.heap.size U U') := Lib.hid (fun U hU => by
    have hb := HB.out.trans ((HB2.out.trans (hU.mono HB2.out.size)).mono HB.out.size)
    refine (HN.out U hb).mono ?_
    rintro e U' ⟨v2, u2, rfl, hv2, _, hnv2, b3⟩
    obtain ⟨a, b, c, d, f, rfl⟩ := hnv2.five
    exact ⟨a, b, c, d, f, rfl, hnv2, b3⟩)
  clear b2 k0 k1 k2 k3 k4 HN
  go_upto_region 3 with fail
  have hr : Below w2.heap.size w2 w2.drew := (Below.refl _ _).drew
  go_region_held3 (fun U => U.cell? ⟨w1.heap.size, 0, none⟩ = some (.int .u8 kk) ∧ U.cell? ⟨w1.heap.size, 1, none⟩ = some (.slice sp sn sc) ∧ U.cell? ⟨w1.heap.size, 2, none⟩ = some (.slice kp kn kc) ∧ U.cell? ⟨w1.heap.size, 3, none⟩ = some (.int .i64 mn) ∧ U.cell? ⟨w1.heap.size, 4, none⟩ = some (.int .i64 mx))
    (exact HC.out _ (HB2.out.trans (hr.mono HB2.out.size)))
    (first
      | (go_at_call 8; (refine (HN2.out _ hr).mono ?_); rintro e w3 ⟨a, b, c, d, f, rfl, hnv3, b3⟩; have hr := hr.trans (b3.mono hr.size); have HSM := Lib.hid (same_any (ndF cs) _ _ w3 (HNV.out w3 (HB2.out.trans (hr.mono HB2.out.size))) hnv3); clear hnv3)
      | (go_at_call 15; (refine HSM.out.mono ?_); rintro e w4 ⟨rfl, b4⟩; have hr := hr.trans (b4.mono hr.size)))
  have HB4 := Lib.hid (HB2.out.trans (hr.mono HB2.out.size))
  clear hr b3 b4 HSM HN2
  obtain ⟨k0, k1, k2, k3, k4⟩ := HC.out w4 HB4.out
  go_wp2_with fail
  refine (HBO.out.kn w4 HB4.out).mono ?_
  rintro e w5 ⟨rfl, b5⟩
  have HB5 := Lib.hid (HB4.out.trans (b5.mono HB4.out.size))
  clear b5
  obtain ⟨k0, k1, k2, k3, k4⟩ := HC.out w5 HB5.out
  go_wp2_with fail
  refine (HBO.out.w w5 HB5.out).mono ?_
  rintro e w6 ⟨rfl, b6⟩
  have HE := Lib.hid (HB.out.trans ((HB5.out.trans (b6.mono HB5.out.size)).mono HB.out.size))
  clear b6
  go_wp2
  go_ret
  exact ⟨rfl, HE.out⟩
end Go.Proofs.YtdcnfflleaplnaaGreatDoor
