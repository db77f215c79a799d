/- The walk of WriteBack. -/
import Derived.Test.YtdcnfflleaplnaaGreatDoorVND
import Derived.Test.YtdcnfflleaplnaaGreatDoorVM
import Derived.Test.YtdcnfflleaplnaaGreatDoorRSame
namespace Go.Proofs.YtdcnfflleaplnaaGreatDoor
open Go.RowKit Go.Shelf Go.Maps SetM PropsM RxM WrM
/-- What is written of a node that may be, read back. -/
theorem parse_back {W : World} {s : ByteArray} {u : Ns} (hs : bs s = wrT u) (hq : sndB u 0 = true) (hl : s.size ≤ 200) : Calls Tryz.prog 14 #[.string s, .slice none 0 0] W fun e W' => ∃ v, e = .returned (.tuple #[v, .int .i64 0, .int .i64 0]) ∧ NV W' (fun b => W.heap.size ≤ b) v (nd u) ∧ Below W.heap.size W W' := by
  have hw : wrT u = txt u := by unfold wrT; rw [hq]; rfl
  have hlow : Low (txt u) := txt_low u
  have hb : bs s = U.UtfM.wr (txt u) := by rw [hs, hw, wr_low _ hlow]
  have hlen : (txt u).length ≤ 200 := by rw [← hw, ← hs, bs_len]; exact hl
  refine (parse_q (D := []) hb (fun c hc => by have := hlow c hc; unfold U.UtfM.Sc; omega) hl (DefQ.nil W)).mono ?_
  rintro e W' ⟨v, ez, pz, rfl, hp, hb⟩
  rw [trip (sndB_true.1 hq) hlen] at hp
  obtain ⟨hv, rfl, rfl⟩ := hp
  exact ⟨v, rfl, hv.imp (fun b hA _ => ⟨(by rcases hA with h | h <;> first | exact h | exact absurd h.2 (by simp)), rfl⟩) (Nat.le_refl _), hb⟩
set_option maxRecDepth 100000 in
set_option maxHeartbeats 8000000 in
theorem writeBack_any (A : Option Addr) (cs : List Int) (ca : Nat) (w : World) (hU : U8s w.heap.size w A cs) (hT : Tb w) :
    Calls Tryz.prog 4 #[.slice A cs.length ca] w fun e w' => e = .returned (.bool true) ∧ Below w.heap.size w w' := by
  have HN := Lib.hid (node_u A ca cs w hU)
  have HT := Lib.hid hT
  clear hU hT
  go_enter Tryz.func4, Tryz.ntmps4
  go_wp2_with fail
  refine HN.out.mono ?_
  rintro e w1 ⟨v, u, rfl, hv, hu, hnv, b1⟩
  obtain ⟨kk, sp, sn, sc, kp, kn, kc, mn, mx, rfl⟩ := hv.form5
  have hal := (Below.refl w1.heap.size w1).alloc (Nat.le_refl _) (.cells #[.int .u8 kk, .slice sp sn sc, .slice kp kn kc, .int .i64 mn, .int .i64 mx] 26)
  have hx1 := heap_alloc_new w1 (.cells #[.int .u8 kk, .slice sp sn sc, .slice kp kn kc, .int .i64 mn, .int .i64 mx] 26)
  obtain ⟨V, hV⟩ : ∃ V, V = w1.alloc (.cells #[.int .u8 kk, .slice sp sn sc, .slice kp kn kc, .int .i64 mn, .int .i64 mx] 26) := ⟨_, rfl⟩
  rw [← hV] at hal hx1
  have HC := Lib.hid (fun U (hU : Below V.heap.size V U) => Nd5.of hx1 hU)
  have HBO := Lib.hid (Both.of ((HT.out.step b1).step hal) (hv.step hal) hu.wd hu.len)
  have HWP := Lib.hid (write_p (hv.step hal) ((HT.out.step b1).step hal) hu.len)
  have hnv' : NV w1 (fun b => w.heap.size ≤ b) (.agg #[.int .u8 kk, .slice sp sn sc, .slice kp kn kc, .int .i64 mn, .int .i64 mx]) (nd u) := by rw [hu.eq]; exact hnv
  have HNV := Lib.hid (fun U (hU : Below V.heap.size V U) => hnv'.imp (B := fun b => w.heap.size ≤ b) (fun b hA hlt => ⟨hA, (hal.trans (hU.mono hal.size)).block b hlt⟩) (hal.trans (hU.mono hal.size)).size)
  have HB := Lib.hid (b1.trans (hal.mono b1.size))
  clear hv hu hnv hnv' b1 hal hx1 HN HT
  go_upto_region 2 with fail
  rw [← hV]
  clear hV
  obtain ⟨k0, k1, k2, k3, k4⟩ := HC.out V (Below.refl _ _)
  go_wp2_with fail
  refine HWP.out.mono ?_
  rintro e w2 ⟨s, rfl, hs, b2⟩
  have HS := Lib.hid hs
  have HB2 := Lib.hid b2
  obtain ⟨k0, k1, k2, k3, k4⟩ := HC.out w2 b2
  clear b2 hs HWP
  go_wp2_with fail
  refine (HBO.out.s w2 HB2.out).mono ?_
  rintro e w3 ⟨rfl, b3⟩
  have HB3 := Lib.hid (HB2.out.trans (b3.mono HB2.out.size))
  obtain ⟨k0, k1, k2, k3, k4⟩ := HC.out w3 HB3.out
  clear b3
  have hcase : sndB u 0 = false ∨ (sndB u 0 = true ∧ 200 < s.size) ∨ (sndB u 0 = true ∧ s.size ≤ 200) := by
    cases sndB u 0
    · exact .inl rfl
    · rcases Nat.lt_or_ge 200 s.size with h | h
      · exact .inr (.inl ⟨rfl, h⟩)
      · exact .inr (.inr ⟨rfl, h⟩)
  rcases hcase with hq | ⟨hq, hl⟩ | ⟨hq, hl⟩
  · rw [hq]
    clear hq
    go_wp2_with fail
    refine (HBO.out.kn w3 HB3.out).mono ?_
    rintro e w4 ⟨rfl, b4⟩
    have HE := Lib.hid (HB.out.trans ((HB3.out.trans (b4.mono HB3.out.size)).mono HB.out.size))
    clear b4
    go_wp2
    go_ret
    exact ⟨rfl, HE.out⟩
  · rw [hq]
    clear hq
    have h1 : (200 : Int) < (s.size : Int) := by omega
    have h2 : (s.size : Int) > 200 := h1
    go_wp2_with fail
    refine (HBO.out.kn w3 HB3.out).mono ?_
    rintro e w4 ⟨rfl, b4⟩
    have HE := Lib.hid (HB.out.trans ((HB3.out.trans (b4.mono HB3.out.size)).mono HB.out.size))
    clear b4
    go_wp2
    go_ret
    exact ⟨rfl, HE.out⟩
  · have HPB := Lib.hid (parse_back (W := w3) HS.out hq hl)
    rw [hq]
    clear hq
    have h1 : ¬ (200 : Int) < (s.size : Int) := by omega
    have h2 : ¬ (s.size : Int) > 200 := h1
    go_wp2_with fail
    refine HPB.out.mono ?_
    rintro e w4 ⟨v', rfl, hv', b4⟩
    have HB4 := Lib.hid (HB3.out.trans (b4.mono HB3.out.size))
    obtain ⟨kk', sp', sn', sc', kp', kn', kc', mn', mx', rfl⟩ := NV.form5 hv'
    have hal := (Below.refl w4.heap.size w4).alloc (Nat.le_refl _) (.cells #[.int .u8 kk', .slice sp' sn' sc', .slice kp' kn' kc', .int .i64 mn', .int .i64 mx'] 26)
    have hx1 := heap_alloc_new w4 (.cells #[.int .u8 kk', .slice sp' sn' sc', .slice kp' kn' kc', .int .i64 mn', .int .i64 mx'] 26)
    obtain ⟨Y, hY⟩ : ∃ Y, Y = w4.alloc (.cells #[.int .u8 kk', .slice sp' sn' sc', .slice kp' kn' kc', .int .i64 mn', .int .i64 mx'] 26) := ⟨_, rfl⟩
    rw [← hY] at hal hx1
    have hbY : Below V.heap.size V Y := HB4.out.trans (hal.mono HB4.out.size)
    have HSM := Lib.hid (same_any (nd u) _ _ Y (hv'.imp (B := fun b => w3.heap.size ≤ b) (fun b hA hlt => ⟨hA, hal.block b hlt⟩) hal.size) (HNV.out Y hbY))
    have hj := Nd5.of hx1 (Below.refl _ _)
    have HBY := Lib.hid hbY
    clear hv' hal hx1 hbY b4 HPB k0 k1 k2 k3 k4
    obtain ⟨k0, k1, k2, k3, k4⟩ := HC.out Y HBY.out
    obtain ⟨j0, j1, j2, j3, j4⟩ := hj
    go_upto_region 6 with fail
    rw [← hY]
    clear hY
    go_wp2_with fail
    refine HSM.out.mono ?_
    rintro e w5 ⟨rfl, b5⟩
    have HB5 := Lib.hid (HBY.out.trans (b5.mono HBY.out.size))
    clear b5 HSM k0 k1 k2 k3 k4 j0 j1 j2 j3 j4
    go_wp2_with fail
    refine (HBO.out.kn w5 HB5.out).mono ?_
    rintro e w6 ⟨rfl, b6⟩
    have HE := Lib.hid (HB.out.trans ((HB5.out.trans (b6.mono HB5.out.size)).mono HB.out.size))
    clear b6
    go_wp2
    go_ret
    exact ⟨rfl, HE.out⟩
end Go.Proofs.YtdcnfflleaplnaaGreatDoor
