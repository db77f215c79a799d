/- The law's known: one state, one edge. -/
import Derived.Test.YtioahgklplbinaaDoorGLg
namespace SimM
open SetM NfaM
def mK : Mc := ⟨[[(1, [(97, 98)])], []], [[], [0]], [-1, 4]⟩
theorem mk_bd : Bd mK := by
  refine ⟨fun i hi => ?_, fun i hi => ?_, fun i hi e he s hs => ?_⟩
  · match i, hi with
    | 0, _ => exact ⟨by decide, fun e he => by simp [mK] at he; subst he; decide⟩
    | 1, _ => exact ⟨by decide, fun e he => by simp [mK] at he⟩
  · match i, hi with
    | 0, _ => decide
    | 1, _ => decide
  · match i, hi with
    | 0, _ => simp [mK] at he; subst he; simp at hs; subst hs; decide
    | 1, _ => simp [mK] at he
theorem mk_snd : sndM mK = true := by decide
theorem mk_start : startF mK = [0] := by
  have h : ∀ k, Cl mK (· = 0) k ↔ k = 0 := fun k => by
    constructor
    · intro hk
      induction hk with
      | base k hp => exact hp
      | step i k _ hm ih => subst ih; simp [mK] at hm
    · rintro rfl; exact .base 0 rfl
  unfold startF
  rw [stL_congr (Q := (· = 0)) (fun k _ => h k)]
  show stL 2 (· = 0) = [0]
  rw [show (2 : Nat) = 0 + 1 + 1 from rfl, stL_no (P := fun x => x = 0) (by decide), stL_yes (P := fun x => x = 0) (n := 0) rfl, stL_zero]
  rfl
theorem tells_ab (r : Int) : Tells [(97, 98)] r ↔ r = 97 ∨ r = 98 := by
  unfold Tells Sc Mem
  simp
  omega
theorem mk_mv (l : List Int) (r : Int) (k : Nat) : Mv mK (Inn 2 l) r k ↔ ((0 : Int) ∈ l ∧ k = 1 ∧ (r = 97 ∨ r = 98)) := by
  unfold Mv Inn
  constructor
  · rintro ⟨i, ⟨h1, h2⟩, e, he, h3, h4⟩
    match i, h1 with
    | 0, _ =>
      simp [mK] at he
      subst he
      rw [tells_ab] at h4
      exact ⟨h2, by dsimp only at h3; omega, h4⟩
    | 1, _ => simp [mK] at he
  · rintro ⟨h1, rfl, h3⟩
    exact ⟨0, ⟨by decide, h1⟩, (1, [(97, 98)]), by simp [mK], rfl, (tells_ab r).2 h3⟩
theorem mk_step {l : List Int} {r : Int} (h : (0 : Int) ∈ l) (hr : r = 97 ∨ r = 98) : stepF mK l r = [0, 1] := by
  have h2 : ∀ k, Cl mK (Mv mK (Inn 2 l) r) k ↔ (k = 0 ∨ k = 1) := fun k => by
    constructor
    · intro hk
      induction hk with
      | base k hp => exact .inr ((mk_mv l r k).1 hp).2.1
      | step i k _ hm ih => rcases ih with rfl | rfl <;> simp [mK] at hm; left; omega
    · have h1 : Cl mK (Mv mK (Inn 2 l) r) 1 := .base 1 ((mk_mv l r 1).2 ⟨h, rfl, hr⟩)
      rintro (rfl | rfl)
      · exact .step 1 0 h1 (by simp [mK])
      · exact h1
  unfold stepF
  show stL 2 (Cl mK (Mv mK (Inn 2 l) r)) = [0, 1]
  rw [show (2 : Nat) = 0 + 1 + 1 from rfl, stL_yes ((h2 _).2 (.inr rfl)), stL_yes ((h2 _).2 (.inl rfl)), stL_zero]
  rfl
theorem mk_stop (l : List Int) {r : Int} (hr : ¬ (r = 97 ∨ r = 98)) : stepF mK l r = [] := by
  unfold stepF
  rw [stL_nil]
  exact fun k _ => Cl.none (fun k h => hr ((mk_mv l r k).1 h).2.2) k
theorem mk_tgp (l : List Int) (t : Int) : TgP mK l t ↔ ((1 : Int) ∈ l ∧ t = 4) := by
  unfold TgP Inn
  constructor
  · rintro ⟨h0, k, ⟨h1, h2⟩, h3⟩
    match k, h1 with
    | 0, _ => simp [mK] at h3; omega
    | 1, _ => simp [mK] at h3; exact ⟨h2, h3.symm⟩
  · rintro ⟨h1, rfl⟩
    exact ⟨by decide, 1, ⟨by decide, h1⟩, by simp [mK]⟩
theorem mk_long : Lng mK [97, 98, 99] 3 2 4 := by
  have g0 : goF mK [] = [0] := by rw [go_zero, mk_start]
  have g1 : goF mK [97] = [0, 1] := by
    have := go_snoc mK [] 97
    rw [g0, mk_step (by simp) (.inl rfl)] at this
    exact this
  have g2 : goF mK [97, 98] = [0, 1] := by
    have := go_snoc mK [97] 98
    rw [g1, mk_step (by simp) (.inr rfl)] at this
    exact this
  have g3 : goF mK [97, 98, 99] = [] := by
    have := go_snoc mK [97, 98] 99
    rw [g2, mk_stop _ (by decide)] at this
    exact this
  have h2 : Lng mK [97, 98, 99] 2 2 4 := by
    have := Lng.yes (m := mK) (s := [97, 98, 99]) (i := 1) (b := 4) (by show TgP mK (goF mK [97, 98]) 4; rw [g2, mk_tgp]; exact ⟨by simp, rfl⟩) (fun t ht => by
      have : TgP mK (goF mK [97, 98]) t := ht
      rw [g2, mk_tgp] at this
      omega)
    exact this
  exact h2.no (fun t ht => by
    have : TgP mK (goF mK [97, 98, 99]) t := ht
    rw [g3] at this
    exact no_tag mK t this)
end SimM
namespace Go.Proofs.YtioahgklplbinaaDoor
open Go.RowKit Go.Shelf SetM NfaM SimM
set_option maxRecDepth 100000 in
set_option maxHeartbeats 16000000 in
theorem known9 {W : World} (hA : Aw W) : Calls Tryd.prog 8 #[] W fun e W' => e = .returned (.bool true) ∧ Below W.heap.size W W' := by
  obtain ⟨s, hs⟩ : ∃ s, s = W.heap.size := ⟨_, rfl⟩
  obtain ⟨A1, h1⟩ : ∃ A, A = W.alloc (.cells #[.int .i64 97, .int .i64 98] 52) := ⟨_, rfl⟩
  obtain ⟨A2, h2⟩ : ∃ A, A = A1.alloc (.cells #[.int .i64 1, .slice (some ⟨W.heap.size, 0, none⟩) 1 1] 47) := ⟨_, rfl⟩
  obtain ⟨A3, h3⟩ : ∃ A, A = A2.alloc (.cells #[.slice (some ⟨W.heap.size + 1, 0, none⟩) 1 1, .slice none 0 0] 44) := ⟨_, rfl⟩
  obtain ⟨A4, h4⟩ : ∃ A, A = A3.alloc (.cells #[.int .i64 0] 3) := ⟨_, rfl⟩
  obtain ⟨A5, h5⟩ : ∃ A, A = A4.alloc (.cells #[.slice none 0 0, .slice (some ⟨W.heap.size + 1 + 1 + 1, 0, none⟩) 1 1] 24) := ⟨_, rfl⟩
  obtain ⟨A6, h6⟩ : ∃ A, A = A5.alloc (.cells #[.int .i64 (-1), .int .i64 4] 3) := ⟨_, rfl⟩
  obtain ⟨V, hV⟩ : ∃ A, A = A6.alloc (.cells #[.slice (some ⟨W.heap.size + 1 + 1, 0, none⟩) 2 2, .slice (some ⟨W.heap.size + 1 + 1 + 1 + 1, 0, none⟩) 2 2, .slice (some ⟨W.heap.size + 1 + 1 + 1 + 1 + 1, 0, none⟩) 2 2] 30) := ⟨_, rfl⟩
  have z1 : A1.heap.size = W.heap.size + 1 := by rw [h1, World.size_alloc]
  have z2 : A2.heap.size = W.heap.size + 1 + 1 := by rw [h2, World.size_alloc, z1]
  have z3 : A3.heap.size = W.heap.size + 1 + 1 + 1 := by rw [h3, World.size_alloc, z2]
  have z4 : A4.heap.size = W.heap.size + 1 + 1 + 1 + 1 := by rw [h4, World.size_alloc, z3]
  have z5 : A5.heap.size = W.heap.size + 1 + 1 + 1 + 1 + 1 := by rw [h5, World.size_alloc, z4]
  have z6 : A6.heap.size = W.heap.size + 1 + 1 + 1 + 1 + 1 + 1 := by rw [h6, World.size_alloc, z5]
  have zV : V.heap.size = W.heap.size + 1 + 1 + 1 + 1 + 1 + 1 + 1 := by rw [hV, World.size_alloc, z6]
  have b6 : Below A6.heap.size A6 V := by rw [hV]; exact (Below.refl _ _).alloc (Nat.le_refl _) _
  have b5 : Below A5.heap.size A5 V := (show Below A5.heap.size A5 A6 by rw [h6]; exact (Below.refl _ _).alloc (Nat.le_refl _) _).trans (b6.mono (by omega))
  have b4 : Below A4.heap.size A4 V := (show Below A4.heap.size A4 A5 by rw [h5]; exact (Below.refl _ _).alloc (Nat.le_refl _) _).trans (b5.mono (by omega))
  have b3 : Below A3.heap.size A3 V := (show Below A3.heap.size A3 A4 by rw [h4]; exact (Below.refl _ _).alloc (Nat.le_refl _) _).trans (b4.mono (by omega))
  have b2 : Below A2.heap.size A2 V := (show Below A2.heap.size A2 A3 by rw [h3]; exact (Below.refl _ _).alloc (Nat.le_refl _) _).trans (b3.mono (by omega))
  have b1 : Below A1.heap.size A1 V := (show Below A1.heap.size A1 A2 by rw [h2]; exact (Below.refl _ _).alloc (Nat.le_refl _) _).trans (b2.mono (by omega))
  have b0 : Below W.heap.size W V := (show Below W.heap.size W A1 by rw [h1]; exact (Below.refl _ _).alloc (Nat.le_refl _) _).trans (b1.mono (by omega))
  have k0 : V.heap[W.heap.size]? = some (.cells #[.int .i64 97, .int .i64 98] 52 (0, 0)) := (b1.block _ (by omega)).trans (by rw [h1]; exact heap_alloc_new W _)
  have k1 : V.heap[W.heap.size + 1]? = some (.cells #[.int .i64 1, .slice (some ⟨W.heap.size, 0, none⟩) 1 1] 47 (0, 0)) := (b2.block _ (by omega)).trans (by rw [h2, ← z1]; exact heap_alloc_new A1 _)
  have k2 : V.heap[W.heap.size + 1 + 1]? = some (.cells #[.slice (some ⟨W.heap.size + 1, 0, none⟩) 1 1, .slice none 0 0] 44 (0, 0)) := (b3.block _ (by omega)).trans (by rw [h3, ← z2]; exact heap_alloc_new A2 _)
  have k3 : V.heap[W.heap.size + 1 + 1 + 1]? = some (.cells #[.int .i64 0] 3 (0, 0)) := (b4.block _ (by omega)).trans (by rw [h4, ← z3]; exact heap_alloc_new A3 _)
  have k4 : V.heap[W.heap.size + 1 + 1 + 1 + 1]? = some (.cells #[.slice none 0 0, .slice (some ⟨W.heap.size + 1 + 1 + 1, 0, none⟩) 1 1] 24 (0, 0)) := (b5.block _ (by omega)).trans (by rw [h5, ← z4]; exact heap_alloc_new A4 _)
  have k5 : V.heap[W.heap.size + 1 + 1 + 1 + 1 + 1]? = some (.cells #[.int .i64 (-1), .int .i64 4] 3 (0, 0)) := (b6.block _ (by omega)).trans (by rw [h6, ← z5]; exact heap_alloc_new A5 _)
  have k6 : V.heap[W.heap.size + 1 + 1 + 1 + 1 + 1 + 1]? = some (.cells #[.slice (some ⟨W.heap.size + 1 + 1, 0, none⟩) 2 2, .slice (some ⟨W.heap.size + 1 + 1 + 1 + 1, 0, none⟩) 2 2, .slice (some ⟨W.heap.size + 1 + 1 + 1 + 1 + 1, 0, none⟩) 2 2] 30 (0, 0)) := by rw [hV, ← z6]; exact heap_alloc_new A6 _
  have hm : MachV V (some ⟨W.heap.size + 1 + 1, 0, none⟩) (some ⟨W.heap.size + 1 + 1 + 1 + 1, 0, none⟩) (some ⟨W.heap.size + 1 + 1 + 1 + 1 + 1, 0, none⟩) 2 2 2 mK := by
    refine ⟨⟨fun i hi => ?_, fun i hi => ?_, fun i hi => ?_⟩, rfl, rfl, rfl, mk_bd⟩
    · match i, hi with
      | 0, _ => exact ⟨_, 0, _, 1, rfl, by omega, cell_of_row V _ 0 _ _ _ k2, fun k hk => by
          match k, hk with
          | 0, _ => exact ⟨_, 0, _, 1, rfl, by omega, cell_of_row V _ 0 _ _ _ k1, cell_of_row V _ 1 _ _ _ k1, fun _ => ⟨_, 0, rfl, by omega, fun j hj => by
              match j, hj with
              | 0, _ => exact ⟨cell_of_row V _ 0 _ _ _ k0, cell_of_row V _ 1 _ _ _ k0⟩⟩⟩⟩
      | 1, _ => exact ⟨_, 0, none, 0, rfl, by omega, cell_of_row V _ 1 _ _ _ k2, fun k hk => absurd hk (Nat.not_lt_zero k)⟩
    · match i, hi with
      | 0, _ => exact ⟨_, 0, none, 0, rfl, by omega, cell_of_row V _ 0 _ _ _ k4, fun k hk => absurd hk (Nat.not_lt_zero k)⟩
      | 1, _ => exact ⟨_, 0, _, 1, rfl, by omega, cell_of_row V _ 1 _ _ _ k4, fun k hk => by
          match k, hk with
          | 0, _ => exact ⟨_, 0, rfl, by omega, cell_of_row V _ 0 _ _ _ k3⟩⟩
    · match i, hi with
      | 0, _ => exact ⟨_, 0, rfl, by omega, cell_of_row V _ 0 _ _ _ k5⟩
      | 1, _ => exact ⟨_, 0, rfl, by omega, cell_of_row V _ 1 _ _ _ k5⟩
  have HM := Lib.hid hm
  have HB0 := Lib.hid b0
  have HK6 := Lib.hid k6
  have HLT := Lib.hid (Array.getElem?_eq_some_iff.1 k6).1
  have HA := Lib.hid (hA.step b0)
  obtain ⟨⟨d0, d1, d2⟩, _⟩ := cells3 k6
  obtain ⟨U, hU⟩ : ∃ U, U = V.alloc (.cells #[.int .i64 97, .int .i64 98, .int .i64 99] 3) := ⟨_, rfl⟩
  have hbU : Below V.heap.size V U := by rw [hU]; exact (Below.refl _ _).alloc (Nat.le_refl _) _
  have hxU : U.heap[V.heap.size]? = some (.cells #[.int .i64 97, .int .i64 98, .int .i64 99] 3 (0, 0)) := by rw [hU]; exact heap_alloc_new V _
  have HLG := Lib.hid (plong_c (c0 := 2) (c1 := 2) (c2 := 2) (c := 3) (hA.step (b0.trans (hbU.mono b0.size))) (hm.step hbU) (P := some ⟨V.heap.size, 0, none⟩) (s := [97, 98, 99]) (n := 3) (fun k hk => by
    match k, hk with
    | 0, _ => exact ⟨_, 0, rfl, (Array.getElem?_eq_some_iff.1 hxU).1, cell_of_row U _ 0 _ _ _ hxU⟩
    | 1, _ => exact ⟨_, 0, rfl, (Array.getElem?_eq_some_iff.1 hxU).1, cell_of_row U _ 1 _ _ _ hxU⟩
    | 2, _ => exact ⟨_, 0, rfl, (Array.getElem?_eq_some_iff.1 hxU).1, cell_of_row U _ 2 _ _ _ hxU⟩) rfl (by decide))
  have HBU := Lib.hid hbU
  clear hs z1 z2 z3 z4 z5 z6 zV b0 b1 b2 b3 b4 b5 b6 k0 k1 k2 k3 k4 k5 k6 hm hA hbU hxU
  go_enter Tryd.func8, Tryd.ntmps8
  go_upto_region 2 with fail
  rw [← h1, ← h2, ← h3, ← h4, ← h5, ← h6, ← hV]
  clear h1 h2 h3 h4 h5 h6 hV
  go_wp2_with fail
  rw [← hU]
  clear hU d0 d1 d2
  refine HLG.out.mono ?_
  rintro e w1 ⟨a, b, rfl, hL, _, b1⟩
  obtain ⟨rfl, rfl⟩ := (hL mk_snd).unique mk_long
  have hb1 := HBU.out.trans (b1.mono HBU.out.size)
  have HST := Lib.hid (pstart_c (c0 := 2) (c1 := 2) (c2 := 2) (HM.out.step hb1))
  obtain ⟨⟨d0, d1, d2⟩, _⟩ := cells3 ((hb1.block _ HLT.out).trans HK6.out)
  have HB1 := Lib.hid hb1
  clear hL b1 hb1 HLG
  go_wp2_with fail
  refine HST.out.mono ?_
  rintro e w2 ⟨v2, o2, rfl, hO2, h2, _, b2⟩
  obtain rfl := h2 mk_snd
  rw [mk_start] at hO2
  obtain ⟨Q2, c2, rfl, _, _, _, _⟩ := hO2.form
  have hb2 := HB1.out.trans (b2.mono HB1.out.size)
  obtain ⟨⟨e0, e1, e2⟩, _⟩ := cells3 ((hb2.block _ HLT.out).trans HK6.out)
  obtain ⟨X, hX⟩ : ∃ X, X = w2.alloc (.cells #[.int .i64 0] 3) := ⟨_, rfl⟩
  have hbX : Below w2.heap.size w2 X := by rw [hX]; exact (Below.refl _ _).alloc (Nat.le_refl _) _
  have hVX := hb2.trans (hbX.mono hb2.size)
  have HSP := Lib.hid (pstep_c (c0 := 2) (c1 := 2) (c2 := 2) (c := 1) (r := 97) (HA.out.step hVX) (HM.out.step hVX) (P := some ⟨w2.heap.size, 0, none⟩) (l := [0]) (n := 1) (by rw [hX]; exact lit_ints w2 0) rfl (by decide))
  have HVX := Lib.hid hVX
  have hl1 : List.length [(0 : Int)] = 1 := rfl
  rw [hl1]
  clear hO2 h2 b2 hb2 hbX hVX d0 d1 d2 HST hl1
  go_wp2_with fail
  rw [← hX]
  clear hX e0 e1 e2
  refine HSP.out.mono ?_
  rintro e w3 ⟨v3, o3, rfl, hO3, h3, _, b3⟩
  obtain rfl := h3 mk_snd
  rw [mk_step (by simp) (.inl rfl)] at hO3
  obtain ⟨Q3, c3, rfl, _, _, _, _⟩ := hO3.form
  have hb3 := HVX.out.trans (b3.mono HVX.out.size)
  obtain ⟨⟨e0, e1, e2⟩, _⟩ := cells3 ((hb3.block _ HLT.out).trans HK6.out)
  obtain ⟨Y, hY⟩ : ∃ Y, Y = w3.alloc (.cells #[.int .i64 1, .int .i64 1] 3) := ⟨_, rfl⟩
  have hbY : Below w3.heap.size w3 Y := by rw [hY]; exact (Below.refl _ _).alloc (Nat.le_refl _) _
  have hxY : Y.heap[w3.heap.size]? = some (.cells #[.int .i64 1, .int .i64 1] 3 (0, 0)) := by rw [hY]; exact heap_alloc_new w3 _
  have hVY := hb3.trans (hbY.mono hb3.size)
  have HTG := Lib.hid (ptags_c (c0 := 2) (c1 := 2) (c2 := 2) (c := 2) (HM.out.step hVY) (P := some ⟨w3.heap.size, 0, none⟩) (l := [1, 1]) (n := 2) (fun k hk => by
    match k, hk with
    | 0, _ => exact ⟨_, 0, rfl, (Array.getElem?_eq_some_iff.1 hxY).1, cell_of_row Y _ 0 _ _ _ hxY⟩
    | 1, _ => exact ⟨_, 0, rfl, (Array.getElem?_eq_some_iff.1 hxY).1, cell_of_row Y _ 1 _ _ _ hxY⟩) rfl (by decide))
  have HVY := Lib.hid hVY
  have hl2 : List.length [(0 : Int), 1] = 2 := rfl
  rw [hl2]
  clear hO3 h3 b3 hb3 hbY hxY hVY HSP hl2
  go_wp2_with fail
  rw [← hY]
  clear hY e0 e1 e2
  refine HTG.out.mono ?_
  rintro e w4 ⟨v4, o4, rfl, hO4, _, h4, _, b4⟩
  have hI : IsTags mK [1, 1] [4] := ⟨by simp, fun t => by rw [mk_tgp]; simp⟩
  obtain rfl := (h4 mk_snd).unique hI
  obtain ⟨Q4, c4, rfl, _, _, _, _⟩ := hO4.form
  have HE := Lib.hid (HB0.out.trans ((HVY.out.trans (b4.mono HVY.out.size)).mono HB0.out.size))
  have hl3 : List.length [(4 : Int)] = 1 := rfl
  rw [hl3]
  clear hO4 h4 b4 hI hl3
  go_wp2_with fail
  go_ret
  exact ⟨rfl, HE.out⟩
end Go.Proofs.YtioahgklplbinaaDoor
