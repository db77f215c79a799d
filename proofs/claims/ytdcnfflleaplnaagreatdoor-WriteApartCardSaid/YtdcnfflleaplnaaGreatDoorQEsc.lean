/- The document's reader: what stands behind a stroke; one sign of a class. -/
import Derived.Test.YtdcnfflleaplnaaGreatDoorQProp
namespace Go.Proofs.YtdcnfflleaplnaaGreatDoor
open Go.RowKit Go.Shelf Go.Maps SetM PropsM RxM
section
variable {R : Nat} {W W' : World} {s : ByteArray} {dv : Value} {rest r : List Int} {d f n : Nat} {z c : Int} {σ : Out Unit}
theorem tkp_no (p : ByteArray) (hp : Low (bs p)) (hz : p.size ≤ 10) (h : Rr R W s dv r d f) (hn : ¬ bs p <+: r) :
    Calls Tryz.prog 39 #[.pointer (some ⟨R, 0, none⟩), .string p] W fun e W' => e = .returned (.bool false) ∧ Rr R W' s dv r d f ∧ Gr R W W' := by
  refine (takesq_c (σ := .ok () r) p hp hz h).mono ?_
  rintro e w ⟨rfl, h1, g⟩
  refine ⟨?_, ?_, g⟩
  · show Ending.returned (.bool (decide (bs p <+: r))) = _
    rw [decide_eq_false hn]
  · have e : takesS (bs p) (.ok () r) = .ok () r := if_neg hn
    rw [e] at h1
    exact h1
theorem tkp_yes (p : ByteArray) (hp : Low (bs p)) (hz : p.size ≤ 10) (h : Rr R W s dv r d f) (hn : bs p <+: r) :
    Calls Tryz.prog 39 #[.pointer (some ⟨R, 0, none⟩), .string p] W fun e W' => e = .returned (.bool true) ∧ Rr R W' s dv (r.drop (bs p).length) d f ∧ Gr R W W' := by
  refine (takesq_c (σ := .ok () r) p hp hz h).mono ?_
  rintro e w ⟨rfl, h1, g⟩
  refine ⟨?_, ?_, g⟩
  · show Ending.returned (.bool (decide (bs p <+: r))) = _
    rw [decide_eq_true hn]
  · have e : takesS (bs p) (.ok () r) = .ok () (r.drop (bs p).length) := if_pos hn
    rw [e] at h1
    exact h1
theorem lowq2 (a b : UInt8) (ha : (a.toNat : Int) < 128) (hb : (b.toNat : Int) < 128) : Low (bs ⟨#[a, b]⟩) := fun c hc => by
  have : c = (a.toNat : Int) ∨ c = (b.toNat : Int) := by simpa [bs] using hc
  omega
/-- The list is what the piece tells. -/
def PcIs : Pc → List Sp → Int → Prop
  | .one x, l, k => k = 0 ∧ l = [(x, x)]
  | .cls i, l, k => k = 1 ∧ ∀ r, Tells l r ↔ Tells (gathOf i) r
/-- A piece that was read, or what stands for it where something was wrong. -/
def PcPost (R : Nat) (s : ByteArray) (dv : Value) (d f : Nat) (o : Out Pc) (W : World) (e : Ending) (W' : World) : Prop :=
  ∃ P c l k, e = .returned (.tuple #[.slice P (List.length l) c, .int .i64 k]) ∧ l.length ≤ 104 ∧ Wide l ∧ Sl W' P l ∧ (P = none → c = 0) ∧ (∀ a, P = some a → W.heap.size ≤ a.block) ∧ (k = 0 → l = [] ∨ ∃ g, P = some ⟨g, 0, none⟩) ∧ (k = 0 ∨ k = 1) ∧ (∀ p x, o = .ok p x → PcIs p l k) ∧ Rs R W' s dv d f (Out.u o) ∧ Gr R W W'
theorem num_of {r0 t : List Int} (h : at1 123 t = true) : Out.u (byNumF r0 t) = Out.u (hexQ r0 t.tail) ∧ ∀ p x, byNumF r0 t = .ok p x → ∃ a, p = .one a ∧ hexQ r0 t.tail = .ok a x := by
  unfold byNumF hexQ
  rw [needq_at, if_pos h]
  dsimp only
  by_cases h1 : (runF isH 6 t.tail).1 = []
  · rw [if_pos h1, if_pos h1]; exact ⟨rfl, fun p x h => by cases h⟩
  · rw [if_neg h1, if_neg h1]
    cases needF 125 (runF isH 6 t.tail).2 with
    | err e x => exact ⟨rfl, fun p x h => by cases h⟩
    | ok u r2 =>
      dsimp only
      cases scB (hexN (runF isH 6 t.tail).1) with
      | true => exact ⟨rfl, fun p x h => by cases h; exact ⟨_, rfl, rfl⟩⟩
      | false => exact ⟨rfl, fun p x h => by cases h⟩
theorem num_no {r0 t : List Int} (h : at1 123 t = false) : byNumF r0 t = .err 60 t := by
  unfold byNumF
  rw [needq_at, if_neg (by rw [h]; simp)]
theorem name_of {r0 t : List Int} (h : at1 123 t = true) : Out.u (byNameF r0 t) = Out.u (propQ r0 t.tail) ∧ ∀ p x, byNameF r0 t = .ok p x → ∃ i, p = .cls i ∧ propQ r0 t.tail = .ok i x := by
  unfold byNameF propQ
  rw [needq_at, if_pos h]
  dsimp only
  cases needF 125 (t.tail.dropWhile not125) with
  | err e x => exact ⟨rfl, fun p x h => by cases h⟩
  | ok u r2 =>
    dsimp only
    cases whichF (looseL (bytesOf (t.tail.takeWhile not125))) with
    | none => exact ⟨rfl, fun p x h => by cases h⟩
    | some i => exact ⟨rfl, fun p x h => by cases h; exact ⟨_, rfl, rfl⟩⟩
theorem name_no {r0 t : List Int} (h : at1 123 t = false) : byNameF r0 t = .err 60 t := by
  unfold byNameF
  rw [needq_at, if_neg (by rw [h]; simp)]
theorem one_pre (a : Int) (r : List Int) : ([a] <+: r) ↔ ∃ t, r = a :: t := by
  constructor
  · rintro ⟨t, rfl⟩; exact ⟨t, rfl⟩
  · rintro ⟨t, rfl⟩; exact ⟨t, rfl⟩
theorem two_pre (a b : Int) (c : Int) (t : List Int) : ([a, b] <+: c :: t) ↔ (c = a ∧ at1 b t = true) := by
  rw [List.cons_prefix_cons, pre1]
  exact ⟨fun h => ⟨h.1.symm, h.2⟩, fun h => ⟨h.1.symm, h.2⟩⟩
theorem wide_pt (x : Int) (h : -9223372036854775808 ≤ x) : Wide [(x, x)] := fun s hs => by
  simp at hs
  subst hs
  exact h
set_option maxRecDepth 100000 in
set_option maxHeartbeats 4000000 in
theorem escape_q (r0 : List Int) (h : Rr R W s dv rest d f) : Calls Tryz.prog 74 #[.pointer (some ⟨R, 0, none⟩), .int .i64 ((s.size : Int) - ((U.UtfM.wr r0).length : Nat))] W (PcPost R s dv d f (escF r0 rest) W) := by
  have hsm := h.small
  have hlen := h.len
  have HR := Lib.hid h
  obtain ⟨z, hz⟩ : ∃ z, z = lookS (.ok () rest) := ⟨_, rfl⟩
  have hlk := lookq_c h
  rw [← hz] at hlk
  have HSEE := Lib.hid (see_all (R := R) (s := s) (dv := dv) (d := d) (f := f) z hz)
  clear hz h
  obtain ⟨o, ho⟩ : ∃ o, o = escF r0 rest := ⟨_, rfl⟩
  rw [← ho]
  by_cases hA : ∃ t, rest = 110 :: t
  · obtain ⟨t, rfl⟩ := hA
    have HO : Hid (o = .ok (.one 10) t) := Lib.hid ho
    have HP : Hid (([110] : List Int) <+: 110 :: t) := Lib.hid ⟨t, rfl⟩
    clear ho hlk
    go_enter Tryz.func74, Tryz.ntmps74
    go_wp2_with fail
    refine (HSEE.out _ HR.out).mono ?_
    rintro e w1 ⟨rfl, b1⟩
    have HG := Lib.hid (Gr.of (R := R) b1)
    have HR := Lib.hid (HR.out.kept b1)
    clear b1 HSEE
    have HT := Lib.hid (tkp_yes ⟨#[110]⟩ (lowq1 110 (by decide)) (by decide) HR.out HP.out)
    go_wp2_with fail
    refine HT.out.mono ?_
    rintro e w1 ⟨rfl, h1, g1⟩
    have HR := Lib.hid h1
    have HG := Lib.hid (HG.out.trans g1)
    clear h1 g1 HT
    have HR : Hid (Rr R w1 s dv t d f) := Lib.hid HR.out
    go_wp2
    go_returns
    have hal := (Below.refl w1.heap.size w1).alloc (Nat.le_refl _) (.cells #[.int .i64 10, .int .i64 10] 73)
    exact ⟨some ⟨w1.heap.size, 0, none⟩, 1, [(10, 10)], 0, rfl, by simp, wide_pt _ (by omega), sl_new w1 _ _, (fun h => by cases h), fun a h => (by cases h; exact HG.out.size), (fun _ => .inr ⟨_, rfl⟩), .inl rfl, fun p x h => (by rw [HO.out] at h; cases h; exact ⟨rfl, rfl⟩), by rw [HO.out]; exact Rr.kept HR.out hal, HG.out.trans (Gr.of hal)⟩
  have HNn : Hid (¬ ([110] : List Int) <+: rest) := Lib.hid (fun h => hA ((one_pre _ _).1 h))
  by_cases hB : ∃ t, rest = 114 :: t
  · obtain ⟨t, rfl⟩ := hB
    have HO : Hid (o = .ok (.one 13) t) := Lib.hid ho
    have HP : Hid (([114] : List Int) <+: 114 :: t) := Lib.hid ⟨t, rfl⟩
    clear ho hlk hA
    go_enter Tryz.func74, Tryz.ntmps74
    go_wp2_with fail
    refine (HSEE.out _ HR.out).mono ?_
    rintro e w1 ⟨rfl, b1⟩
    have HG := Lib.hid (Gr.of (R := R) b1)
    have HR := Lib.hid (HR.out.kept b1)
    clear b1 HSEE
    have HT := Lib.hid (tkp_no ⟨#[110]⟩ (lowq1 110 (by decide)) (by decide) HR.out HNn.out)
    go_wp2_with fail
    refine HT.out.mono ?_
    rintro e w1 ⟨rfl, h1, g1⟩
    have HR := Lib.hid h1
    have HG := Lib.hid (HG.out.trans g1)
    clear h1 g1 HT
    have HT := Lib.hid (tkp_yes ⟨#[114]⟩ (lowq1 114 (by decide)) (by decide) HR.out HP.out)
    go_wp2_with fail
    refine HT.out.mono ?_
    rintro e w1 ⟨rfl, h1, g1⟩
    have HR := Lib.hid h1
    have HG := Lib.hid (HG.out.trans g1)
    clear h1 g1 HT
    have HR : Hid (Rr R w1 s dv t d f) := Lib.hid HR.out
    go_wp2
    go_returns
    have hal := (Below.refl w1.heap.size w1).alloc (Nat.le_refl _) (.cells #[.int .i64 13, .int .i64 13] 73)
    exact ⟨some ⟨w1.heap.size, 0, none⟩, 1, [(13, 13)], 0, rfl, by simp, wide_pt _ (by omega), sl_new w1 _ _, (fun h => by cases h), fun a h => (by cases h; exact HG.out.size), (fun _ => .inr ⟨_, rfl⟩), .inl rfl, fun p x h => (by rw [HO.out] at h; cases h; exact ⟨rfl, rfl⟩), by rw [HO.out]; exact Rr.kept HR.out hal, HG.out.trans (Gr.of hal)⟩
  have HNr : Hid (¬ ([114] : List Int) <+: rest) := Lib.hid (fun h => hB ((one_pre _ _).1 h))
  by_cases hC : ∃ t, rest = 116 :: t
  · obtain ⟨t, rfl⟩ := hC
    have HO : Hid (o = .ok (.one 9) t) := Lib.hid ho
    have HP : Hid (([116] : List Int) <+: 116 :: t) := Lib.hid ⟨t, rfl⟩
    clear ho hlk hA hB
    go_enter Tryz.func74, Tryz.ntmps74
    go_wp2_with fail
    refine (HSEE.out _ HR.out).mono ?_
    rintro e w1 ⟨rfl, b1⟩
    have HG := Lib.hid (Gr.of (R := R) b1)
    have HR := Lib.hid (HR.out.kept b1)
    clear b1 HSEE
    have HT := Lib.hid (tkp_no ⟨#[110]⟩ (lowq1 110 (by decide)) (by decide) HR.out HNn.out)
    go_wp2_with fail
    refine HT.out.mono ?_
    rintro e w1 ⟨rfl, h1, g1⟩
    have HR := Lib.hid h1
    have HG := Lib.hid (HG.out.trans g1)
    clear h1 g1 HT
    have HT := Lib.hid (tkp_no ⟨#[114]⟩ (lowq1 114 (by decide)) (by decide) HR.out HNr.out)
    go_wp2_with fail
    refine HT.out.mono ?_
    rintro e w1 ⟨rfl, h1, g1⟩
    have HR := Lib.hid h1
    have HG := Lib.hid (HG.out.trans g1)
    clear h1 g1 HT
    have HT := Lib.hid (tkp_yes ⟨#[116]⟩ (lowq1 116 (by decide)) (by decide) HR.out HP.out)
    go_wp2_with fail
    refine HT.out.mono ?_
    rintro e w1 ⟨rfl, h1, g1⟩
    have HR := Lib.hid h1
    have HG := Lib.hid (HG.out.trans g1)
    clear h1 g1 HT
    have HR : Hid (Rr R w1 s dv t d f) := Lib.hid HR.out
    go_wp2
    go_returns
    have hal := (Below.refl w1.heap.size w1).alloc (Nat.le_refl _) (.cells #[.int .i64 9, .int .i64 9] 73)
    exact ⟨some ⟨w1.heap.size, 0, none⟩, 1, [(9, 9)], 0, rfl, by simp, wide_pt _ (by omega), sl_new w1 _ _, (fun h => by cases h), fun a h => (by cases h; exact HG.out.size), (fun _ => .inr ⟨_, rfl⟩), .inl rfl, fun p x h => (by rw [HO.out] at h; cases h; exact ⟨rfl, rfl⟩), by rw [HO.out]; exact Rr.kept HR.out hal, HG.out.trans (Gr.of hal)⟩
  have HNt : Hid (¬ ([116] : List Int) <+: rest) := Lib.hid (fun h => hC ((one_pre _ _).1 h))
  by_cases hD : ∃ t, rest = 120 :: t ∧ at1 123 t = true
  · obtain ⟨t, rfl, h123⟩ := hD
    have HO : Hid (o = byNumF r0 t) := Lib.hid ho
    have HNO := Lib.hid (num_of (r0 := r0) h123)
    have HP : Hid (([120, 123] : List Int) <+: 120 :: t) := Lib.hid ((two_pre _ _ _ _).2 ⟨rfl, h123⟩)
    have HDR : Hid ((120 :: t).drop 2 = t.tail) := Lib.hid (by simp)
    clear ho hlk hA hB hC h123
    go_enter Tryz.func74, Tryz.ntmps74
    go_wp2_with fail
    refine (HSEE.out _ HR.out).mono ?_
    rintro e w1 ⟨rfl, b1⟩
    have HG := Lib.hid (Gr.of (R := R) b1)
    have HR := Lib.hid (HR.out.kept b1)
    clear b1 HSEE
    have HT := Lib.hid (tkp_no ⟨#[110]⟩ (lowq1 110 (by decide)) (by decide) HR.out HNn.out)
    go_wp2_with fail
    refine HT.out.mono ?_
    rintro e w1 ⟨rfl, h1, g1⟩
    have HR := Lib.hid h1
    have HG := Lib.hid (HG.out.trans g1)
    clear h1 g1 HT
    have HT := Lib.hid (tkp_no ⟨#[114]⟩ (lowq1 114 (by decide)) (by decide) HR.out HNr.out)
    go_wp2_with fail
    refine HT.out.mono ?_
    rintro e w1 ⟨rfl, h1, g1⟩
    have HR := Lib.hid h1
    have HG := Lib.hid (HG.out.trans g1)
    clear h1 g1 HT
    have HT := Lib.hid (tkp_no ⟨#[116]⟩ (lowq1 116 (by decide)) (by decide) HR.out HNt.out)
    go_wp2_with fail
    refine HT.out.mono ?_
    rintro e w1 ⟨rfl, h1, g1⟩
    have HR := Lib.hid h1
    have HG := Lib.hid (HG.out.trans g1)
    clear h1 g1 HT
    have HT := Lib.hid (tkp_yes ⟨#[120, 123]⟩ (lowq2 120 123 (by decide) (by decide)) (by decide) HR.out HP.out)
    go_wp2_with fail
    refine HT.out.mono ?_
    rintro e w1 ⟨rfl, h1, g1⟩
    have HR := Lib.hid h1
    have HG := Lib.hid (HG.out.trans g1)
    clear h1 g1 HT
    have HR : Hid (Rr R w1 s dv t.tail d f) := Lib.hid (by have := HR.out; rw [show (bs (⟨#[120, 123]⟩ : ByteArray)).length = 2 from rfl, HDR.out] at this; exact this)
    have HX := Lib.hid (hexq_c r0 HR.out)
    go_wp2_with fail
    refine HX.out.mono ?_
    rintro e w1 ⟨a, rfl, a0, a1, ha, h1, g1⟩
    have HR := Lib.hid h1
    have HG := Lib.hid (HG.out.trans g1)
    have HA := Lib.hid ha
    clear h1 g1 ha HX
    go_wp2
    go_returns
    have hal := (Below.refl w1.heap.size w1).alloc (Nat.le_refl _) (.cells #[.int .i64 a, .int .i64 a] 73)
    exact ⟨some ⟨w1.heap.size, 0, none⟩, 1, [(a, a)], 0, rfl, by simp, wide_pt _ (by omega), sl_new w1 _ _, (fun h => by cases h), fun a h => (by cases h; exact HG.out.size), (fun _ => .inr ⟨_, rfl⟩), .inl rfl, fun p x h => (by rw [HO.out] at h; obtain ⟨b, rfl, hb⟩ := HNO.out.2 p x h; rw [← HA.out b x hb]; exact ⟨rfl, rfl⟩), by rw [HO.out, HNO.out.1]; exact Rs.kept HR.out hal, HG.out.trans (Gr.of hal)⟩
  have HNx : Hid (¬ ([120, 123] : List Int) <+: rest) := Lib.hid (fun h => hD (by
    cases rest with
    | nil => simp at h
    | cons c t => exact ⟨t, by rw [((two_pre _ _ _ _).1 h).1], ((two_pre _ _ _ _).1 h).2⟩))
  by_cases hE : ∃ t, rest = 112 :: t ∧ at1 123 t = true
  · obtain ⟨t, rfl, h123⟩ := hE
    have HO : Hid (o = byNameF r0 t) := Lib.hid ho
    have HNO := Lib.hid (name_of (r0 := r0) h123)
    have HP : Hid (([112, 123] : List Int) <+: 112 :: t) := Lib.hid ((two_pre _ _ _ _).2 ⟨rfl, h123⟩)
    have HDR : Hid ((112 :: t).drop 2 = t.tail) := Lib.hid (by simp)
    clear ho hlk hA hB hC hD h123
    go_enter Tryz.func74, Tryz.ntmps74
    go_wp2_with fail
    refine (HSEE.out _ HR.out).mono ?_
    rintro e w1 ⟨rfl, b1⟩
    have HG := Lib.hid (Gr.of (R := R) b1)
    have HR := Lib.hid (HR.out.kept b1)
    clear b1 HSEE
    have HT := Lib.hid (tkp_no ⟨#[110]⟩ (lowq1 110 (by decide)) (by decide) HR.out HNn.out)
    go_wp2_with fail
    refine HT.out.mono ?_
    rintro e w1 ⟨rfl, h1, g1⟩
    have HR := Lib.hid h1
    have HG := Lib.hid (HG.out.trans g1)
    clear h1 g1 HT
    have HT := Lib.hid (tkp_no ⟨#[114]⟩ (lowq1 114 (by decide)) (by decide) HR.out HNr.out)
    go_wp2_with fail
    refine HT.out.mono ?_
    rintro e w1 ⟨rfl, h1, g1⟩
    have HR := Lib.hid h1
    have HG := Lib.hid (HG.out.trans g1)
    clear h1 g1 HT
    have HT := Lib.hid (tkp_no ⟨#[116]⟩ (lowq1 116 (by decide)) (by decide) HR.out HNt.out)
    go_wp2_with fail
    refine HT.out.mono ?_
    rintro e w1 ⟨rfl, h1, g1⟩
    have HR := Lib.hid h1
    have HG := Lib.hid (HG.out.trans g1)
    clear h1 g1 HT
    have HT := Lib.hid (tkp_no ⟨#[120, 123]⟩ (lowq2 120 123 (by decide) (by decide)) (by decide) HR.out HNx.out)
    go_wp2_with fail
    refine HT.out.mono ?_
    rintro e w1 ⟨rfl, h1, g1⟩
    have HR := Lib.hid h1
    have HG := Lib.hid (HG.out.trans g1)
    clear h1 g1 HT
    have HT := Lib.hid (tkp_yes ⟨#[112, 123]⟩ (lowq2 112 123 (by decide) (by decide)) (by decide) HR.out HP.out)
    go_wp2_with fail
    refine HT.out.mono ?_
    rintro e w1 ⟨rfl, h1, g1⟩
    have HR := Lib.hid h1
    have HG := Lib.hid (HG.out.trans g1)
    clear h1 g1 HT
    have HR : Hid (Rr R w1 s dv t.tail d f) := Lib.hid (by have := HR.out; rw [show (bs (⟨#[112, 123]⟩ : ByteArray)).length = 2 from rfl, HDR.out] at this; exact this)
    have HX := Lib.hid (propq_c r0 HR.out)
    go_wp2_with fail
    refine HX.out.mono ?_
    rintro e w5 ⟨P, cc, l, rfl, l1, l2, l3, l0, l4, l5, h1, g1⟩
    have HR := Lib.hid h1
    have HL := Lib.hid (And.intro l1 (And.intro l2 (And.intro l3 (And.intro (And.intro l0 (fun a h => Nat.le_trans HG.out.size (l4 a h))) l5))))
    have HG := Lib.hid (HG.out.trans g1)
    clear h1 g1 l1 l2 l3 l0 l4 l5 HX
    go_wp2
    go_returns
    exact ⟨P, cc, l, 1, rfl, HL.out.1, HL.out.2.1, HL.out.2.2.1, HL.out.2.2.2.1.1, HL.out.2.2.2.1.2, (fun h => absurd h (by decide)), .inr rfl, fun p x h => (by rw [HO.out] at h; obtain ⟨b, rfl, hb⟩ := HNO.out.2 p x h; exact ⟨rfl, HL.out.2.2.2.2 b x hb⟩), by rw [HO.out, HNO.out.1]; exact HR.out, HG.out⟩
  have HNp : Hid (¬ ([112, 123] : List Int) <+: rest) := Lib.hid (fun h => hE (by
    cases rest with
    | nil => simp at h
    | cons c t => exact ⟨t, by rw [((two_pre _ _ _ _).1 h).1], ((two_pre _ _ _ _).1 h).2⟩))
  have HIN := Lib.hid (fun Y => in_c z ⟨#[124, 40, 41, 91, 93, 123, 125, 42, 43, 63, 46, 92, 94, 45]⟩ (by decide) (W := Y))
  have hbl : bs (⟨#[124, 40, 41, 91, 93, 123, 125, 42, 43, 63, 46, 92, 94, 45]⟩ : ByteArray) = escS := rfl
  rw [hbl] at HIN
  clear hbl
  by_cases hF : inS escS z = true
  · have hin := hF
    obtain ⟨t, rfl, hz0, hz1⟩ : ∃ t, rest = z :: t ∧ 0 ≤ z ∧ z < 128 := by
      have hm : z ∈ escS := List.contains_iff_mem.1 hF
      rcases hlk with ⟨h1, h2⟩ | ⟨c, t, rfl, ⟨h1, h2, h3⟩ | ⟨h1, h2, h3⟩⟩
      · rw [h2] at hm; simp [escS] at hm
      · subst h1; exact ⟨t, rfl, h2, h3⟩
      · simp [escS] at hm; omega
    have HO : Hid (o = .ok (.one z) t) := Lib.hid (by
      have hm : z ∈ escS := List.contains_iff_mem.1 hF
      have h5 : z ≠ 110 ∧ z ≠ 114 ∧ z ≠ 116 ∧ z ≠ 120 ∧ z ≠ 112 := by simp [escS] at hm; omega
      rw [ho]
      unfold escF
      dsimp only
      rw [if_neg h5.1, if_neg h5.2.1, if_neg h5.2.2.1, if_neg h5.2.2.2.1, if_neg h5.2.2.2.2, if_pos hin])
    have hge : z ≥ 0 := hz0
    have hmv : (U.UtfM.wr (z :: t)).length = (U.UtfM.wr t).length + 1 := by rw [wr_head_low (HR.out.sc z (by simp)) (by omega)]; simp
    have HM := Lib.hid (fun Y (hU : Rr R Y s dv (z :: t) d f) => hU.move (p := [z]) (rest' := t) (x := (s.size : Int) - ((U.UtfM.wr (z :: t)).length : Nat) + 1) rfl (by omega))
    have ew : IntKind.i64.wrap ((s.size : Int) - ((U.UtfM.wr (z :: t)).length : Nat) + 1) = (s.size : Int) - ((U.UtfM.wr (z :: t)).length : Nat) + 1 := IntWalk.i64_in _ (by omega)
    clear ho hlk hA hB hC hD hE hF hmv
    go_enter Tryz.func74, Tryz.ntmps74
    go_wp2_with fail
    refine (HSEE.out _ HR.out).mono ?_
    rintro e w1 ⟨rfl, b1⟩
    have HG := Lib.hid (Gr.of (R := R) b1)
    have HR := Lib.hid (HR.out.kept b1)
    clear b1 HSEE
    have HT := Lib.hid (tkp_no ⟨#[110]⟩ (lowq1 110 (by decide)) (by decide) HR.out HNn.out)
    go_wp2_with fail
    refine HT.out.mono ?_
    rintro e w1 ⟨rfl, h1, g1⟩
    have HR := Lib.hid h1
    have HG := Lib.hid (HG.out.trans g1)
    clear h1 g1 HT
    have HT := Lib.hid (tkp_no ⟨#[114]⟩ (lowq1 114 (by decide)) (by decide) HR.out HNr.out)
    go_wp2_with fail
    refine HT.out.mono ?_
    rintro e w1 ⟨rfl, h1, g1⟩
    have HR := Lib.hid h1
    have HG := Lib.hid (HG.out.trans g1)
    clear h1 g1 HT
    have HT := Lib.hid (tkp_no ⟨#[116]⟩ (lowq1 116 (by decide)) (by decide) HR.out HNt.out)
    go_wp2_with fail
    refine HT.out.mono ?_
    rintro e w1 ⟨rfl, h1, g1⟩
    have HR := Lib.hid h1
    have HG := Lib.hid (HG.out.trans g1)
    clear h1 g1 HT
    have HT := Lib.hid (tkp_no ⟨#[120, 123]⟩ (lowq2 120 123 (by decide) (by decide)) (by decide) HR.out HNx.out)
    go_wp2_with fail
    refine HT.out.mono ?_
    rintro e w1 ⟨rfl, h1, g1⟩
    have HR := Lib.hid h1
    have HG := Lib.hid (HG.out.trans g1)
    clear h1 g1 HT
    have HT := Lib.hid (tkp_no ⟨#[112, 123]⟩ (lowq2 112 123 (by decide) (by decide)) (by decide) HR.out HNp.out)
    go_wp2_with fail
    refine HT.out.mono ?_
    rintro e w1 ⟨rfl, h1, g1⟩
    have HR := Lib.hid h1
    have HG := Lib.hid (HG.out.trans g1)
    clear h1 g1 HT
    go_wp2_with fail
    refine (HIN.out _).mono ?_
    rintro e w9 ⟨rfl, rfl⟩
    have c1 := HR.out.c1
    have kz := HR.out.fz 1
    go_wp2
    go_returns
    have HR2 := HM.out _ HR.out
    have HG2 := HG.out.trans (Gr.set (R := R) w1 1 (.int .i64 ((s.size : Int) - ((U.UtfM.wr (z :: t)).length : Nat) + 1)))
    have hal := (Below.refl _ (w1.setCell ⟨R, 1, none⟩ (.int .i64 ((s.size : Int) - ((U.UtfM.wr (z :: t)).length : Nat) + 1)))).alloc (Nat.le_refl _) (.cells #[.int .i64 z, .int .i64 z] 73)
    exact ⟨some ⟨w1.heap.size, 0, none⟩, 1, [(z, z)], 0, rfl, by simp, wide_pt _ (by omega), by have h := sl_new (w1.setCell ⟨R, 1, none⟩ (.int .i64 ((s.size : Int) - ((U.UtfM.wr (z :: t)).length : Nat) + 1))) z z; rwa [World.size_setCell] at h, (fun h => by cases h), fun a h => (by cases h; exact HG.out.size), (fun _ => .inr ⟨_, rfl⟩), .inl rfl, fun p x h => (by rw [HO.out] at h; cases h; exact ⟨rfl, rfl⟩), by rw [HO.out]; exact Rr.kept HR2 hal, HG2.trans (Gr.of hal)⟩
  have hnF : inS escS z = false := by simpa using hF
  by_cases hG : z = 120 ∨ z = 112
  · obtain ⟨t, rfl⟩ : ∃ t, rest = z :: t := by
      rcases hlk with ⟨h1, h2⟩ | ⟨c, t, rfl, ⟨h1, h2, h3⟩ | ⟨h1, h2, h3⟩⟩
      · omega
      · subst h1; exact ⟨t, rfl⟩
      · omega
    obtain ⟨r9, hr9⟩ : ∃ r9, r9 = t := ⟨_, rfl⟩
    have HO : Hid (o = .err 60 r9) := Lib.hid (by
      rw [ho, hr9]
      rcases hG with rfl | rfl
      · exact num_no (by cases hh : at1 123 t with
          | true => exact absurd ⟨t, rfl, hh⟩ hD
          | false => rfl)
      · exact name_no (by cases hh : at1 123 t with
          | true => exact absurd ⟨t, rfl, hh⟩ hE
          | false => rfl))
    have hmv : (U.UtfM.wr (z :: t)).length = (U.UtfM.wr t).length + 1 := by rw [wr_head_low (HR.out.sc z (by simp)) (by omega)]; simp
    have HZ9 : Hid ((s.size : Int) - ((U.UtfM.wr (z :: t)).length : Nat) + 1 = (s.size : Int) - ((U.UtfM.wr r9).length : Nat)) := Lib.hid (by rw [hr9]; omega)
    have ew : IntKind.i64.wrap ((s.size : Int) - ((U.UtfM.wr (z :: t)).length : Nat) + 1) = (s.size : Int) - ((U.UtfM.wr (z :: t)).length : Nat) + 1 := IntWalk.i64_in _ (by omega)
    clear ho hlk hA hB hC hD hE hF hmv hr9
    obtain ⟨rest, hrest⟩ : ∃ rest, rest = z :: t := ⟨_, rfl⟩
    rw [← hrest] at HR HSEE HNn HNr HNt HNx HNp HZ9 ew hlen
    clear hrest
    have hge : z ≥ 0 := by omega
    rcases hG with rfl | rfl
    all_goals
      go_enter Tryz.func74, Tryz.ntmps74
      go_wp2_with fail
      refine (HSEE.out _ HR.out).mono ?_
      rintro e w1 ⟨rfl, b1⟩
      have HG := Lib.hid (Gr.of (R := R) b1)
      have HR := Lib.hid (HR.out.kept b1)
      clear b1 HSEE
      have HT := Lib.hid (tkp_no ⟨#[110]⟩ (lowq1 110 (by decide)) (by decide) HR.out HNn.out)
      go_wp2_with fail
      refine HT.out.mono ?_
      rintro e w1 ⟨rfl, h1, g1⟩
      have HR := Lib.hid h1
      have HG := Lib.hid (HG.out.trans g1)
      clear h1 g1 HT
      have HT := Lib.hid (tkp_no ⟨#[114]⟩ (lowq1 114 (by decide)) (by decide) HR.out HNr.out)
      go_wp2_with fail
      refine HT.out.mono ?_
      rintro e w1 ⟨rfl, h1, g1⟩
      have HR := Lib.hid h1
      have HG := Lib.hid (HG.out.trans g1)
      clear h1 g1 HT
      have HT := Lib.hid (tkp_no ⟨#[116]⟩ (lowq1 116 (by decide)) (by decide) HR.out HNt.out)
      go_wp2_with fail
      refine HT.out.mono ?_
      rintro e w1 ⟨rfl, h1, g1⟩
      have HR := Lib.hid h1
      have HG := Lib.hid (HG.out.trans g1)
      clear h1 g1 HT
      have HT := Lib.hid (tkp_no ⟨#[120, 123]⟩ (lowq2 120 123 (by decide) (by decide)) (by decide) HR.out HNx.out)
      go_wp2_with fail
      refine HT.out.mono ?_
      rintro e w1 ⟨rfl, h1, g1⟩
      have HR := Lib.hid h1
      have HG := Lib.hid (HG.out.trans g1)
      clear h1 g1 HT
      have HT := Lib.hid (tkp_no ⟨#[112, 123]⟩ (lowq2 112 123 (by decide) (by decide)) (by decide) HR.out HNp.out)
      go_wp2_with fail
      refine HT.out.mono ?_
      rintro e w1 ⟨rfl, h1, g1⟩
      have HR := Lib.hid h1
      have HG := Lib.hid (HG.out.trans g1)
      clear h1 g1 HT
      go_wp2_with fail
      refine (HIN.out _).mono ?_
      rintro e w9 ⟨rfl, rfl⟩
      have HF := Lib.hid (fail_c (σ := .ok () rest) 60 ((s.size : Int) - ((U.UtfM.wr rest).length : Nat) + 1) r9 (by omega) (fun _ _ _ => HZ9.out) HR.out)
      have c1 := HR.out.c1
      go_wp2_with fail
      refine HF.out.mono ?_
      rintro e w1 ⟨rfl, h1, g1⟩
      have HR : Hid (Rs R w1 s dv d f (.err 60 r9)) := Lib.hid h1
      have HG := Lib.hid (HG.out.trans g1)
      clear h1 g1 HF c1
      go_wp2
      go_returns
      have hal := (Below.refl w1.heap.size w1).alloc (Nat.le_refl _) (.cells #[.int .i64 0, .int .i64 0] 73)
      exact ⟨some ⟨w1.heap.size, 0, none⟩, 1, [(0, 0)], 0, rfl, by simp, wide_pt _ (by omega), sl_new w1 _ _, (fun h => by cases h), fun a h => (by cases h; exact HG.out.size), (fun _ => .inr ⟨_, rfl⟩), .inl rfl, fun p x h => (by rw [HO.out] at h; cases h), by rw [HO.out]; exact Rs.kept HR.out hal, HG.out.trans (Gr.of hal)⟩
  obtain ⟨r9, hr9⟩ : ∃ r9, r9 = rest := ⟨_, rfl⟩
  have HO : Hid (o = .err 60 r9) := Lib.hid (by
    rw [ho, hr9]
    rcases hlk with ⟨h1, h2⟩ | ⟨c, t, rfl, h1⟩
    · rw [h1]; rfl
    · have e1 : c ≠ 110 := fun e => hA ⟨t, by rw [e]⟩
      have e2 : c ≠ 114 := fun e => hB ⟨t, by rw [e]⟩
      have e3 : c ≠ 116 := fun e => hC ⟨t, by rw [e]⟩
      have e4 : c ≠ 120 := fun e => hG (by rcases h1 with ⟨h1, _⟩ | ⟨_, _, h3⟩ <;> omega)
      have e5 : c ≠ 112 := fun e => hG (by rcases h1 with ⟨h1, _⟩ | ⟨_, _, h3⟩ <;> omega)
      have e6 : inS escS c = false := by
        rcases h1 with ⟨h1, _⟩ | ⟨_, _, h3⟩
        · rw [← h1]; exact hnF
        · rw [Bool.eq_false_iff]
          intro h
          have hm : c ∈ escS := List.contains_iff_mem.1 h
          simp [escS] at hm
          omega
      unfold escF
      dsimp only
      rw [if_neg e1, if_neg e2, if_neg e3, if_neg e4, if_neg e5, if_neg (by rw [e6]; simp)])
  have HZ9 : Hid ((s.size : Int) - ((U.UtfM.wr rest).length : Nat) = (s.size : Int) - ((U.UtfM.wr r9).length : Nat)) := Lib.hid (by rw [hr9])
  have e1 : ¬ z = 120 := fun e => hG (.inl e)
  have e2 : ¬ z = 112 := fun e => hG (.inr e)
  have e3 : (z == 120) = false := by simp [e1]
  have e4 : (z == 112) = false := by simp [e2]
  clear ho hlk hA hB hC hD hE hF hG hr9
  by_cases hge : z ≥ 0
  · go_enter Tryz.func74, Tryz.ntmps74
    go_wp2_with fail
    refine (HSEE.out _ HR.out).mono ?_
    rintro e w1 ⟨rfl, b1⟩
    have HG := Lib.hid (Gr.of (R := R) b1)
    have HR := Lib.hid (HR.out.kept b1)
    clear b1 HSEE
    have HT := Lib.hid (tkp_no ⟨#[110]⟩ (lowq1 110 (by decide)) (by decide) HR.out HNn.out)
    go_wp2_with fail
    refine HT.out.mono ?_
    rintro e w1 ⟨rfl, h1, g1⟩
    have HR := Lib.hid h1
    have HG := Lib.hid (HG.out.trans g1)
    clear h1 g1 HT
    have HT := Lib.hid (tkp_no ⟨#[114]⟩ (lowq1 114 (by decide)) (by decide) HR.out HNr.out)
    go_wp2_with fail
    refine HT.out.mono ?_
    rintro e w1 ⟨rfl, h1, g1⟩
    have HR := Lib.hid h1
    have HG := Lib.hid (HG.out.trans g1)
    clear h1 g1 HT
    have HT := Lib.hid (tkp_no ⟨#[116]⟩ (lowq1 116 (by decide)) (by decide) HR.out HNt.out)
    go_wp2_with fail
    refine HT.out.mono ?_
    rintro e w1 ⟨rfl, h1, g1⟩
    have HR := Lib.hid h1
    have HG := Lib.hid (HG.out.trans g1)
    clear h1 g1 HT
    have HT := Lib.hid (tkp_no ⟨#[120, 123]⟩ (lowq2 120 123 (by decide) (by decide)) (by decide) HR.out HNx.out)
    go_wp2_with fail
    refine HT.out.mono ?_
    rintro e w1 ⟨rfl, h1, g1⟩
    have HR := Lib.hid h1
    have HG := Lib.hid (HG.out.trans g1)
    clear h1 g1 HT
    have HT := Lib.hid (tkp_no ⟨#[112, 123]⟩ (lowq2 112 123 (by decide) (by decide)) (by decide) HR.out HNp.out)
    go_wp2_with fail
    refine HT.out.mono ?_
    rintro e w1 ⟨rfl, h1, g1⟩
    have HR := Lib.hid h1
    have HG := Lib.hid (HG.out.trans g1)
    clear h1 g1 HT
    go_wp2_with fail
    refine (HIN.out _).mono ?_
    rintro e w9 ⟨rfl, rfl⟩
    have HF := Lib.hid (fail_c (σ := .ok () rest) 60 ((s.size : Int) - ((U.UtfM.wr rest).length : Nat)) r9 (by omega) (fun _ _ _ => HZ9.out) HR.out)
    have c1 := HR.out.c1
    go_wp2_with fail
    refine HF.out.mono ?_
    rintro e w1 ⟨rfl, h1, g1⟩
    have HR : Hid (Rs R w1 s dv d f (.err 60 r9)) := Lib.hid h1
    have HG := Lib.hid (HG.out.trans g1)
    clear h1 g1 HF c1
    go_wp2
    go_returns
    have hal := (Below.refl w1.heap.size w1).alloc (Nat.le_refl _) (.cells #[.int .i64 0, .int .i64 0] 73)
    exact ⟨some ⟨w1.heap.size, 0, none⟩, 1, [(0, 0)], 0, rfl, by simp, wide_pt _ (by omega), sl_new w1 _ _, (fun h => by cases h), fun a h => (by cases h; exact HG.out.size), (fun _ => .inr ⟨_, rfl⟩), .inl rfl, fun p x h => (by rw [HO.out] at h; cases h), by rw [HO.out]; exact Rs.kept HR.out hal, HG.out.trans (Gr.of hal)⟩
  · have hge' : ¬ 0 ≤ z := hge
    go_enter Tryz.func74, Tryz.ntmps74
    go_wp2_with fail
    refine (HSEE.out _ HR.out).mono ?_
    rintro e w1 ⟨rfl, b1⟩
    have HG := Lib.hid (Gr.of (R := R) b1)
    have HR := Lib.hid (HR.out.kept b1)
    clear b1 HSEE
    have HT := Lib.hid (tkp_no ⟨#[110]⟩ (lowq1 110 (by decide)) (by decide) HR.out HNn.out)
    go_wp2_with fail
    refine HT.out.mono ?_
    rintro e w1 ⟨rfl, h1, g1⟩
    have HR := Lib.hid h1
    have HG := Lib.hid (HG.out.trans g1)
    clear h1 g1 HT
    have HT := Lib.hid (tkp_no ⟨#[114]⟩ (lowq1 114 (by decide)) (by decide) HR.out HNr.out)
    go_wp2_with fail
    refine HT.out.mono ?_
    rintro e w1 ⟨rfl, h1, g1⟩
    have HR := Lib.hid h1
    have HG := Lib.hid (HG.out.trans g1)
    clear h1 g1 HT
    have HT := Lib.hid (tkp_no ⟨#[116]⟩ (lowq1 116 (by decide)) (by decide) HR.out HNt.out)
    go_wp2_with fail
    refine HT.out.mono ?_
    rintro e w1 ⟨rfl, h1, g1⟩
    have HR := Lib.hid h1
    have HG := Lib.hid (HG.out.trans g1)
    clear h1 g1 HT
    have HT := Lib.hid (tkp_no ⟨#[120, 123]⟩ (lowq2 120 123 (by decide) (by decide)) (by decide) HR.out HNx.out)
    go_wp2_with fail
    refine HT.out.mono ?_
    rintro e w1 ⟨rfl, h1, g1⟩
    have HR := Lib.hid h1
    have HG := Lib.hid (HG.out.trans g1)
    clear h1 g1 HT
    have HT := Lib.hid (tkp_no ⟨#[112, 123]⟩ (lowq2 112 123 (by decide) (by decide)) (by decide) HR.out HNp.out)
    go_wp2_with fail
    refine HT.out.mono ?_
    rintro e w1 ⟨rfl, h1, g1⟩
    have HR := Lib.hid h1
    have HG := Lib.hid (HG.out.trans g1)
    clear h1 g1 HT
    have HF := Lib.hid (fail_c (σ := .ok () rest) 60 ((s.size : Int) - ((U.UtfM.wr rest).length : Nat)) r9 (by omega) (fun _ _ _ => HZ9.out) HR.out)
    have c1 := HR.out.c1
    go_wp2_with fail
    refine HF.out.mono ?_
    rintro e w1 ⟨rfl, h1, g1⟩
    have HR : Hid (Rs R w1 s dv d f (.err 60 r9)) := Lib.hid h1
    have HG := Lib.hid (HG.out.trans g1)
    clear h1 g1 HF c1
    go_wp2
    go_returns
    have hal := (Below.refl w1.heap.size w1).alloc (Nat.le_refl _) (.cells #[.int .i64 0, .int .i64 0] 73)
    exact ⟨some ⟨w1.heap.size, 0, none⟩, 1, [(0, 0)], 0, rfl, by simp, wide_pt _ (by omega), sl_new w1 _ _, (fun h => by cases h), fun a h => (by cases h; exact HG.out.size), (fun _ => .inr ⟨_, rfl⟩), .inl rfl, fun p x h => (by rw [HO.out] at h; cases h), by rw [HO.out]; exact Rs.kept HR.out hal, HG.out.trans (Gr.of hal)⟩
set_option maxRecDepth 100000 in
set_option maxHeartbeats 4000000 in
theorem one_q (h : Rr R W s dv rest d f) : Calls Tryz.prog 89 #[.pointer (some ⟨R, 0, none⟩)] W (PcPost R s dv d f (pieceF rest) W) := by
  have hsm := h.small
  have HR := Lib.hid h
  have c1 := h.c1
  obtain ⟨o, ho⟩ : ∃ o, o = pieceF rest := ⟨_, rfl⟩
  rw [← ho]
  by_cases hA : ∃ t, rest = 92 :: t
  · obtain ⟨t, ht⟩ := hA
    have HO : Hid (o = escF rest t) := Lib.hid (by rw [ho, ht]; rfl)
    have HP : Hid (([92] : List Int) <+: rest) := Lib.hid ⟨t, ht.symm⟩
    have HDR : Hid (rest.drop 1 = t) := Lib.hid (by rw [ht]; rfl)
    have HG : Hid (Gr R W W) := Lib.hid (Gr.refl _ _)
    clear ho h ht
    go_enter Tryz.func89, Tryz.ntmps89
    go_wp2_with fail
    have HT := Lib.hid (tkp_yes ⟨#[92]⟩ (lowq1 92 (by decide)) (by decide) HR.out HP.out)
    refine HT.out.mono ?_
    rintro e w1 ⟨rfl, h1, g1⟩
    have HR := Lib.hid h1
    have HG := Lib.hid (HG.out.trans g1)
    clear h1 g1 HT
    have HR : Hid (Rr R w1 s dv t d f) := Lib.hid (by have := HR.out; rw [show (bs (⟨#[92]⟩ : ByteArray)).length = 1 from rfl, HDR.out] at this; exact this)
    have HX := Lib.hid (escape_q rest HR.out)
    clear c1
    go_wp2_with fail
    refine HX.out.mono ?_
    rintro e w5 ⟨P, cc, l, k, rfl, l1, l2, l3, l4, l5, l6, l7, l8, h1, g1⟩
    have HR := Lib.hid h1
    have HL := Lib.hid (And.intro l1 (And.intro l2 (And.intro l3 (And.intro l4 (And.intro (fun a h => Nat.le_trans HG.out.size (l5 a h)) (And.intro l6 (And.intro l7 l8)))))))
    have HG := Lib.hid (HG.out.trans g1)
    clear h1 g1 l1 l2 l3 l4 l5 l6 l7 l8 HX
    go_wp2
    go_returns
    exact ⟨P, cc, l, k, rfl, HL.out.1, HL.out.2.1, HL.out.2.2.1, HL.out.2.2.2.1, HL.out.2.2.2.2.1, HL.out.2.2.2.2.2.1, HL.out.2.2.2.2.2.2.1, fun p x h => (by rw [HO.out] at h; exact HL.out.2.2.2.2.2.2.2 p x h), by rw [HO.out]; exact HR.out, HG.out⟩
  have HN : Hid (¬ ([92] : List Int) <+: rest) := Lib.hid (fun h => hA ((one_pre _ _).1 h))
  have HG : Hid (Gr R W W) := Lib.hid (Gr.refl _ _)
  obtain ⟨z, hz⟩ : ∃ z, z = lookS (.ok () rest) := ⟨_, rfl⟩
  have hlk := lookq_c h
  rw [← hz] at hlk
  have HSEE := Lib.hid (see_all (R := R) (s := s) (dv := dv) (d := d) (f := f) z hz)
  have HIN := Lib.hid (fun Y => in_c z ⟨#[91, 93, 94, 45]⟩ (by decide) (W := Y))
  have hbl : bs (⟨#[91, 93, 94, 45]⟩ : ByteArray) = clsS := rfl
  rw [hbl] at HIN
  clear hbl hz h
  by_cases hbad : z < 0 ∨ inS clsS z = true
  · obtain ⟨r9, hr9⟩ : ∃ r9, r9 = rest := ⟨_, rfl⟩
    have HO : Hid (o = .err 60 r9) := Lib.hid (by
      rw [ho, hr9]
      rcases hlk with ⟨h1, h2⟩ | ⟨c, t, rfl, ⟨h1, h2, h3⟩ | ⟨h1, h2, h3⟩⟩
      · rw [h1]; rfl
      · subst h1
        have h5 : inS clsS z = true := hbad.elim (fun h => absurd h (by omega)) id
        have h6 : z ≠ 92 := fun e => hA ⟨t, by rw [e]⟩
        unfold pieceF
        dsimp only
        rw [if_neg h6, if_pos h5]
      · have h5 : inS clsS z = true := hbad.elim (fun h => absurd h (by omega)) id
        have hm : z ∈ clsS := List.contains_iff_mem.1 h5
        simp [clsS] at hm
        omega)
    have HZ9 : Hid ((s.size : Int) - ((U.UtfM.wr rest).length : Nat) = (s.size : Int) - ((U.UtfM.wr r9).length : Nat)) := Lib.hid (by rw [hr9])
    clear ho hlk hA hr9
    by_cases hz0 : z < 0
    · clear hbad
      go_enter Tryz.func89, Tryz.ntmps89
      go_wp2_with fail
      have HT := Lib.hid (tkp_no ⟨#[92]⟩ (lowq1 92 (by decide)) (by decide) HR.out HN.out)
      refine HT.out.mono ?_
      rintro e w1 ⟨rfl, h1, g1⟩
      have HR := Lib.hid h1
      have HG := Lib.hid (HG.out.trans g1)
      clear h1 g1 HT
      clear c1
      go_wp2_with fail
      refine (HSEE.out _ HR.out).mono ?_
      rintro e w2 ⟨rfl, b1⟩
      have HG := Lib.hid (HG.out.trans (Gr.of (R := R) b1))
      have HR := Lib.hid (HR.out.kept b1)
      clear b1
      have HF := Lib.hid (fail_c (σ := .ok () rest) 60 ((s.size : Int) - ((U.UtfM.wr rest).length : Nat)) r9 (by omega) (fun _ _ _ => HZ9.out) HR.out)
      have c1 := HR.out.c1
      go_wp2_with fail
      refine HF.out.mono ?_
      rintro e w4 ⟨rfl, h1, g1⟩
      have HR : Hid (Rs R w4 s dv d f (.err 60 r9)) := Lib.hid h1
      have HG := Lib.hid (HG.out.trans g1)
      clear h1 g1 HF c1
      go_wp2
      go_returns
      exact ⟨none, 0, [], 0, rfl, by simp, (fun s h => by simp at h), (fun h => absurd rfl h), (fun _ => rfl), (fun a h => by cases h), (fun _ => .inl rfl), .inl rfl, fun p x h => (by rw [HO.out] at h; cases h), by rw [HO.out]; exact HR.out, HG.out⟩
    · have hz0' : ¬ z < 0 := hz0
      have hin : inS clsS z = true := hbad.elim (fun h => absurd h (by omega)) id
      rw [hin] at HIN
      clear hbad
      go_enter Tryz.func89, Tryz.ntmps89
      go_wp2_with fail
      have HT := Lib.hid (tkp_no ⟨#[92]⟩ (lowq1 92 (by decide)) (by decide) HR.out HN.out)
      refine HT.out.mono ?_
      rintro e w1 ⟨rfl, h1, g1⟩
      have HR := Lib.hid h1
      have HG := Lib.hid (HG.out.trans g1)
      clear h1 g1 HT
      clear c1
      go_wp2_with fail
      refine (HSEE.out _ HR.out).mono ?_
      rintro e w2 ⟨rfl, b1⟩
      have HG := Lib.hid (HG.out.trans (Gr.of (R := R) b1))
      have HR := Lib.hid (HR.out.kept b1)
      clear b1
      go_wp2_with fail
      refine (HSEE.out _ HR.out).mono ?_
      rintro e w2 ⟨rfl, b1⟩
      have HG := Lib.hid (HG.out.trans (Gr.of (R := R) b1))
      have HR := Lib.hid (HR.out.kept b1)
      clear b1
      go_wp2_with fail
      refine (HIN.out _).mono ?_
      rintro e w9 ⟨rfl, rfl⟩
      have HF := Lib.hid (fail_c (σ := .ok () rest) 60 ((s.size : Int) - ((U.UtfM.wr rest).length : Nat)) r9 (by omega) (fun _ _ _ => HZ9.out) HR.out)
      have c1 := HR.out.c1
      go_wp2_with fail
      refine HF.out.mono ?_
      rintro e w4 ⟨rfl, h1, g1⟩
      have HR : Hid (Rs R w4 s dv d f (.err 60 r9)) := Lib.hid h1
      have HG := Lib.hid (HG.out.trans g1)
      clear h1 g1 HF c1
      go_wp2
      go_returns
      exact ⟨none, 0, [], 0, rfl, by simp, (fun s h => by simp at h), (fun h => absurd rfl h), (fun _ => rfl), (fun a h => by cases h), (fun _ => .inl rfl), .inl rfl, fun p x h => (by rw [HO.out] at h; cases h), by rw [HO.out]; exact HR.out, HG.out⟩
  · have hz0 : ¬ z < 0 := fun h => hbad (.inl h)
    have hin : inS clsS z = false := by
      cases hh : inS clsS z with
      | true => exact absurd (.inr hh) hbad
      | false => rfl
    rw [hin] at HIN
    obtain ⟨c, t, hr, hc⟩ : ∃ c t, rest = c :: t ∧ inS clsS c = false := by
      rcases hlk with ⟨h1, h2⟩ | ⟨c, t, rfl, ⟨h1, h2, h3⟩ | ⟨h1, h2, h3⟩⟩
      · omega
      · exact ⟨c, t, rfl, by rw [← h1]; exact hin⟩
      · refine ⟨c, t, rfl, ?_⟩
        rw [Bool.eq_false_iff]
        intro h
        have hm : c ∈ clsS := List.contains_iff_mem.1 h
        simp [clsS] at hm
        omega
    have HO : Hid (o = .ok (.one c) t) := Lib.hid (by
      rw [ho, hr]
      have h6 : c ≠ 92 := fun e => hA ⟨t, by rw [hr, e]⟩
      unfold pieceF
      dsimp only
      rw [if_neg h6, if_neg (by rw [hc]; simp)])
    have HRE := Lib.hid hr
    have HSC : Hid (-9223372036854775808 ≤ c) := Lib.hid (by have := HR.out.sc c (by rw [hr]; simp); unfold U.UtfM.Sc at this; omega)
    clear ho hlk hA hbad hin hr hc
    go_enter Tryz.func89, Tryz.ntmps89
    go_wp2_with fail
    have HT := Lib.hid (tkp_no ⟨#[92]⟩ (lowq1 92 (by decide)) (by decide) HR.out HN.out)
    refine HT.out.mono ?_
    rintro e w1 ⟨rfl, h1, g1⟩
    have HR := Lib.hid h1
    have HG := Lib.hid (HG.out.trans g1)
    clear h1 g1 HT
    clear c1
    go_wp2_with fail
    refine (HSEE.out _ HR.out).mono ?_
    rintro e w2 ⟨rfl, b1⟩
    have HG := Lib.hid (HG.out.trans (Gr.of (R := R) b1))
    have HR := Lib.hid (HR.out.kept b1)
    clear b1
    go_wp2_with fail
    refine (HSEE.out _ HR.out).mono ?_
    rintro e w2 ⟨rfl, b1⟩
    have HG := Lib.hid (HG.out.trans (Gr.of (R := R) b1))
    have HR := Lib.hid (HR.out.kept b1)
    clear b1
    go_wp2_with fail
    refine (HIN.out _).mono ?_
    rintro e w9 ⟨rfl, rfl⟩
    have HR : Hid (Rr R w2 s dv (c :: t) d f) := Lib.hid (by have := HR.out; rw [HRE.out] at this; exact this)
    have HX := Lib.hid (scalar_q HR.out)
    go_wp2_with fail
    refine HX.out.mono ?_
    rintro e w5 ⟨g, rfl, hg, hs, h1, g1⟩
    have HR := Lib.hid h1
    have HS := Lib.hid (And.intro hs (Nat.le_trans HG.out.size hg))
    have HG := Lib.hid (HG.out.trans g1)
    clear h1 g1 hs hg HX
    go_wp2
    go_returns
    exact ⟨some ⟨g, 0, none⟩, 1, [(c, c)], 0, rfl, by simp, wide_pt _ HSC.out, HS.out.1, (fun h => by cases h), fun a h => (by cases h; exact HS.out.2), (fun _ => .inr ⟨_, rfl⟩), .inl rfl, fun p x h => (by rw [HO.out] at h; cases h; exact ⟨rfl, rfl⟩), by rw [HO.out]; exact HR.out, HG.out⟩
end
end Go.Proofs.YtdcnfflleaplnaaGreatDoor
