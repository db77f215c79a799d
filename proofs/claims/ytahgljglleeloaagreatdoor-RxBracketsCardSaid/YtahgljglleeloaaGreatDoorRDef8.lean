/- The law's definitions: what they are as trees, what they are without case. -/
import Derived.Test.YtahgljglleeloaaGreatDoorR6C
import Derived.Test.YtahgljglleeloaaGreatDoorRClos
namespace Go.Proofs.YtahgljglleeloaaGreatDoor
open Go.RowKit Go.Shelf Go.Maps SetM PropsM RxM

theorem form8 {W : World} {A : Nat → Prop} {v : Value} (hn : NV W A v t8) : ∃ (sp : Option Addr) (sc g1 kc : Nat), v = .agg #[.int .u8 3, .slice sp 0 sc, .slice (some ⟨g1, 0, none⟩) 2 kc, .int .i64 0, .int .i64 0] ∧ (sp = none → sc = 0) := by
  obtain ⟨m, hm⟩ := hn
  cases m with
  | zero => exact hm.elim
  | succ m =>
    obtain ⟨sp, sl, sc, kp, kc, rfl, hK, hl, hs, hz, ha, hk0, hk1⟩ := hm
    obtain ⟨g, cs, us, rfl, hA, hb, h1, h2, h3⟩ := hk1 (by simp)
    cases set_none hK
    exact ⟨sp, sc, g, kc, rfl, hz⟩
abbrev DEF8 (sp : Option Addr) (sc g1 kc : Nat) : Obj := .cells #[.string ⟨#[68]⟩, .int .u8 3, .slice sp 0 sc, .slice (some ⟨g1, 0, none⟩) 2 kc, .int .i64 0, .int .i64 0] 59
set_option maxRecDepth 100000 in
set_option maxHeartbeats 2000000 in
theorem defs_c (W : World) : Calls Tryz.prog 15 #[] W fun e W' => ∃ g, e = .returned (.slice (some ⟨g, 0, none⟩) 1 1) ∧ DefsIn W' (some ⟨g, 0, none⟩) D8 ∧ Below W.heap.size W W' := by
  have HP := Lib.hid (rparse8 W)
  go_enter Tryz.func15, Tryz.ntmps15
  go_wp2_with fail
  refine HP.out.mono ?_
  rintro e w1 ⟨v, rfl, hv, hb, hc2⟩
  obtain ⟨sp, sc, g1, kc, rfl, hz⟩ := form8 hv
  have hkc : 2 ≤ kc := by
    obtain ⟨k, s, p, n, c, mn, mx, e, h⟩ := hc2
    cases e; exact h
  have z1 := World.size_alloc w1 (.cells #[.int .u8 3, .slice sp 0 sc, .slice (some ⟨g1, 0, none⟩) 2 kc, .int .i64 0, .int .i64 0] 27)
  have hb2 : Below w1.heap.size w1 ((w1.alloc (.cells #[.int .u8 3, .slice sp 0 sc, .slice (some ⟨g1, 0, none⟩) 2 kc, .int .i64 0, .int .i64 0] 27)).alloc (DEF8 sp sc g1 kc)) := ((Below.refl _ _).alloc (Nat.le_refl _) _).alloc (by omega) _
  have hnew := heap_alloc_new (w1.alloc (.cells #[.int .u8 3, .slice sp 0 sc, .slice (some ⟨g1, 0, none⟩) 2 kc, .int .i64 0, .int .i64 0] 27)) (DEF8 sp sc g1 kc)
  rw [z1] at hnew
  have hDef : DefsIn ((w1.alloc (.cells #[.int .u8 3, .slice sp 0 sc, .slice (some ⟨g1, 0, none⟩) 2 kc, .int .i64 0, .int .i64 0] 27)).alloc (DEF8 sp sc g1 kc)) (some ⟨w1.heap.size + 1, 0, none⟩) D8 := by
    obtain ⟨V, hV⟩ : ∃ V, V = ((w1.alloc (.cells #[.int .u8 3, .slice sp 0 sc, .slice (some ⟨g1, 0, none⟩) 2 kc, .int .i64 0, .int .i64 0] 27)).alloc (DEF8 sp sc g1 kc)) := ⟨_, rfl⟩
    rw [← hV] at hb2 hnew ⊢
    clear hV
    refine fun _ => ⟨w1.heap.size + 1, 0, rfl, (Array.getElem?_eq_some_iff.1 hnew).1, fun i hi => ?_⟩
    have hi0 : i = 0 := by simp [D8] at hi; exact hi
    subst hi0
    have hcl : ∀ j, V.cell? ⟨w1.heap.size + 1, j, none⟩ = (#[.string ⟨#[68]⟩, .int .u8 3, .slice sp 0 sc, .slice (some ⟨g1, 0, none⟩) 2 kc, .int .i64 0, .int .i64 0] : Array Value)[j]? := fun j => cell_of_row V _ j _ _ _ hnew
    have hvV : NV V (fun b => b < V.heap.size) (.agg #[.int .u8 3, .slice sp 0 sc, .slice (some ⟨g1, 0, none⟩) 2 kc, .int .i64 0, .int .i64 0]) t8 := hv.imp (fun b _ hlt => ⟨by have := hb2.size; omega, hb2.block b hlt⟩) hb2.size
    refine ⟨⟨#[68]⟩, 3, sp, 0, sc, some ⟨g1, 0, none⟩, 2, kc, 0, 0, rfl, ⟨hcl 0, hcl 1, hcl 2, hcl 3, hcl 4, hcl 5⟩, Nat.zero_le _, hkc, fun h => (by cases h), hz, hvV, fun W' hb' hC' => ?_⟩
    obtain ⟨_, g2, kc0, kc1, sp', sp1, l2p, pa, pb, sc', sc1, l2c, ca, cb, G1, G2, h8⟩ := open8 (hvV.imp (B := fun _ => True) (fun b _ hlt => ⟨trivial, hb'.block b hlt⟩) hb'.size)
    exact (closed8 h8 hC').mono (fun e W'' ⟨u, h1, h2, h3⟩ => ⟨u, h1, h2.imp (fun b hA _ => ⟨.inr hA, rfl⟩) (Nat.le_refl _), h3⟩)
  have HD := Lib.hid hDef
  have HB := Lib.hid (hb.trans (hb2.mono hb.size))
  clear hv hb hc2 hz hkc hb2 hnew hDef HP z1
  go_wp2
  go_ret
  exact ⟨_, rfl, HD.out, HB.out⟩
end Go.Proofs.YtahgljglleeloaaGreatDoor
