/- The document's own Same of nodes: alike are what read as one tree. -/
import Derived.Test.YtdcnfflleaplnaaGreatDoorRN
namespace Go.Proofs.YtdcnfflleaplnaaGreatDoor
open Go.RowKit Go.Shelf Go.Maps SetM PropsM RxM

/-- Two kids' cells, and the two rows that hold them. -/
structure KidsAt (W : World) (B g g' n k : Nat) (kc kc' : Nat) (a b c d e a' b' c' d' e' : Value) : Prop where
  r : W.cell? ⟨B, 2, none⟩ = some (.slice (some ⟨g, 0, none⟩) n kc)
  r' : W.cell? ⟨B + 1, 2, none⟩ = some (.slice (some ⟨g', 0, none⟩) n kc')
  k0 : W.cell? ⟨g, k * 5, none⟩ = some a
  k1 : W.cell? ⟨g, k * 5 + 1, none⟩ = some b
  k2 : W.cell? ⟨g, k * 5 + 2, none⟩ = some c
  k3 : W.cell? ⟨g, k * 5 + 3, none⟩ = some d
  k4 : W.cell? ⟨g, k * 5 + 4, none⟩ = some e
  j0 : W.cell? ⟨g', k * 5, none⟩ = some a'
  j1 : W.cell? ⟨g', k * 5 + 1, none⟩ = some b'
  j2 : W.cell? ⟨g', k * 5 + 2, none⟩ = some c'
  j3 : W.cell? ⟨g', k * 5 + 3, none⟩ = some d'
  j4 : W.cell? ⟨g', k * 5 + 4, none⟩ = some e'
theorem KidsAt.kept {W W' : World} {m B g g' n k : Nat} {kc kc' : Nat} {a b c d e a' b' c' d' e' : Value} (h : KidsAt W B g g' n k kc kc' a b c d e a' b' c' d' e') (hb : Below m W W') (h1 : B + 1 < m) (h2 : g < m) (h3 : g' < m) : KidsAt W' B g g' n k kc kc' a b c d e a' b' c' d' e' :=
  have q : ∀ (x y : Nat) {v : Value}, x < m → W.cell? ⟨x, y, none⟩ = some v → W'.cell? ⟨x, y, none⟩ = some v := fun x y v hx hv => (hb.cell (p := ⟨x, y, none⟩) hx).trans hv
  ⟨q _ _ (by omega) h.r, q _ _ (by omega) h.r', q _ _ h2 h.k0, q _ _ h2 h.k1, q _ _ h2 h.k2, q _ _ h2 h.k3, q _ _ h2 h.k4, q _ _ h3 h.j0, q _ _ h3 h.j1, q _ _ h3 h.j2, q _ _ h3 h.j3, q _ _ h3 h.j4⟩
set_option maxRecDepth 100000 in
set_option maxHeartbeats 2000000 in
theorem same_at {W : World} {A B : Nat → Prop} {v u : Value} {k : Nat} {K : Int → Prop} {kids : List Nd} {mn mx : Int} (hv : NV W A v (.mk k K kids mn mx)) (hu : NV W B u (.mk k K kids mn mx))
    (ih : ∀ (i : Nat) (hi : i < kids.length) (x y : Value) (W' : World), NV W' A x kids[i] → NV W' B y kids[i] → Calls Tryz.prog 15 #[x, y] W' fun e W'' => e = .returned (.bool true) ∧ Below W'.heap.size W' W'') :
    Calls Tryz.prog 15 #[v, u] W fun e W' => e = .returned (.bool true) ∧ Below W.heap.size W W' := by
  obtain ⟨sp, sl, sc, kp, kc, rfl, hK, hsl, hs, hk⟩ := hv.read
  obtain ⟨sp', sl', sc', kp', kc', rfl, hK', hsl', hs', hk'⟩ := hu.read
  have : sl' = sl := nf_unique _ _ hK'.1 hK.1 (fun r => by rw [hK'.2, hK.2])
  subst this
  obtain ⟨n, hn⟩ : ∃ n, n = kids.length := ⟨_, rfl⟩
  rw [← hn]
  have hn1 : n ≤ 1000 := by omega
  obtain ⟨V, hV⟩ : ∃ V, V = (W.alloc (.cells #[.int .u8 k, .slice sp sl'.length sc, .slice kp n kc, .int .i64 mn, .int .i64 mx] 26)).alloc (.cells #[.int .u8 k, .slice sp' sl'.length sc', .slice kp' n kc', .int .i64 mn, .int .i64 mx] 26) := ⟨_, rfl⟩
  have hbA := (Below.refl W.heap.size W).alloc (Nat.le_refl _) (.cells #[.int .u8 k, .slice sp sl'.length sc, .slice kp n kc, .int .i64 mn, .int .i64 mx] 26)
  have hb0 : Below W.heap.size W V := by rw [hV]; exact hbA.alloc (by rw [World.size_alloc]; omega) _
  have hVz : V.heap.size = W.heap.size + 2 := by rw [hV, World.size_alloc, World.size_alloc]
  have ka : V.cell? ⟨W.heap.size, 2, none⟩ = some (.slice kp n kc) := by
    rw [hV]
    refine (((Below.refl _ _).alloc (Nat.le_refl _) _).cell (p := ⟨W.heap.size, 2, none⟩) (by rw [World.size_alloc]; exact Nat.lt_succ_self _)).trans ?_
    rw [cell_of_row _ W.heap.size 2 _ _ _ (heap_alloc_new W _)]; rfl
  have kb : V.cell? ⟨W.heap.size + 1, 2, none⟩ = some (.slice kp' n kc') := by
    rw [hV]
    have h := cell_of_row _ (W.alloc (.cells #[.int .u8 k, .slice sp sl'.length sc, .slice kp n kc, .int .i64 mn, .int .i64 mx] 26)).heap.size 2 _ _ _ (heap_alloc_new (W.alloc (.cells #[.int .u8 k, .slice sp sl'.length sc, .slice kp n kc, .int .i64 mn, .int .i64 mx] 26)) (.cells #[.int .u8 k, .slice sp' sl'.length sc', .slice kp' n kc', .int .i64 mn, .int .i64 mx] 26))
    rw [World.size_alloc] at h
    exact h
  have HA := Lib.hid (alike_any sp sp' sc sc' sl' sl' (by omega) (by omega) V (hs.step hb0) (hs'.step hb0))
  rw [decide_eq_true (show sl' = sl' from rfl)] at HA
  have HK : Hid (∀ i, i < n → ∀ U, Below V.heap.size V U → ∃ g g' a b c d e a' b' c' d' e', kp = some ⟨g, 0, none⟩ ∧ kp' = some ⟨g', 0, none⟩ ∧ (g < V.heap.size ∧ g' < V.heap.size) ∧ KidsAt U W.heap.size g g' n i kc kc' a b c d e a' b' c' d' e' ∧ (∀ U', Below U.heap.size U U' → Calls Tryz.prog 15 #[.agg #[a, b, c, d, e], .agg #[a', b', c', d', e']] U' fun e W'' => e = .returned (.bool true) ∧ Below U'.heap.size U' W'')) := Lib.hid (by
    intro i hi U hU
    have hne : kids ≠ [] := by intro e; rw [e] at hn; simp at hn; omega
    obtain ⟨g, e1, hg, hc⟩ := hk hne
    obtain ⟨g', e1', hg', hc'⟩ := hk' hne
    obtain ⟨x, hx, hcx⟩ := hc i (by omega)
    obtain ⟨y, hy, hcy⟩ := hc' i (by omega)
    obtain ⟨a, b, c, d, e, rfl⟩ := hx.five
    obtain ⟨a', b', c', d', e', rfl⟩ := hy.five
    subst e1 e1'
    have q : ∀ (z o : Nat) {w : Value}, z < V.heap.size → V.cell? ⟨z, o, none⟩ = some w → U.cell? ⟨z, o, none⟩ = some w := fun z o w hz hw => (hU.cell (p := ⟨z, o, none⟩) hz).trans hw
    have q0 : ∀ (z o : Nat) {w : Value}, z < W.heap.size → W.cell? ⟨z, o, none⟩ = some w → U.cell? ⟨z, o, none⟩ = some w := fun z o w hz hw => q z o (by omega) ((hb0.cell (p := ⟨z, o, none⟩) hz).trans hw)
    refine ⟨g, g', a, b, c, d, e, a', b', c', d', e', rfl, rfl, ⟨by omega, by omega⟩, ⟨q _ _ (by omega) ka, q _ _ (by omega) kb, q0 _ _ hg (hcx 0 (by decide)), q0 _ _ hg (hcx 1 (by decide)), q0 _ _ hg (hcx 2 (by decide)), q0 _ _ hg (hcx 3 (by decide)), q0 _ _ hg (hcx 4 (by decide)), q0 _ _ hg' (hcy 0 (by decide)), q0 _ _ hg' (hcy 1 (by decide)), q0 _ _ hg' (hcy 2 (by decide)), q0 _ _ hg' (hcy 3 (by decide)), q0 _ _ hg' (hcy 4 (by decide))⟩, fun U' hU' => ?_⟩
    have hWU' := hb0.trans ((hU.trans (hU'.mono hU.size)).mono hb0.size)
    exact ih i (by omega) _ _ U' (hx.imp (fun z hA hz => ⟨hA, hWU'.block z hz⟩) hWU'.size) (hy.imp (fun z hA hz => ⟨hA, hWU'.block z hz⟩) hWU'.size))
  have HB0 := Lib.hid hb0
  clear ih hk hk' hv hu hK hK' hs hs' hb0 hbA hn
  go_enter Tryz.func15, Tryz.ntmps15
  go_wp2_with fail
  rw [← hV]
  refine HA.out.mono ?_
  rintro e w1 ⟨rfl, b1⟩
  have kz : w1.cell? ⟨W.heap.size, 2, none⟩ = some (.slice kp n kc) := (b1.cell (p := ⟨W.heap.size, 2, none⟩) (by show W.heap.size < _; omega)).trans ka
  have HB1 := Lib.hid b1
  clear b1 hV HA
  go_wp2_with fail
  go_loopg [5, 6] n (fun g s5 s6 wx => ∃ (k : Nat), k + g = n ∧ s5 = .int .i64 k ∧ Hid (Below V.heap.size V wx))
  case atStart => exact ⟨0, by omega, rfl, HB1⟩
  case round =>
    obtain ⟨i, hig, rfl, hb⟩ := hrel
    have kx := (hb.out.cell (p := ⟨W.heap.size, 2, none⟩) (by show W.heap.size < _; omega)).trans ka
    cases gk with
    | zero =>
      have hl : ¬ ((i : Int) < (n : Int)) := by omega
      go_wp2
      go_ret
      exact ⟨rfl, HB0.out.trans (hb.out.mono HB0.out.size)⟩
    | succ gk =>
      have hl : (i : Int) < (n : Int) := by omega
      obtain ⟨g, g', a, b, c, d, e, a', b', c', d', e', rfl, rfl, ⟨hg, hg'⟩, hka, hcall⟩ := HK.out i (by omega) _ hb.out
      have HKA := Lib.hid hka
      have HCA := Lib.hid hcall
      clear hka hcall
      have hwz : V.heap.size ≤ wr.heap.size := hb.out.size
      have HKS : ∀ U, Below wr.heap.size wr U → (U.cell? ⟨W.heap.size, 2, none⟩ = some (.slice (some ⟨g, 0, none⟩) n kc) ∧ U.cell? ⟨W.heap.size + 1, 2, none⟩ = some (.slice (some ⟨g', 0, none⟩) n kc') ∧ U.cell? ⟨g, i * 5, none⟩ = some a ∧ U.cell? ⟨g, i * 5 + 1, none⟩ = some b ∧ U.cell? ⟨g, i * 5 + 2, none⟩ = some c ∧ U.cell? ⟨g, i * 5 + 3, none⟩ = some d ∧ U.cell? ⟨g, i * 5 + 4, none⟩ = some e ∧ U.cell? ⟨g', i * 5, none⟩ = some a' ∧ U.cell? ⟨g', i * 5 + 1, none⟩ = some b' ∧ U.cell? ⟨g', i * 5 + 2, none⟩ = some c' ∧ U.cell? ⟨g', i * 5 + 3, none⟩ = some d' ∧ U.cell? ⟨g', i * 5 + 4, none⟩ = some e') := fun U hU => by
        have h := HKA.out.kept hU (by omega) (by omega) (by omega)
        exact ⟨h.r, h.r', h.k0, h.k1, h.k2, h.k3, h.k4, h.j0, h.j1, h.j2, h.j3, h.j4⟩
      have HKS := Lib.hid HKS
      have h0 : (0 : Int) ≤ (i : Int) := by omega
      clear ka kz kb HK
      go_wp2_with fail
      have hr : Below wr.heap.size wr wr.drew := (Below.refl _ _).drew
      go_region_held3 (fun U => U.cell? ⟨W.heap.size, 2, none⟩ = some (.slice (some ⟨g, 0, none⟩) n kc) ∧ U.cell? ⟨W.heap.size + 1, 2, none⟩ = some (.slice (some ⟨g', 0, none⟩) n kc') ∧ U.cell? ⟨g, i * 5, none⟩ = some a ∧ U.cell? ⟨g, i * 5 + 1, none⟩ = some b ∧ U.cell? ⟨g, i * 5 + 2, none⟩ = some c ∧ U.cell? ⟨g, i * 5 + 3, none⟩ = some d ∧ U.cell? ⟨g, i * 5 + 4, none⟩ = some e ∧ U.cell? ⟨g', i * 5, none⟩ = some a' ∧ U.cell? ⟨g', i * 5 + 1, none⟩ = some b' ∧ U.cell? ⟨g', i * 5 + 2, none⟩ = some c' ∧ U.cell? ⟨g', i * 5 + 3, none⟩ = some d' ∧ U.cell? ⟨g', i * 5 + 4, none⟩ = some e')
        (exact HKS.out _ hr)
        (first
          | (go_at_call 15; (refine (HCA.out _ hr).mono ?_); rintro e w3 ⟨rfl, b3⟩; have hr := hr.trans (b3.mono hr.size)))
      have HBX := Lib.hid (hb.out.trans (hr.mono hb.out.size))
      clear HKS HKA HCA kx hr b3
      go_wp2
      go_roundg gk
      case measure => omega
      case rel => exact ⟨i + 1, by omega, rfl, HBX⟩
theorem same_any {A B : Nat → Prop} : ∀ (t : Nd) (v u : Value) (W : World), NV W A v t → NV W B u t → Calls Tryz.prog 15 #[v, u] W fun e W' => e = .returned (.bool true) ∧ Below W.heap.size W W'
  | .mk k K kids mn mx, v, u, W, hv, hu => same_at hv hu (fun i hi x y W' hx hy => same_any kids[i] x y W' hx hy)
termination_by t => SizeOf.sizeOf t
decreasing_by
  have := List.sizeOf_lt_of_mem (List.getElem_mem hi)
  simp only [Nd.mk.sizeOf_spec]
  omega
end Go.Proofs.YtdcnfflleaplnaaGreatDoor
