/- The document's own Same of any two nodes: are they one tree? -/
import Derived.Test.YtdcnfflleaplnaaGreatDoorVRead
import Derived.Test.YtdcnfflleaplnaaGreatDoorRSame
namespace Go.Proofs.YtdcnfflleaplnaaGreatDoor
open Go.RowKit Go.Shelf Go.Maps SetM PropsM RxM WrM
noncomputable def sameB (t u : Ns) : Bool := @decide (t = u) (Classical.propDecidable _)
theorem sameB_true {t u : Ns} : sameB t u = true ↔ t = u := by unfold sameB; exact @decide_eq_true_iff _ (Classical.propDecidable _)
theorem sameB_false {t u : Ns} : sameB t u = false ↔ ¬ t = u := by unfold sameB; exact @decide_eq_false_iff_not _ (Classical.propDecidable _)
def SameC (t : Ns) : Prop := ∀ (u : Ns) (v w : Value) (W : World), RV W v t → RV W w u → Calls Tryz.prog 15 #[v, w] W fun e W' => e = .returned (.bool (sameB t u)) ∧ Below W.heap.size W W'
/-- Two kids' cells, and the two rows that hold them. -/
structure KidsAtR (W : World) (B g g' n n' k : Nat) (kc kc' : Nat) (a b c d e a' b' c' d' e' : Value) : Prop where
  r : W.cell? ⟨B, 2, none⟩ = some (.slice (some ⟨g, 0, none⟩) n kc)
  r' : W.cell? ⟨B + 1, 2, none⟩ = some (.slice (some ⟨g', 0, none⟩) n' kc')
  k0 : W.cell? ⟨g, k * 5, none⟩ = some a
  k1 : W.cell? ⟨g, k * 5 + 1, none⟩ = some b
  k2 : W.cell? ⟨g, k * 5 + 2, none⟩ = some c
  k3 : W.cell? ⟨g, k * 5 + 3, none⟩ = some d
  k4 : W.cell? ⟨g, k * 5 + 4, none⟩ = some e
  j0 : W.cell? ⟨g', k * 5, none⟩ = some a'
  j1 : W.cell? ⟨g', k * 5 + 1, none⟩ = some b'
  j2 : W.cell? ⟨g', k * 5 + 2, none⟩ = some c'
  j3 : W.cell? ⟨g', k * 5 + 3, none⟩ = some d'
  j4 : W.cell? ⟨g', k * 5 + 4, none⟩ = some e'
theorem KidsAtR.kept {W W' : World} {m B g g' n n' k : Nat} {kc kc' : Nat} {a b c d e a' b' c' d' e' : Value} (h : KidsAtR W B g g' n n' k kc kc' a b c d e a' b' c' d' e') (hb : Below m W W') (h1 : B + 1 < m) (h2 : g < m) (h3 : g' < m) : KidsAtR W' B g g' n n' k kc kc' a b c d e a' b' c' d' e' :=
  have q : ∀ (x y : Nat) {v : Value}, x < m → W.cell? ⟨x, y, none⟩ = some v → W'.cell? ⟨x, y, none⟩ = some v := fun x y v hx hv => (hb.cell (p := ⟨x, y, none⟩) hx).trans hv
  ⟨q _ _ (by omega) h.r, q _ _ (by omega) h.r', q _ _ h2 h.k0, q _ _ h2 h.k1, q _ _ h2 h.k2, q _ _ h2 h.k3, q _ _ h2 h.k4, q _ _ h3 h.j0, q _ _ h3 h.j1, q _ _ h3 h.j2, q _ _ h3 h.j3, q _ _ h3 h.j4⟩
theorem RV.five {W : World} {v : Value} {t : Ns} (h : RV W v t) : ∃ a b c d e, v = .agg #[a, b, c, d, e] := by
  obtain ⟨k, sp, sn, sc, kp, kn, kc, mn, mx, rfl⟩ := h.form5
  exact ⟨_, _, _, _, _, rfl⟩
theorem take_step {α : Type} {a b : List α} {i : Nat} (hi : i < a.length) (hi' : i < b.length) (h : a.take i = b.take i) (he : a[i] = b[i]) : a.take (i + 1) = b.take (i + 1) := by
  rw [List.take_add_one, List.take_add_one, h, List.getElem?_eq_getElem hi, List.getElem?_eq_getElem hi', he]
set_option maxRecDepth 100000 in
set_option maxHeartbeats 8000000 in
theorem same_k (t : Ns) (ih : ∀ x ∈ t.kids, SameC x) : SameC t := by
  intro u v w W hv hw
  obtain ⟨k, sl, kids, mn, mx⟩ := t
  obtain ⟨k', sl', kids', mn', mx'⟩ := u
  obtain ⟨sp, sc, kp, kc, rfl, ⟨hsl, hkl⟩, hs, _, hk⟩ := hv.read
  obtain ⟨sp', sc', kp', kc', rfl, ⟨hsl', hkl'⟩, hs', _, hk'⟩ := hw.read
  obtain ⟨q, hq⟩ : ∃ q, q = sameB (.mk k sl kids mn mx) (.mk k' sl' kids' mn' mx') := ⟨_, rfl⟩
  rw [← hq]
  have hqt : q = true ↔ (k = k' ∧ sl = sl' ∧ kids = kids' ∧ mn = mn' ∧ mx = mx') := by
    rw [hq, sameB_true]
    constructor
    · intro h; injection h with h1 h2 h3 h4 h5; exact ⟨h1, h2, h3, h4, h5⟩
    · rintro ⟨rfl, rfl, rfl, rfl, rfl⟩; rfl
  obtain ⟨n, hn⟩ : ∃ n, n = kids.length := ⟨_, rfl⟩
  obtain ⟨n', hn'⟩ : ∃ n', n' = kids'.length := ⟨_, rfl⟩
  obtain ⟨m, hm⟩ : ∃ m, m = sl.length := ⟨_, rfl⟩
  obtain ⟨m', hm'⟩ : ∃ m', m' = sl'.length := ⟨_, rfl⟩
  have HA := Lib.hid (fun V (hb : Below W.heap.size W V) => alike_any sp sp' sc sc' sl sl' (by omega) (by omega) V (hs.step hb) (hs'.step hb))
  rw [← hm, ← hm'] at HA
  rw [← hn, ← hn', ← hm, ← hm']
  obtain ⟨V, hV⟩ : ∃ V, V = (W.alloc (.cells #[.int .u8 k, .slice sp m sc, .slice kp n kc, .int .i64 mn, .int .i64 mx] 26)).alloc (.cells #[.int .u8 k', .slice sp' m' sc', .slice kp' n' kc', .int .i64 mn', .int .i64 mx'] 26) := ⟨_, rfl⟩
  have hbA := (Below.refl W.heap.size W).alloc (Nat.le_refl _) (.cells #[.int .u8 k, .slice sp m sc, .slice kp n kc, .int .i64 mn, .int .i64 mx] 26)
  have hb0 : Below W.heap.size W V := by rw [hV]; exact hbA.alloc (by rw [World.size_alloc]; omega) _
  have hVz : V.heap.size = W.heap.size + 2 := by rw [hV, World.size_alloc, World.size_alloc]
  have ka : V.cell? ⟨W.heap.size, 2, none⟩ = some (.slice kp n kc) := by
    rw [hV]
    refine (((Below.refl _ _).alloc (Nat.le_refl _) _).cell (p := ⟨W.heap.size, 2, none⟩) (by rw [World.size_alloc]; exact Nat.lt_succ_self _)).trans ?_
    rw [cell_of_row _ W.heap.size 2 _ _ _ (heap_alloc_new W _)]; rfl
  have kb : V.cell? ⟨W.heap.size + 1, 2, none⟩ = some (.slice kp' n' kc') := by
    rw [hV]
    have h := cell_of_row _ (W.alloc (.cells #[.int .u8 k, .slice sp m sc, .slice kp n kc, .int .i64 mn, .int .i64 mx] 26)).heap.size 2 _ _ _ (heap_alloc_new (W.alloc (.cells #[.int .u8 k, .slice sp m sc, .slice kp n kc, .int .i64 mn, .int .i64 mx] 26)) (.cells #[.int .u8 k', .slice sp' m' sc', .slice kp' n' kc', .int .i64 mn', .int .i64 mx'] 26))
    rw [World.size_alloc] at h
    exact h
  have HAV := Lib.hid (HA.out V hb0)
  have HK : Hid (∀ (i : Nat) (hi : i < kids.length) (hi' : i < kids'.length), ∀ U, Below V.heap.size V U → ∃ g g' a b c d e a' b' c' d' e', kp = some ⟨g, 0, none⟩ ∧ kp' = some ⟨g', 0, none⟩ ∧ (g < V.heap.size ∧ g' < V.heap.size) ∧ KidsAtR U W.heap.size g g' n n' i kc kc' a b c d e a' b' c' d' e' ∧ (∀ U', Below U.heap.size U U' → Calls Tryz.prog 15 #[.agg #[a, b, c, d, e], .agg #[a', b', c', d', e']] U' fun e W'' => e = .returned (.bool (sameB kids[i] kids'[i])) ∧ Below U'.heap.size U' W'')) := Lib.hid (by
    intro i hi hi' U hU
    obtain ⟨g, e1, ⟨cs, hg⟩, hc⟩ := hk (by intro e; rw [e] at hi; simp at hi)
    obtain ⟨g', e1', ⟨cs', hg'⟩, hc'⟩ := hk' (by intro e; rw [e] at hi'; simp at hi')
    have hg := (Array.getElem?_eq_some_iff.1 hg).1
    have hg' := (Array.getElem?_eq_some_iff.1 hg').1
    obtain ⟨x, hx, hcx⟩ := hc i hi
    obtain ⟨y, hy, hcy⟩ := hc' i hi'
    obtain ⟨a, b, c, d, e, rfl⟩ := hx.five
    obtain ⟨a', b', c', d', e', rfl⟩ := hy.five
    subst e1 e1'
    have q : ∀ (z o : Nat) {w : Value}, z < V.heap.size → V.cell? ⟨z, o, none⟩ = some w → U.cell? ⟨z, o, none⟩ = some w := fun z o w hz hw => (hU.cell (p := ⟨z, o, none⟩) hz).trans hw
    have q0 : ∀ (z o : Nat) {w : Value}, z < W.heap.size → W.cell? ⟨z, o, none⟩ = some w → U.cell? ⟨z, o, none⟩ = some w := fun z o w hz hw => q z o (by omega) ((hb0.cell (p := ⟨z, o, none⟩) hz).trans hw)
    refine ⟨g, g', a, b, c, d, e, a', b', c', d', e', rfl, rfl, ⟨by omega, by omega⟩, ⟨q _ _ (by omega) ka, q _ _ (by omega) kb, q0 _ _ hg (hcx 0 (by decide)), q0 _ _ hg (hcx 1 (by decide)), q0 _ _ hg (hcx 2 (by decide)), q0 _ _ hg (hcx 3 (by decide)), q0 _ _ hg (hcx 4 (by decide)), q0 _ _ hg' (hcy 0 (by decide)), q0 _ _ hg' (hcy 1 (by decide)), q0 _ _ hg' (hcy 2 (by decide)), q0 _ _ hg' (hcy 3 (by decide)), q0 _ _ hg' (hcy 4 (by decide))⟩, fun U' hU' => ?_⟩
    have hWU' := hb0.trans ((hU.trans (hU'.mono hU.size)).mono hb0.size)
    exact ih kids[i] (List.getElem_mem hi) kids'[i] _ _ U' (hx.step hWU') (hy.step hWU'))
  have HB0 := Lib.hid hb0
  have hn1 : n ≤ 1000 := by omega
  have hn1' : n' ≤ 1000 := by omega
  have HQ := Lib.hid hqt
  have hcase : ¬ k = k' ∨ (k = k' ∧ ¬ mn = mn') ∨ (k = k' ∧ mn = mn' ∧ ¬ mx = mx') ∨ (k = k' ∧ mn = mn' ∧ mx = mx' ∧ ¬ n = n') ∨ (k = k' ∧ mn = mn' ∧ mx = mx' ∧ n = n') := by omega
  have HN := Lib.hid hn
  have HN' := Lib.hid hn'
  clear ih hk hk' hv hw hs hs' hb0 hbA hq hqt hsl hsl' hkl hkl' HA hn hn' hm hm'
  go_enter Tryz.func15, Tryz.ntmps15
  rcases hcase with h1 | ⟨rfl, h1⟩ | ⟨rfl, rfl, h1⟩ | ⟨rfl, rfl, rfl, h1⟩ | ⟨rfl, rfl, rfl, rfl⟩
  · have hz : ¬ (k : Int) = (k' : Int) := by omega
    have HF : Hid (q = false) := Lib.hid (by rw [← Bool.not_eq_true, HQ.out]; exact fun h => h1 h.1)
    clear h1
    go_wp2_with fail
    go_ret
    rw [← hV]
    exact ⟨by rw [HF.out]; rfl, HB0.out⟩
  · have HF : Hid (q = false) := Lib.hid (by rw [← Bool.not_eq_true, HQ.out]; exact fun h => h1 h.2.2.2.1)
    go_wp2_with fail
    go_ret
    rw [← hV]
    exact ⟨by rw [HF.out]; rfl, HB0.out⟩
  · have HF : Hid (q = false) := Lib.hid (by rw [← Bool.not_eq_true, HQ.out]; exact fun h => h1 h.2.2.2.2)
    go_wp2_with fail
    go_ret
    rw [← hV]
    exact ⟨by rw [HF.out]; rfl, HB0.out⟩
  · have HF : Hid (q = false) := Lib.hid (by rw [← Bool.not_eq_true, HQ.out]; exact fun h => h1 (by rw [HN.out, HN'.out, h.2.2.1]))
    have hz : ¬ (n : Int) = (n' : Int) := by omega
    clear h1
    go_wp2_with fail
    go_ret
    rw [← hV]
    exact ⟨by rw [HF.out]; rfl, HB0.out⟩
  · go_wp2_with fail
    rw [← hV]
    refine HAV.out.mono ?_
    rintro e w1 ⟨rfl, b1⟩
    have kz : w1.cell? ⟨W.heap.size, 2, none⟩ = some (.slice kp n kc) := (b1.cell (p := ⟨W.heap.size, 2, none⟩) (by show W.heap.size < _; omega)).trans ka
    have HB1 := Lib.hid b1
    clear b1 hV HAV
    by_cases hsl : sl = sl'
    case neg =>
      have HF : Hid (q = false) := Lib.hid (by rw [← Bool.not_eq_true, HQ.out]; exact fun h => hsl h.2.1)
      rw [decide_eq_false hsl]
      clear hsl
      go_wp2_with fail
      go_ret
      exact ⟨by rw [HF.out]; rfl, HB0.out.trans (HB1.out.mono HB0.out.size)⟩
    case pos =>
      rw [decide_eq_true hsl]
      have HSL := Lib.hid hsl
      clear hsl
      go_wp2_with fail
      go_loopg [5, 6] n (fun g s5 s6 wx => ∃ (i : Nat), i + g = n ∧ s5 = .int .i64 i ∧ Hid (kids.take i = kids'.take i) ∧ Hid (Below V.heap.size V wx))
      case atStart => exact ⟨0, by omega, rfl, Lib.hid rfl, HB1⟩
      case round =>
        obtain ⟨i, hig, rfl, HTK, hb⟩ := hrel
        have kx := (hb.out.cell (p := ⟨W.heap.size, 2, none⟩) (by show W.heap.size < _; omega)).trans ka
        cases gk with
        | zero =>
          have hl : ¬ ((i : Int) < (n : Int)) := by omega
          have HF : Hid (q = true) := Lib.hid (HQ.out.2 ⟨by trivial, HSL.out, by
            have h := HTK.out
            rw [List.take_of_length_le (by have := HN.out; omega), List.take_of_length_le (by have := HN'.out; omega)] at h
            exact h, by trivial, by trivial⟩)
          go_wp2
          go_ret
          exact ⟨by rw [HF.out]; rfl, HB0.out.trans (hb.out.mono HB0.out.size)⟩
        | succ gk =>
          have hl : (i : Int) < (n : Int) := by omega
          have hi : i < kids.length := by have := HN.out; omega
          have hi' : i < kids'.length := by have := HN'.out; omega
          obtain ⟨g, g', a, b, c, d, e, a', b', c', d', e', rfl, rfl, ⟨hg, hg'⟩, hka, hcall⟩ := HK.out i hi hi' _ hb.out
          obtain ⟨o, ho⟩ : ∃ o, o = sameB kids[i] kids'[i] := ⟨_, rfl⟩
          rw [← ho] at hcall
          have HO := Lib.hid ho
          have HKA := Lib.hid hka
          have HCA := Lib.hid hcall
          clear hka hcall ho
          have hwz : V.heap.size ≤ wr.heap.size := hb.out.size
          have HKS : ∀ U, Below wr.heap.size wr U → (U.cell? ⟨W.heap.size, 2, none⟩ = some (.slice (some ⟨g, 0, none⟩) n kc) ∧ U.cell? ⟨W.heap.size + 1, 2, none⟩ = some (.slice (some ⟨g', 0, none⟩) n kc') ∧ U.cell? ⟨g, i * 5, none⟩ = some a ∧ U.cell? ⟨g, i * 5 + 1, none⟩ = some b ∧ U.cell? ⟨g, i * 5 + 2, none⟩ = some c ∧ U.cell? ⟨g, i * 5 + 3, none⟩ = some d ∧ U.cell? ⟨g, i * 5 + 4, none⟩ = some e ∧ U.cell? ⟨g', i * 5, none⟩ = some a' ∧ U.cell? ⟨g', i * 5 + 1, none⟩ = some b' ∧ U.cell? ⟨g', i * 5 + 2, none⟩ = some c' ∧ U.cell? ⟨g', i * 5 + 3, none⟩ = some d' ∧ U.cell? ⟨g', i * 5 + 4, none⟩ = some e') := fun U hU => by
            have h := HKA.out.kept hU (by omega) (by omega) (by omega)
            exact ⟨h.r, h.r', h.k0, h.k1, h.k2, h.k3, h.k4, h.j0, h.j1, h.j2, h.j3, h.j4⟩
          have HKS := Lib.hid HKS
          have h0 : (0 : Int) ≤ (i : Int) := by omega
          clear ka kz kb HK
          go_wp2_with fail
          have hr : Below wr.heap.size wr wr.drew := (Below.refl _ _).drew
          go_region_held3 (fun U => U.cell? ⟨W.heap.size, 2, none⟩ = some (.slice (some ⟨g, 0, none⟩) n kc) ∧ U.cell? ⟨W.heap.size + 1, 2, none⟩ = some (.slice (some ⟨g', 0, none⟩) n kc') ∧ U.cell? ⟨g, i * 5, none⟩ = some a ∧ U.cell? ⟨g, i * 5 + 1, none⟩ = some b ∧ U.cell? ⟨g, i * 5 + 2, none⟩ = some c ∧ U.cell? ⟨g, i * 5 + 3, none⟩ = some d ∧ U.cell? ⟨g, i * 5 + 4, none⟩ = some e ∧ U.cell? ⟨g', i * 5, none⟩ = some a' ∧ U.cell? ⟨g', i * 5 + 1, none⟩ = some b' ∧ U.cell? ⟨g', i * 5 + 2, none⟩ = some c' ∧ U.cell? ⟨g', i * 5 + 3, none⟩ = some d' ∧ U.cell? ⟨g', i * 5 + 4, none⟩ = some e')
            (exact HKS.out _ hr)
            (first
              | (go_at_call 15; (refine (HCA.out _ hr).mono ?_); rintro e w3 ⟨rfl, b3⟩; have hr := hr.trans (b3.mono hr.size)))
          have HBX := Lib.hid (hb.out.trans (hr.mono hb.out.size))
          clear HKS HKA HCA kx hr b3
          cases o with
          | false =>
            have HF : Hid (q = false) := Lib.hid (by
              rw [← Bool.not_eq_true, HQ.out]
              rintro ⟨_, _, h, _⟩
              exact sameB_false.1 HO.out.symm (by simp only [h]))
            go_wp2
            go_ret
            exact ⟨by rw [HF.out]; rfl, HB0.out.trans (HBX.out.mono HB0.out.size)⟩
          | true =>
            have HTK' := Lib.hid (take_step hi hi' HTK.out (sameB_true.1 HO.out.symm))
            clear HTK HO
            go_wp2
            go_roundg gk
            case measure => omega
            case rel => exact ⟨i + 1, by omega, rfl, HTK', HBX⟩
theorem same_r : ∀ (t : Ns), SameC t
  | .mk k sl kids mn mx => same_k _ (fun x _hx => same_r x)
termination_by t => SizeOf.sizeOf t
decreasing_by
  have := List.sizeOf_lt_of_mem (show x ∈ kids from _hx)
  simp only [Ns.mk.sizeOf_spec]
  omega
end Go.Proofs.YtdcnfflleaplnaaGreatDoor
