/- RText, RSame, in one text. -/
import Derived.Test.YtahgljglleeloaaGreatDoorRKnown
import Derived.Test.YtahgljglleeloaaGreatDoorRKit
/- The law's text: words put together as choices say. -/
namespace Go.Proofs.YtahgljglleeloaaGreatDoor
open Go.RowKit Go.Shelf Go.Maps SetM PropsM RxM

/-- The law's words, and what scalars they are. -/
def wordsL : List ByteArray := [⟨#[97]⟩, ⟨#[98]⟩, ⟨#[99]⟩, ⟨#[75]⟩, ⟨#[107]⟩, ⟨#[46]⟩, ⟨#[124]⟩, ⟨#[42]⟩, ⟨#[43]⟩, ⟨#[63]⟩, ⟨#[40]⟩, ⟨#[41]⟩, ⟨#[40, 63, 105, 58]⟩, ⟨#[91, 97, 45, 99, 93]⟩, ⟨#[91, 94, 97, 93]⟩, ⟨#[91, 93]⟩, ⟨#[123, 50, 125]⟩, ⟨#[123, 49, 44, 125]⟩, ⟨#[123, 48, 44, 51, 125]⟩, ⟨#[123, 68, 125]⟩, ⟨#[92, 112, 123, 100, 105, 103, 105, 116, 125]⟩, ⟨#[92, 120, 123, 51, 98, 49, 125]⟩, ⟨#[92, 110]⟩, ⟨#[92, 46]⟩, ⟨#[91, 92, 112, 123, 104, 101, 120, 125, 122, 93]⟩, ⟨#[195, 169]⟩, ⟨#[91, 206, 177, 45, 207, 137, 93]⟩, ⟨#[40, 41]⟩, ⟨#[40, 97, 124, 98, 41]⟩, ⟨#[120]⟩]
def wordsS : List (List Int) := [[97], [98], [99], [75], [107], [46], [124], [42], [43], [63], [40], [41], [40, 63, 105, 58], [91, 97, 45, 99, 93], [91, 94, 97, 93], [91, 93], [123, 50, 125], [123, 49, 44, 125], [123, 48, 44, 51, 125], [123, 68, 125], [92, 112, 123, 100, 105, 103, 105, 116, 125], [92, 120, 123, 51, 98, 49, 125], [92, 110], [92, 46], [91, 92, 112, 123, 104, 101, 120, 125, 122, 93], [233], [91, 945, 45, 969, 93], [40, 41], [40, 97, 124, 98, 41], [120]]
abbrev wordsV : Array Value := #[.string ⟨#[97]⟩, .string ⟨#[98]⟩, .string ⟨#[99]⟩, .string ⟨#[75]⟩, .string ⟨#[107]⟩, .string ⟨#[46]⟩, .string ⟨#[124]⟩, .string ⟨#[42]⟩, .string ⟨#[43]⟩, .string ⟨#[63]⟩, .string ⟨#[40]⟩, .string ⟨#[41]⟩, .string ⟨#[40, 63, 105, 58]⟩, .string ⟨#[91, 97, 45, 99, 93]⟩, .string ⟨#[91, 94, 97, 93]⟩, .string ⟨#[91, 93]⟩, .string ⟨#[123, 50, 125]⟩, .string ⟨#[123, 49, 44, 125]⟩, .string ⟨#[123, 48, 44, 51, 125]⟩, .string ⟨#[123, 68, 125]⟩, .string ⟨#[92, 112, 123, 100, 105, 103, 105, 116, 125]⟩, .string ⟨#[92, 120, 123, 51, 98, 49, 125]⟩, .string ⟨#[92, 110]⟩, .string ⟨#[92, 46]⟩, .string ⟨#[91, 92, 112, 123, 104, 101, 120, 125, 122, 93]⟩, .string ⟨#[195, 169]⟩, .string ⟨#[91, 206, 177, 45, 207, 137, 93]⟩, .string ⟨#[40, 41]⟩, .string ⟨#[40, 97, 124, 98, 41]⟩, .string ⟨#[120]⟩]
/-- Scalars of which the last is not an i. -/
def TextIs (t : ByteArray) (l : List Int) : Prop := bs t = U.UtfM.wr l ∧ (∀ c ∈ l, U.UtfM.Sc c) ∧ NI l
theorem words_ok : ∀ k : Fin 30, bs (wordsL.getD k ⟨#[]⟩) = U.UtfM.wr (wordsS.getD k []) ∧ ((wordsS.getD k []).all fun c => decide (U.UtfM.Sc c)) = true ∧ (wordsS.getD k []).getLast? ≠ some 105 ∧ wordsS.getD k [] ≠ [] ∧ (wordsL.getD k ⟨#[]⟩).size ≤ 10 := by decide
theorem word_v (k : Nat) (hk : k < 30) : wordsV[k]? = some (.string (wordsL.getD k ⟨#[]⟩)) := by
  have : wordsV = (wordsL.map Value.string).toArray := rfl
  rw [this, List.getElem?_toArray, List.getElem?_map, List.getD_eq_getElem?_getD, List.getElem?_eq_getElem (by exact hk)]
  rfl
theorem TextIs.next {t : ByteArray} {l : List Int} (h : TextIs t l) (k : Nat) (hk : k < 30) : TextIs (t ++ wordsL.getD k ⟨#[]⟩) (l ++ wordsS.getD k []) ∧ (wordsL.getD k ⟨#[]⟩).size ≤ 10 := by
  obtain ⟨h1, h2, h3, h4, h5⟩ := words_ok ⟨k, hk⟩
  dsimp only at h1 h2 h3 h4 h5
  refine ⟨⟨by rw [bs_append, h.1, h1, U.UtfM.wr_append], fun c hc => ?_, ?_⟩, h5⟩
  · rcases List.mem_append.1 hc with hc | hc
    · exact h.2.1 c hc
    · simpa using List.all_eq_true.1 h2 c hc
  · unfold NI
    rw [List.getLast?_append]
    cases hl : (wordsS.getD k []).getLast? with
    | none => exact absurd (List.getLast?_eq_none_iff.1 hl) h4
    | some c => rw [hl] at h3; simpa using h3
set_option maxRecDepth 100000 in
set_option maxHeartbeats 2000000 in
theorem text_c (A : Option Addr) (ca : Nat) (cs : List Int) (w : World) (hU : U8s w.heap.size w A cs) :
    Calls Tryz.prog 14 #[.slice A cs.length ca] w fun e w' => ∃ t, e = .returned (.string t) ∧ (∃ l, TextIs t l) ∧ t.size ≤ 400 ∧ Below w.heap.size w w' := by
  obtain ⟨n, hn⟩ : ∃ n, n = cs.length := ⟨_, rfl⟩
  rw [← hn]
  have HU : Hid (∀ V, Below w.heap.size w V → ∀ i, i < n → ∃ c : Int, ∃ b off, A = some ⟨b, off, none⟩ ∧ (0 ≤ c ∧ c ≤ 255) ∧ V.cell? ⟨b, off + i, none⟩ = some (.int .u8 c)) := Lib.hid (by
    intro V hV i hi
    obtain ⟨b, off, e, hb, hc⟩ := hU.2 (by intro e; subst e; simp at hn; omega)
    refine ⟨cs[i], b, off, e, hU.1 _ (List.getElem_mem (by omega)), ?_⟩
    have := hc i (by omega)
    exact (hV.cell (p := ⟨b, off + i, none⟩) hb).trans this)
  clear hU
  obtain ⟨V, hV⟩ : ∃ V, V = w.alloc (.cells wordsV 9) := ⟨_, rfl⟩
  have HB0 : Hid (Below w.heap.size w V) := Lib.hid (by rw [hV]; exact (Below.refl w.heap.size w).alloc (Nat.le_refl _) _)
  have HW : Hid (∀ k, k < 30 → V.cell? ⟨w.heap.size, k, none⟩ = some (.string (wordsL.getD k ⟨#[]⟩))) := Lib.hid (fun k hk => by
    rw [hV, cell_of_row _ w.heap.size k _ _ _ (heap_alloc_new w _)]
    exact word_v k hk)
  go_enter Tryz.func14, Tryz.ntmps14
  go_wp2_with fail
  rw [← hV]
  clear hV hn
  go_loopg [4, 5] n (fun g s4 s5 wx => ∃ (k : Nat) (t : ByteArray) (l : List Int), k + g = n ∧ k ≤ 40 ∧ s5 = .int .i64 k ∧ s4 = .string t ∧ Hid (TextIs t l) ∧ t.size ≤ 10 * k ∧ V = wx)
  case atStart => exact ⟨0, ⟨#[]⟩, [], by omega, by omega, rfl, rfl, Lib.hid ⟨rfl, ⟨fun c h => (by cases h), NI.nil⟩⟩, by decide, rfl⟩
  case round =>
    obtain ⟨k, t, l, hkg, hk40, rfl, rfl, HT, hts, rfl⟩ := hrel
    rcases (show k = n ∨ (k < n ∧ k = 40) ∨ (k < n ∧ k < 40) by omega) with rfl | ⟨hlt, rfl⟩ | ⟨hlt, h40⟩
    · have hnl : ¬ ((k : Int) < (k : Int)) := by omega
      go_wp2
      go_ret
      exact ⟨t, rfl, ⟨l, HT.out⟩, by omega, HB0.out⟩
    · have h1 : ((40 : Nat) : Int) < (n : Int) := by omega
      have h2 : ¬ (((40 : Nat) : Int) < 40) := by omega
      go_wp2
      go_ret
      exact ⟨t, rfl, ⟨l, HT.out⟩, by omega, HB0.out⟩
    · obtain ⟨c, b, off, rfl, ⟨hc0, hc1⟩, hc⟩ := HU.out V HB0.out k hlt
      have hwc : wrap64 c = c := IntWalk.wrap64_in _ (by omega)
      obtain ⟨m, hm, hm30⟩ : ∃ m : Nat, c.tmod 30 = (m : Int) ∧ m < 30 := ⟨(c.tmod 30).toNat, by rw [Int.tmod_eq_emod_of_nonneg hc0]; omega, by rw [Int.tmod_eq_emod_of_nonneg hc0]; omega⟩
      have hwm : wrap64 (m : Int) = (m : Int) := IntWalk.wrap64_in _ (by omega)
      have hw := HW.out m hm30
      obtain ⟨HN, hwz⟩ := HT.out.next m hm30
      have hsz : (t ++ wordsL.getD m ⟨#[]⟩).size = t.size + (wordsL.getD m ⟨#[]⟩).size := ByteArray.size_append
      have HN' := Lib.hid HN
      clear HN
      generalize wordsL.getD m ⟨#[]⟩ = u at *
      generalize wordsS.getD m [] = lu at *
      have hsx : ¬ 9223372036854775807 < t.size + u.size := by omega
      have h1 : (k : Int) < (n : Int) := by omega
      have h2 : (k : Int) < 40 := by omega
      have h3 : (0 : Int) ≤ (k : Int) := by omega
      have h4 : (0 : Int) ≤ (m : Int) := by omega
      have h5 : (m : Int) < 30 := by omega
      cases gk with
      | zero => exfalso; omega
      | succ gk =>
        go_wp2
        go_roundg gk
        case measure => omega
        case rel => exact ⟨k + 1, t ++ u, l ++ lu, by omega, by omega, rfl, rfl, HN', by omega, rfl⟩
end Go.Proofs.YtahgljglleeloaaGreatDoor

/- The document's own Same of nodes: alike are what read as one tree. -/
namespace Go.Proofs.YtahgljglleeloaaGreatDoor
open Go.RowKit Go.Shelf Go.Maps SetM PropsM RxM

/-- Two kids' cells, and the two rows that hold them. -/
structure KidsAt (W : World) (B g g' n k : Nat) (kc kc' : Nat) (a b c d e a' b' c' d' e' : Value) : Prop where
  r : W.cell? ⟨B, 2, none⟩ = some (.slice (some ⟨g, 0, none⟩) n kc)
  r' : W.cell? ⟨B + 1, 2, none⟩ = some (.slice (some ⟨g', 0, none⟩) n kc')
  k0 : W.cell? ⟨g, k * 5, none⟩ = some a
  k1 : W.cell? ⟨g, k * 5 + 1, none⟩ = some b
  k2 : W.cell? ⟨g, k * 5 + 2, none⟩ = some c
  k3 : W.cell? ⟨g, k * 5 + 3, none⟩ = some d
  k4 : W.cell? ⟨g, k * 5 + 4, none⟩ = some e
  j0 : W.cell? ⟨g', k * 5, none⟩ = some a'
  j1 : W.cell? ⟨g', k * 5 + 1, none⟩ = some b'
  j2 : W.cell? ⟨g', k * 5 + 2, none⟩ = some c'
  j3 : W.cell? ⟨g', k * 5 + 3, none⟩ = some d'
  j4 : W.cell? ⟨g', k * 5 + 4, none⟩ = some e'
theorem KidsAt.kept {W W' : World} {m B g g' n k : Nat} {kc kc' : Nat} {a b c d e a' b' c' d' e' : Value} (h : KidsAt W B g g' n k kc kc' a b c d e a' b' c' d' e') (hb : Below m W W') (h1 : B + 1 < m) (h2 : g < m) (h3 : g' < m) : KidsAt W' B g g' n k kc kc' a b c d e a' b' c' d' e' :=
  have q : ∀ (x y : Nat) {v : Value}, x < m → W.cell? ⟨x, y, none⟩ = some v → W'.cell? ⟨x, y, none⟩ = some v := fun x y v hx hv => (hb.cell (p := ⟨x, y, none⟩) hx).trans hv
  ⟨q _ _ (by omega) h.r, q _ _ (by omega) h.r', q _ _ h2 h.k0, q _ _ h2 h.k1, q _ _ h2 h.k2, q _ _ h2 h.k3, q _ _ h2 h.k4, q _ _ h3 h.j0, q _ _ h3 h.j1, q _ _ h3 h.j2, q _ _ h3 h.j3, q _ _ h3 h.j4⟩
set_option maxRecDepth 100000 in
set_option maxHeartbeats 2000000 in
theorem same_at {W : World} {A B : Nat → Prop} {v u : Value} {k : Nat} {K : Int → Prop} {kids : List Nd} {mn mx : Int} (hv : NV W A v (.mk k K kids mn mx)) (hu : NV W B u (.mk k K kids mn mx))
    (ih : ∀ (i : Nat) (hi : i < kids.length) (x y : Value) (W' : World), NV W' A x kids[i] → NV W' B y kids[i] → Calls Tryz.prog 16 #[x, y] W' fun e W'' => e = .returned (.bool true) ∧ Below W'.heap.size W' W'') :
    Calls Tryz.prog 16 #[v, u] W fun e W' => e = .returned (.bool true) ∧ Below W.heap.size W W' := by
  obtain ⟨sp, sl, sc, kp, kc, rfl, hK, hsl, hs, hk⟩ := hv.read
  obtain ⟨sp', sl', sc', kp', kc', rfl, hK', hsl', hs', hk'⟩ := hu.read
  have : sl' = sl := nf_unique _ _ hK'.1 hK.1 (fun r => by rw [hK'.2, hK.2])
  subst this
  obtain ⟨n, hn⟩ : ∃ n, n = kids.length := ⟨_, rfl⟩
  rw [← hn]
  have hn1 : n ≤ 1000 := by omega
  obtain ⟨V, hV⟩ : ∃ V, V = (W.alloc (.cells #[.int .u8 k, .slice sp sl'.length sc, .slice kp n kc, .int .i64 mn, .int .i64 mx] 27)).alloc (.cells #[.int .u8 k, .slice sp' sl'.length sc', .slice kp' n kc', .int .i64 mn, .int .i64 mx] 27) := ⟨_, rfl⟩
  have hbA := (Below.refl W.heap.size W).alloc (Nat.le_refl _) (.cells #[.int .u8 k, .slice sp sl'.length sc, .slice kp n kc, .int .i64 mn, .int .i64 mx] 27)
  have hb0 : Below W.heap.size W V := by rw [hV]; exact hbA.alloc (by rw [World.size_alloc]; omega) _
  have hVz : V.heap.size = W.heap.size + 2 := by rw [hV, World.size_alloc, World.size_alloc]
  have ka : V.cell? ⟨W.heap.size, 2, none⟩ = some (.slice kp n kc) := by
    rw [hV]
    refine (((Below.refl _ _).alloc (Nat.le_refl _) _).cell (p := ⟨W.heap.size, 2, none⟩) (by rw [World.size_alloc]; exact Nat.lt_succ_self _)).trans ?_
    rw [cell_of_row _ W.heap.size 2 _ _ _ (heap_alloc_new W _)]; rfl
  have kb : V.cell? ⟨W.heap.size + 1, 2, none⟩ = some (.slice kp' n kc') := by
    rw [hV]
    have h := cell_of_row _ (W.alloc (.cells #[.int .u8 k, .slice sp sl'.length sc, .slice kp n kc, .int .i64 mn, .int .i64 mx] 27)).heap.size 2 _ _ _ (heap_alloc_new (W.alloc (.cells #[.int .u8 k, .slice sp sl'.length sc, .slice kp n kc, .int .i64 mn, .int .i64 mx] 27)) (.cells #[.int .u8 k, .slice sp' sl'.length sc', .slice kp' n kc', .int .i64 mn, .int .i64 mx] 27))
    rw [World.size_alloc] at h
    exact h
  have HA := Lib.hid (alike_any sp sp' sc sc' sl' sl' (by omega) (by omega) V (hs.step hb0) (hs'.step hb0))
  rw [decide_eq_true (show sl' = sl' from rfl)] at HA
  have HK : Hid (∀ i, i < n → ∀ U, Below V.heap.size V U → ∃ g g' a b c d e a' b' c' d' e', kp = some ⟨g, 0, none⟩ ∧ kp' = some ⟨g', 0, none⟩ ∧ (g < V.heap.size ∧ g' < V.heap.size) ∧ KidsAt U W.heap.size g g' n i kc kc' a b c d e a' b' c' d' e' ∧ (∀ U', Below U.heap.size U U' → Calls Tryz.prog 16 #[.agg #[a, b, c, d, e], .agg #[a', b', c', d', e']] U' fun e W'' => e = .returned (.bool true) ∧ Below U'.heap.size U' W'')) := Lib.hid (by
    intro i hi U hU
    have hne : kids ≠ [] := by intro e; rw [e] at hn; simp at hn; omega
    obtain ⟨g, e1, hg, hc⟩ := hk hne
    obtain ⟨g', e1', hg', hc'⟩ := hk' hne
    obtain ⟨x, hx, hcx⟩ := hc i (by omega)
    obtain ⟨y, hy, hcy⟩ := hc' i (by omega)
    obtain ⟨a, b, c, d, e, rfl⟩ := hx.five
    obtain ⟨a', b', c', d', e', rfl⟩ := hy.five
    subst e1 e1'
    have q : ∀ (z o : Nat) {w : Value}, z < V.heap.size → V.cell? ⟨z, o, none⟩ = some w → U.cell? ⟨z, o, none⟩ = some w := fun z o w hz hw => (hU.cell (p := ⟨z, o, none⟩) hz).trans hw
    have q0 : ∀ (z o : Nat) {w : Value}, z < W.heap.size → W.cell? ⟨z, o, none⟩ = some w → U.cell? ⟨z, o, none⟩ = some w := fun z o w hz hw => q z o (by omega) ((hb0.cell (p := ⟨z, o, none⟩) hz).trans hw)
    refine ⟨g, g', a, b, c, d, e, a', b', c', d', e', rfl, rfl, ⟨by omega, by omega⟩, ⟨q _ _ (by omega) ka, q _ _ (by omega) kb, q0 _ _ hg (hcx 0 (by decide)), q0 _ _ hg (hcx 1 (by decide)), q0 _ _ hg (hcx 2 (by decide)), q0 _ _ hg (hcx 3 (by decide)), q0 _ _ hg (hcx 4 (by decide)), q0 _ _ hg' (hcy 0 (by decide)), q0 _ _ hg' (hcy 1 (by decide)), q0 _ _ hg' (hcy 2 (by decide)), q0 _ _ hg' (hcy 3 (by decide)), q0 _ _ hg' (hcy 4 (by decide))⟩, fun U' hU' => ?_⟩
    have hWU' := hb0.trans ((hU.trans (hU'.mono hU.size)).mono hb0.size)
    exact ih i (by omega) _ _ U' (hx.imp (fun z hA hz => ⟨hA, hWU'.block z hz⟩) hWU'.size) (hy.imp (fun z hA hz => ⟨hA, hWU'.block z hz⟩) hWU'.size))
  have HB0 := Lib.hid hb0
  clear ih hk hk' hv hu hK hK' hs hs' hb0 hbA hn
  go_enter Tryz.func16, Tryz.ntmps16
  go_wp2_with fail
  rw [← hV]
  refine HA.out.mono ?_
  rintro e w1 ⟨rfl, b1⟩
  have kz : w1.cell? ⟨W.heap.size, 2, none⟩ = some (.slice kp n kc) := (b1.cell (p := ⟨W.heap.size, 2, none⟩) (by show W.heap.size < _; omega)).trans ka
  have HB1 := Lib.hid b1
  clear b1 hV HA
  go_wp2_with fail
  go_loopg [5, 6] n (fun g s5 s6 wx => ∃ (k : Nat), k + g = n ∧ s5 = .int .i64 k ∧ Hid (Below V.heap.size V wx))
  case atStart => exact ⟨0, by omega, rfl, HB1⟩
  case round =>
    obtain ⟨i, hig, rfl, hb⟩ := hrel
    have kx := (hb.out.cell (p := ⟨W.heap.size, 2, none⟩) (by show W.heap.size < _; omega)).trans ka
    cases gk with
    | zero =>
      have hl : ¬ ((i : Int) < (n : Int)) := by omega
      go_wp2
      go_ret
      exact ⟨rfl, HB0.out.trans (hb.out.mono HB0.out.size)⟩
    | succ gk =>
      have hl : (i : Int) < (n : Int) := by omega
      obtain ⟨g, g', a, b, c, d, e, a', b', c', d', e', rfl, rfl, ⟨hg, hg'⟩, hka, hcall⟩ := HK.out i (by omega) _ hb.out
      have HKA := Lib.hid hka
      have HCA := Lib.hid hcall
      clear hka hcall
      have hwz : V.heap.size ≤ wr.heap.size := hb.out.size
      have HKS : ∀ U, Below wr.heap.size wr U → (U.cell? ⟨W.heap.size, 2, none⟩ = some (.slice (some ⟨g, 0, none⟩) n kc) ∧ U.cell? ⟨W.heap.size + 1, 2, none⟩ = some (.slice (some ⟨g', 0, none⟩) n kc') ∧ U.cell? ⟨g, i * 5, none⟩ = some a ∧ U.cell? ⟨g, i * 5 + 1, none⟩ = some b ∧ U.cell? ⟨g, i * 5 + 2, none⟩ = some c ∧ U.cell? ⟨g, i * 5 + 3, none⟩ = some d ∧ U.cell? ⟨g, i * 5 + 4, none⟩ = some e ∧ U.cell? ⟨g', i * 5, none⟩ = some a' ∧ U.cell? ⟨g', i * 5 + 1, none⟩ = some b' ∧ U.cell? ⟨g', i * 5 + 2, none⟩ = some c' ∧ U.cell? ⟨g', i * 5 + 3, none⟩ = some d' ∧ U.cell? ⟨g', i * 5 + 4, none⟩ = some e') := fun U hU => by
        have h := HKA.out.kept hU (by omega) (by omega) (by omega)
        exact ⟨h.r, h.r', h.k0, h.k1, h.k2, h.k3, h.k4, h.j0, h.j1, h.j2, h.j3, h.j4⟩
      have HKS := Lib.hid HKS
      have h0 : (0 : Int) ≤ (i : Int) := by omega
      clear ka kz kb HK
      go_wp2_with fail
      have hr : Below wr.heap.size wr wr.drew := (Below.refl _ _).drew
      go_region_held3 (fun U => U.cell? ⟨W.heap.size, 2, none⟩ = some (.slice (some ⟨g, 0, none⟩) n kc) ∧ U.cell? ⟨W.heap.size + 1, 2, none⟩ = some (.slice (some ⟨g', 0, none⟩) n kc') ∧ U.cell? ⟨g, i * 5, none⟩ = some a ∧ U.cell? ⟨g, i * 5 + 1, none⟩ = some b ∧ U.cell? ⟨g, i * 5 + 2, none⟩ = some c ∧ U.cell? ⟨g, i * 5 + 3, none⟩ = some d ∧ U.cell? ⟨g, i * 5 + 4, none⟩ = some e ∧ U.cell? ⟨g', i * 5, none⟩ = some a' ∧ U.cell? ⟨g', i * 5 + 1, none⟩ = some b' ∧ U.cell? ⟨g', i * 5 + 2, none⟩ = some c' ∧ U.cell? ⟨g', i * 5 + 3, none⟩ = some d' ∧ U.cell? ⟨g', i * 5 + 4, none⟩ = some e')
        (exact HKS.out _ hr)
        (first
          | (go_at_call 16; (refine (HCA.out _ hr).mono ?_); rintro e w3 ⟨rfl, b3⟩; have hr := hr.trans (b3.mono hr.size)))
      have HBX := Lib.hid (hb.out.trans (hr.mono hb.out.size))
      clear HKS HKA HCA kx hr b3
      go_wp2
      go_roundg gk
      case measure => omega
      case rel => exact ⟨i + 1, by omega, rfl, HBX⟩
theorem same_any {A B : Nat → Prop} : ∀ (t : Nd) (v u : Value) (W : World), NV W A v t → NV W B u t → Calls Tryz.prog 16 #[v, u] W fun e W' => e = .returned (.bool true) ∧ Below W.heap.size W W'
  | .mk k K kids mn mx, v, u, W, hv, hu => same_at hv hu (fun i hi x y W' hx hy => same_any kids[i] x y W' hx hy)
termination_by t => SizeOf.sizeOf t
decreasing_by
  have := List.sizeOf_lt_of_mem (List.getElem_mem hi)
  simp only [Nd.mk.sizeOf_spec]
  omega
set_option maxRecDepth 100000 in
set_option maxHeartbeats 2000000 in
/-- Beside a node of nothing, whatever it answers. -/
theorem same_zero {W : World} {A : Nat → Prop} {v : Value} {t : Nd} (hv : NV W A v t) :
    Calls Tryz.prog 16 #[v, .agg #[.int .u8 0, .slice none 0 0, .slice none 0 0, .int .i64 0, .int .i64 0]] W fun e W' => ∃ q, e = .returned (.bool q) ∧ Below W.heap.size W W' := by
  obtain ⟨k, K, kids, mn, mx⟩ := t
  obtain ⟨sp, sl, sc, kp, kc, rfl, hK, hsl, hs, hk⟩ := hv.read
  obtain ⟨n, hn⟩ : ∃ n, n = kids.length := ⟨_, rfl⟩
  rw [← hn]
  obtain ⟨z, hz⟩ : ∃ z : Int, z = k := ⟨_, rfl⟩
  rw [← hz]
  obtain ⟨V, hV⟩ : ∃ V, V = (W.alloc (.cells #[.int .u8 z, .slice sp sl.length sc, .slice kp n kc, .int .i64 mn, .int .i64 mx] 27)).alloc (.cells #[.int .u8 0, .slice none 0 0, .slice none 0 0, .int .i64 0, .int .i64 0] 27) := ⟨_, rfl⟩
  have hbA := (Below.refl W.heap.size W).alloc (Nat.le_refl _) (.cells #[.int .u8 z, .slice sp sl.length sc, .slice kp n kc, .int .i64 mn, .int .i64 mx] 27)
  have hb0 : Below W.heap.size W V := by rw [hV]; exact hbA.alloc (by rw [World.size_alloc]; omega) _
  have hVz : V.heap.size = W.heap.size + 2 := by rw [hV, World.size_alloc, World.size_alloc]
  have ka : V.cell? ⟨W.heap.size, 2, none⟩ = some (.slice kp n kc) := by
    rw [hV]
    refine (((Below.refl _ _).alloc (Nat.le_refl _) _).cell (p := ⟨W.heap.size, 2, none⟩) (by rw [World.size_alloc]; exact Nat.lt_succ_self _)).trans ?_
    rw [cell_of_row _ W.heap.size 2 _ _ _ (heap_alloc_new W _)]; rfl
  have HA := Lib.hid (alike_any sp none sc 0 sl [] (by omega) (by simp) V (hs.step hb0) (fun h => absurd rfl h))
  have HB0 := Lib.hid hb0
  clear hv hk hK hs hb0 hbA hn hz
  by_cases e1 : z = 0
  · subst e1
    by_cases e2 : mn = 0
    · subst e2
      by_cases e3 : mx = 0
      · subst e3
        by_cases e4 : n = 0
        · subst e4
          go_enter Tryz.func16, Tryz.ntmps16
          go_wp2_with fail
          rw [← hV]
          refine HA.out.mono ?_
          rintro e w1 ⟨rfl, b1⟩
          have kz : w1.cell? ⟨W.heap.size, 2, none⟩ = some (.slice kp 0 kc) := (b1.cell (p := ⟨W.heap.size, 2, none⟩) (by show W.heap.size < _; omega)).trans ka
          have HB1 := Lib.hid (HB0.out.trans (b1.mono HB0.out.size))
          clear b1 hV HA
          cases hq : decide (sl = []) with
          | false =>
            clear hq
            go_wp2
            go_ret
            exact ⟨_, rfl, HB1.out⟩
          | true =>
            clear hq
            go_wp2_with fail
            go_loopg [5, 6] 0 (fun g s5 s6 wx => s5 = .int .i64 0 ∧ w1 = wx)
            case atStart => exact ⟨rfl, rfl⟩
            case round =>
              obtain ⟨rfl, rfl⟩ := hrel
              go_wp2
              go_ret
              exact ⟨_, rfl, HB1.out⟩
        · have d : ((n : Int) != 0) = true := by simp; exact e4
          go_enter Tryz.func16, Tryz.ntmps16
          go_wp2
          rw [← hV]
          go_ret
          exact ⟨_, rfl, HB0.out⟩
      · have d : (mx != 0) = true := by simp; exact e3
        go_enter Tryz.func16, Tryz.ntmps16
        go_wp2
        rw [← hV]
        go_ret
        exact ⟨_, rfl, HB0.out⟩
    · have d : (mn != 0) = true := by simp; exact e2
      go_enter Tryz.func16, Tryz.ntmps16
      go_wp2
      rw [← hV]
      go_ret
      exact ⟨_, rfl, HB0.out⟩
  · have d : (z != 0) = true := by simp; exact e1
    go_enter Tryz.func16, Tryz.ntmps16
    go_wp2
    rw [← hV]
    go_ret
    exact ⟨_, rfl, HB0.out⟩
end Go.Proofs.YtahgljglleeloaaGreatDoor
