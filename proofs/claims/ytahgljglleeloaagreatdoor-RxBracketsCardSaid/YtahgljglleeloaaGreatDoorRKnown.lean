/- What is read off a node; the chapter's examples of rx hold (known), wherever the tables are. -/
import Derived.Test.YtahgljglleeloaaGreatDoorRParse
import Derived.Test.YtahgljglleeloaaGreatDoorRLawM
namespace Go.Proofs.YtahgljglleeloaaGreatDoor
open Go.RowKit Go.Shelf Go.Maps SetM PropsM RxM

theorem flat5 : ∀ (us : List Value) (_ : ∀ u ∈ us, (kidParts u).length = 5) (i j : Nat) (_ : j < 5) (u : Value) (_ : us[i]? = some u), (us.flatMap kidParts)[i * 5 + j]? = (kidParts u)[j]?
  | [], _, i, j, _, u, hu => by simp at hu
  | v :: us, h, 0, j, hj, u, hu => by
    have e : v = u := by simpa using hu
    subst e
    rw [List.flatMap_cons, Nat.zero_mul, Nat.zero_add, List.getElem?_append_left (by rw [h v (by simp)]; exact hj)]
  | v :: us, h, i + 1, j, hj, u, hu => by
    rw [List.flatMap_cons, List.getElem?_append_right (by rw [h v (by simp)]; omega), h v (by simp), show (i + 1) * 5 + j - 5 = i * 5 + j by omega]
    exact flat5 us (fun x hx => h x (by simp [hx])) i j hj u (by simpa using hu)
/-- What is read off a node. -/
theorem NV.read {W : World} {A : Nat → Prop} {v : Value} {k : Nat} {K : Int → Prop} {kids : List Nd} {mn mx : Int} (h : NV W A v (.mk k K kids mn mx)) :
    ∃ (sp : Option Addr) (sl : List Sp) (sc : Nat) (kp : Option Addr) (kc : Nat), v = .agg #[.int .u8 k, .slice sp (List.length sl) sc, .slice kp kids.length kc, .int .i64 mn, .int .i64 mx] ∧ IsSet sl K ∧ (sl.length ≤ 100000000 ∧ kids.length ≤ 1000) ∧ Sl W sp sl ∧
      (kids ≠ [] → ∃ g, kp = some ⟨g, 0, none⟩ ∧ g < W.heap.size ∧ ∀ i (hi : i < kids.length), ∃ u, NV W A u kids[i] ∧ ∀ j, j < 5 → W.cell? ⟨g, i * 5 + j, none⟩ = (kidParts u)[j]?) := by
  obtain ⟨m, hm⟩ := h
  cases m with
  | zero => exact hm.elim
  | succ m =>
    obtain ⟨sp, sl, sc, kp, kc, e, hK, hl, hs, hz, ha, hk0, hk1⟩ := hm
    refine ⟨sp, sl, sc, kp, kc, e, hK, hl, hs, fun hne => ?_⟩
    obtain ⟨g, cs, us, e1, hA, hb, h1, h2, h3⟩ := hk1 hne
    refine ⟨g, e1, (Array.getElem?_eq_some_iff.1 hb).1, fun i hi => ?_⟩
    have hu : us[i]? = some us[i] := List.getElem?_eq_getElem (by omega)
    have h5 : ∀ u ∈ us, (kidParts u).length = 5 := fun u hu => by
      obtain ⟨j, hj, rfl⟩ := List.mem_iff_getElem.1 hu
      exact (h3 j (by omega) _ (List.getElem?_eq_getElem hj)).parts
    refine ⟨us[i], ⟨m, h3 i hi _ hu⟩, fun j hj => ?_⟩
    rw [cell_of_row W g (i * 5 + j) _ _ _ hb, ← flat5 us h5 i j hj _ hu, ← h2, List.getElem?_take_of_lt (by omega), Array.getElem?_toList]
theorem sc_low {l : List Int} (h : l.all (fun c => decide (0 ≤ c ∧ c < 128)) = true) : ∀ c ∈ l, U.UtfM.Sc c := fun c hc => by
  have := List.all_eq_true.1 h c hc
  simp only [decide_eq_true_eq] at this
  unfold U.UtfM.Sc
  omega
theorem Cf.here {w W : World} (h : Cf w W) : Cf W W := Cf.start h.ctx.pos h.ctx.areas h.pos h.runs
/-- Parse without definitions. -/
theorem parse_n {w W : World} {s : ByteArray} {rest : List Int} (hs : bs s = U.UtfM.wr rest) (hsc : ∀ c ∈ rest, U.UtfM.Sc c) (h200 : s.size ≤ 200) (hC : Cf w W) {o : Out Nd} (ho : wholeF [] rest = o) :
    Calls Tryz.prog 9 #[.string s, .slice none 0 0] W (PPost W s o) := by
  subst ho
  exact parse_any (p := none) (c := 0) (D := []) hs hsc h200 hC.here (DefsIn.nil _ _) (by simp)
theorem parse_bad {w W : World} {s : ByteArray} {rest r : List Int} {n : Nat} (hs : bs s = U.UtfM.wr rest) (hsc : ∀ c ∈ rest, U.UtfM.Sc c) (h200 : s.size ≤ 200) (hC : Cf w W) (ho : wholeF [] rest = .err n r) (z : Int) (hz : (s.size : Int) - ((U.UtfM.wr r).length : Nat) = z) :
    Calls Tryz.prog 9 #[.string s, .slice none 0 0] W fun e W' => e = .returned (.tuple #[.agg #[.int .u8 0, .slice none 0 0, .slice none 0 0, .int .i64 0, .int .i64 0], .int .u16 n, .int .i64 z]) ∧ Below W.heap.size W W' := by
  subst hz
  exact (parse_n hs hsc h200 hC ho).mono (fun e W' h => ⟨h.2, h.1⟩)
set_option maxRecDepth 100000 in
set_option maxHeartbeats 4000000 in
theorem known_c {w0 W : World} (hC0 : Cf w0 W) : Calls Tryz.prog 10 #[] W fun e W' => e = .returned (.bool true) ∧ Below W.heap.size W W' := by
  have hC := hC0.here
  clear hC0
  obtain ⟨w, hw⟩ : ∃ w, w = W := ⟨_, rfl⟩
  rw [← hw] at hC ⊢
  clear hw W
  have HC := Lib.hid hC
  have HP1 := Lib.hid (parse_n (s := ⟨#[97, 124, 98, 42]⟩) (rest := [97, 124, 98, 42]) (by decide) (sc_low (by decide)) (by decide) hC known1)
  have HP2 := Lib.hid (fun W (h : Cf w W) => parse_bad (s := ⟨#[97, 41]⟩) (rest := [97, 41]) (by decide) (sc_low (by decide)) (by decide) h known2 1 (by decide))
  have HP3 := Lib.hid (fun W (h : Cf w W) => parse_bad (s := ⟨#[123, 51, 125]⟩) (rest := [123, 51, 125]) (by decide) (sc_low (by decide)) (by decide) h known3 1 (by decide))
  clear hC
  go_enter Tryz.func10, Tryz.ntmps10
  go_wp2_with fail
  refine HP1.out.mono ?_
  rintro e w1 ⟨b1, v, rfl, hv⟩
  obtain ⟨sp, sl, sc, kp, kc, hve, _, _, _, hk⟩ := hv.read
  have hve : v = .agg #[.int .u8 3, .slice sp sl.length sc, .slice kp 2 kc, .int .i64 0, .int .i64 0] := hve
  subst hve
  obtain ⟨g, rfl, hg, hi⟩ := hk (by simp)
  obtain ⟨u, hu, hc⟩ := hi 1 (by simp)
  obtain ⟨sp', sl', sc', kp', kc', rfl, _⟩ := hu.read
  have c9 : w1.cell? ⟨g, 9, none⟩ = some (.int .i64 (-1)) := hc 4 (by decide)
  obtain ⟨V1, hV1⟩ : ∃ V1, V1 = w1.alloc (.cells #[.int .u8 3, .slice sp sl.length sc, .slice (some ⟨g, 0, none⟩) 2 kc, .int .i64 0, .int .i64 0] 27) := ⟨_, rfl⟩
  have hb1 : Below w1.heap.size w1 V1 := by rw [hV1]; exact (Below.refl _ _).alloc (Nat.le_refl _) _
  have hz1 : V1.heap.size = w1.heap.size + 1 := by rw [hV1]; exact World.size_alloc _ _
  have hk1 : V1.heap[w1.heap.size]? = some (.cells #[.int .u8 3, .slice sp sl.length sc, .slice (some ⟨g, 0, none⟩) 2 kc, .int .i64 0, .int .i64 0] 27 (0, 0)) := by rw [hV1]; exact heap_alloc_new _ _
  have HB1 := Lib.hid (b1.trans (hb1.mono b1.size))
  have HF := Lib.hid (And.intro hk1 ((hb1.cell (p := ⟨g, 9, none⟩) hg).trans c9))
  have hP2 := Lib.hid (HP2.out V1 (HC.out.step HB1.out))
  clear b1 hv hk hi hu hc c9 hk1 HP1 HP2 hb1
  go_wp2_with fail
  rw [← hV1]
  clear hV1
  refine hP2.out.mono ?_
  rintro e w2 ⟨rfl, b2⟩
  obtain ⟨V2, hV2⟩ : ∃ V2, V2 = w2.alloc (.cells #[.int .u8 0, .slice none 0 0, .slice none 0 0, .int .i64 0, .int .i64 0] 27) := ⟨_, rfl⟩
  have hb2 : Below w2.heap.size w2 V2 := by rw [hV2]; exact (Below.refl _ _).alloc (Nat.le_refl _) _
  have hbV2 := b2.trans (hb2.mono b2.size)
  have HB2 := Lib.hid (HB1.out.trans (hbV2.mono HB1.out.size))
  have hP3 := Lib.hid (HP3.out V2 (HC.out.step HB2.out))
  have HV2 := Lib.hid hbV2
  clear b2 hb2 hbV2 HP3 hP2
  go_wp2_with fail
  rw [← hV2]
  clear hV2
  refine hP3.out.mono ?_
  rintro e w3 ⟨rfl, b3⟩
  have hb13 := HV2.out.trans (b3.mono HV2.out.size)
  have hk3 := (hb13.block _ (by omega)).trans HF.out.1
  have c9 := (hb13.cell (p := ⟨g, 9, none⟩) (by show g < _; omega)).trans HF.out.2
  have q0 : w3.cell? ⟨w1.heap.size, 0, none⟩ = some (.int .u8 3) := cell_of_row w3 _ 0 _ _ _ hk3
  have q2 : w3.cell? ⟨w1.heap.size, 2, none⟩ = some (.slice (some ⟨g, 0, none⟩) 2 kc) := cell_of_row w3 _ 2 _ _ _ hk3
  have hBz : w1.heap.size < w3.heap.size := by have := hb13.size; omega
  have hgz : g < w3.heap.size := by have := hb13.size; omega
  have HB3 := Lib.hid (HB2.out.trans (b3.mono HB2.out.size))
  clear b3 hb13 hk3 hP3
  go_wp2
  go_ret
  exact ⟨rfl, HB3.out.alloc HB3.out.size _⟩
end Go.Proofs.YtahgljglleeloaaGreatDoor
