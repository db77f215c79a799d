/- The program's wordsOf: a word for each run, by which of the sets it is in. -/
import Derived.Test.YtkphbjppmiefkaaDoorTLen
import Derived.Test.YtkphbjppmiefkaaDoorTChunk
namespace TermsM
open SetM
/-- The k-th chunk. -/
def chk (ss : List (List Sp)) (k : Nat) : List (List Sp) := (ss.drop (64 * k)).take 64
theorem chk_next (ss : List (List Sp)) (k : Nat) : ss.take (64 * (k + 1)) = ss.take (64 * k) ++ chk ss k := by
  unfold chk
  rw [show 64 * (k + 1) = 64 * k + 64 by omega, List.take_add]
theorem chk_mem {ss : List (List Sp)} {k : Nat} {s : List Sp} (h : s ∈ chk ss k) : s ∈ ss := List.mem_of_mem_drop (List.mem_of_mem_take h)
theorem flat_drop (ss : List (List Sp)) (k : Nat) : (ss.drop k).flatten.length ≤ ss.flatten.length := by
  have e : ss.flatten = (ss.take k).flatten ++ (ss.drop k).flatten := by rw [← List.flatten_append, List.take_append_drop]
  rw [e, List.length_append]; omega
theorem chk_flat (ss : List (List Sp)) (k : Nat) : (chk ss k).flatten.length ≤ ss.flatten.length := Nat.le_trans (flat_le _ _) (flat_drop _ _)
end TermsM
namespace Go.Proofs.YtkphbjppmiefkaaDoor
open Go.RowKit Go.Shelf Go.Maps SetM TermsM
attribute [local go_sem] Oper.semAt_some
theorem chk_len (ss : List (List Sp)) (k : Nat) : (chk ss k).length = chM ss.length k := by
  unfold chk chM; rw [List.length_take, List.length_drop]
theorem chk_rs {W : World} {b off : Nat} {ss : List (List Sp)} (h : Rs W (some ⟨b, off, none⟩) ss) (k : Nat) : Rs W (some ⟨b, off + 64 * k, none⟩) (chk ss k) := fun hne => by
  have hl : 0 < (chk ss k).length := List.length_pos_iff.2 hne
  have hl2 := chk_len ss k
  unfold chM at hl2
  obtain ⟨b', off', e, h1, h2⟩ := h (by
    intro e
    have : ss.length = 0 := by rw [e]; rfl
    omega)
  cases e
  refine ⟨b, off + 64 * k, rfl, h1, fun j hj => ?_⟩
  have hjl : 64 * k + j < ss.length := by omega
  obtain ⟨P, c, h3, h4, h5⟩ := h2 (64 * k + j) hjl
  have e2 : (chk ss k)[j] = ss[64 * k + j] := by simp [chk]
  rw [e2]
  exact ⟨P, c, by rw [show off + 64 * k + j = off + (64 * k + j) by omega]; exact h3, h4, h5⟩
theorem infoI8 : (Tryd.prog.info? 3).map (fun i => (i.zero, i.size, i.bytes)) = some (some (.int .i64 0), 1, 8) := by kernel_rfl
/-- A row of noughts. -/
theorem make_ints (n : Nat) (hn : n ≤ 100000) (W : World) :
    ∃ W1, (Instr.makeSlice 35 (.int .i64 n) (.int .i64 n)).run Tryd.prog W = .ok (.slice (some ⟨W.heap.size, 0, none⟩) n n) W1 ∧ WsO W1 W.heap.size (List.replicate n 0) ∧ Below W.heap.size W W1 := by
  obtain ⟨i0, hi, hz0, hz1, hz2⟩ := info_parts infoI8
  obtain ⟨W1, hmk, h2, h3⟩ := run_makeSlice_full (P := Tryd.prog) (w := W) 0 35 3 i0 _ 1 Tryd.underlying35 hi hz0 hz1 .i64 .i64 n (by omega) (by rw [hz2]; omega) (by unfold maxLen; omega) (Nat.zero_le _)
  have e1 : (madeCells (Value.int .i64 0).cells (n * 1)).toList = (List.replicate n (0 : Int)).map (Value.int .i64) := by
    rw [Nat.mul_one, List.map_replicate]
    exact toList_madeCells_one _ _
  rw [e1] at h2
  refine ⟨W1, hmk, ?_, ⟨h3.os, h3.tape, h3.output, h3.size, fun k hk => h3.block k hk (fun e => by cases e)⟩⟩
  unfold WsO
  rw [List.length_replicate]
  exact h2
/-- What holds between two rounds. -/
def WI (ss : List (List Sp)) (E : List Int) (g Bl : Nat) (V : World) (k : Nat) (X : World) : Prop :=
  Kpt (fun j => j = g ∨ j = Bl) V X ∧ ∃ ws last, WsO X g ws ∧ Wd (ss.take (64 * k)) E ws last ∧ last ≤ k * 40000 ∧ X.heap[Bl]? = some (.cells #[.int .i64 last] 3 (0, 0))
theorem WI.put {ss : List (List Sp)} {E : List Int} {g Bl : Nat} {V : World} {k : Nat} {X Y : World} {row : Option Nat} (h : WI ss E g Bl V k X) (hg : X.grownBy Y row) (hr : ∀ r, row = some r → V.heap.size ≤ r) (h1 : g < V.heap.size) (h2 : Bl < V.heap.size) : WI ss E g Bl V k Y := by
  obtain ⟨h3, ws, last, h4, h5, h6, h7⟩ := h
  refine ⟨h3.grown hg (fun j e => .inr (hr j e)), ws, last, h4.kept hg (fun e => by have := hr g e; omega), h5, h6, (hg.block Bl (Array.getElem?_eq_some_iff.1 h7).1 (fun e => by have := hr Bl e.symm; omega)).trans h7⟩
/-- What wordsOf hands back. -/
def WordsPost (ss : List (List Sp)) (E : List Int) (W : World) (e : Ending) (W' : World) : Prop :=
  ∃ g ws last, e = .returned (.slice (some ⟨g, 0, none⟩) ws.length ws.length) ∧ WsO W' g ws ∧ Wd ss E ws last ∧ last ≤ 1000000000000 ∧ Below W.heap.size W W'
set_option maxRecDepth 100000 in
set_option maxHeartbeats 8000000 in
theorem words_in {W : World} {b off ca n M nm : Nat} {ss : List (List Sp)} {E : List Int} (hn : n = ss.length) (hca : n ≤ ca) (hca8 : ca ≤ 1000000) (hR : Rs W (some ⟨b, off, none⟩) ss) (hs : Small ss) (ha : ∀ s ∈ ss, Apt s) (ht : ss.flatten.length ≤ 20000) (hM : MapF W 3 3 .i64 M nm (onI (place E))) (hE : E.Pairwise (· < ·)) (hEl : E.length ≤ 40000) (hin : ∀ s ∈ ss, ∀ x, Tog s x → x ∈ E) :
    CallsIn Fence.wide 6 Tryd.prog 29 #[.slice (some ⟨b, off, none⟩) n ca, .map (some M)] W (WordsPost ss E W) := by
  obtain ⟨F, hFw⟩ : ∃ F, F = Fence.wide := ⟨_, rfl⟩
  have hro : F.round = none := by rw [hFw]; rfl
  have hF : ∀ f, F.fn f := fun f => by rw [hFw]; trivial
  rw [← hFw]
  have hf1 := hF 29
  have hf2 := hF 46
  have hf3 := hF 61
  have hf4 := hF 48
  have hf5 := hF 47
  have HFw := Lib.hid hFw
  clear hF hFw
  have hnd : E.Nodup := hE.imp (fun h => by omega)
  have hlen : ∀ (V : World), Below W.heap.size W V → ∀ ty, (Builtin.len_ #[47] ty #[.map (some M)]).run Tryd.prog V = .ok (.int .i64 (E.length : Int)) V := fun V hV ty =>
    (hM.of_block (hV.block M hM.lt)).len mapI_t hnd (fun x => by unfold place; by_cases h : x ∈ E <;> simp [h]) ty
  obtain ⟨U1, hU1⟩ : ∃ U1, U1 = W.alloc (.cells #[.map (some M)] 47) := ⟨_, rfl⟩
  have b1 : Below W.heap.size W U1 := by rw [hU1]; exact (Below.refl _ _).alloc (Nat.le_refl _) _
  have z1 : U1.heap.size = W.heap.size + 1 := by rw [hU1]; exact World.size_alloc _ _
  have x1 : U1.heap[W.heap.size]? = some (.cells #[.map (some M)] 47 (0, 0)) := by rw [hU1]; exact heap_alloc_new W _
  have x1c : U1.cell? ⟨W.heap.size, 0, none⟩ = some (.map (some M)) := by rw [cell_of_row U1 _ 0 _ _ _ x1]; rfl
  have hl1 := hlen U1 b1
  obtain ⟨nE, hnE⟩ : ∃ nE, nE = E.length := ⟨_, rfl⟩
  rw [← hnE] at hl1
  obtain ⟨U2, hmk, hW2, b2⟩ := make_ints nE (by omega) U1
  have HNE := Lib.hid hnE
  have X1 := Lib.hid x1
  have B1 := Lib.hid b1
  have Z1 := Lib.hid z1
  have HW2 := Lib.hid hW2
  have B2 := Lib.hid b2
  have HM := Lib.hid hM
  have HR := Lib.hid hR
  have HS := Lib.hid hs
  have HA := Lib.hid ha
  have HT := Lib.hid ht
  have HE := Lib.hid hE
  have HIN := Lib.hid hin
  have HN := Lib.hid hn
  clear hlen hnE x1 b1 z1 hW2 b2 hM hR hs ha ht hE hin hnd hn
  refine callsIn_of_wp_marks Tryd.func29 rfl hf1 ?_ hro
  simp only [Tryd.ntmps29, List.size_toArray, List.length_cons, List.length_nil, Nat.reduceAdd, Nat.reduceSub, Array.replicate_succ, Array.replicate_zero, List.push_toArray, List.append_toArray, List.nil_append, List.cons_append]
  gi_wp2_with fail
  rw [← hU1, hl1]
  clear hU1
  gi_wp2_with (gi_at_call 46; refine (toIn (n := 5) HFw (chunk_any _ _ _ _)).mono ?_; rintro e w' ⟨rfl, rfl⟩)
  obtain ⟨U3, hU3⟩ : ∃ U3, U3 = U2.alloc (.cells #[.slice (some ⟨U1.heap.size, 0, none⟩) nE nE] 35) := ⟨_, rfl⟩
  obtain ⟨U4, hU4⟩ : ∃ U4, U4 = U3.alloc (.cells #[.int .i64 0] 3) := ⟨_, rfl⟩
  obtain ⟨U5, hU5⟩ : ∃ U5, U5 = U4.alloc (.cells #[.slice (some ⟨b, off, none⟩) n ca] 24) := ⟨_, rfl⟩
  obtain ⟨U6, hU6⟩ : ∃ U6, U6 = U5.alloc (.cells #[.int .i64 64] 3) := ⟨_, rfl⟩
  rw [← hU3, ← hU4, ← hU5, ← hU6]
  have z3 : U3.heap.size = U2.heap.size + 1 := by rw [hU3]; exact World.size_alloc _ _
  have z4 : U4.heap.size = U2.heap.size + 1 + 1 := by rw [hU4, World.size_alloc, z3]
  have z5 : U5.heap.size = U2.heap.size + 1 + 1 + 1 := by rw [hU5, World.size_alloc, z4]
  have z6 : U6.heap.size = U2.heap.size + 1 + 1 + 1 + 1 := by rw [hU6, World.size_alloc, z5]
  have b3 : Below U2.heap.size U2 U3 := by rw [hU3]; exact (Below.refl _ _).alloc (Nat.le_refl _) _
  have b4 : Below U3.heap.size U3 U4 := by rw [hU4]; exact (Below.refl _ _).alloc (Nat.le_refl _) _
  have b5 : Below U4.heap.size U4 U5 := by rw [hU5]; exact (Below.refl _ _).alloc (Nat.le_refl _) _
  have b6 : Below U5.heap.size U5 U6 := by rw [hU6]; exact (Below.refl _ _).alloc (Nat.le_refl _) _
  have b46 : Below U4.heap.size U4 U6 := b5.trans (b6.mono (by omega))
  have b36 : Below U3.heap.size U3 U6 := b4.trans (b46.mono (by omega))
  have b26 : Below U2.heap.size U2 U6 := b3.trans (b36.mono (by omega))
  have b16 : Below U1.heap.size U1 U6 := B2.out.trans (b26.mono B2.out.size)
  have b06 : Below W.heap.size W U6 := B1.out.trans (b16.mono B1.out.size)
  have y3 : U6.heap[U2.heap.size]? = some (.cells #[.slice (some ⟨U1.heap.size, 0, none⟩) nE nE] 35 (0, 0)) := by rw [b36.block _ (by omega), hU3]; exact heap_alloc_new U2 _
  have y4 : U6.heap[U2.heap.size + 1]? = some (.cells #[.int .i64 0] 3 (0, 0)) := by rw [b46.block _ (by omega), hU4, ← z3]; exact heap_alloc_new U3 _
  have y5 : U6.heap[U2.heap.size + 1 + 1]? = some (.cells #[.slice (some ⟨b, off, none⟩) n ca] 24 (0, 0)) := by rw [b6.block _ (by omega), hU5, ← z4]; exact heap_alloc_new U4 _
  have y6 : U6.heap[U2.heap.size + 1 + 1 + 1]? = some (.cells #[.int .i64 64] 3 (0, 0)) := by rw [hU6, ← z5]; exact heap_alloc_new U5 _
  have y1 : U6.heap[W.heap.size]? = some (.cells #[.map (some M)] 47 (0, 0)) := by rw [b16.block _ (by have := Z1.out; omega)]; exact X1.out
  have hg2 := HW2.out.lt
  have hgU := B2.out.size
  have hz1 := Z1.out
  have hO6 := HW2.out.below b26
  have HI0 : Hid (WI ss E U1.heap.size (U2.heap.size + 1) U6 0 U6) := Lib.hid ⟨Kpt.refl _ _, List.replicate nE 0, 0, hO6, by rw [HNE.out]; exact Wd.start, by omega, y4⟩
  have HY := Lib.hid (And.intro y1 (And.intro y3 (And.intro y5 y6)))
  have HB06 := Lib.hid b06
  clear hU3 hU4 hU5 hU6 b3 b4 b5 b6 b46 b36 b26 b16 b06 y1 y3 y4 y5 y6 hO6 hmk hl1 x1c
  obtain ⟨g, hg⟩ : ∃ g, g = U1.heap.size := ⟨_, rfl⟩
  obtain ⟨Bw, hBw⟩ : ∃ Bw, Bw = U2.heap.size := ⟨_, rfl⟩
  rw [← hBw, ← hg]
  rw [← hBw] at HI0 HY z6
  rw [← hg] at HI0 HY
  have hgl : g < U6.heap.size := by omega
  have hne : g < Bw := by omega
  have HGW : Hid (W.heap.size < g) := Lib.hid (by omega)
  clear z3 z4 z5 hg hBw hg2 hgU hz1
  refine wpIn_range_n hro (by omega) (gf := 61) (lb := #[.pointer (some ⟨Bw + 1 + 1, 0, none⟩), .pointer (some ⟨Bw + 1 + 1 + 1, 0, none⟩)]) rfl hf3 (enters_of Tryd.func61 (by kernel_rfl) rfl)
    (vs := chVs b off n) (Need := ChNeed (Bw + 1 + 1) (Bw + 1 + 1 + 1) b off n ca) (chunk_in HFw (n := 5) (by omega) hca hca8) (fun j => j = g ∨ j = Bw + 1) (fun j h => by omega) (fun v hv => by unfold chVs at hv; obtain ⟨k, _, rfl⟩ := List.mem_map.1 hv; rfl)
    (WI ss E g (Bw + 1) U6) (fun k X h => ?need) (fun k X1 X2 row h h2 h3 => h.put h2 h3 hgl (by omega)) HI0.out
    (fun k => { tmps := #[.slice (some ⟨b, off, none⟩) n ca, .map (some M), undef, .pointer (some ⟨W.heap.size, 0, none⟩), .slice none 0 0, .pointer (some ⟨Bw, 0, none⟩), .pointer (some ⟨Bw + 1, 0, none⟩), chV b off n k, .map (some M), .int .i64 nE, .slice (some ⟨g, 0, none⟩) nE nE, .slice (some ⟨b, off, none⟩) n ca, .func (.func 61) #[] #[.pointer (some ⟨Bw + 1 + 1, 0, none⟩), .pointer (some ⟨Bw + 1 + 1 + 1, 0, none⟩)], chV b off n k, undef, undef, undef, undef, undef, undef, undef], defers := [] }) ?assign ?body ?done
  case need =>
    obtain ⟨h1, _⟩ := h
    obtain ⟨_, _, y5, y6⟩ := HY.out
    exact ⟨by rw [World.cell?_of_block (h1.block (Bw + 1 + 1) (by omega) (by omega)), cell_of_row U6 _ 0 _ _ _ y5]; rfl, by rw [World.cell?_of_block (h1.block (Bw + 1 + 1 + 1) (by omega) (by omega)), cell_of_row U6 _ 0 _ _ _ y6]; rfl⟩
  case assign =>
    intro l k hk X K hK
    simp only [chVs_get]
    unfold chV at hK ⊢
    gi_wp2
    exact hK
  case body =>
    intro l k X hk hI
    obtain ⟨y1, y3, y5, y6⟩ := HY.out
    obtain ⟨h1, ws, last, hO, hW, hL, hB⟩ := hI
    rw [chVs_len] at hk
    have hkb : k ≤ 15626 := by unfold chK at hk; omega
    have hM0 := HM.out.lt
    have hgw := HGW.out
    have hX6 := h1.size
    have hBX : Below W.heap.size W X := HB06.out.trans (h1.toBelow (n := W.heap.size) (by omega) (fun j hj h => by omega))
    have hXd : Below X.heap.size X X.drew := ⟨rfl, rfl, rfl, Nat.le_refl _, fun _ _ => rfl⟩
    have hBD := hBX.trans (hXd.mono hBX.size)
    have HTU := Lib.hid (turns_c (W := X.drew) (b := b) (off := off + 64 * k) (ca := chM n k) (n := chM n k) (M0 := M) (n0 := nm) (c := chk ss k) (E := E) (by rw [chk_len, HN.out]) (by unfold chM; omega) (chk_rs (HR.out.step hBD) k) (fun s hs => HS.out s (chk_mem hs)) (fun s hs => HA.out s (chk_mem hs)) (Nat.le_trans (chk_flat ss k) HT.out) (HM.out.of_block (hBD.block M hM0)) HE.out hEl (fun s hs => HIN.out s (chk_mem hs)))
    have hOd : WsO X.drew g ws := hO.below hXd
    have hlE : ws.length = nE := by rw [hW.len, HNE.out]
    have HLE : Hid (∀ (w3 : World) (M2 n2 : Nat), X.drew.heap.size ≤ M2 → n2 ≤ 2 * (chk ss k).flatten.length → MapF w3 3 95 .u64 M2 n2 (onI (tF E (chk ss k))) → Below X.drew.heap.size X.drew w3 →
        Calls Tryd.prog 47 #[.slice (some ⟨g, 0, none⟩) nE nE, .int .i64 last, .map (some M2)] w3 (LenPost (ss.take (64 * k)) (chk ss k) E last g w3)) := Lib.hid (fun w3 M2 n2 q1 q2 q3 q4 => len_c (n2 := 0) (hOd.below q4) hlE.symm hW q3 (by have := chk_flat ss k; have := HT.out; omega) (by rw [chk_len]; unfold chM; omega) HE.out hEl (fun s hs => HIN.out s (chk_mem hs)) (fun s hs => HA.out s (chk_mem hs)) (by omega) (by have := hO.lt; have : X.drew.heap.size = X.heap.size := rfl; omega))
    have hBwl : Bw < U6.heap.size := by omega
    have x3 : X.heap[Bw]? = _ := (h1.block Bw (by omega) (by omega)).trans y3
    have x1 : X.heap[W.heap.size]? = _ := (h1.block W.heap.size (by omega) (by omega)).trans y1
    have d3 : X.drew.cell? ⟨Bw, 0, none⟩ = some (.slice (some ⟨g, 0, none⟩) nE nE) := by rw [cell_of_row X.drew _ 0 _ _ _ x3]; rfl
    have d1 : X.drew.cell? ⟨W.heap.size, 0, none⟩ = some (.map (some M)) := by rw [cell_of_row X.drew _ 0 _ _ _ x1]; rfl
    have d4 : X.drew.cell? ⟨Bw + 1, 0, none⟩ = some (.int .i64 last) := by rw [cell_of_row X.drew _ 0 _ _ _ hB]; rfl
    have HC : Hid (∀ w3, Below X.drew.heap.size X.drew w3 → w3.cell? ⟨Bw, 0, none⟩ = some (.slice (some ⟨g, 0, none⟩) nE nE) ∧ w3.cell? ⟨W.heap.size, 0, none⟩ = some (.map (some M)) ∧ w3.cell? ⟨Bw + 1, 0, none⟩ = some (.int .i64 last)) := Lib.hid (fun w3 h => ⟨(h.cell (p := ⟨Bw, 0, none⟩) (by show Bw < X.heap.size; omega)).trans d3, (h.cell (p := ⟨W.heap.size, 0, none⟩) (by show W.heap.size < X.heap.size; omega)).trans d1, (h.cell (p := ⟨Bw + 1, 0, none⟩) (by show Bw + 1 < X.heap.size; omega)).trans d4⟩)
    have HF4 : Hid (∀ w3 w4 ws' last', Below X.drew.heap.size X.drew w3 → w3.grownBy w4 (some g) → WsO w4 g ws' → Wd (ss.take (64 * k) ++ chk ss k) E ws' last' → last' ≤ last + E.length →
        w4.cell? ⟨Bw + 1, 0, none⟩ = some (.int .i64 last) ∧ w4.frozen? ⟨Bw + 1, 0, none⟩ = false ∧ Kpt (fun j => j = g ∨ j = Bw + 1) X (w4.setCell ⟨Bw + 1, 0, none⟩ (.int .i64 last')) ∧ WI ss E g (Bw + 1) U6 (k + 1) (w4.setCell ⟨Bw + 1, 0, none⟩ (.int .i64 last'))) := Lib.hid (by
      intro w3 w4 ws' last' q1 q2 q3 q4 q5
      have hBl3 := (q1.block (Bw + 1) (by show Bw + 1 < X.heap.size; omega)).trans (show X.drew.heap[Bw + 1]? = _ from hB)
      have hBl4 := (q2.block (Bw + 1) (Array.getElem?_eq_some_iff.1 hBl3).1 (fun e => by have := Option.some.inj e; omega)).trans hBl3
      have hk1 : Kpt (fun j => j = g ∨ j = Bw + 1) X w4 := ((Kpt.of_below hXd).below q1).grown q2 (fun j e => .inl (.inl (Option.some.inj e).symm))
      have hg5 : w4.grownBy (w4.setCell ⟨Bw + 1, 0, none⟩ (.int .i64 last')) (some (Bw + 1)) := grownBy_setCell' _ _ _
      have hk2 := hk1.grown hg5 (fun j e => .inl (.inr (Option.some.inj e).symm))
      refine ⟨by rw [cell_of_row w4 _ 0 _ _ _ hBl4]; rfl, frozen_of_row w4 _ 0 _ _ hBl4, hk2, h1.trans hk2, ws', last', q3.kept hg5 (fun e => by have := Option.some.inj e; omega), by rw [chk_next]; exact q4, ?_, one_setCell hBl4⟩
      have : (k + 1) * 40000 = k * 40000 + 40000 := by omega
      omega)
    clear h1 hO hW hL hB hk hkb hBX hXd hBD hOd hlE y1 y3 y5 y6 x3 x1
    unfold chV
    gi_wp2
    gi_region_with (first
      | (gi_at_call 48; (with_reducible refine (CallsIn.inRound l (toIn HFw HTU.out)).mono ?_); rintro e w3 ⟨M2, n2, rfl, q1, q2, q3, q4⟩; obtain ⟨e3, e1, e4⟩ := HC.out w3 q4; have HL3 := Lib.hid (HLE.out w3 M2 n2 q1 q2 q3 q4); have HB3 := Lib.hid q4; clear q1 q2 q3 q4)
      | (gi_at_call 47; (with_reducible refine (CallsIn.inRound l (toIn HFw HL3.out)).mono ?_); rintro e w4 ⟨ws', last', rfl, q1, q2, q3, q4⟩; obtain ⟨r1, r2, r3, r4⟩ := HF4.out w3 w4 ws' last' HB3.out q4 q1 q2 q3; have HR3 := Lib.hid r3; have HR4 := Lib.hid r4; clear q1 q2 q3 q4 r3 r4))
    all_goals
      clear d1 d3 d4 e1 e3 e4
      gi_wp2
      exact ⟨HR3.out, HR4.out⟩
  case done =>
    rintro D X hD hI hK
    rw [chVs_len] at hI
    obtain ⟨h1, ws, last, hO, hW, hL, hB⟩ := hI
    obtain ⟨y1, y3, y5, y6⟩ := HY.out
    have hgw := HGW.out
    have x3 : X.heap[Bw]? = _ := (h1.block Bw (by omega) (by omega)).trans y3
    have d3 : X.cell? ⟨Bw, 0, none⟩ = some (.slice (some ⟨g, 0, none⟩) nE nE) := by rw [cell_of_row X _ 0 _ _ _ x3]; rfl
    have hg5 : X.grownBy (X.putObj D (.deferred none)) (some D) := grownBy_putObj' X D _
    have hlE : nE = ws.length := by rw [hW.len, HNE.out]
    rw [List.take_of_length_le (by unfold chK; have := HN.out; omega)] at hW
    have hBX : Below W.heap.size W X := HB06.out.trans (h1.toBelow (n := W.heap.size) (by have := HB06.out.size; omega) (fun j hj h => by omega))
    have HX : Hid (WordsPost ss E W (.returned (.slice (some ⟨g, 0, none⟩) nE nE)) (X.putObj D (.deferred none))) := Lib.hid ⟨g, ws, last, by rw [hlE], hO.kept hg5 (fun e => by have := Option.some.inj e; omega), hW, (by have : chK n * 40000 ≤ 15626 * 40000 := Nat.mul_le_mul_right _ (by unfold chK; omega); omega), hBX.grown hg5 hBX.size (fun j e => by cases e; have := HB06.out.size; omega)⟩
    clear h1 hO hW hL hB y1 y3 y5 y6 hBX hlE hg5
    gi_wp2
    refine ⟨by simp, .inl ⟨_, _, rfl, run_takeDeferred hK, ?_⟩⟩
    exact ⟨_, results_tmp rfl _ _ _, (by first | exact HX.out | simpa using HX.out)⟩
theorem words_c {W : World} {b off ca n M nm : Nat} {ss : List (List Sp)} {E : List Int} (hn : n = ss.length) (hca : n ≤ ca) (hca8 : ca ≤ 1000000) (hR : Rs W (some ⟨b, off, none⟩) ss) (hs : Small ss) (ha : ∀ s ∈ ss, Apt s) (ht : ss.flatten.length ≤ 20000) (hM : MapF W 3 3 .i64 M nm (onI (place E))) (hE : E.Pairwise (· < ·)) (hEl : E.length ≤ 40000) (hin : ∀ s ∈ ss, ∀ x, Tog s x → x ∈ E) :
    Calls Tryd.prog 29 #[.slice (some ⟨b, off, none⟩) n ca, .map (some M)] W (WordsPost ss E W) := callsIn_wide.1 (words_in hn hca hca8 hR hs ha ht hM hE hEl hin)
end Go.Proofs.YtkphbjppmiefkaaDoor
