/- props.classes: the map of all classes. -/
import Derived.Test.YtahgljglleeloaaGreatDoorMathA
import Derived.Test.YtahgljglleeloaaGreatDoorSD
import Derived.Lib.Hide
import Derived.Maps.OwnOps
import Derived.Maps.OwnSet
import Derived.Maps.Views
import Derived.Sort.KeysCollected
import Derived.Handy
namespace Go.Proofs.YtahgljglleeloaaGreatDoor
open Go.RowKit Go.Shelf Go.Maps SetM PropsM

/-- An element of the map reads as itself. -/
def Rv (v : Value) : Option (DataW Value × List MemPlace) := some (.held v, [])
theorem lawS : Keyed Tryz.prog 9 := string_keyed Tryz.underlying9
/-- The slice value holds the strings l. -/
def Strs (n₀ : Nat) (W : World) (A : Option Addr) (l : List Bs) : Prop :=
  l ≠ [] → ∃ b off, A = some ⟨b, off, none⟩ ∧ b < n₀ ∧ ∀ j (h : j < l.length), W.cell? ⟨b, off + j, none⟩ = some (.string ⟨l[j].toArray⟩)
theorem Strs.below {n₀ : Nat} {V W : World} (h : Below n₀ V W) {A : Option Addr} {l : List Bs} (hs : Strs n₀ V A l) : Strs n₀ W A l := fun hl => by
  obtain ⟨b, off, e, hb, hc⟩ := hs hl
  exact ⟨b, off, e, hb, fun j hj => (h.cell (p := ⟨b, off + j, none⟩) hb).trans (hc j hj)⟩
theorem Strs.mono {n₀ n₁ : Nat} {W : World} {A : Option Addr} {l : List Bs} (hs : Strs n₀ W A l) (h : n₀ ≤ n₁) : Strs n₁ W A l := fun hl => by
  obtain ⟨b, off, e, hb, hc⟩ := hs hl
  exact ⟨b, off, e, by omega, hc⟩
theorem Strs.nil {n₀ : Nat} {W : World} {A : Option Addr} : Strs n₀ W A [] := fun h => absurd rfl h
theorem strs_new (W : World) (l : List Bs) (T : TypeId) : Strs (W.alloc (.cells (l.map fun x => Value.string ⟨x.toArray⟩).toArray T)).heap.size (W.alloc (.cells (l.map fun x => Value.string ⟨x.toArray⟩).toArray T)) (some ⟨W.heap.size, 0, none⟩) l := fun _ =>
  ⟨W.heap.size, 0, rfl, by rw [World.size_alloc]; omega, fun j hj => by
    rw [cell_of_row _ W.heap.size _ _ _ _ (heap_alloc_new W _), List.getElem?_toArray, List.getElem?_map, Nat.zero_add, List.getElem?_eq_getElem hj]; rfl⟩
theorem spans_now (W : World) (l : List Sp) : Spans (W.alloc (.cells (cellsS l).toArray 192)).heap.size (W.alloc (.cells (cellsS l).toArray 192)) (some ⟨W.heap.size, 0, none⟩) l := fun _ =>
  ⟨W.heap.size, 0, rfl, by rw [World.size_alloc]; omega, fun j hj => by
    have hd : ∀ i, i < 2 → (W.alloc (.cells (cellsS l).toArray 192)).cell? ⟨W.heap.size, 0 + j * 2 + i, none⟩ = (encS l[j])[i]? := fun i hi => by
      rw [cell_of_row _ W.heap.size _ _ _ _ (heap_alloc_new W _), List.getElem?_toArray, cellsS_get l _ (by omega), show (0 + j * 2 + i) / 2 = j from by omega, show (0 + j * 2 + i) % 2 = i from by omega, List.getElem?_eq_getElem hj]; rfl
    exact ⟨hd 0 (by omega), hd 1 (by omega)⟩⟩
/-- A map's block holds no cell. -/
theorem cell_not_map {H : Type} {P : Program} {k : TypeId} {R : Value → Option (DataW H × List MemPlace)} {W : World} {b n : Nat} {D : DataW H} (h : W.ownsMap P k R b n D) {a : Addr} {v : Value} (hc : W.cell? a = some v) : a.block ≠ b := by
  obtain ⟨es, clock, hb, _⟩ := h
  intro e
  unfold World.cell? at hc
  rw [e, hb] at hc
  simp at hc
theorem cell_lt {W : World} {a : Addr} {v : Value} (hc : W.cell? a = some v) : a.block < W.heap.size := by
  unfold World.cell? at hc
  rcases Nat.lt_or_ge a.block W.heap.size with h | h
  · exact h
  · rw [Array.getElem?_eq_none h] at hc; simp at hc
theorem cell_stays {H : Type} {P : Program} {k : TypeId} {R : Value → Option (DataW H × List MemPlace)} {W W' : World} {b n : Nat} {D : DataW H} (h : W.ownsMap P k R b n D) (hg : W.grownBy W' (some b)) {a : Addr} {v : Value} (hc : W.cell? a = some v) : W'.cell? a = some v :=
  (World.cell?_of_block (w := W) (hg.block a.block (cell_lt hc) (fun e => cell_not_map h hc (by injection e)))).trans hc
/-- A class's value: its runs and its parts. -/
def ClsAt (W : World) (v : Value) (i : Nat) : Prop := ∃ P c Q d, v = .agg #[.slice P (runsOf i).length c, .slice Q (partsOf i).length d] ∧ Spans W.heap.size W P (runsOf i) ∧ Strs W.heap.size W Q ((partsOf i).map nameOf)
theorem ClsAt.below {V W : World} {v : Value} {i : Nat} (h : ClsAt V v i) (hb : Below V.heap.size V W) : ClsAt W v i := by
  obtain ⟨P, c, Q, d, e, h1, h2⟩ := h
  exact ⟨P, c, Q, d, e, (Spans.below hb h1).mono hb.size, (Strs.below hb h2).mono hb.size⟩
theorem ClsAt.stays {H : Type} {P : Program} {k : TypeId} {R : Value → Option (DataW H × List MemPlace)} {W W' : World} {b n : Nat} {D : DataW H} (h : W.ownsMap P k R b n D) (hg : W.grownBy W' (some b)) {v : Value} {i : Nat} (hc : ClsAt W v i) : ClsAt W' v i := by
  obtain ⟨P, c, Q, d, e, h1, h2⟩ := hc
  refine ⟨P, c, Q, d, e, fun hl => ?_, fun hl => ?_⟩
  · obtain ⟨b, off, e1, hb, hc⟩ := h1 hl
    exact ⟨b, off, e1, by have := hg.size; omega, fun j hj => ⟨cell_stays h hg (hc j hj).1, cell_stays h hg (hc j hj).2⟩⟩
  · obtain ⟨b, off, e1, hb, hc⟩ := h2 hl
    exact ⟨b, off, e1, by have := hg.size; omega, fun j hj => cell_stays h hg (hc j hj)⟩
def Acc (W : World) (vs : List Value) : Prop := ∀ i (h : i < vs.length), ClsAt W vs[i] i
theorem Acc.nil (W : World) : Acc W [] := fun i h => by simp at h
theorem Acc.step {H : Type} {P : Program} {k : TypeId} {R : Value → Option (DataW H × List MemPlace)} {W0 W1 W2 : World} {b n : Nat} {D : DataW H} {vs : List Value} {v : Value} (ha : Acc W0 vs) (hb : Below W0.heap.size W0 W1) (hown : W1.ownsMap P k R b n D) (hg : W1.grownBy W2 (some b)) (i : Nat) (hi : i = vs.length) (hv : ClsAt W1 v i) : Acc W2 (vs ++ [v]) := by
  intro j hj
  rw [List.length_append, List.length_singleton] at hj
  rcases Nat.lt_or_ge j vs.length with h | h
  · rw [List.getElem_append_left h]
    exact ((ha j h).below hb).stays hown hg
  · have e : j = vs.length := by omega
    subst e
    rw [List.getElem_append_right (Nat.le_refl _)]
    simp only [Nat.sub_self, List.getElem_cons_zero]
    rw [← hi]
    exact hv.stays hown hg
/-- The map's datum. -/
def mkD (vs : List Value) : DataW Value := .map ((namesL.zip vs).map fun p => (.string p.1, .held p.2))
/-- Block B is the map of all classes. -/
def Cls (W : World) (B : Nat) : Prop := ∃ vs, vs.length = 13 ∧ Acc W vs ∧ W.ownsMap Tryz.prog 9 Rv B 13 (mkD vs)
theorem Cls.below {V W : World} {B : Nat} (h : Cls V B) (hb : Below V.heap.size V W) : Cls W B := by
  obtain ⟨vs, h1, h2, h3⟩ := h
  refine ⟨vs, h1, fun i hi => (h2 i hi).below hb, ?_⟩
  have hlt := h3.lt
  obtain ⟨es, clock, hh, rest⟩ := h3
  exact ⟨es, clock, (hb.block B hlt).trans hh, rest⟩

theorem insert_end (x : Lit × DataW Value) : ∀ l : List (Lit × DataW Value), (∀ y ∈ l, x.1.before y.1 = false) → DataW.insert x l = l ++ [x]
  | [], _ => rfl
  | y :: r, h => by
    unfold DataW.insert
    rw [if_neg (by rw [h y (by simp)]; simp), insert_end x r (fun z hz => h z (by simp [hz]))]; rfl
theorem names_rise (i : Nat) (hi : i < 13) : ∀ n ∈ namesL.take i, (Lit.string (nameOf i)).before (.string n) = false ∧ (Lit.string n).sameKey (.string (nameOf i)) = false := by
  rcases (show i = 0 ∨ i = 1 ∨ i = 2 ∨ i = 3 ∨ i = 4 ∨ i = 5 ∨ i = 6 ∨ i = 7 ∨ i = 8 ∨ i = 9 ∨ i = 10 ∨ i = 11 ∨ i = 12 by omega) with rfl | rfl | rfl | rfl | rfl | rfl | rfl | rfl | rfl | rfl | rfl | rfl | rfl <;> decide
theorem names_cut (i : Nat) (hi : i < 13) : namesL = namesL.take i ++ nameOf i :: namesL.drop (i + 1) := by
  have h : i < namesL.length := hi
  have e : nameOf i = namesL[i] := by unfold nameOf; rw [List.getD_eq_getElem?_getD, List.getElem?_eq_getElem h]; rfl
  rw [e, ← List.drop_eq_getElem_cons h, List.take_append_drop]
theorem zip_cut {α β : Type} (a b : List α) (vs : List β) (h : vs.length = a.length) : (a ++ b).zip vs = a.zip vs := by
  have := List.zip_append (l₁ := a) (r₁ := b) (l₂ := vs) (r₂ := []) h.symm
  simpa using this
theorem mkD_put {vs : List Value} (v : Value) (i : Nat) (hi : i < 13) (hl : vs.length = i) : (mkD vs).put (.string (nameOf i)) (.held v) = mkD (vs ++ [v]) := by
  have ht : (namesL.take i).length = i := by rw [List.length_take]; show min i 13 = i; omega
  have e1 : namesL.zip vs = (namesL.take i).zip vs := by
    conv => lhs; rw [names_cut i hi]
    exact zip_cut _ _ _ (by rw [ht, hl])
  have e2 : namesL.zip (vs ++ [v]) = (namesL.take i).zip vs ++ [(nameOf i, v)] := by
    conv => lhs; rw [names_cut i hi]
    rw [List.zip_append (by rw [ht, hl]), List.zip_cons_cons, List.zip_nil_right]
  have hm : ∀ p ∈ ((namesL.take i).zip vs).map (fun p => ((Lit.string p.1, DataW.held p.2) : Lit × DataW Value)), ∃ n ∈ namesL.take i, p.1 = .string n := by
    intro p hp
    obtain ⟨q, hq, rfl⟩ := List.mem_map.1 hp
    exact ⟨q.1, (List.of_mem_zip hq).1, rfl⟩
  unfold mkD
  rw [e1, e2, List.map_append]
  unfold DataW.put
  dsimp only
  rw [List.filter_eq_self.2 (fun p hp => by obtain ⟨n, hn, e⟩ := hm p hp; rw [e, (names_rise i hi n hn).2]; rfl), insert_end _ _ (fun y hy => by obtain ⟨n, hn, e⟩ := hm y hy; rw [e]; exact (names_rise i hi n hn).1)]
  rfl
theorem upd {W : World} {B : Nat} {vs : List Value} (i : Nat) (hi : i < 13) (hl : vs.length = i) (own : W.ownsMap Tryz.prog 9 Rv B i (mkD vs)) (val : Value) (s : ByteArray) (hs : s.data.toList = nameOf i) :
    ∃ w', (Instr.mapUpdate 159 (.map (some B)) (.string s) val).run Tryz.prog W = .ok () w' ∧ w'.ownsMap Tryz.prog 9 Rv B (i + 1) (mkD (vs ++ [val])) ∧ W.grownBy w' (some B) := by
  have h8 : s.size ≤ maxLen := by
    have h1 : s.size = s.data.toList.length := rfl
    rw [h1, hs]
    have := (name_len i hi).2
    unfold maxLen; omega
  obtain ⟨w', h1, h2, h3⟩ := own.update lawS Tryz.underlying159 (by unfold maxLen; omega) (WideMaps.keyOf_string_mk Tryz.underlying9 h8) (val := val) (d := .held val) (ps := []) rfl
  rw [hs, mkD_put val i hi hl] at h2
  exact ⟨w', h1, h2, h3⟩


set_option maxRecDepth 100000 in
set_option maxHeartbeats 4000000 in
theorem classes_any (w : World) : Calls Tryz.prog 135 #[] w fun e w' => ∃ B, e = .returned (.map (some B)) ∧ Cls w' B ∧ Below w.heap.size w w' := by
  obtain ⟨w0, hw0⟩ : ∃ w0, w0 = w.alloc (.map #[] 0) := ⟨_, rfl⟩
  have hmm : ∀ t, (Instr.makeMap t none).run Tryz.prog w = .ok (.map (some w.heap.size)) w0 := by intro t; rw [hw0]; exact run_makeMap t w
  have own0 : w0.ownsMap Tryz.prog 9 Rv w.heap.size 0 (mkD []) := by rw [hw0]; exact World.ownsMap_made _ _ _ _
  have b0 : Below w.heap.size w w0 := by rw [hw0]; exact (Below.refl _ w).alloc (Nat.le_refl _) _
  have a0 : Acc w0 [] := Acc.nil _
  generalize hB : w.heap.size = B at *
  clear hw0
  obtain ⟨w1, hr0, own1, g0⟩ := upd (W := (w0.alloc (.cells #[.int .i64 0, .int .i64 1114111] 192))) 0 (by omega) rfl (own0.alloc _) (.agg #[.slice (some ⟨w0.heap.size, 0, none⟩) 1 1, .slice none 0 0]) ⟨#[97, 110, 121]⟩ rfl
  have a1 := a0.step ((Below.refl _ w0).alloc (Nat.le_refl _) _) (own0.alloc _) g0 0 rfl (show ClsAt (w0.alloc (.cells #[.int .i64 0, .int .i64 1114111] 192)) (.agg #[.slice (some ⟨w0.heap.size, 0, none⟩) 1 1, .slice none 0 0]) 0 from ⟨some ⟨w0.heap.size, 0, none⟩, 1, none, 0, rfl, spans_now w0 (runsOf 0), Strs.nil⟩)
  have b1 : Below B w w1 := by
    have hz := b0.size
    exact (b0.alloc (by omega) _).grown g0 (by simp only [World.size_alloc]; omega) (fun k hk => by injection hk with hk; omega)
  clear b0 g0 own0 a0
  obtain ⟨w2, hr1, own2, g1⟩ := upd (W := (w1.alloc (.cells #[.int .i64 0, .int .i64 127] 192))) 1 (by omega) rfl (own1.alloc _) (.agg #[.slice (some ⟨w1.heap.size, 0, none⟩) 1 1, .slice none 0 0]) ⟨#[97, 115, 99, 105, 105]⟩ rfl
  have a2 := a1.step ((Below.refl _ w1).alloc (Nat.le_refl _) _) (own1.alloc _) g1 1 rfl (show ClsAt (w1.alloc (.cells #[.int .i64 0, .int .i64 127] 192)) (.agg #[.slice (some ⟨w1.heap.size, 0, none⟩) 1 1, .slice none 0 0]) 1 from ⟨some ⟨w1.heap.size, 0, none⟩, 1, none, 0, rfl, spans_now w1 (runsOf 1), Strs.nil⟩)
  have b2 : Below B w w2 := by
    have hz := b1.size
    exact (b1.alloc (by omega) _).grown g1 (by simp only [World.size_alloc]; omega) (fun k hk => by injection hk with hk; omega)
  clear b1 g1 own1 a1
  obtain ⟨w3, hr2, own3, g2⟩ := upd (W := (w2.alloc (.cells #[.int .i64 9, .int .i64 9, .int .i64 32, .int .i64 32, .int .i64 160, .int .i64 160, .int .i64 12288, .int .i64 12288] 192))) 2 (by omega) rfl (own2.alloc _) (.agg #[.slice (some ⟨w2.heap.size, 0, none⟩) 4 4, .slice none 0 0]) ⟨#[98, 108, 97, 110, 107]⟩ rfl
  have a3 := a2.step ((Below.refl _ w2).alloc (Nat.le_refl _) _) (own2.alloc _) g2 2 rfl (show ClsAt (w2.alloc (.cells #[.int .i64 9, .int .i64 9, .int .i64 32, .int .i64 32, .int .i64 160, .int .i64 160, .int .i64 12288, .int .i64 12288] 192)) (.agg #[.slice (some ⟨w2.heap.size, 0, none⟩) 4 4, .slice none 0 0]) 2 from ⟨some ⟨w2.heap.size, 0, none⟩, 4, none, 0, rfl, spans_now w2 (runsOf 2), Strs.nil⟩)
  have b3 : Below B w w3 := by
    have hz := b2.size
    exact (b2.alloc (by omega) _).grown g2 (by simp only [World.size_alloc]; omega) (fun k hk => by injection hk with hk; omega)
  clear b2 g2 own2 a2
  obtain ⟨w4, hr3, own4, g3⟩ := upd (W := (w3.alloc (.cells #[.int .i64 1024, .int .i64 1279] 192))) 3 (by omega) rfl (own3.alloc _) (.agg #[.slice (some ⟨w3.heap.size, 0, none⟩) 1 1, .slice none 0 0]) ⟨#[99, 121, 114, 105, 108, 108, 105, 99]⟩ rfl
  have a4 := a3.step ((Below.refl _ w3).alloc (Nat.le_refl _) _) (own3.alloc _) g3 3 rfl (show ClsAt (w3.alloc (.cells #[.int .i64 1024, .int .i64 1279] 192)) (.agg #[.slice (some ⟨w3.heap.size, 0, none⟩) 1 1, .slice none 0 0]) 3 from ⟨some ⟨w3.heap.size, 0, none⟩, 1, none, 0, rfl, spans_now w3 (runsOf 3), Strs.nil⟩)
  have b4 : Below B w w4 := by
    have hz := b3.size
    exact (b3.alloc (by omega) _).grown g3 (by simp only [World.size_alloc]; omega) (fun k hk => by injection hk with hk; omega)
  clear b3 g3 own3 a3
  obtain ⟨w5, hr4, own5, g4⟩ := upd (W := (w4.alloc (.cells #[.int .i64 48, .int .i64 57, .int .i64 1632, .int .i64 1641, .int .i64 2406, .int .i64 2415, .int .i64 65296, .int .i64 65305] 192))) 4 (by omega) rfl (own4.alloc _) (.agg #[.slice (some ⟨w4.heap.size, 0, none⟩) 4 4, .slice none 0 0]) ⟨#[100, 105, 103, 105, 116]⟩ rfl
  have a5 := a4.step ((Below.refl _ w4).alloc (Nat.le_refl _) _) (own4.alloc _) g4 4 rfl (show ClsAt (w4.alloc (.cells #[.int .i64 48, .int .i64 57, .int .i64 1632, .int .i64 1641, .int .i64 2406, .int .i64 2415, .int .i64 65296, .int .i64 65305] 192)) (.agg #[.slice (some ⟨w4.heap.size, 0, none⟩) 4 4, .slice none 0 0]) 4 from ⟨some ⟨w4.heap.size, 0, none⟩, 4, none, 0, rfl, spans_now w4 (runsOf 4), Strs.nil⟩)
  have b5 : Below B w w5 := by
    have hz := b4.size
    exact (b4.alloc (by omega) _).grown g4 (by simp only [World.size_alloc]; omega) (fun k hk => by injection hk with hk; omega)
  clear b4 g4 own4 a4
  obtain ⟨w6, hr5, own6, g5⟩ := upd (W := (w5.alloc (.cells #[.int .i64 880, .int .i64 883, .int .i64 885, .int .i64 887, .int .i64 890, .int .i64 895, .int .i64 900, .int .i64 900, .int .i64 902, .int .i64 902, .int .i64 904, .int .i64 906, .int .i64 908, .int .i64 908, .int .i64 910, .int .i64 929, .int .i64 931, .int .i64 993, .int .i64 1008, .int .i64 1023] 192))) 5 (by omega) rfl (own5.alloc _) (.agg #[.slice (some ⟨w5.heap.size, 0, none⟩) 10 10, .slice none 0 0]) ⟨#[103, 114, 101, 101, 107]⟩ rfl
  have a6 := a5.step ((Below.refl _ w5).alloc (Nat.le_refl _) _) (own5.alloc _) g5 5 rfl (show ClsAt (w5.alloc (.cells #[.int .i64 880, .int .i64 883, .int .i64 885, .int .i64 887, .int .i64 890, .int .i64 895, .int .i64 900, .int .i64 900, .int .i64 902, .int .i64 902, .int .i64 904, .int .i64 906, .int .i64 908, .int .i64 908, .int .i64 910, .int .i64 929, .int .i64 931, .int .i64 993, .int .i64 1008, .int .i64 1023] 192)) (.agg #[.slice (some ⟨w5.heap.size, 0, none⟩) 10 10, .slice none 0 0]) 5 from ⟨some ⟨w5.heap.size, 0, none⟩, 10, none, 0, rfl, spans_now w5 (runsOf 5), Strs.nil⟩)
  have b6 : Below B w w6 := by
    have hz := b5.size
    exact (b5.alloc (by omega) _).grown g5 (by simp only [World.size_alloc]; omega) (fun k hk => by injection hk with hk; omega)
  clear b5 g5 own5 a5
  obtain ⟨w7, hr6, own7, g6⟩ := upd (W := (w6.alloc (.cells #[.int .i64 13312, .int .i64 19903, .int .i64 19968, .int .i64 40959, .int .i64 131072, .int .i64 173791] 192))) 6 (by omega) rfl (own6.alloc _) (.agg #[.slice (some ⟨w6.heap.size, 0, none⟩) 3 3, .slice none 0 0]) ⟨#[104, 97, 110]⟩ rfl
  have a7 := a6.step ((Below.refl _ w6).alloc (Nat.le_refl _) _) (own6.alloc _) g6 6 rfl (show ClsAt (w6.alloc (.cells #[.int .i64 13312, .int .i64 19903, .int .i64 19968, .int .i64 40959, .int .i64 131072, .int .i64 173791] 192)) (.agg #[.slice (some ⟨w6.heap.size, 0, none⟩) 3 3, .slice none 0 0]) 6 from ⟨some ⟨w6.heap.size, 0, none⟩, 3, none, 0, rfl, spans_now w6 (runsOf 6), Strs.nil⟩)
  have b7 : Below B w w7 := by
    have hz := b6.size
    exact (b6.alloc (by omega) _).grown g6 (by simp only [World.size_alloc]; omega) (fun k hk => by injection hk with hk; omega)
  clear b6 g6 own6 a6
  obtain ⟨w8, hr7, own8, g7⟩ := upd (W := (w7.alloc (.cells #[.int .i64 48, .int .i64 57, .int .i64 65, .int .i64 70, .int .i64 97, .int .i64 102] 192))) 7 (by omega) rfl (own7.alloc _) (.agg #[.slice (some ⟨w7.heap.size, 0, none⟩) 3 3, .slice none 0 0]) ⟨#[104, 101, 120]⟩ rfl
  have a8 := a7.step ((Below.refl _ w7).alloc (Nat.le_refl _) _) (own7.alloc _) g7 7 rfl (show ClsAt (w7.alloc (.cells #[.int .i64 48, .int .i64 57, .int .i64 65, .int .i64 70, .int .i64 97, .int .i64 102] 192)) (.agg #[.slice (some ⟨w7.heap.size, 0, none⟩) 3 3, .slice none 0 0]) 7 from ⟨some ⟨w7.heap.size, 0, none⟩, 3, none, 0, rfl, spans_now w7 (runsOf 7), Strs.nil⟩)
  have b8 : Below B w w8 := by
    have hz := b7.size
    exact (b7.alloc (by omega) _).grown g7 (by simp only [World.size_alloc]; omega) (fun k hk => by injection hk with hk; omega)
  clear b7 g7 own7 a7
  obtain ⟨w9, hr8, own9, g8⟩ := upd (W := (w8.alloc (.cells #[.int .i64 65, .int .i64 90, .int .i64 97, .int .i64 122, .int .i64 170, .int .i64 170, .int .i64 186, .int .i64 186, .int .i64 192, .int .i64 214, .int .i64 216, .int .i64 246, .int .i64 248, .int .i64 591] 192))) 8 (by omega) rfl (own8.alloc _) (.agg #[.slice (some ⟨w8.heap.size, 0, none⟩) 7 7, .slice none 0 0]) ⟨#[108, 97, 116, 105, 110]⟩ rfl
  have a9 := a8.step ((Below.refl _ w8).alloc (Nat.le_refl _) _) (own8.alloc _) g8 8 rfl (show ClsAt (w8.alloc (.cells #[.int .i64 65, .int .i64 90, .int .i64 97, .int .i64 122, .int .i64 170, .int .i64 170, .int .i64 186, .int .i64 186, .int .i64 192, .int .i64 214, .int .i64 216, .int .i64 246, .int .i64 248, .int .i64 591] 192)) (.agg #[.slice (some ⟨w8.heap.size, 0, none⟩) 7 7, .slice none 0 0]) 8 from ⟨some ⟨w8.heap.size, 0, none⟩, 7, none, 0, rfl, spans_now w8 (runsOf 8), Strs.nil⟩)
  have b9 : Below B w w9 := by
    have hz := b8.size
    exact (b8.alloc (by omega) _).grown g8 (by simp only [World.size_alloc]; omega) (fun k hk => by injection hk with hk; omega)
  clear b8 g8 own8 a8
  obtain ⟨w10, hr9, own10, g9⟩ := upd (W := (w9.alloc (.cells #[.string ⟨#[108, 97, 116, 105, 110]⟩, .string ⟨#[103, 114, 101, 101, 107]⟩, .string ⟨#[99, 121, 114, 105, 108, 108, 105, 99]⟩, .string ⟨#[104, 97, 110]⟩] 9))) 9 (by omega) rfl (own9.alloc _) (.agg #[.slice none 0 0, .slice (some ⟨w9.heap.size, 0, none⟩) 4 4]) ⟨#[108, 101, 116, 116, 101, 114]⟩ rfl
  have a10 := a9.step ((Below.refl _ w9).alloc (Nat.le_refl _) _) (own9.alloc _) g9 9 rfl (show ClsAt (w9.alloc (.cells #[.string ⟨#[108, 97, 116, 105, 110]⟩, .string ⟨#[103, 114, 101, 101, 107]⟩, .string ⟨#[99, 121, 114, 105, 108, 108, 105, 99]⟩, .string ⟨#[104, 97, 110]⟩] 9)) (.agg #[.slice none 0 0, .slice (some ⟨w9.heap.size, 0, none⟩) 4 4]) 9 from ⟨none, 0, some ⟨w9.heap.size, 0, none⟩, 4, rfl, Spans.nil, strs_new w9 ((partsOf 9).map nameOf) 9⟩)
  have b10 : Below B w w10 := by
    have hz := b9.size
    exact (b9.alloc (by omega) _).grown g9 (by simp only [World.size_alloc]; omega) (fun k hk => by injection hk with hk; omega)
  clear b9 g9 own9 a9
  obtain ⟨w11, hr10, own11, g10⟩ := upd (W := (w10.alloc (.cells #[.int .i64 97, .int .i64 122, .int .i64 223, .int .i64 246, .int .i64 248, .int .i64 255, .int .i64 945, .int .i64 969, .int .i64 1072, .int .i64 1119] 192))) 10 (by omega) rfl (own10.alloc _) (.agg #[.slice (some ⟨w10.heap.size, 0, none⟩) 5 5, .slice none 0 0]) ⟨#[108, 111, 119, 101, 114]⟩ rfl
  have a11 := a10.step ((Below.refl _ w10).alloc (Nat.le_refl _) _) (own10.alloc _) g10 10 rfl (show ClsAt (w10.alloc (.cells #[.int .i64 97, .int .i64 122, .int .i64 223, .int .i64 246, .int .i64 248, .int .i64 255, .int .i64 945, .int .i64 969, .int .i64 1072, .int .i64 1119] 192)) (.agg #[.slice (some ⟨w10.heap.size, 0, none⟩) 5 5, .slice none 0 0]) 10 from ⟨some ⟨w10.heap.size, 0, none⟩, 5, none, 0, rfl, spans_now w10 (runsOf 10), Strs.nil⟩)
  have b11 : Below B w w11 := by
    have hz := b10.size
    exact (b10.alloc (by omega) _).grown g10 (by simp only [World.size_alloc]; omega) (fun k hk => by injection hk with hk; omega)
  clear b10 g10 own10 a10
  obtain ⟨w12, hr11, own12, g11⟩ := upd (W := (w11.alloc (.cells #[.int .i64 65, .int .i64 90, .int .i64 192, .int .i64 214, .int .i64 216, .int .i64 222, .int .i64 913, .int .i64 929, .int .i64 931, .int .i64 937, .int .i64 1024, .int .i64 1071] 192))) 11 (by omega) rfl (own11.alloc _) (.agg #[.slice (some ⟨w11.heap.size, 0, none⟩) 6 6, .slice none 0 0]) ⟨#[117, 112, 112, 101, 114]⟩ rfl
  have a12 := a11.step ((Below.refl _ w11).alloc (Nat.le_refl _) _) (own11.alloc _) g11 11 rfl (show ClsAt (w11.alloc (.cells #[.int .i64 65, .int .i64 90, .int .i64 192, .int .i64 214, .int .i64 216, .int .i64 222, .int .i64 913, .int .i64 929, .int .i64 931, .int .i64 937, .int .i64 1024, .int .i64 1071] 192)) (.agg #[.slice (some ⟨w11.heap.size, 0, none⟩) 6 6, .slice none 0 0]) 11 from ⟨some ⟨w11.heap.size, 0, none⟩, 6, none, 0, rfl, spans_now w11 (runsOf 11), Strs.nil⟩)
  have b12 : Below B w w12 := by
    have hz := b11.size
    exact (b11.alloc (by omega) _).grown g11 (by simp only [World.size_alloc]; omega) (fun k hk => by injection hk with hk; omega)
  clear b11 g11 own11 a11
  obtain ⟨w13, hr12, own13, g12⟩ := upd (W := ((w12.alloc (.cells #[.int .i64 95, .int .i64 95] 192)).alloc (.cells #[.string ⟨#[108, 101, 116, 116, 101, 114]⟩, .string ⟨#[100, 105, 103, 105, 116]⟩] 9))) 12 (by omega) rfl ((own12.alloc _).alloc _) (.agg #[.slice (some ⟨w12.heap.size, 0, none⟩) 1 1, .slice (some ⟨w12.heap.size + 1, 0, none⟩) 2 2]) ⟨#[119, 111, 114, 100]⟩ rfl
  have a13 := a12.step (((Below.refl _ w12).alloc (Nat.le_refl _) _).alloc (by rw [World.size_alloc]; omega) _) ((own12.alloc _).alloc _) g12 12 rfl (show ClsAt ((w12.alloc (.cells #[.int .i64 95, .int .i64 95] 192)).alloc (.cells #[.string ⟨#[108, 101, 116, 116, 101, 114]⟩, .string ⟨#[100, 105, 103, 105, 116]⟩] 9)) (.agg #[.slice (some ⟨w12.heap.size, 0, none⟩) 1 1, .slice (some ⟨w12.heap.size + 1, 0, none⟩) 2 2]) 12 from ⟨some ⟨w12.heap.size, 0, none⟩, 1, some ⟨w12.heap.size + 1, 0, none⟩, 2, rfl, (Spans.below ((Below.refl _ (w12.alloc (.cells #[.int .i64 95, .int .i64 95] 192))).alloc (Nat.le_refl _) (.cells #[.string ⟨#[108, 101, 116, 116, 101, 114]⟩, .string ⟨#[100, 105, 103, 105, 116]⟩] 9)) (spans_now w12 (runsOf 12))).mono (by have h1 := World.size_alloc (w12.alloc (.cells #[.int .i64 95, .int .i64 95] 192)) (.cells #[.string ⟨#[108, 101, 116, 116, 101, 114]⟩, .string ⟨#[100, 105, 103, 105, 116]⟩] 9); have h2 := World.size_alloc w12 (.cells #[.int .i64 95, .int .i64 95] 192); omega), (by have h := strs_new (w12.alloc (.cells #[.int .i64 95, .int .i64 95] 192)) ((partsOf 12).map nameOf) 9; have h2 := World.size_alloc w12 (.cells #[.int .i64 95, .int .i64 95] 192); rw [show ((w12.alloc (.cells #[.int .i64 95, .int .i64 95] 192))).heap.size = w12.heap.size + 1 from h2] at h; exact h)⟩)
  have b13 : Below B w w13 := by
    have hz := b12.size
    exact ((b12.alloc (by omega) _).alloc (by rw [World.size_alloc]; omega) _).grown g12 (by simp only [World.size_alloc]; omega) (fun k hk => by injection hk with hk; omega)
  clear b12 g12 own12 a12
  have FIN : Hid (Cls w13 B ∧ Below B w w13) := Lib.hid ⟨⟨_, rfl, a13, own13⟩, b13⟩
  clear b13 a13 own13
  go_enter Tryz.func135, Tryz.ntmps135
  go_wp2
  go_ret
  exact ⟨B, rfl, FIN.out.1, FIN.out.2⟩
end Go.Proofs.YtahgljglleeloaaGreatDoor
