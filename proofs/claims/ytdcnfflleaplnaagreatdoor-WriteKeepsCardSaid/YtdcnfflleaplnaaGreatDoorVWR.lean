/- VBuild, VFmt, VPut, VClass, VWrite, VNode, in one text. -/
import Derived.Shelf.Strings.Builder1
import Derived.Handy
import Derived.Test.YtdcnfflleaplnaaGreatDoorVRead
import Derived.BigQuiet
import Derived.Laws.BitsLemmas
import Derived.Laws.Bits64
import Derived.Deep.RegionHeld3
/- The text that is written: a builder within a struct; what a write leaves alone. -/
namespace Go.Proofs.YtdcnfflleaplnaaGreatDoor
open Go.RowKit Go.Shelf Go.Maps SetM PropsM RxM WrM

/-! Appending a string to a row of one's own: in place, or in a new row. -/
theorem append_where {P : Program} {w : World} (base : Nat) (t u ty e : TypeId) (i : TypeInfo) (ht : P.underlying t = some (.slice e)) (hu : P.underlying u = some .string) (hi : P.info? e = some i) (hz : i.zero = some (.int .u8 0))
    (hsize : i.size = 1) (hby : i.bytes = 1) (v : Value) (n : Nat) (xs : List Value) (hown : w.ownsRow base e 1 v n xs) (s : ByteArray) (hbytes : n + s.size ≤ 140737488355328) (hbase : base ≤ w.heap.size) :
    ∃ v' w', (Builtin.append_ #[t, u] ty #[v, .string s]).run P w = .ok v' w' ∧ w'.ownsRow base e 1 v' (n + s.size) (xs ++ Lib.strCells s) ∧ w.grownBy w' v.ownBlock ∧ (v'.ownBlock = v.ownBlock ∨ ∀ k, v'.ownBlock = some k → w.heap.size ≤ k) := by
  have hm : n + s.size ≤ maxLen := by unfold maxLen; omega
  obtain ⟨v', w', hr, h1, h2, _⟩ := Lib.run_append_own_string (P := P) w base t u ty e i ht hu hi hz hsize hby v n xs hown s hm hbytes hbase
  refine ⟨v', w', hr, h1, h2, ?_⟩
  rcases hown.2 with ⟨rfl, rfl⟩ | ⟨g, cap, cur, rfl, _, hg, hnc, _, hcs, _⟩
  · have hx : xs = [] := List.eq_nil_of_length_eq_zero (by simpa using hown.1)
    subst hx
    obtain ⟨v2, w2, hr2, k1, _, _⟩ := Lib.run_append_own_string (P := P) w w.heap.size t u ty e i ht hu hi hz hsize hby (.slice none 0 0) 0 [] (World.ownsRow_nil _ _ _ _) s hm hbytes (Nat.le_refl _)
    rw [hr] at hr2
    cases hr2
    rcases k1.2 with ⟨rfl, _⟩ | ⟨g, cap, cur, rfl, hg, _⟩
    · exact .inl rfl
    · exact .inr (fun k hk => by cases hk; exact hg)
  · by_cases hroom : n + s.size ≤ cap
    · have hr2 := Lib.run_append_room_string (P := P) w t u ty e i ht hu hi hsize g n cap cur hg s hroom (by omega)
      rw [hr] at hr2
      cases hr2
      exact .inl rfl
    · have hr2 := Lib.run_append_grow_string (P := P) w t u ty e i (.int .u8 0) ht hu hi hz ⟨g, 0, none⟩ n cap xs (by rw [hsize]; simpa using hown.1) (hown.cells (g := g) rfl) s (by omega) (by omega) (by rw [hby]; exact growslice_fits (by omega) (by omega))
      rw [hr] at hr2
      cases hr2
      exact .inr (fun k hk => by cases hk; exact Nat.le_refl _)
theorem wpList_append_where {P : Program} {w : World} {ops : Array Oper} {rest : List Oper} {o : Oper} {a : Act} {Q : Exit → Act → World → Prop} (hgd : o.guard = none) (sl x : Operand) (t u : TypeId)
    (ho : o.op = .call { callee := .builtin .append, args := #[sl, x], argTypes := #[t, u] })
    (base : Nat) (e : TypeId) (i : TypeInfo) (ht : P.underlying t = some (.slice e)) (hu : P.underlying u = some .string) (hi : P.info? e = some i) (hz : i.zero = some (.int .u8 0)) (hsize : i.size = 1) (hby : i.bytes = 1)
    (v : Value) (n : Nat) (xs : List Value) (hs : a.eval sl = v) (hown : w.ownsRow base e 1 v n xs) (s : ByteArray) (hx : a.eval x = .string s) (hbytes : n + s.size ≤ 140737488355328) (hbase : base ≤ w.heap.size)
    (h : ∀ v' w', w'.ownsRow base e 1 v' (n + s.size) (xs ++ Lib.strCells s) → w.grownBy w' v.ownBlock → (v'.ownBlock = v.ownBlock ∨ ∀ k, v'.ownBlock = some k → w.heap.size ≤ k) → wpList P ops Q rest (a.put o.dst v') w') : wpList P ops Q (o :: rest) a w := by
  refine wpList_plain hgd fun K hK => ?_
  obtain ⟨v', w', hr, h2, h3, h4⟩ := append_where (P := P) (w := w) base t u o.type e i ht hu hi hz hsize hby v n xs hown s hbytes hbase
  unfold Oper.wp execOp
  simp only [ho, resolve, invoke, builtin, Sem.run_bind, Sem.run_pure, Result.andThen_ok, List.map_toArray, List.map_cons, List.map_nil, hs, hx, hr]
  exact hK _ _ (h v' w' h2 h3 h4)

/-! The builder. -/
def ints (l : List UInt8) : List Int := l.map fun x => ((x.toNat : Nat) : Int)
theorem ints_bs (s : ByteArray) : ints s.data.toList = bs s := rfl
theorem ints_app (a b : List UInt8) : ints (a ++ b) = ints a ++ ints b := by unfold ints; rw [List.map_append]
theorem ints_len (a : List UInt8) : (ints a).length = a.length := by unfold ints; rw [List.length_map]
/-- At block b, not older than B, lies a text that is written so far. -/
def Bl (B b : Nat) (l : List Int) (w : World) : Prop := ∃ lu, ints lu = l ∧ Lib.IsBuilder 44 5 B b (Lib.byteCells lu) w
/-- A block that is neither the text nor its row. -/
def Safe (b : Nat) (w : World) (k : Nat) : Prop := k ≠ b ∧ ∀ p v T f, w.heap[b]? = some (.cells #[p, v] T f) → v.ownBlock ≠ some k
/-- What a write leaves alone: all other blocks. -/
structure Fr (b : Nat) (w w' : World) : Prop where
  os : w'.os = w.os
  tape : w'.tape = w.tape
  output : w'.output = w.output
  size : w.heap.size ≤ w'.heap.size
  keep : ∀ k, k < w.heap.size → Safe b w k → w'.heap[k]? = w.heap[k]? ∧ Safe b w' k
theorem Fr.refl (b : Nat) (w : World) : Fr b w w := ⟨rfl, rfl, rfl, Nat.le_refl _, fun _ _ h => ⟨rfl, h⟩⟩
theorem Fr.trans {b : Nat} {w w1 w2 : World} (h : Fr b w w1) (k : Fr b w1 w2) : Fr b w w2 :=
  ⟨k.os.trans h.os, k.tape.trans h.tape, k.output.trans h.output, Nat.le_trans h.size k.size, fun i hi hs => by
    obtain ⟨a1, a2⟩ := h.keep i hi hs
    obtain ⟨b1, b2⟩ := k.keep i (Nat.lt_of_lt_of_le hi h.size) a2
    exact ⟨b1.trans a1, b2⟩⟩
theorem Fr.cell {b : Nat} {w w' : World} (h : Fr b w w') {k j : Nat} {v : Value} (hk : k < w.heap.size) (hs : Safe b w k) (hc : w.cell? ⟨k, j, none⟩ = some v) : w'.cell? ⟨k, j, none⟩ = some v :=
  (World.cell?_of_block (a := ⟨k, j, none⟩) (h.keep k hk hs).1).trans hc
theorem Bl.at {B b : Nat} {l : List Int} {w : World} (h : Bl B b l w) : ∃ p v, B ≤ b ∧ w.heap[b]? = some (.cells #[p, v] 44 (0, 0)) ∧ w.ownsRow B 5 1 v l.length (l.map fun x => .int .u8 x) ∧ v.ownBlock ≠ some b := by
  obtain ⟨lu, rfl, h⟩ := h
  have e : (ints lu).map (fun x => Value.int .u8 x) = Lib.byteCells lu := by unfold ints Lib.byteCells; rw [List.map_map]; rfl
  rw [e, ints_len]
  rcases h with ⟨h1, v, h2, h3, h4⟩ | ⟨h1, v, h2, h3, h4⟩
  · exact ⟨_, v, h1, h2, by rw [Lib.byteCells_length] at h3; exact h3, h4⟩
  · exact ⟨_, v, h1, h2, by rw [Lib.byteCells_length] at h3; exact h3, h4⟩
theorem Bl.lt {B b : Nat} {l : List Int} {w : World} (h : Bl B b l w) : B ≤ b ∧ b < w.heap.size := by
  obtain ⟨p, v, h1, h2, _⟩ := h.at
  exact ⟨h1, (Array.getElem?_eq_some_iff.1 h2).1⟩
theorem Bl.row {B b : Nat} {l : List Int} {w : World} (h : Bl B b l w) {p v : Value} {T : TypeId} {f : Nat × Nat} (hb : w.heap[b]? = some (.cells #[p, v] T f)) {k : Nat} (hk : v.ownBlock = some k) : B ≤ k ∧ k < w.heap.size := by
  obtain ⟨p', v', _, h2, h3, _⟩ := h.at
  rw [hb] at h2
  cases h2
  exact h3.lt k hk
/-- What is older than the text is safe. -/
theorem Bl.old {B b : Nat} {l : List Int} {w : World} (h : Bl B b l w) {k : Nat} (hk : k < B) : Safe b w k :=
  ⟨by have := h.lt; omega, fun p v T f hb e => by have := h.row hb e; omega⟩
theorem Bl.alloc {B b : Nat} {l : List Int} {w : World} (h : Bl B b l w) (o : Obj) : Bl B b l (w.alloc o) := by
  have hlt := h.lt.2
  obtain ⟨lu, e, h⟩ := h
  refine ⟨lu, e, h.imp (fun ⟨h1, v, h2, h3, h4⟩ => ⟨h1, v, (Lib.alloc_old w o b hlt).trans h2, h3.alloc o, h4⟩) (fun ⟨h1, v, h2, h3, h4⟩ => ⟨h1, v, (Lib.alloc_old w o b hlt).trans h2, h3.alloc o, h4⟩)⟩
/-- .. as what was laid behind it. -/
theorem Bl.new {B b : Nat} {l : List Int} {w : World} (h : Bl B b l w) (o : Obj) : Safe b (w.alloc o) w.heap.size := by
  have hlt := h.lt.2
  refine ⟨by omega, fun p v T f hb e => ?_⟩
  rw [Lib.alloc_old w o b hlt] at hb
  have := h.row hb e
  omega
theorem Bl.fr {B b : Nat} {l : List Int} {w : World} (h : Bl B b l w) (o : Obj) : Fr b w (w.alloc o) :=
  ⟨rfl, rfl, rfl, by rw [World.size_alloc]; omega, fun k hk hs => ⟨Lib.alloc_old w o k hk, hs.1, fun p v T f hb => hs.2 p v T f (by rw [← Lib.alloc_old w o b h.lt.2]; exact hb)⟩⟩
theorem Fr.below {B b : Nat} {l : List Int} {w w' : World} (hf : Fr b w w') (h : Bl B b l w) {n : Nat} (hn : n ≤ B) : Below n w w' :=
  ⟨hf.os, hf.tape, hf.output, hf.size, fun k hk => (hf.keep k (by have := h.lt; omega) (h.old (by omega))).1⟩
theorem Fr.of_below {B b : Nat} {l : List Int} {w w' : World} (h : Bl B b l w) (hb : Below w.heap.size w w') : Fr b w w' :=
  ⟨hb.os, hb.tape, hb.output, hb.size, fun k hk hs => ⟨hb.block k hk, hs.1, fun p v T f e => hs.2 p v T f (by rw [← hb.block b h.lt.2]; exact e)⟩⟩
theorem Bl.below {B b : Nat} {l : List Int} {w w' : World} (h : Bl B b l w) (hb : Below w.heap.size w w') : Bl B b l w' := by
  have hlt := h.lt.2
  obtain ⟨lu, e, h⟩ := h
  have hown : ∀ {v : Value} {n : Nat} {xs : List Value}, w.ownsRow B 5 1 v n xs → w'.ownsRow B 5 1 v n xs := fun {v n xs} h3 => by
    refine h3.kept (row := none) ⟨hb.os, hb.tape, hb.output, hb.size, fun k hk _ => hb.block k hk⟩ ?_
    cases ho : v.ownBlock with
    | none => exact .inl rfl
    | some i => exact .inr (by simp)
  refine ⟨lu, e, h.imp (fun ⟨h1, v, h2, h3, h4⟩ => ⟨h1, v, (hb.block b hlt).trans h2, hown h3, h4⟩) (fun ⟨h1, v, h2, h3, h4⟩ => ⟨h1, v, (hb.block b hlt).trans h2, hown h3, h4⟩)⟩
theorem Bl.fresh (w : World) : Bl w.heap.size w.heap.size [] (w.alloc (.cells #[.pointer none, .slice none 0 0] 44)) := ⟨[], rfl, Lib.fresh_isBuilder _ _ w⟩

set_option maxHeartbeats 1000000 in
set_option maxRecDepth 100000 in
theorem check_used (b : Nat) (w : World) (h0 : w.cell? ⟨b, 0, none⟩ = some (.pointer (some ⟨b, 0, none⟩))) :
    Calls Tryz.prog 52 #[.pointer (some ⟨b, 0, none⟩)] w fun e w' => e = .returned (.tuple #[]) ∧ w' = w := by
  obtain ⟨j, hj, _⟩ := Option.map_eq_some_iff.1 (show (Tryz.prog.info? 42).map (·.size) = some 2 by kernel_rfl)
  go_enter Tryz.func52, Tryz.ntmps52
  go_wp2
  rw [Lib.run_neq_ptr_same w _ Tryz.underlying40 hj]
  go_wp2
  go_end0
  exact ⟨rfl, rfl⟩
set_option maxHeartbeats 1000000 in
set_option maxRecDepth 100000 in
theorem check_fresh (b : Nat) (w : World) (h0 : w.cell? ⟨b, 0, none⟩ = some (.pointer none)) (hsh : w.shape? b = some (44, 2)) (hfz : w.frozen? ⟨b, 0, none⟩ = false) :
    Calls Tryz.prog 52 #[.pointer (some ⟨b, 0, none⟩)] w fun e w' => e = .returned (.tuple #[]) ∧ w' = w.setCell ⟨b, 0, none⟩ (.pointer (some ⟨b, 0, none⟩)) := by
  obtain ⟨j, hj, hjs⟩ := Option.map_eq_some_iff.1 (show (Tryz.prog.info? 42).map (·.size) = some 2 by kernel_rfl)
  go_enter Tryz.func52, Tryz.ntmps52
  go_wp2
  rw [Lib.run_to_unsafe w ⟨b, 0, none⟩ Tryz.underlying40 Tryz.underlying107 hj (by rw [hjs]; decide) hsh (Nat.zero_lt_succ 1)]
  simp only [Result.andThen]
  rw [Oper.upon_value]
  go_wp2
  rw [run_callFunc_extern Tryz.func65 (by kernel_rfl) (by kernel_rfl) (by kernel_rfl) (e := Extern.AbiNoEscape.same) (by kernel_rfl)]
  rw [Lib.run_noEscape]
  simp only [Result.andThen]
  rw [Oper.upon_value]
  go_wp2
  rw [Lib.run_from_unsafe w ⟨b, 0, none⟩ Tryz.underlying107 Tryz.underlying40 hj hsh (by kernel_rfl)]
  simp only [Result.andThen]
  rw [Oper.upon_value]
  go_wp2
  go_end0
  exact ⟨rfl, rfl⟩
theorem fr_set {b j : Nat} {w : World} {p v : Value} {T : TypeId} (hb : w.heap[b]? = some (.cells #[p, v] T (0, 0))) (x : Value) (hx : j = 0 ∨ (j = 1 ∧ ∀ k, k < w.heap.size → v.ownBlock ≠ some k → x.ownBlock ≠ some k)) : Fr b w (w.setCell ⟨b, j, none⟩ x) := by
  refine ⟨rfl, rfl, rfl, by simp [World.setCell], fun k hk hs => ⟨Below.heap_setCell _ _ _ _ hs.1, hs.1, fun p' v' T' f' e => ?_⟩⟩
  have h0 := hs.2 _ _ _ _ hb
  simp only [World.setCell, Array.getElem?_modify, hb] at e
  rcases hx with rfl | ⟨rfl, hx⟩
  · simp at e
    obtain ⟨⟨_, rfl⟩, _⟩ := e
    exact h0
  · simp at e
    obtain ⟨⟨_, rfl⟩, _⟩ := e
    exact hx k hk h0
theorem check_any (B b : Nat) (bs : List Value) (w : World) (h : Lib.IsBuilder 44 5 B b bs w) :
    Calls Tryz.prog 52 #[.pointer (some ⟨b, 0, none⟩)] w fun e w' => e = .returned (.tuple #[]) ∧ Lib.BuilderAt 44 5 B b (.pointer (some ⟨b, 0, none⟩)) bs w' ∧ Fr b w w' := by
  rcases h with h | h
  · refine (check_fresh b w h.cell0 h.shape h.frozen0).mono ?_
    rintro e w' ⟨rfl, rfl⟩
    obtain ⟨_, v, hb, _, _⟩ := id h
    exact ⟨rfl, h.used _, fr_set hb _ (.inl rfl)⟩
  · refine (check_used b w h.cell0).mono ?_
    rintro e w' ⟨rfl, rfl⟩
    exact ⟨rfl, h, Fr.refl _ _⟩
theorem byteI : (Tryz.prog.info? 5).map (fun i => (i.zero, i.size, i.bytes)) = some (some (.int .u8 0), 1, 1) := by kernel_rfl
set_option maxHeartbeats 2000000 in
set_option maxRecDepth 100000 in
theorem write_any (B b : Nat) (bs : List Value) (s : ByteArray) (w : World) (h : Lib.IsBuilder 44 5 B b bs w) (hlen : bs.length + s.size ≤ 140737488355328) :
    Calls Tryz.prog 40 #[.pointer (some ⟨b, 0, none⟩), .string s] w fun e w' => e = .returned (.tuple #[.int .i64 s.size, .nilIface]) ∧ Lib.BuilderAt 44 5 B b (.pointer (some ⟨b, 0, none⟩)) (bs ++ Lib.strCells s) w' ∧ Fr b w w' := by
  obtain ⟨i0, hi, hz0, hz1, hz2⟩ := info_parts byteI
  go_enter Tryz.func40, Tryz.ntmps40
  go_wp2_with (go_at_call 52; refine (check_any B b bs _ h).mono ?_)
  rintro e w1 ⟨rfl, h1, f1⟩
  obtain ⟨hB, v, hbk, hown, hne⟩ := h1
  have hlt := (Array.getElem?_eq_some_iff.1 hbk).1
  have c0 : w1.cell? ⟨b, 0, none⟩ = some (.pointer (some ⟨b, 0, none⟩)) := by rw [Lib.cell_of_heap hbk]; rfl
  have c1 : w1.cell? ⟨b, 1, none⟩ = some v := by rw [Lib.cell_of_heap hbk]; rfl
  go_wp2_with (at_builtin; refine wpList_append_where rfl _ _ 22 9 rfl B 5 i0 Tryz.underlying22 Tryz.underlying9 hi hz0 hz1 hz2 _ _ _ rfl hown s rfl ?c4 ?c5 ?_)
  case c4 => omega
  case c5 => omega
  intro v' w2 hown' hgrow hwh
  have hb2 : w2.heap[b]? = some (.cells #[.pointer (some ⟨b, 0, none⟩), v] 44 (0, 0)) := by
    rw [hgrow.block b hlt (fun e => hne e.symm)]
    exact hbk
  have d0 : w2.cell? ⟨b, 0, none⟩ = some (.pointer (some ⟨b, 0, none⟩)) := by rw [Lib.cell_of_heap hb2]; rfl
  have d1 : w2.cell? ⟨b, 1, none⟩ = some v := by rw [Lib.cell_of_heap hb2]; rfl
  have g1 : w2.frozen? ⟨b, 1, none⟩ = false := Lib.frozen_of_heap hb2 1
  have hfr : Fr b w1 (w2.setCell ⟨b, 1, none⟩ v') := by
    refine ⟨hgrow.os, hgrow.tape, hgrow.output, by have := hgrow.size; simpa [World.setCell] using this, fun k hk hs => ?_⟩
    have h0 := hs.2 _ _ _ _ hbk
    refine ⟨(Below.heap_setCell _ _ _ _ hs.1).trans (hgrow.block k hk (fun e => h0 e.symm)), hs.1, fun p' v2 T' f' e => ?_⟩
    simp only [World.setCell, Array.getElem?_modify, hb2] at e
    simp at e
    obtain ⟨⟨_, rfl⟩, _⟩ := e
    intro e
    rcases hwh with h | h
    · exact h0 (by rw [← h]; exact e)
    · have := h k e; omega
  obtain ⟨ao, n', cap, rfl⟩ : ∃ ao n' cap, v' = .slice ao n' cap := by
    rcases hown'.2 with ⟨hv, _⟩ | ⟨g, cap, cur, hv, _⟩
    · exact ⟨_, _, _, hv⟩
    · exact ⟨_, _, _, hv⟩
  have HFR := Lib.hid (f1.trans hfr)
  have HPUT := Lib.hid (Lib.BuilderAt.put (T := 44) (e := 5) hB hb2 (bs' := bs ++ Lib.strCells s) (by simpa [Lib.strCells_length] using hown') (by decide))
  clear hown hown' hgrow hwh hfr hbk hb2
  go_wp2
  go_ret2
  exact ⟨rfl, HPUT.out, HFR.out⟩
/-- Signs are written behind what was. -/
theorem write_c {B b : Nat} {l : List Int} {w : World} (s : ByteArray) (h : Bl B b l w) (hlen : l.length + s.size ≤ 140737488355328) :
    Calls Tryz.prog 40 #[.pointer (some ⟨b, 0, none⟩), .string s] w fun e w' => e = .returned (.tuple #[.int .i64 s.size, .nilIface]) ∧ Bl B b (l ++ bs s) w' ∧ Fr b w w' := by
  obtain ⟨lu, rfl, hb⟩ := h
  rw [ints_len] at hlen
  refine (write_any B b _ s w hb (by rw [Lib.byteCells_length]; exact hlen)).mono ?_
  rintro e w' ⟨rfl, h1, h2⟩
  refine ⟨rfl, ⟨lu ++ s.data.toList, by rw [ints_app, ints_bs], ?_⟩, h2⟩
  rw [Lib.strCells_eq, ← Lib.byteCells_append] at h1
  exact .inr h1
end Go.Proofs.YtdcnfflleaplnaaGreatDoor

/- A scalar's number in hexadecimal digits; small numbers in decimal ones. -/
namespace Go.Proofs.YtdcnfflleaplnaaGreatDoor
open Go.RowKit Go.Shelf Go.Maps SetM PropsM RxM WrM

/-- Of the table that tells how many noughts a power of two has, what is wanted. -/
def Tz (W : World) : Prop := W.cell? ⟨3, 15, none⟩ = some (.int .u8 4)
theorem tzN : IntKind.u64.wrap (-16) = 18446744073709551600 := by decide
theorem tzA : bits BinOp.and IntKind.u64 16 18446744073709551600 = 16 := by decide
set_option maxHeartbeats 1000000 in
set_option maxRecDepth 100000 in
theorem tz64 (W : World) (h : Tz W) : Calls Tryz.prog 106 #[.int .u64 16] W fun e W' => e = .returned (.int .i64 4) ∧ W' = W := by
  unfold Tz at h
  have h1 := tzN
  have h2 := tzA
  go_enter Tryz.func106, Tryz.ntmps106
  go_wp2
  go_ret
  exact ⟨rfl, rfl⟩
set_option maxHeartbeats 1000000 in
set_option maxRecDepth 100000 in
theorem tz (W : World) (h : Tz W) : Calls Tryz.prog 96 #[.int .u64 16] W fun e W' => e = .returned (.int .i64 4) ∧ W' = W := by
  have H := tz64 W h
  go_enter Tryz.func96, Tryz.ntmps96
  go_wp2_with fail
  refine H.mono ?_
  rintro e w1 ⟨rfl, rfl⟩
  go_wp2
  go_ret
  exact ⟨rfl, rfl⟩
theorem pA : bits BinOp.and IntKind.i64 16 15 = 0 := by decide
theorem pow2 (W : World) : Calls Tryz.prog 95 #[.int .i64 16] W fun e W' => e = .returned (.bool true) ∧ W' = W := by
  have h1 := pA
  go_enter Tryz.func95, Tryz.ntmps95
  go_wp2
  go_ret
  exact ⟨rfl, rfl⟩
theorem wraps63 (n : Int) (h₀ : 0 ≤ n) (h₁ : n < 2 ^ 63) : IntKind.u64.wrap n = n := by rw [IntKind.wrap_u64]; omega
theorem and15 (u : Int) (h0 : 0 ≤ u) (h1 : u ≤ 1114111) : bits .and .u64 u 15 = u % 16 := by
  have h := bits_mask .u64 63 (by decide) wraps63 4 (by decide) u (by omega) (by omega)
  have e : ((2 : Int) ^ 4 - 1) = 15 := by decide
  have e2 : ((2 : Int) ^ 4) = 16 := by decide
  rw [e, e2] at h
  exact h
/-- The row of the digits that are laid from behind. -/
structure Dg (W : World) (A : Nat) (i : Int) (l : List Int) : Prop where
  blk : ∃ cs, W.heap[A]? = some (.cells cs 142 (0, 0)) ∧ cs.size = 65 ∧ ∀ j (hj : j < l.length), cs[i.toNat + j]? = some (.int .u8 l[j])
  len : i + l.length = 65
abbrev DIG : ByteArray := ⟨#[48, 49, 50, 51, 52, 53, 54, 55, 56, 57, 97, 98, 99, 100, 101, 102, 103, 104, 105, 106, 107, 108, 109, 110, 111, 112, 113, 114, 115, 116, 117, 118, 119, 120, 121, 122]⟩
theorem dig_ix : ∀ k : Fin 16, (bs DIG)[(k : Nat)]? = some (hexd k) := by decide
theorem dig_at (m : Int) (h0 : 0 ≤ m) (h1 : m < 16) : ∀ w, (Instr.index 9 (.string DIG) (.int .u64 m)).run Tryz.prog w = .ok (.int .u8 (hexd m.toNat)) w := by
  intro w
  have hk : m.toNat < DIG.data.toList.length := by have : DIG.data.toList.length = 36 := rfl; omega
  have e : (m.toNat : Int) = m := by omega
  have h := dig_ix ⟨m.toNat, by omega⟩
  dsimp only at h
  have h2 : (bs DIG)[m.toNat]? = some ((DIG.data.toList[m.toNat].toNat : Nat) : Int) := by
    unfold bs
    rw [List.getElem?_map, List.getElem?_eq_getElem hk]; rfl
  rw [h] at h2
  have h3 := Option.some.inj h2
  rw [run_index_string w 9 DIG .u64 m Tryz.underlying9, dif_pos ⟨by omega, by have : DIG.size = 36 := rfl; omega⟩, h3]
  rfl
theorem arrL : Tryz.prog.arrayLen 142 = 65 := by kernel_rfl
theorem arrE : Tryz.prog.elem 142 = 5 := by kernel_rfl
theorem arrU : Tryz.prog.underlying 142 = some (.array (Tryz.prog.arrayLen 142) (Tryz.prog.elem 142)) := by kernel_rfl
theorem slice_at (A : Nat) (i : Int) (n : Nat) (h0 : 0 ≤ i) (h1 : i + n = 65) (hn : 0 < n) : ∀ w, (Instr.sliceAt 142 (.pointer (some ⟨A, 0, none⟩)) (some (.int .i64 i)) none none).run Tryz.prog w = .ok (.slice (some ⟨A, i.toNat, none⟩) n n) w := by
  intro w
  have hz := Tryz.sizeOf5
  rw [run_sliceAt_array_l w 142 ⟨A, 0, none⟩ arrU .i64 i h0 (by rw [arrL]; omega), arrE]
  simp only [hz, Result.andThen, slicedAt, arrL]
  rw [if_neg (by omega)]
  have e : 65 - i.toNat = n := by omega
  rw [e]
  simp [Addr.add]
  omega
theorem Dg.kept {W W' : World} {A : Nat} {i : Int} {l : List Int} (h : Dg W A i l) (hb : W'.heap[A]? = W.heap[A]?) : Dg W' A i l := ⟨by rw [hb]; exact h.blk, h.len⟩
theorem Dg.frozen {W : World} {A : Nat} {i : Int} {l : List Int} (h : Dg W A i l) (j : Nat) : W.frozen? ⟨A, j, none⟩ = false := by
  obtain ⟨cs, hc, _⟩ := h.blk
  simp [World.frozen?, hc]
theorem Dg.cell {W : World} {A : Nat} {i : Int} {l : List Int} (h : Dg W A i l) (hi : 1 ≤ i) : ∃ z, W.cell? ⟨A, i.toNat - 1, none⟩ = some z := by
  obtain ⟨cs, hc, hs, _⟩ := h.blk
  have hl := h.len
  rw [cell_of_row W A (i.toNat - 1) _ _ _ hc]
  exact ⟨_, Array.getElem?_eq_getElem (by omega)⟩
theorem Dg.put {W : World} {A : Nat} {i : Int} {l : List Int} (h : Dg W A i l) (hi : 1 ≤ i) (c : Int) : Dg (W.setCell ⟨A, i.toNat - 1, none⟩ (.int .u8 c)) A (i - 1) (c :: l) := by
  obtain ⟨cs, hc, hs, hd⟩ := h.blk
  have hl := h.len
  refine ⟨⟨cs.setIfInBounds (i.toNat - 1) (.int .u8 c), ?_, by simpa using hs, fun j hj => ?_⟩, by simp; omega⟩
  · simp [World.setCell, Array.getElem?_modify, hc]
  · rw [Array.getElem?_setIfInBounds]
    cases j with
    | zero => rw [if_pos (by omega), if_pos (by omega)]; rfl
    | succ j =>
      rw [if_neg (by omega), show (i - 1).toNat + (j + 1) = i.toNat + j by omega]
      exact hd j (by simpa using hj)
theorem nums_bs (l : List Int) (h : ∀ c ∈ l, 0 ≤ c ∧ c ≤ 255) : bs (strOfNums l) = l := by
  unfold bs strOfNums
  rw [List.toList_toArray, List.map_map]
  conv => rhs; rw [← List.map_id l]
  refine List.map_congr_left (fun c hc => ?_)
  have := h c hc
  show (((UInt8.ofNat c.toNat).toNat : Nat) : Int) = c
  rw [UInt8.toNat_ofNat', Nat.mod_eq_of_lt (by omega)]
  omega
theorem Dg.conv {W : World} {A : Nat} {i : Int} {l : List Int} (h : Dg W A i l) : ∀ n c, n = l.length → (convert 22 9 (.slice (some ⟨A, i.toNat, none⟩) n c)).run Tryz.prog W = .ok (.string (strOfNums l)) W := by
  rintro n c rfl
  obtain ⟨cs, hc, hs, hd⟩ := h.blk
  exact run_convert_bytes_arg W 22 5 Tryz.underlying22 Tryz.underlying5 A i.toNat l.length c l rfl (fun j hj => by rw [cell_of_row W A (i.toNat + j) _ _ _ hc, hd j hj]; simp [List.getD, hj]) 9 Tryz.underlying9
set_option maxHeartbeats 4000000 in
set_option maxRecDepth 100000 in
theorem bits_c (W : World) (h : Tz W) (x : Int) (h0 : 0 ≤ x) (h1 : x ≤ 1114111) : Calls Tryz.prog 82 #[.slice none 0 0, .int .u64 x, .int .i64 16, .bool false, .bool false] W fun e W' => ∃ s, e = .returned (.tuple #[.slice none 0 0, .string s]) ∧ bs s = digF 16 x.toNat ∧ Below W.heap.size W W' := by
  have HT := Lib.hid (fun V (hb : Below W.heap.size W V) => tz V (show Tz V by
    have hlt : 3 < W.heap.size := cell_lt h
    exact (hb.cell (p := ⟨_, 15, none⟩) hlt).trans h))
  clear h
  go_enter Tryz.func82, Tryz.ntmps82
  go_wp2_with fail
  refine (pow2 _).mono ?_
  rintro e w1 ⟨rfl, rfl⟩
  obtain ⟨V, hV⟩ : ∃ V, V = W.alloc (.cells Tryz.zeroCells142 142) := ⟨_, rfl⟩
  have hb0 : Below W.heap.size W V := by rw [hV]; exact (Below.refl W.heap.size W).alloc (Nat.le_refl _) _
  have HD : Hid (Dg V W.heap.size 65 []) := Lib.hid (by
    rw [hV]
    exact ⟨⟨_, heap_alloc_new W _, by kernel_rfl, fun j hj => by cases hj⟩, rfl⟩)
  rw [← hV]
  clear hV
  go_wp2_with fail
  refine (HT.out _ hb0).mono ?_
  rintro e w1 ⟨rfl, rfl⟩
  go_wp2_with fail
  go_loopg [1, 13] x.toNat (fun g s1 s13 wx => ∃ (u i : Int) (l : List Int), s1 = .int .u64 u ∧ s13 = .int .i64 i ∧ (0 ≤ u ∧ u ≤ 1114111) ∧ u ≤ (g : Int) ∧ (1 ≤ i ∧ i ≤ 65) ∧ Hid (digF 16 u.toNat ++ l = digF 16 x.toNat) ∧ Hid (Dg wx W.heap.size i l) ∧ Hid (Below W.heap.size W wx))
  case atStart => exact ⟨x, 65, [], rfl, rfl, ⟨h0, h1⟩, by omega, by omega, Lib.hid (by simp), HD, Lib.hid hb0⟩
  case round =>
    obtain ⟨u, i, l, rfl, rfl, ⟨hu0, hu1⟩, hug, ⟨hi0, hi1⟩, HE, HDg, HB⟩ := hrel
    have hfz := HDg.out.frozen (i.toNat - 1)
    obtain ⟨z, hz⟩ := HDg.out.cell (by omega)
    by_cases hu : u ≥ 16
    · obtain ⟨m, hm⟩ : ∃ m, m = u % 16 := ⟨_, rfl⟩
      have hand := and15 u hu0 hu1
      rw [← hm] at hand
      have hix := dig_at m (by omega) (by omega)
      dsimp only [DIG] at hix
      have HP := Lib.hid (HDg.out.put (by omega) (hexd m.toNat))
      have HB2 := Lib.hid (HB.out.setCell (p := ⟨W.heap.size, i.toNat - 1, none⟩) (Nat.le_refl _) (.int .u8 (hexd m.toNat)))
      have HE2 : Hid (digF 16 (u / 16).toNat ++ (hexd m.toNat :: l) = digF 16 x.toNat) := Lib.hid (by
        have e1 : (u / 16).toNat = u.toNat / 16 := by omega
        have e2 : m.toNat = u.toNat % 16 := by omega
        rw [← HE.out, dig_step (b := 16) (n := u.toNat) (by omega) (by omega), e1, e2]
        simp)
      have hlen : 60 ≤ i := by
        have h6 : (digF 16 x.toNat).length ≤ 6 := dig_len (by omega) 5 _ (by omega)
        have hl := HDg.out.len
        rw [← HE.out, List.length_append] at h6
        have := List.length_pos_iff.2 (dig_ne 16 u.toNat)
        omega
      have hdiv : u / 16 < u ∧ 0 ≤ u / 16 := by omega
      have HM := Lib.hid hm
      have hm0 : 0 ≤ m ∧ m < 16 := by omega
      clear hm HE HDg HB
      go_wp2_with fail
      go_roundg (u / 16).toNat
      case measure => omega
      case rel => exact ⟨u / 16, i - 1, _, rfl, rfl, by omega, by omega, by omega, HE2, HP, HB2⟩
    · have hix := dig_at u (by omega) (by omega)
      dsimp only [DIG] at hix
      have HP := Lib.hid (HDg.out.put (by omega) (hexd u.toNat))
      have HB2 := Lib.hid (HB.out.setCell (p := ⟨W.heap.size, i.toNat - 1, none⟩) (Nat.le_refl _) (.int .u8 (hexd u.toNat)))
      have HE2 : Hid (hexd u.toNat :: l = digF 16 x.toNat) := Lib.hid (by
        rw [← HE.out, dig_low (b := 16) (n := u.toNat) (by omega)]
        simp)
      have hl := HDg.out.len
      have hsl := slice_at W.heap.size (i - 1) (l.length + 1) (by omega) (by omega) (by omega)
      have hcv := HP.out.conv (l.length + 1) (l.length + 1) rfl
      rw [show (i - 1).toNat = i.toNat - 1 by omega] at hcv
      have hbs := nums_bs (hexd u.toNat :: l) (by rw [HE2.out]; exact dig_all (b := 16) (by omega) (P := fun c => 0 ≤ c ∧ c ≤ 255) (fun d hd => by unfold hexd; split <;> omega) _ _ (Nat.le_refl _))
      rw [HE2.out] at hbs
      have HBS := Lib.hid hbs
      clear hbs
      clear HE HDg HB
      go_wp2_with fail
      go_ret2
      exact ⟨_, rfl, by rw [HE2.out]; exact HBS.out, HB2.out⟩
set_option maxHeartbeats 1000000 in
set_option maxRecDepth 100000 in
theorem hex_c (W : World) (h : Tz W) (x : Int) (h0 : 0 ≤ x) (h1 : x ≤ 1114111) : Calls Tryz.prog 53 #[.int .i64 x, .int .i64 16] W fun e W' => ∃ s, e = .returned (.string s) ∧ bs s = digF 16 x.toNat ∧ Below W.heap.size W W' := by
  have HB := Lib.hid (bits_c W h x h0 h1)
  have H2 : Hid (Calls Tryz.prog 66 #[.int .i64 x, .int .i64 16] W fun e W' => ∃ s, e = .returned (.string s) ∧ bs s = digF 16 x.toNat ∧ Below W.heap.size W W') := Lib.hid (by
    have hn : ¬ x < 0 := by omega
    have hw : IntKind.u64.wrap x = x := wraps63 x h0 (by omega)
    go_enter Tryz.func66, Tryz.ntmps66
    go_wp2_with fail
    refine HB.out.mono ?_
    rintro e w1 ⟨s, rfl, hs, hb⟩
    have HS := Lib.hid (And.intro hs hb)
    clear hs hb
    go_wp2
    go_ret
    exact ⟨s, rfl, HS.out⟩)
  clear HB h
  go_enter Tryz.func53, Tryz.ntmps53
  go_wp2_with fail
  refine H2.out.mono ?_
  rintro e w1 ⟨s, rfl, hs, hb⟩
  have HS := Lib.hid (And.intro hs hb)
  clear hs hb
  go_wp2
  go_ret
  exact ⟨s, rfl, HS.out⟩
set_option maxHeartbeats 4000000 in
set_option maxRecDepth 100000 in
theorem small_c (W : World) (n : Nat) (hn : n ≤ 20) : Calls Tryz.prog 79 #[.int .i64 n] W fun e W' => ∃ s, e = .returned (.string s) ∧ bs s = digF 10 n ∧ W' = W := by
  have hc : n = 0 ∨ n = 1 ∨ n = 2 ∨ n = 3 ∨ n = 4 ∨ n = 5 ∨ n = 6 ∨ n = 7 ∨ n = 8 ∨ n = 9 ∨ n = 10 ∨ n = 11 ∨ n = 12 ∨ n = 13 ∨ n = 14 ∨ n = 15 ∨ n = 16 ∨ n = 17 ∨ n = 18 ∨ n = 19 ∨ n = 20 := by omega
  rcases hc with rfl | rfl | rfl | rfl | rfl | rfl | rfl | rfl | rfl | rfl | rfl | rfl | rfl | rfl | rfl | rfl | rfl | rfl | rfl | rfl | rfl
  all_goals
    go_enter Tryz.func79, Tryz.ntmps79
    go_wp2
    go_ret
    exact ⟨_, rfl, by simp [digF, hexd]; decide, rfl⟩
set_option maxHeartbeats 1000000 in
set_option maxRecDepth 100000 in
theorem dec_c (W : World) (x : Int) (h0 : 0 ≤ x) (h1 : x ≤ 20) : Calls Tryz.prog 44 #[.int .i64 x] W fun e W' => ∃ s, e = .returned (.string s) ∧ bs s = digF 10 x.toNat ∧ W' = W := by
  have hS := small_c W x.toNat (by omega)
  rw [show ((x.toNat : Nat) : Int) = x by omega] at hS
  have HB := Lib.hid hS
  clear hS
  have H2 : Hid (Calls Tryz.prog 66 #[.int .i64 x, .int .i64 10] W fun e W' => ∃ s, e = .returned (.string s) ∧ bs s = digF 10 x.toNat ∧ W' = W) := Lib.hid (by
    go_enter Tryz.func66, Tryz.ntmps66
    go_wp2_with fail
    refine HB.out.mono ?_
    rintro e w1 ⟨s, rfl, hs, rfl⟩
    have HS := Lib.hid hs
    clear hs
    go_wp2
    go_ret
    exact ⟨s, rfl, HS.out, rfl⟩)
  clear HB
  have H3 : Hid (Calls Tryz.prog 55 #[.int .i64 x] W fun e W' => ∃ s, e = .returned (.string s) ∧ bs s = digF 10 x.toNat ∧ W' = W) := Lib.hid (by
    go_enter Tryz.func55, Tryz.ntmps55
    go_wp2_with fail
    refine H2.out.mono ?_
    rintro e w1 ⟨s, rfl, hs, rfl⟩
    have HS := Lib.hid hs
    clear hs
    go_wp2
    go_ret
    exact ⟨s, rfl, HS.out, rfl⟩)
  clear H2
  go_enter Tryz.func44, Tryz.ntmps44
  go_wp2_with fail
  refine H3.out.mono ?_
  rintro e w1 ⟨s, rfl, hs, rfl⟩
  have HS := Lib.hid hs
  clear hs
  go_wp2
  go_ret
  exact ⟨s, rfl, HS.out, rfl⟩
/-- A scalar's sign. -/
theorem scalar_c (W : World) (h : Tz W) (x : Int) (h0 : 0 ≤ x) (h1 : x ≤ 1114111) : Calls Tryz.prog 41 #[.int .i64 x] W fun e W' => ∃ s, e = .returned (.string s) ∧ bs s = scT x ∧ s.size ≤ 10 ∧ Below W.heap.size W W' := by
  have HB := Lib.hid (hex_c W h x h0 h1)
  clear h
  go_enter Tryz.func41, Tryz.ntmps41
  go_wp2_with fail
  refine HB.out.mono ?_
  rintro e w1 ⟨s, rfl, hs, hb⟩
  have hl : s.size ≤ 6 := by
    have h6 : (digF 16 x.toNat).length ≤ 6 := dig_len (by omega) 5 _ (by omega)
    rw [← hs, bs_len] at h6
    exact h6
  have HS := Lib.hid (And.intro hs hb)
  clear hs hb
  go_wp2
  go_ret
  refine ⟨_, rfl, ?_, ?_, HS.out.2⟩
  · rw [bs_append, bs_append, HS.out.1]
    simp [scT, bs]
  · rw [ByteArray.size_append, ByteArray.size_append]
    have : (⟨#[92, 120, 123]⟩ : ByteArray).size = 3 := rfl
    have : (⟨#[125]⟩ : ByteArray).size = 1 := rfl
    omega
end Go.Proofs.YtdcnfflleaplnaaGreatDoor

/- Some texts are written one behind the other; kinds among some. -/
namespace Go.Proofs.YtdcnfflleaplnaaGreatDoor
open Go.RowKit Go.Shelf Go.Maps SetM PropsM RxM WrM

def strsV (ss : List ByteArray) : Array Value := (ss.map Value.string).toArray
def joinB (ss : List ByteArray) : List Int := ss.flatMap bs
theorem joinB_app (a b : List ByteArray) : joinB (a ++ b) = joinB a ++ joinB b := List.flatMap_append
theorem joinB_one (a : ByteArray) : joinB [a] = bs a := by unfold joinB; rw [List.flatMap_cons, List.flatMap_nil, List.append_nil]
theorem joinB_cons (a : ByteArray) (l : List ByteArray) : joinB (a :: l) = bs a ++ joinB l := List.flatMap_cons
/-- Is the kind among some? -/
def amB (ks : List Nat) (k : Nat) : Bool := ks.contains k
set_option maxHeartbeats 2000000 in
set_option maxRecDepth 100000 in
theorem put_c {B b g : Nat} {l : List Int} {w : World} (ss : List ByteArray) (n : Nat) (hn : n = ss.length) (h8 : n ≤ 100) (hb : Bl B b l w) (hg : w.heap[g]? = some (.cells (strsV ss) 9 (0, 0))) (hs : Safe b w g) (hlen : l.length + (joinB ss).length ≤ 140737488355328) :
    Calls Tryz.prog 27 #[.pointer (some ⟨b, 0, none⟩), .slice (some ⟨g, 0, none⟩) n n] w fun e w' => e = .returned (.tuple #[]) ∧ Bl B b (l ++ joinB ss) w' ∧ Fr b w w' := by
  have hgl := (Array.getElem?_eq_some_iff.1 hg).1
  have HC : Hid (∀ i (_ : i < ss.length), ∀ V, Fr b w V → V.cell? ⟨g, i, none⟩ = some (.string ss[i])) := Lib.hid (fun i hi V hV => hV.cell hgl hs (by
    rw [cell_of_row w g i _ _ _ hg]; simp [strsV, hi]))
  have HBL : Hid (Bl B b (l ++ joinB (ss.take 0)) w) := Lib.hid (by simpa [joinB] using hb)
  have HJ : Hid (∀ i (_ : i < ss.length), (joinB (ss.take i)).length + ss[i].size ≤ (joinB ss).length) := Lib.hid (fun i hi => by
    have e : ss = ss.take i ++ (ss[i] :: ss.drop (i + 1)) := by rw [← List.drop_eq_getElem_cons hi, List.take_append_drop]
    have h2 : joinB ss = joinB (ss.take i) ++ (bs ss[i] ++ joinB (ss.drop (i + 1))) := by
      conv => lhs; rw [e]
      rw [joinB_app, joinB_cons]
    rw [h2, List.length_append, List.length_append, bs_len]
    omega)
  have HN := Lib.hid hn
  clear hb hg hs hn
  go_enter Tryz.func27, Tryz.ntmps27
  go_wp2_with fail
  go_loopg [5, 8] n (fun r s5 s8 wx => ∃ (k : Nat), k + r = n ∧ s8 = .int .i64 k ∧ Hid (Bl B b (l ++ joinB (ss.take k)) wx) ∧ Hid (Fr b w wx))
  case atStart => exact ⟨0, by omega, rfl, HBL, Lib.hid (Fr.refl _ _)⟩
  case round =>
    obtain ⟨k, hk, rfl, HB, HF⟩ := hrel
    cases gk with
    | zero =>
      have hl : ¬ ((k : Int) < (n : Int)) := by omega
      have HB : Hid (Bl B b (l ++ joinB ss) wr) := Lib.hid (by
        have e : ss.take k = ss := List.take_of_length_le (by have := HN.out; omega)
        have h := HB.out
        rw [e] at h
        exact h)
      go_wp2
      go_end0
      exact ⟨rfl, HB.out, HF.out⟩
    | succ gk =>
      have hl : (k : Int) < (n : Int) := by omega
      have h0 : (0 : Int) ≤ (k : Int) := by omega
      have hkl : k < ss.length := by have := HN.out; omega
      have hc := HC.out k hkl wr HF.out
      have hj := HJ.out k hkl
      have HW := Lib.hid (write_c ss[k] HB.out (by rw [List.length_append]; omega))
      go_wp2_with fail
      refine HW.out.mono ?_
      rintro e w1 ⟨rfl, b1, f1⟩
      have HB1 : Hid (Bl B b (l ++ joinB (ss.take (k + 1))) w1) := Lib.hid (by
        have e2 : joinB (ss.take (k + 1)) = joinB (ss.take k) ++ bs ss[k] := by
          rw [List.take_succ_eq_append_getElem hkl, joinB_app, joinB_one]
        rw [e2, ← List.append_assoc]; exact b1)
      have HF1 := Lib.hid (HF.out.trans f1)
      clear b1 f1 HW HB HF hc
      go_wp2
      go_roundg gk
      case measure => omega
      case rel => exact ⟨k + 1, by omega, rfl, HB1, HF1⟩

/-! Kinds among some. -/
set_option maxHeartbeats 2000000 in
set_option maxRecDepth 100000 in
theorem index_c {w : World} {y c : Nat} (ks : List Nat) (k n : Nat) (hn : n = ks.length) (h8 : n ≤ 100) (hy : ∀ i (_ : i < ks.length), w.cell? ⟨y, i, none⟩ = some (.int .u8 (ks[i] : Nat))) :
    Calls Tryz.prog 54 #[.slice (some ⟨y, 0, none⟩) n c, .int .u8 k] w fun e w' => ∃ r : Int, e = .returned (.int .i64 r) ∧ (0 ≤ r ↔ amB ks k = true) ∧ w' = w := by
  have HY := Lib.hid hy
  clear hy
  go_enter Tryz.func54, Tryz.ntmps54
  go_wp2_with fail
  go_loopg [5, 8] n (fun r s5 s8 wx => ∃ (i : Nat), i + r = n ∧ s8 = .int .i64 i ∧ Hid (∀ j (_ : j < ks.length), j < i → ks[j] ≠ k) ∧ w = wx)
  case atStart => exact ⟨0, by omega, rfl, Lib.hid (fun j _ h => by omega), rfl⟩
  case round =>
    obtain ⟨i, hi, rfl, HN, rfl⟩ := hrel
    cases gk with
    | zero =>
      have hl : ¬ ((i : Int) < (n : Int)) := by omega
      have HQ : Hid ((0 : Int) ≤ -1 ↔ amB ks k = true) := Lib.hid (by
        refine ⟨fun h => by omega, fun h => ?_⟩
        obtain ⟨j, hj, e⟩ := List.mem_iff_getElem.1 (List.contains_iff_mem.1 h)
        exact absurd e (HN.out j hj (by omega)))
      go_wp2
      go_ret
      exact ⟨-1, rfl, HQ.out, rfl⟩
    | succ gk =>
      have hl : (i : Int) < (n : Int) := by omega
      have h0 : (0 : Int) ≤ (i : Int) := by omega
      have hil : i < ks.length := by omega
      have hc := HY.out i hil
      by_cases he : k = ks[i]
      · have hd : ((k : Int) == (ks[i] : Nat)) = true := by rw [he]; simp
        have HQ : Hid ((0 : Int) ≤ (i : Int) ↔ amB ks k = true) := Lib.hid ⟨fun _ => List.contains_iff_mem.2 (he ▸ List.getElem_mem hil), fun _ => h0⟩
        clear he
        go_wp2
        go_ret
        exact ⟨i, rfl, HQ.out, rfl⟩
      · have hd : ((k : Int) == (ks[i] : Nat)) = false := by rw [beq_eq_false_iff_ne]; omega
        have HN2 : Hid (∀ j (_ : j < ks.length), j < i + 1 → ks[j] ≠ k) := Lib.hid (fun j hj hji => by
          rcases (by omega : j < i ∨ j = i) with h | rfl
          · exact HN.out j hj h
          · exact fun e => he e.symm)
        clear he
        go_wp2
        go_roundg gk
        case measure => omega
        case rel => exact ⟨i + 1, by omega, rfl, HN2, rfl⟩
/-- The closure that says whether a kind is among some. -/
def AmV (W : World) (ks : List Nat) (x y c : Nat) : Prop :=
  W.heap[x]? = some (.cells #[.slice (some ⟨y, 0, none⟩) ks.length c] 22 (0, 0)) ∧ W.heap[y]? = some (.cells (ks.map fun k => Value.int .u8 (k : Nat)).toArray 5 (0, 0))
abbrev amV (x : Nat) : Value := .func (.func 42) #[] #[.pointer (some ⟨x, 0, none⟩)]
set_option maxHeartbeats 2000000 in
set_option maxRecDepth 100000 in
theorem among_c {w : World} {x y c : Nat} (ks : List Nat) (k : Nat) (h8 : ks.length ≤ 100) (h : AmV w ks x y c) :
    Calls Tryz.prog 42 #[.int .u8 k, .pointer (some ⟨x, 0, none⟩)] w fun e w' => e = .returned (.bool (amB ks k)) ∧ w' = w := by
  have hx : w.cell? ⟨x, 0, none⟩ = some (.slice (some ⟨y, 0, none⟩) ks.length c) := by rw [cell_of_row w x 0 _ _ _ h.1]; rfl
  have HI := Lib.hid (index_c (w := w) (y := y) (c := c) ks k ks.length rfl h8 (fun i hi => by rw [cell_of_row w y i _ _ _ h.2]; simp [hi]))
  have HC : Hid (Calls Tryz.prog 43 #[.slice (some ⟨y, 0, none⟩) ks.length c, .int .u8 k] w fun e w' => e = .returned (.bool (amB ks k)) ∧ w' = w) := Lib.hid (by
    clear hx h
    go_enter Tryz.func43, Tryz.ntmps43
    go_wp2_with fail
    refine HI.out.mono ?_
    rintro e w1 ⟨r, rfl, hr, rfl⟩
    cases hq : amB ks k with
    | true =>
      have h0 : 0 ≤ r := hr.2 hq
      have HQ := Lib.hid hq
      clear hr hq
      go_wp2
      go_ret
      exact ⟨by rw [HQ.out]; rfl, rfl⟩
    | false =>
      have h0 : decide (0 ≤ r) = false := decide_eq_false (fun h => by rw [hr.1 h] at hq; cases hq)
      have HQ := Lib.hid hq
      clear hr hq
      go_wp2
      go_ret
      exact ⟨by rw [HQ.out]; rfl, rfl⟩)
  clear HI h
  go_enter Tryz.func42, Tryz.ntmps42
  go_wp2_with fail
  refine HC.out.mono ?_
  rintro e w1 ⟨rfl, rfl⟩
  go_wp2
  go_ret
  exact ⟨rfl, rfl⟩
set_option maxHeartbeats 2000000 in
set_option maxRecDepth 100000 in
theorem oneOf_c {w : World} {y c n : Nat} : Calls Tryz.prog 30 #[.slice (some ⟨y, 0, none⟩) n c] w fun e w' => e = .returned (amV w.heap.size) ∧ w' = w.alloc (.cells #[.slice (some ⟨y, 0, none⟩) n c] 22) := by
  go_enter Tryz.func30, Tryz.ntmps30
  go_wp2
  go_ret
  exact ⟨rfl, rfl⟩
end Go.Proofs.YtdcnfflleaplnaaGreatDoor

/- A set is written in brackets; how often. -/
namespace Go.Proofs.YtdcnfflleaplnaaGreatDoor
open Go.RowKit Go.Shelf Go.Maps SetM PropsM RxM WrM

theorem put_new {B b : Nat} {l : List Int} {V : World} (ss : List ByteArray) (n : Nat) (hn : n = ss.length) (h8 : n ≤ 100) (hb : Bl B b l V) (hlen : l.length + (joinB ss).length ≤ 140737488355328) :
    Calls Tryz.prog 27 #[.pointer (some ⟨b, 0, none⟩), .slice (some ⟨V.heap.size, 0, none⟩) n n] (V.alloc (.cells (strsV ss) 9)) fun e w' => e = .returned (.tuple #[]) ∧ Bl B b (l ++ joinB ss) w' ∧ Fr b V w' :=
  (put_c ss n hn h8 (hb.alloc _) (heap_alloc_new V _) (hb.new _) hlen).mono fun _ _ ⟨h1, h2, h3⟩ => ⟨h1, h2, (hb.fr _).trans h3⟩
/-- What a writer needs beside the text: what it reads lies in the world W0, which is older. -/
structure Wt (W0 : World) (B : Nat) (w : World) : Prop where
  tz : Tz W0
  le : W0.heap.size ≤ B
  below : Below W0.heap.size W0 w
theorem Wt.fr {W0 w w' : World} {B b : Nat} {l : List Int} (h : Wt W0 B w) (hb : Bl B b l w) (hf : Fr b w w') : Wt W0 B w' := ⟨h.tz, h.le, h.below.trans (hf.below hb h.le)⟩
theorem Wt.t {W0 w : World} {B : Nat} (h : Wt W0 B w) : Tz w := (h.below.cell (p := ⟨_, 15, none⟩) (cell_lt h.tz)).trans h.tz
abbrev noneB : ByteArray := ⟨#[91, 94, 92, 120, 123, 48, 125, 45, 92, 120, 123, 49, 48, 102, 102, 102, 102, 125, 93]⟩
set_option maxHeartbeats 4000000 in
set_option maxRecDepth 100000 in
theorem class_c {W0 w : World} {B b sc n : Nat} {l : List Int} {sp : Option Addr} {sl : List Sp} (hn : n = sl.length) (h8 : n ≤ 100000) (hW : Wt W0 B w) (hb : Bl B b l w) (hs : Sl W0 sp sl) (hN : Norml sl) (hlen : l.length + (clsT sl).length ≤ 140737488355328) :
    Calls Tryz.prog 28 #[.pointer (some ⟨b, 0, none⟩), .slice sp n sc] w fun e w' => e = .returned (.tuple #[]) ∧ Bl B b (l ++ clsT sl) w' ∧ Fr b w w' := by
  by_cases h0 : sl = []
  · subst h0
    have hn0 : n = 0 := hn
    subst hn0
    have hc : clsT [] = joinB [noneB] := by decide
    rw [hc] at hlen ⊢
    have HP := Lib.hid (put_new [noneB] 1 rfl (by omega) hb hlen)
    clear hb hs hW hN hlen hc hn h8
    go_enter Tryz.func28, Tryz.ntmps28
    go_wp2_with fail
    refine HP.out.mono ?_
    rintro e w1 ⟨rfl, b1, f1⟩
    have H1 := Lib.hid (And.intro b1 f1)
    clear b1 f1 HP
    go_wp2
    go_returns
    exact ⟨rfl, H1.out.1, H1.out.2⟩
  · have hcls : clsT sl = 91 :: (sl.flatMap spT ++ [93]) := if_neg h0
    rw [hcls] at hlen ⊢
    have hpos : 0 < n := by have := List.length_pos_iff.2 h0; omega
    have hne : ((n : Int) == 0) = false := by rw [beq_eq_false_iff_ne]; omega
    have HN := Lib.hid hn
    have HLEN := Lib.hid hlen
    have HEN := Lib.hid (norml_ends hN)
    obtain ⟨gs, off, rfl, hgs, hcell⟩ := hs h0
    have HC := Lib.hid hcell
    have HGS := Lib.hid hgs
    have hP1 := put_new [⟨#[91]⟩] 1 rfl (by omega) hb (by rw [joinB_one]; have : (bs ⟨#[91]⟩).length = 1 := rfl; simp at hlen; omega)
    have HP := Lib.hid hP1
    have HW := Lib.hid hW
    have HB := Lib.hid hb
    clear hb hs hW hN hcell hgs hn hlen hcls hP1
    go_enter Tryz.func28, Tryz.ntmps28
    go_wp2_with fail
    refine HP.out.mono ?_
    rintro e w1 ⟨rfl, b1, f1⟩
    have HB1 : Hid (Bl B b (l ++ 91 :: (sl.take 0).flatMap spT) w1) := Lib.hid (by simpa [joinB, bs] using b1)
    have HF1 := Lib.hid f1
    clear b1 f1 HP
    go_wp2_with fail
    go_loopg [5, 17] n (fun r s5 s17 wx => ∃ (k : Nat), k + r = n ∧ s17 = .int .i64 k ∧ Hid (Bl B b (l ++ 91 :: (sl.take k).flatMap spT) wx) ∧ Hid (Fr b w wx))
    case atStart => exact ⟨0, by omega, rfl, HB1, HF1⟩
    case round =>
      clear HB1 HF1
      obtain ⟨k, hk, rfl, HB1, HF1⟩ := hrel
      cases gk with
      | zero =>
        have hl : ¬ ((k : Int) < (n : Int)) := by omega
        have HP2 := Lib.hid (put_new [⟨#[93]⟩] 1 rfl (by omega) HB1.out (by
          have e : sl.take k = sl := List.take_of_length_le (by have := HN.out; omega)
          rw [e]
          have h := HLEN.out
          rw [joinB_one]; have : (bs ⟨#[93]⟩).length = 1 := rfl
          simp at h ⊢; omega))
        go_wp2_with fail
        refine HP2.out.mono ?_
        rintro e w2 ⟨rfl, b2, f2⟩
        have HB2 : Hid (Bl B b (l ++ 91 :: (sl.flatMap spT ++ [93])) w2) := Lib.hid (by
          have e : sl.take k = sl := List.take_of_length_le (by have := HN.out; omega)
          rw [e, joinB_one] at b2
          simpa [bs] using b2)
        have HF2 := Lib.hid (HF1.out.trans f2)
        clear b2 f2 HP2
        go_wp2
        go_end0
        exact ⟨rfl, HB2.out, HF2.out⟩
      | succ gk =>
        have hl : (k : Int) < (n : Int) := by omega
        have h0 : (0 : Int) ≤ (k : Int) := by omega
        have hkl : k < sl.length := by have := HN.out; omega
        have hWr : Wt W0 B wr := HW.out.fr HB.out HF1.out
        obtain ⟨c0, c1⟩ := HC.out k hkl
        have d0 := (hWr.below.cell (p := ⟨gs, off + k * 2, none⟩) HGS.out).trans c0
        have d1 := (hWr.below.cell (p := ⟨gs, off + k * 2 + 1, none⟩) HGS.out).trans c1
        obtain ⟨x, hx⟩ : ∃ x, x = sl[k].1 := ⟨_, rfl⟩
        obtain ⟨y, hy⟩ : ∃ y, y = sl[k].2 := ⟨_, rfl⟩
        rw [← hx] at d0
        rw [← hy] at d1
        have HX := Lib.hid hx
        have HY := Lib.hid hy
        have HWr := Lib.hid hWr
        clear c0 c1 hx hy hWr
        obtain ⟨V, hV⟩ : ∃ V, V = wr.alloc (.cells #[.int .i64 x, .int .i64 y] 73) := ⟨_, rfl⟩
        have hx0 : 0 ≤ x ∧ x ≤ 1114111 := by
          have h := (HEN.out sl[k] (List.getElem_mem hkl)).1
          rw [← HX.out] at h
          unfold Sc at h; omega
        have hy0 : 0 ≤ y ∧ y ≤ 1114111 := by
          have h := (HEN.out sl[k] (List.getElem_mem hkl)).2.1
          rw [← HY.out] at h
          unfold Sc at h; omega
        have e0 : V.cell? ⟨wr.heap.size, 0, none⟩ = some (.int .i64 x) := by rw [hV, cell_of_row _ wr.heap.size 0 _ _ _ (heap_alloc_new wr _)]; rfl
        have e1 : V.cell? ⟨wr.heap.size, 1, none⟩ = some (.int .i64 y) := by rw [hV, cell_of_row _ wr.heap.size 1 _ _ _ (heap_alloc_new wr _)]; rfl
        have hvz : V.heap.size = wr.heap.size + 1 := by rw [hV, World.size_alloc]
        have hbV : Bl B b (l ++ 91 :: (sl.take k).flatMap spT) V := by rw [hV]; exact HB1.out.alloc _
        have HFV : Hid (Fr b wr V) := Lib.hid (by rw [hV]; exact HB1.out.fr _)
        have HBV := Lib.hid hbV
        have HS := Lib.hid (fun (U : World) (hU : Below V.heap.size V U) => (⟨(hU.cell (p := ⟨wr.heap.size, 0, none⟩) (by show wr.heap.size < _; omega)).trans e0, (hU.cell (p := ⟨wr.heap.size, 1, none⟩) (by show wr.heap.size < _; omega)).trans e1⟩ : U.cell? ⟨wr.heap.size, 0, none⟩ = some (.int .i64 x) ∧ U.cell? ⟨wr.heap.size, 1, none⟩ = some (.int .i64 y)))
        have hns : Safe b V wr.heap.size := by rw [hV]; exact HB1.out.new _
        have HS2 := Lib.hid (fun (U U' : World) (hU : Below V.heap.size V U) (hf : Fr b U U') => (⟨hf.cell (by have := hU.size; omega) ((Fr.of_below hbV hU).keep _ (by omega) hns).2 (HS.out U hU).1, hf.cell (by have := hU.size; omega) ((Fr.of_below hbV hU).keep _ (by omega) hns).2 (HS.out U hU).2⟩ : U'.cell? ⟨wr.heap.size, 0, none⟩ = some (.int .i64 x) ∧ U'.cell? ⟨wr.heap.size, 1, none⟩ = some (.int .i64 y)))
        have HT := Lib.hid (fun (U : World) (hU : Below V.heap.size V U) => (HWr.out.fr HB1.out (HFV.out.trans (Fr.of_below hbV hU))).t)
        have HLN : Hid (∀ s3 s4, bs s3 = scT x → bs s4 = scT y → (l ++ 91 :: (sl.take k).flatMap spT).length + (joinB [s3, ⟨#[45]⟩, s4]).length ≤ 140737488355328) := Lib.hid (fun s3 s4 h3 h4 => by
          have e : sl = sl.take k ++ (sl[k] :: sl.drop (k + 1)) := by rw [← List.drop_eq_getElem_cons hkl, List.take_append_drop]
          have h := HLEN.out
          rw [e] at h
          have e2 : joinB [s3, ⟨#[45]⟩, s4] = spT sl[k] := by
            rw [joinB_cons, joinB_cons, joinB_one, h3, h4]
            rw [HX.out, HY.out]
            rfl
          rw [e2]
          simp only [List.flatMap_append, List.flatMap_cons, List.length_append, List.length_cons] at h ⊢
          omega)
        clear hbV hns
        go_wp2_with fail
        rw [← hV]
        clear hV
        have hr : Below V.heap.size V V.drew := (Below.refl _ _).drew
        go_region_held3 (fun U => U.cell? ⟨wr.heap.size, 0, none⟩ = some (.int .i64 x) ∧ U.cell? ⟨wr.heap.size, 1, none⟩ = some (.int .i64 y))
          (first | exact HS.out _ hr | exact HS.out _ (hr.alloc hr.size _) | exact hq)
          (first
            | (go_at_call 41; (refine (scalar_c _ (HT.out _ hr) x hx0.1 hx0.2).mono ?_); rintro e w3 ⟨s3, rfl, hs3, hz3, b3⟩; have hr := hr.trans (b3.mono hr.size))
            | (go_at_call 41; (refine (scalar_c _ (HT.out _ hr) y hy0.1 hy0.2).mono ?_); rintro e w4 ⟨s4, rfl, hs4, hz4, b4⟩; have hr := hr.trans (b4.mono hr.size))
            | (go_at_call 27; (refine (put_new [s3, ⟨#[45]⟩, s4] 3 rfl (by omega) (HBV.out.below hr) (HLN.out s3 s4 hs3 hs4)).mono ?_); rintro e w5 ⟨rfl, b5, f5⟩; have hq := HS2.out _ _ hr f5))
        have HB5 : Hid (Bl B b (l ++ 91 :: (sl.take (k + 1)).flatMap spT) w5) := Lib.hid (by
          have e2 : joinB [s3, ⟨#[45]⟩, s4] = spT sl[k] := by
            rw [joinB_cons, joinB_cons, joinB_one, hs3, hs4]
            rw [HX.out, HY.out]
            rfl
          rw [e2, List.append_assoc] at b5
          rw [List.take_succ_eq_append_getElem hkl, List.flatMap_append]
          simpa using b5)
        have HF5 := Lib.hid (HF1.out.trans (HFV.out.trans ((Fr.of_below HBV.out hr).trans f5)))
        clear b5 f5 hq hr b3 b4 HS HS2 HT HLN HBV HFV HB1 HF1 e0 e1 d0 d1
        go_wp2
        go_roundg gk
        case measure => omega
        case rel => exact ⟨k + 1, by omega, rfl, HB5, HF5⟩
set_option maxHeartbeats 4000000 in
set_option maxRecDepth 100000 in
theorem times_c {w : World} {B b : Nat} {l : List Int} {mn mx : Int} (hb : Bl B b l w) (h1 : 0 ≤ mn ∧ mn ≤ 20) (h2 : mx = -1 ∨ (mn ≤ mx ∧ mx ≤ 20)) (hlen : l.length + (timesT mn mx).length ≤ 140737488355328) :
    Calls Tryz.prog 31 #[.pointer (some ⟨b, 0, none⟩), .int .i64 mn, .int .i64 mx] w fun e w' => e = .returned (.tuple #[]) ∧ Bl B b (l ++ timesT mn mx) w' ∧ Fr b w w' := by
  have HD := Lib.hid (dec_c w mn h1.1 h1.2)
  have HB := Lib.hid hb
  have HL := Lib.hid hlen
  clear hb hlen
  by_cases hx : mx = -1
  · subst hx
    have e0 : timesT mn (-1) = 123 :: (digF 10 mn.toNat ++ [44, 125]) := by unfold timesT; rw [if_pos rfl]; rfl
    rw [e0] at HL ⊢
    clear h2
    go_enter Tryz.func31, Tryz.ntmps31
    go_wp2_with fail
    refine HD.out.mono ?_
    rintro e w1 ⟨s, rfl, hs, rfl⟩
    have hj : joinB [⟨#[123]⟩, s, ⟨#[44]⟩] = 123 :: (digF 10 mn.toNat ++ [44]) := by rw [joinB_cons, joinB_cons, joinB_one, hs]; rfl
    have HP := Lib.hid (put_new [⟨#[123]⟩, s, ⟨#[44]⟩] 3 rfl (by omega) HB.out (by have h := HL.out; rw [hj]; simp at h ⊢; omega))
    rw [hj] at HP
    clear hs hj
    go_wp2_with fail
    refine HP.out.mono ?_
    rintro e w2 ⟨rfl, b2, f2⟩
    have HB2 := Lib.hid b2
    have HF2 := Lib.hid f2
    have HP2 := Lib.hid (put_new [⟨#[125]⟩] 1 rfl (by omega) b2 (by have h := HL.out; rw [joinB_one]; have : (bs ⟨#[125]⟩).length = 1 := rfl; simp at h ⊢; omega))
    clear b2 f2 HP
    go_wp2_with fail
    refine HP2.out.mono ?_
    rintro e w3 ⟨rfl, b3, f3⟩
    have H3 : Hid (Bl B b (l ++ 123 :: (digF 10 mn.toNat ++ [44, 125])) w3 ∧ Fr b w1 w3) := Lib.hid ⟨by rw [joinB_one] at b3; simpa [bs] using b3, HF2.out.trans f3⟩
    clear b3 f3
    go_wp2
    go_end0
    exact ⟨rfl, H3.out.1, H3.out.2⟩
  · have e0 : timesT mn mx = 123 :: (digF 10 mn.toNat ++ 44 :: (digF 10 mx.toNat ++ [125])) := by unfold timesT; rw [if_neg hx]
    rw [e0] at HL ⊢
    have hx2 : (mx != -1) = true := by simpa using hx
    have HX := Lib.hid (show 0 ≤ mx ∧ mx ≤ 20 by omega)
    clear h2 hx
    go_enter Tryz.func31, Tryz.ntmps31
    go_wp2_with fail
    refine HD.out.mono ?_
    rintro e w1 ⟨s, rfl, hs, rfl⟩
    have hj : joinB [⟨#[123]⟩, s, ⟨#[44]⟩] = 123 :: (digF 10 mn.toNat ++ [44]) := by rw [joinB_cons, joinB_cons, joinB_one, hs]; rfl
    have HP := Lib.hid (put_new [⟨#[123]⟩, s, ⟨#[44]⟩] 3 rfl (by omega) HB.out (by have h := HL.out; rw [hj]; simp at h ⊢; omega))
    rw [hj] at HP
    clear hs hj
    go_wp2_with fail
    refine HP.out.mono ?_
    rintro e w2 ⟨rfl, b2, f2⟩
    have HB2 := Lib.hid b2
    have HF2 := Lib.hid f2
    have HD2 := Lib.hid (dec_c w2 mx HX.out.1 HX.out.2)
    clear b2 f2 HP
    go_wp2_with fail
    refine HD2.out.mono ?_
    rintro e w3 ⟨s2, rfl, hs2, rfl⟩
    have HP3 := Lib.hid (put_new [s2] 1 rfl (by omega) HB2.out (by have h := HL.out; rw [joinB_one, hs2]; simp at h ⊢; omega))
    rw [joinB_one, hs2] at HP3
    clear hs2 HD2
    go_wp2_with fail
    refine HP3.out.mono ?_
    rintro e w4 ⟨rfl, b4, f4⟩
    have HB4 := Lib.hid b4
    have HF4 := Lib.hid (HF2.out.trans f4)
    have HP2 := Lib.hid (put_new [⟨#[125]⟩] 1 rfl (by omega) b4 (by have h := HL.out; rw [joinB_one]; have : (bs ⟨#[125]⟩).length = 1 := rfl; simp at h ⊢; omega))
    clear b4 f4 HP3
    go_wp2_with fail
    refine HP2.out.mono ?_
    rintro e w5 ⟨rfl, b5, f5⟩
    have H3 : Hid (Bl B b (l ++ 123 :: (digF 10 mn.toNat ++ 44 :: (digF 10 mx.toNat ++ [125]))) w5 ∧ Fr b w1 w5) := Lib.hid ⟨by rw [joinB_one] at b5; simpa [bs] using b5, HF4.out.trans f5⟩
    clear b5 f5
    go_wp2
    go_end0
    exact ⟨rfl, H3.out.1, H3.out.2⟩
end Go.Proofs.YtdcnfflleaplnaaGreatDoor

/- A node's text is written. -/
namespace Go.Proofs.YtdcnfflleaplnaaGreatDoor
open Go.RowKit Go.Shelf Go.Maps SetM PropsM RxM WrM

/-- What the writer of a node does. -/
def NodeW (t : Ns) : Prop := ∀ (W0 w : World) (B b : Nat) (l : List Int) (v : Value), Wt W0 B w → Bl B b l w → RV W0 v t → Shp t → l.length + (txt t).length ≤ 140737488355328 →
  Calls Tryz.prog 18 #[.pointer (some ⟨b, 0, none⟩), v] w fun e w' => e = .returned (.tuple #[]) ∧ Bl B b (l ++ txt t) w' ∧ Fr b w w'
theorem AmV.fr {b : Nat} {ks : List Nat} {x y c : Nat} {w w' : World} (h : AmV w ks x y c) (hx : Safe b w x) (hy : Safe b w y) (hf : Fr b w w') : AmV w' ks x y c :=
  ⟨(hf.keep x (Array.getElem?_eq_some_iff.1 h.1).1 hx).1.trans h.1, (hf.keep y (Array.getElem?_eq_some_iff.1 h.2).1 hy).1.trans h.2⟩
def joinK (ks : List Nat) (sep : List Int) (l : List Ns) : List Int := (kidsT ks sep l).drop sep.length
theorem joinK_nil (ks : List Nat) (sep : List Int) : joinK ks sep [] = [] := by unfold joinK; rw [kidsT_nil]; simp
theorem joinK_next (ks : List Nat) (sep : List Int) (l : List Ns) (x : Ns) : joinK ks sep (l ++ [x]) = joinK ks sep l ++ ((if l = [] then [] else sep) ++ inT ks x) := by
  unfold joinK
  rw [kidsT_append, kidsT_cons, kidsT_nil, List.append_nil]
  cases l with
  | nil => rw [kidsT_nil]; simp
  | cons y l =>
    rw [if_neg (by simp), List.drop_append_of_le_length (by rw [kidsT_cons]; simp)]
theorem joinK_take (ks : List Nat) (sep : List Int) (l : List Ns) (k : Nat) (hk : k < l.length) : joinK ks sep (l.take (k + 1)) = joinK ks sep (l.take k) ++ ((if k = 0 then [] else sep) ++ inT ks l[k]) := by
  rw [List.take_succ_eq_append_getElem hk, joinK_next]
  congr 2
  by_cases h0 : k = 0
  · subst h0; simp
  · rw [if_neg h0, if_neg (by intro e; have := congrArg List.length e; rw [List.length_take] at this; simp only [List.length_nil] at this; omega)]
theorem joinK_le (ks : List Nat) (sep : List Int) (l : List Ns) (k : Nat) : (joinK ks sep (l.take k)).length ≤ (joinK ks sep l).length := by
  have e : kidsT ks sep l = kidsT ks sep (l.take k) ++ kidsT ks sep (l.drop k) := by rw [← kidsT_append, List.take_append_drop]
  unfold joinK
  rw [e, List.length_drop, List.length_drop, List.length_append]
  omega
set_option maxHeartbeats 8000000 in
set_option maxRecDepth 100000 in
theorem kids_w {W0 w : World} {B b x y c kc n : Nat} {l : List Int} {kp : Option Addr} (ks : List Nat) (sep : ByteArray) (kids : List Ns) (hn : n = kids.length) (h8 : n ≤ 1000) (hks : ks.length ≤ 100) (hW : Wt W0 B w) (hb : Bl B b l w)
    (hA : AmV w ks x y c) (hx : Safe b w x) (hy : Safe b w y)
    (hk : kids ≠ [] → ∃ g, kp = some ⟨g, 0, none⟩ ∧ (∃ cs, W0.heap[g]? = some (.cells cs 26 (0, 0))) ∧ ∀ i (hi : i < kids.length), ∃ u, RV W0 u kids[i] ∧ ∀ j, j < 5 → W0.cell? ⟨g, i * 5 + j, none⟩ = (kidParts u)[j]?)
    (hS : ∀ t ∈ kids, Shp t) (ih : ∀ t ∈ kids, NodeW t) (hlen : l.length + (joinK ks (bs sep) kids).length ≤ 140737488355328) :
    Calls Tryz.prog 29 #[.pointer (some ⟨b, 0, none⟩), .slice kp n kc, .string sep, amV x] w fun e w' => e = .returned (.tuple #[]) ∧ Bl B b (l ++ joinK ks (bs sep) kids) w' ∧ Fr b w w' := by
  have HN := Lib.hid hn
  have HW := Lib.hid hW
  have HB := Lib.hid hb
  have HA := Lib.hid hA
  have HX := Lib.hid hx
  have HY := Lib.hid hy
  have HK := Lib.hid hk
  have HS := Lib.hid hS
  have HI := Lib.hid ih
  have HL := Lib.hid hlen
  clear hn hW hb hA hx hy hk hS ih hlen
  go_enter Tryz.func29, Tryz.ntmps29
  go_wp2_with fail
  go_loopg [8, 9, 12] n (fun r s8 s9 s12 wx => ∃ (k : Nat), k + r = n ∧ s12 = .int .i64 k ∧ Hid (Bl B b (l ++ joinK ks (bs sep) (kids.take k)) wx) ∧ Hid (Fr b w wx))
  case atStart => exact ⟨0, by omega, rfl, Lib.hid (by rw [List.take_zero, joinK_nil, List.append_nil]; exact HB.out), Lib.hid (Fr.refl _ _)⟩
  case round =>
    obtain ⟨k, hk, rfl, HBk, HF⟩ := hrel
    cases gk with
    | zero =>
      have hl : ¬ ((k : Int) < (n : Int)) := by omega
      have HBe : Hid (Bl B b (l ++ joinK ks (bs sep) kids) wr) := Lib.hid (by
        have e : kids.take k = kids := List.take_of_length_le (by have := HN.out; omega)
        have h := HBk.out
        rw [e] at h
        exact h)
      go_wp2
      go_end0
      exact ⟨rfl, HBe.out, HF.out⟩
    | succ gk =>
      have hl : (k : Int) < (n : Int) := by omega
      have h0 : (0 : Int) ≤ (k : Int) := by omega
      have hkl : k < kids.length := by have := HN.out; omega
      obtain ⟨g, rfl, ⟨cs, hcs⟩, hcell⟩ := HK.out (fun e => by rw [e] at hkl; cases hkl)
      have hgl := (Array.getElem?_eq_some_iff.1 hcs).1
      obtain ⟨u, hu, hc⟩ := hcell k hkl
      have HWr := Lib.hid (HW.out.fr HB.out HF.out)
      obtain ⟨t, ht⟩ : ∃ t, t = kids[k] := ⟨_, rfl⟩
      rw [← ht] at hu
      obtain ⟨kd, tsl, tk, tmn, tmx⟩ := t
      obtain ⟨tsp, tsc, tkp, tkc, rfl, hu8, _⟩ := hu.read
      have d0 := (HWr.out.below.cell (p := ⟨g, k * 5 + 0, none⟩) hgl).trans (hc 0 (by omega))
      have d1 := (HWr.out.below.cell (p := ⟨g, k * 5 + 1, none⟩) hgl).trans (hc 1 (by omega))
      have d2 := (HWr.out.below.cell (p := ⟨g, k * 5 + 2, none⟩) hgl).trans (hc 2 (by omega))
      have d3 := (HWr.out.below.cell (p := ⟨g, k * 5 + 3, none⟩) hgl).trans (hc 3 (by omega))
      have d4 := (HWr.out.below.cell (p := ⟨g, k * 5 + 4, none⟩) hgl).trans (hc 4 (by omega))
      simp only [kidParts, Nat.add_zero] at d0 d1 d2 d3 d4
      simp at d0 d1 d2 d3 d4
      obtain ⟨tn, htn⟩ : ∃ tn, tn = tsl.length := ⟨_, rfl⟩
      obtain ⟨tkn, htkn⟩ : ∃ tkn, tkn = tk.length := ⟨_, rfl⟩
      rw [← htn] at d1 hu
      rw [← htkn] at d2 hu
      have HU := Lib.hid hu
      have HT := Lib.hid ht
      have hm : Ns.mk kd tsl tk tmn tmx ∈ kids := by rw [ht]; exact List.getElem_mem hkl
      have HKW := Lib.hid (HI.out _ hm)
      have HSK := Lib.hid (HS.out _ hm)
      have HJ : Hid (joinK ks (bs sep) (kids.take (k + 1)) = joinK ks (bs sep) (kids.take k) ++ ((if k = 0 then [] else bs sep) ++ inT ks (Ns.mk kd tsl tk tmn tmx))) := Lib.hid (by rw [ht]; exact joinK_take ks (bs sep) kids k hkl)
      have HJL : Hid (l.length + (joinK ks (bs sep) (kids.take (k + 1))).length ≤ 140737488355328) := Lib.hid (by have := joinK_le ks (bs sep) kids (k + 1); have := HL.out; omega)
      obtain ⟨V, hV⟩ : ∃ V, V = wr.alloc (.cells #[.int .u8 kd, .slice tsp tn tsc, .slice tkp tkn tkc, .int .i64 tmn, .int .i64 tmx] 26) := ⟨_, rfl⟩
      have hvz : V.heap.size = wr.heap.size + 1 := by rw [hV, World.size_alloc]
      have hnew : V.heap[wr.heap.size]? = some (.cells #[.int .u8 kd, .slice tsp tn tsc, .slice tkp tkn tkc, .int .i64 tmn, .int .i64 tmx] 26 (0, 0)) := by rw [hV]; exact heap_alloc_new wr _
      have hns : Safe b V wr.heap.size := by rw [hV]; exact HBk.out.new _
      have HBV : Hid (Bl B b (l ++ joinK ks (bs sep) (kids.take k)) V) := Lib.hid (by rw [hV]; exact HBk.out.alloc _)
      have HFV : Hid (Fr b w V) := Lib.hid (HF.out.trans (by rw [hV]; exact HBk.out.fr _))
      have HBX := Lib.hid (fun (U : World) (hU : Fr b V U) => (⟨hU.cell (by omega) hns (by rw [cell_of_row V _ 0 _ _ _ hnew]; rfl), hU.cell (by omega) hns (by rw [cell_of_row V _ 1 _ _ _ hnew]; rfl), hU.cell (by omega) hns (by rw [cell_of_row V _ 2 _ _ _ hnew]; rfl), hU.cell (by omega) hns (by rw [cell_of_row V _ 3 _ _ _ hnew]; rfl), hU.cell (by omega) hns (by rw [cell_of_row V _ 4 _ _ _ hnew]; rfl)⟩ : U.cell? ⟨wr.heap.size, 0, none⟩ = some (.int .u8 kd) ∧ U.cell? ⟨wr.heap.size, 1, none⟩ = some (.slice tsp tn tsc) ∧ U.cell? ⟨wr.heap.size, 2, none⟩ = some (.slice tkp tkn tkc) ∧ U.cell? ⟨wr.heap.size, 3, none⟩ = some (.int .i64 tmn) ∧ U.cell? ⟨wr.heap.size, 4, none⟩ = some (.int .i64 tmx)))
      have HAM := Lib.hid (fun (U : World) (hU : Fr b V U) => among_c ks kd hks (HA.out.fr HX.out HY.out (HFV.out.trans hU)))
      have HWV := Lib.hid (HW.out.fr HB.out HFV.out)
      have hc0 := HBX.out V (Fr.refl _ _)
      obtain ⟨k0, k1, k2, k3, k4⟩ := hc0
      have HVZ := Lib.hid hvz
      clear hvz hcs hcell hc hu ht hm htn htkn hnew hns HBk
      rcases (by omega : k = 0 ∨ 0 < k) with hk0 | hk0
      · have HK0 := Lib.hid hk0
        have hz : ¬ 0 < k := by omega
        have HR := Lib.hid (Fr.refl b V)
        clear hk0
        go_wp2_with fail
        rw [← hV]
        clear hV
        refine (HAM.out _ HR.out).mono ?_
        rintro e wa ⟨rfl, rfl⟩
        cases hq : amB ks kd with
        | true =>
          have hin : inT ks (Ns.mk kd tsl tk tmn tmx) = 40 :: (txt (Ns.mk kd tsl tk tmn tmx) ++ [41]) := in_yes hq
          rw [hin] at HJ
          clear hq hin
          have HP1 := Lib.hid (put_new [⟨#[40]⟩] 1 rfl (by omega) HBV.out (by have h := HJL.out; rw [HJ.out] at h; have : (bs ⟨#[40]⟩).length = 1 := rfl; simp only [if_pos HK0.out, joinB_one, List.length_append, List.length_cons, List.length_nil] at h ⊢; omega))
          go_wp2_with fail
          refine HP1.out.mono ?_
          rintro e w5 ⟨rfl, b5, f5⟩
          obtain ⟨k0, k1, k2, k3, k4⟩ := HBX.out _ (HR.out.trans f5)
          have HF5 := Lib.hid (HR.out.trans f5)
          have HN5 := Lib.hid (HKW.out W0 w5 B b _ _ (HWV.out.fr HBV.out HF5.out) b5 HU.out HSK.out (by have h := HJL.out; rw [HJ.out] at h; have : (bs ⟨#[40]⟩).length = 1 := rfl; simp only [if_pos HK0.out, joinB_one, List.length_append, List.length_cons, List.length_nil] at h ⊢; omega))
          clear b5 f5 HP1
          go_wp2_with fail
          refine HN5.out.mono ?_
          rintro e w6 ⟨rfl, b6, f6⟩
          have HF6 := Lib.hid (HF5.out.trans f6)
          have HP7 := Lib.hid (put_new [⟨#[41]⟩] 1 rfl (by omega) b6 (by have h := HJL.out; rw [HJ.out] at h; have : (bs ⟨#[40]⟩).length = 1 := rfl; have : (bs ⟨#[41]⟩).length = 1 := rfl; simp only [if_pos HK0.out, joinB_one, List.length_append, List.length_cons, List.length_nil] at h ⊢; omega))
          clear b6 f6 HN5 HF5 k0 k1 k2 k3 k4
          go_wp2_with fail
          refine HP7.out.mono ?_
          rintro e w7 ⟨rfl, b7, f7⟩
          have HB7 : Hid (Bl B b (l ++ joinK ks (bs sep) (kids.take (k + 1))) w7) := Lib.hid (by
            rw [HJ.out, if_pos HK0.out]
            rw [joinB_one, joinB_one] at b7
            simpa [bs] using b7)
          have HF7 := Lib.hid (HFV.out.trans (HF6.out.trans f7))
          clear b7 f7 HP7
          go_wp2
          go_roundg gk
          case measure => omega
          case rel => exact ⟨k + 1, by omega, rfl, HB7, HF7⟩
        | false =>
          have hin : inT ks (Ns.mk kd tsl tk tmn tmx) = txt (Ns.mk kd tsl tk tmn tmx) := in_no hq
          rw [hin] at HJ
          clear hq hin
          have HN5 := Lib.hid (HKW.out W0 _ B b _ _ (HWV.out.fr HBV.out HR.out) HBV.out HU.out HSK.out (by have h := HJL.out; rw [HJ.out] at h; simp only [if_pos HK0.out, List.length_append, List.length_nil] at h ⊢; omega))
          obtain ⟨k0, k1, k2, k3, k4⟩ := HBX.out _ HR.out
          go_wp2_with fail
          refine HN5.out.mono ?_
          rintro e w7 ⟨rfl, b7, f7⟩
          have HB7 : Hid (Bl B b (l ++ joinK ks (bs sep) (kids.take (k + 1))) w7) := Lib.hid (by
            rw [HJ.out, if_pos HK0.out]
            simpa [bs] using b7)
          have HF7 := Lib.hid (HFV.out.trans (HR.out.trans f7))
          clear b7 f7 HN5 k0 k1 k2 k3 k4
          go_wp2
          go_roundg gk
          case measure => omega
          case rel => exact ⟨k + 1, by omega, rfl, HB7, HF7⟩
      · have HK0 : Hid (¬ k = 0) := Lib.hid (by omega)
        have HP := Lib.hid (put_new [sep] 1 rfl (by omega) HBV.out (by have h := HJL.out; rw [HJ.out, if_neg HK0.out] at h; rw [joinB_one]; simp only [List.length_append] at h ⊢; omega))
        go_wp2_with fail
        rw [← hV, ← HVZ.out]
        clear hV
        refine HP.out.mono ?_
        rintro e w4 ⟨rfl, b4, f4⟩
        have HB4 := Lib.hid b4
        have HR := Lib.hid f4
        obtain ⟨k0, k1, k2, k3, k4⟩ := HBX.out _ f4
        clear b4 f4 HP
        go_wp2_with fail
        refine (HAM.out _ HR.out).mono ?_
        rintro e wa ⟨rfl, rfl⟩
        cases hq : amB ks kd with
        | true =>
          have hin : inT ks (Ns.mk kd tsl tk tmn tmx) = 40 :: (txt (Ns.mk kd tsl tk tmn tmx) ++ [41]) := in_yes hq
          rw [hin] at HJ
          clear hq hin
          have HP1 := Lib.hid (put_new [⟨#[40]⟩] 1 rfl (by omega) HB4.out (by have h := HJL.out; rw [HJ.out] at h; have : (bs ⟨#[40]⟩).length = 1 := rfl; simp only [if_neg HK0.out, joinB_one, List.length_append, List.length_cons, List.length_nil] at h ⊢; omega))
          go_wp2_with fail
          refine HP1.out.mono ?_
          rintro e w5 ⟨rfl, b5, f5⟩
          obtain ⟨k0, k1, k2, k3, k4⟩ := HBX.out _ (HR.out.trans f5)
          have HF5 := Lib.hid (HR.out.trans f5)
          have HN5 := Lib.hid (HKW.out W0 w5 B b _ _ (HWV.out.fr HBV.out HF5.out) b5 HU.out HSK.out (by have h := HJL.out; rw [HJ.out] at h; have : (bs ⟨#[40]⟩).length = 1 := rfl; simp only [if_neg HK0.out, joinB_one, List.length_append, List.length_cons, List.length_nil] at h ⊢; omega))
          clear b5 f5 HP1
          go_wp2_with fail
          refine HN5.out.mono ?_
          rintro e w6 ⟨rfl, b6, f6⟩
          have HF6 := Lib.hid (HF5.out.trans f6)
          have HP7 := Lib.hid (put_new [⟨#[41]⟩] 1 rfl (by omega) b6 (by have h := HJL.out; rw [HJ.out] at h; have : (bs ⟨#[40]⟩).length = 1 := rfl; have : (bs ⟨#[41]⟩).length = 1 := rfl; simp only [if_neg HK0.out, joinB_one, List.length_append, List.length_cons, List.length_nil] at h ⊢; omega))
          clear b6 f6 HN5 HF5 k0 k1 k2 k3 k4
          go_wp2_with fail
          refine HP7.out.mono ?_
          rintro e w7 ⟨rfl, b7, f7⟩
          have HB7 : Hid (Bl B b (l ++ joinK ks (bs sep) (kids.take (k + 1))) w7) := Lib.hid (by
            rw [HJ.out, if_neg HK0.out]
            rw [joinB_one, joinB_one, joinB_one] at b7
            simpa [bs] using b7)
          have HF7 := Lib.hid (HFV.out.trans (HF6.out.trans f7))
          clear b7 f7 HP7
          go_wp2
          go_roundg gk
          case measure => omega
          case rel => exact ⟨k + 1, by omega, rfl, HB7, HF7⟩
        | false =>
          have hin : inT ks (Ns.mk kd tsl tk tmn tmx) = txt (Ns.mk kd tsl tk tmn tmx) := in_no hq
          rw [hin] at HJ
          clear hq hin
          have HN5 := Lib.hid (HKW.out W0 _ B b _ _ (HWV.out.fr HBV.out HR.out) HB4.out HU.out HSK.out (by have h := HJL.out; rw [HJ.out] at h; rw [joinB_one]; simp only [if_neg HK0.out, List.length_append] at h ⊢; omega))
          obtain ⟨k0, k1, k2, k3, k4⟩ := HBX.out _ HR.out
          go_wp2_with fail
          refine HN5.out.mono ?_
          rintro e w7 ⟨rfl, b7, f7⟩
          have HB7 : Hid (Bl B b (l ++ joinK ks (bs sep) (kids.take (k + 1))) w7) := Lib.hid (by
            rw [HJ.out, if_neg HK0.out]
            rw [joinB_one] at b7
            simpa [bs] using b7)
          have HF7 := Lib.hid (HFV.out.trans (HR.out.trans f7))
          clear b7 f7 HN5 k0 k1 k2 k3 k4
          go_wp2
          go_roundg gk
          case measure => omega
          case rel => exact ⟨k + 1, by omega, rfl, HB7, HF7⟩
end Go.Proofs.YtdcnfflleaplnaaGreatDoor

/- A node's text is written: a node of each kind. -/
namespace Go.Proofs.YtdcnfflleaplnaaGreatDoor
open Go.RowKit Go.Shelf Go.Maps SetM PropsM RxM WrM

def kindsV (ks : List Nat) : Array Value := (ks.map fun k => Value.int .u8 (k : Nat)).toArray
theorem kids_new {W0 V : World} {B b kc n m : Nat} {l : List Int} {kp : Option Addr} (ks : List Nat) (hm : m = ks.length) (sep : ByteArray) (kids : List Ns) (hn : n = kids.length) (h8 : n ≤ 1000) (hks : ks.length ≤ 100) (hW : Wt W0 B V) (hb : Bl B b l V)
    (hk : kids ≠ [] → ∃ g, kp = some ⟨g, 0, none⟩ ∧ (∃ cs, W0.heap[g]? = some (.cells cs 26 (0, 0))) ∧ ∀ i (hi : i < kids.length), ∃ u, RV W0 u kids[i] ∧ ∀ j, j < 5 → W0.cell? ⟨g, i * 5 + j, none⟩ = (kidParts u)[j]?)
    (hS : ∀ t ∈ kids, Shp t) (ih : ∀ t ∈ kids, NodeW t) (hlen : l.length + (joinK ks (bs sep) kids).length ≤ 140737488355328) {U : World} (hU : U = (V.alloc (.cells (kindsV ks) 5)).alloc (.cells #[.slice (some ⟨V.heap.size, 0, none⟩) m m] 22)) {x : Nat} (hx : x = V.heap.size + 1) :
    Calls Tryz.prog 29 #[.pointer (some ⟨b, 0, none⟩), .slice kp n kc, .string sep, amV x] U fun e w' => e = .returned (.tuple #[]) ∧ Bl B b (l ++ joinK ks (bs sep) kids) w' ∧ Fr b V w' := by
  subst hU hx hm
  have hb1 := hb.alloc (.cells (kindsV ks) 5)
  have hb2 := hb1.alloc (.cells #[.slice (some ⟨V.heap.size, 0, none⟩) ks.length ks.length] 22)
  have hz : (V.alloc (.cells (kindsV ks) 5)).heap.size = V.heap.size + 1 := World.size_alloc _ _
  have f1 : Fr b V (V.alloc (.cells (kindsV ks) 5)) := hb.fr _
  have f2 : Fr b (V.alloc (.cells (kindsV ks) 5)) ((V.alloc (.cells (kindsV ks) 5)).alloc (.cells #[.slice (some ⟨V.heap.size, 0, none⟩) ks.length ks.length] 22)) := hb1.fr _
  have hy := (f2.keep V.heap.size (by omega) (hb.new _)).2
  have hx := hb1.new (.cells #[.slice (some ⟨V.heap.size, 0, none⟩) ks.length ks.length] 22)
  rw [hz] at hx
  refine (kids_w (y := V.heap.size) (c := ks.length) ks sep kids hn h8 hks ((hW.fr hb f1).fr hb1 f2) hb2 ⟨?_, ?_⟩ hx hy hk hS ih hlen).mono fun e w' ⟨h1, h2, h3⟩ => ⟨h1, h2, f1.trans (f2.trans h3)⟩
  · have := heap_alloc_new (V.alloc (.cells (kindsV ks) 5)) (.cells #[.slice (some ⟨V.heap.size, 0, none⟩) ks.length ks.length] 22)
    rwa [hz] at this
  · rw [Lib.alloc_old _ _ _ (by omega)]
    exact heap_alloc_new V _
set_option maxHeartbeats 8000000 in
set_option maxRecDepth 100000 in
theorem node_w (t : Ns) (ih : ∀ u ∈ t.kids, NodeW u) : NodeW t := by
  intro W0 w B b l v hW hb hv hs hlen
  obtain ⟨kd, sl, kids, mn, mx⟩ := t
  obtain ⟨sp, sc, kp, kc, rfl, ⟨hsl, hkl⟩, hsp, _, hk⟩ := hv.read
  rw [shp_mk, shpL_iff] at hs
  obtain ⟨hsh, hks⟩ := hs
  obtain ⟨n, hn⟩ : ∃ n, n = sl.length := ⟨_, rfl⟩
  obtain ⟨kn, hkn⟩ : ∃ kn, kn = kids.length := ⟨_, rfl⟩
  obtain ⟨z, hz⟩ : ∃ z : Int, z = (kd : Int) := ⟨_, rfl⟩
  rw [← hn, ← hkn, ← hz]
  obtain ⟨V, hV⟩ : ∃ V, V = w.alloc (.cells #[.int .u8 z, .slice sp n sc, .slice kp kn kc, .int .i64 mn, .int .i64 mx] 26) := ⟨_, rfl⟩
  have hnew : V.heap[w.heap.size]? = some (.cells #[.int .u8 z, .slice sp n sc, .slice kp kn kc, .int .i64 mn, .int .i64 mx] 26 (0, 0)) := by rw [hV]; exact heap_alloc_new w _
  have hvz : V.heap.size = w.heap.size + 1 := by rw [hV, World.size_alloc]
  have hns : Safe b V w.heap.size := by rw [hV]; exact hb.new _
  have HBV : Hid (Bl B b l V) := Lib.hid (by rw [hV]; exact hb.alloc _)
  have HFV : Hid (Fr b w V) := Lib.hid (by rw [hV]; exact hb.fr _)
  have HWV := Lib.hid (hW.fr hb HFV.out)
  have HBX := Lib.hid (fun (U : World) (hU : Fr b V U) => (⟨hU.cell (by omega) hns (by rw [cell_of_row V _ 0 _ _ _ hnew]; rfl), hU.cell (by omega) hns (by rw [cell_of_row V _ 1 _ _ _ hnew]; rfl), hU.cell (by omega) hns (by rw [cell_of_row V _ 2 _ _ _ hnew]; rfl), hU.cell (by omega) hns (by rw [cell_of_row V _ 3 _ _ _ hnew]; rfl), hU.cell (by omega) hns (by rw [cell_of_row V _ 4 _ _ _ hnew]; rfl)⟩ : U.cell? ⟨w.heap.size, 0, none⟩ = some (.int .u8 z) ∧ U.cell? ⟨w.heap.size, 1, none⟩ = some (.slice sp n sc) ∧ U.cell? ⟨w.heap.size, 2, none⟩ = some (.slice kp kn kc) ∧ U.cell? ⟨w.heap.size, 3, none⟩ = some (.int .i64 mn) ∧ U.cell? ⟨w.heap.size, 4, none⟩ = some (.int .i64 mx)))
  obtain ⟨k0, k1, k2, k3, k4⟩ := HBX.out V (Fr.refl _ _)
  have hdr : Below V.heap.size V V.drew := (Below.refl _ _).drew
  have HBD := Lib.hid (HBV.out.below hdr)
  have HFD := Lib.hid (Fr.of_below HBV.out hdr)
  have HS0 : Hid (V.drew.cell? ⟨w.heap.size, 2, none⟩ = some (.slice kp kn kc)) := Lib.hid (HBX.out _ HFD.out).2.2.1
  have HS1 : Hid (∀ o, (V.alloc o).drew.cell? ⟨w.heap.size, 2, none⟩ = some (.slice kp kn kc)) := Lib.hid (fun o => (HBX.out _ (Fr.of_below HBV.out ((Below.refl V.heap.size V).alloc (Nat.le_refl _) o))).2.2.1)
  have HS2 : Hid (∀ o o', ((V.alloc o).drew.alloc o').cell? ⟨w.heap.size, 2, none⟩ = some (.slice kp kn kc)) := Lib.hid (fun o o' => (HBX.out _ (Fr.of_below HBV.out ((((Below.refl V.heap.size V).alloc (Nat.le_refl _) o).drew).alloc (by show V.heap.size ≤ (V.alloc o).heap.size; rw [World.size_alloc]; omega) o'))).2.2.1)
  have HS3 : Hid (∀ o o', ((V.alloc o).alloc o').drew.cell? ⟨w.heap.size, 2, none⟩ = some (.slice kp kn kc)) := Lib.hid (fun o o' => (HBX.out _ (Fr.of_below HBV.out (((Below.refl V.heap.size V).alloc (Nat.le_refl _) o).alloc (by rw [World.size_alloc]; omega) o'))).2.2.1)
  have HN := Lib.hid hn
  have HKN := Lib.hid hkn
  have HK := Lib.hid hk
  have HKS := Lib.hid hks
  have HI : Hid (∀ u ∈ kids, NodeW u) := Lib.hid ih
  have HSP := Lib.hid hsp
  have HL := Lib.hid hlen
  have HVZ := Lib.hid hvz
  clear hW hb hv hk hks ih hsp hlen hnew hns hvz hn hkn hdr
  rcases hsh with ⟨rfl, q1⟩ | ⟨rfl, q1, q2, q3, hnl⟩ | ⟨rfl | rfl, q1⟩ | ⟨rfl, q1, q2, hmn, hmx⟩
  · clear q1
    obtain rfl : z = 0 := hz
    have e0 : txt (.mk 0 sl kids mn mx) = joinB [⟨#[40, 41]⟩] := by rw [txt_mk, if_pos rfl]; decide
    rw [e0] at HL ⊢
    have HP := Lib.hid (put_new [⟨#[40, 41]⟩] 1 rfl (by omega) HBV.out HL.out)
    go_enter Tryz.func18, Tryz.ntmps18
    go_wp2_with fail
    rw [← hV, ← HVZ.out]
    refine HP.out.mono ?_
    rintro e w1 ⟨rfl, b1, f1⟩
    have H1 := Lib.hid (And.intro b1 (HFV.out.trans f1))
    clear b1 f1 HP hV
    go_wp2
    go_end0
    exact ⟨rfl, H1.out.1, H1.out.2⟩
  · clear q1 q2 q3
    obtain rfl : z = 1 := hz
    have e0 : txt (.mk 1 sl kids mn mx) = clsT sl := by rw [txt_mk]; rfl
    rw [e0] at HL ⊢
    have HP := Lib.hid (class_c (sc := sc) HN.out (by have := HN.out; omega) HWV.out HBV.out HSP.out hnl HL.out)
    clear hnl
    go_enter Tryz.func18, Tryz.ntmps18
    go_wp2_with fail
    rw [← hV]
    refine HP.out.mono ?_
    rintro e w1 ⟨rfl, b1, f1⟩
    have H1 := Lib.hid (And.intro b1 (HFV.out.trans f1))
    clear b1 f1 HP hV
    go_wp2
    go_end0
    exact ⟨rfl, H1.out.1, H1.out.2⟩
  · clear q1
    obtain rfl : z = 2 := hz
    have e0 : txt (.mk 2 sl kids mn mx) = joinK [2, 3] (bs ⟨#[]⟩) kids := by rw [txt_mk]; rfl
    rw [e0] at HL ⊢
    go_enter Tryz.func18, Tryz.ntmps18
    have HC := Lib.hid (kids_new (V := V.drew) [2, 3] rfl ⟨#[]⟩ kids HKN.out (by have := HKN.out; omega) (by decide) (kc := kc) (HWV.out.fr HBV.out HFD.out) HBD.out HK.out HKS.out HI.out HL.out rfl rfl)
    go_wp2_with fail
    rw [← hV]
    clear hV
    go_region_held3 (fun U => U.cell? ⟨w.heap.size, 2, none⟩ = some (.slice kp kn kc))
      (first | exact HS0.out | exact HS1.out _ | exact HS2.out _ _ | exact HS3.out _ _ | exact hq)
      (first
        | (go_at_call 30; (refine oneOf_c.mono ?_); rintro e w3 ⟨rfl, rfl⟩)
        | (go_at_call 29; (refine HC.out.mono ?_); rintro e w5 ⟨rfl, b5, f5⟩; have hq := (HBX.out _ (HFD.out.trans f5)).2.2.1))
    have H1 := Lib.hid (And.intro b5 (HFV.out.trans (HFD.out.trans f5)))
    clear b5 f5 hq HC
    go_wp2
    go_end0
    exact ⟨rfl, H1.out.1, H1.out.2⟩
  · clear q1
    obtain rfl : z = 3 := hz
    have e0 : txt (.mk 3 sl kids mn mx) = joinK [3] (bs ⟨#[124]⟩) kids := by rw [txt_mk]; exact (List.drop_one).symm
    rw [e0] at HL ⊢
    go_enter Tryz.func18, Tryz.ntmps18
    have HC := Lib.hid (kids_new (V := V.drew) [3] rfl ⟨#[124]⟩ kids HKN.out (by have := HKN.out; omega) (by decide) (kc := kc) (HWV.out.fr HBV.out HFD.out) HBD.out HK.out HKS.out HI.out HL.out rfl rfl)
    go_wp2_with fail
    rw [← hV]
    clear hV
    go_region_held3 (fun U => U.cell? ⟨w.heap.size, 2, none⟩ = some (.slice kp kn kc))
      (first | exact HS0.out | exact HS1.out _ | exact HS2.out _ _ | exact HS3.out _ _ | exact hq)
      (first
        | (go_at_call 30; (refine oneOf_c.mono ?_); rintro e w3 ⟨rfl, rfl⟩)
        | (go_at_call 29; (refine HC.out.mono ?_); rintro e w5 ⟨rfl, b5, f5⟩; have hq := (HBX.out _ (HFD.out.trans f5)).2.2.1))
    have H1 := Lib.hid (And.intro b5 (HFV.out.trans (HFD.out.trans f5)))
    clear b5 f5 hq HC
    go_wp2
    go_end0
    exact ⟨rfl, H1.out.1, H1.out.2⟩
  · clear q1 q2
    obtain rfl : z = 4 := hz
    have e0 : txt (.mk 4 sl kids mn mx) = joinK [2, 3, 4] (bs ⟨#[]⟩) kids ++ timesT mn mx := by rw [txt_mk]; rfl
    rw [e0] at HL ⊢
    go_enter Tryz.func18, Tryz.ntmps18
    have HC := Lib.hid (kids_new (V := V.drew) [2, 3, 4] rfl ⟨#[]⟩ kids HKN.out (by have := HKN.out; omega) (by decide) (kc := kc) (HWV.out.fr HBV.out HFD.out) HBD.out HK.out HKS.out HI.out (by have h := HL.out; rw [List.length_append] at h; omega) rfl rfl)
    go_wp2_with fail
    rw [← hV]
    clear hV
    go_region_held3 (fun U => U.cell? ⟨w.heap.size, 2, none⟩ = some (.slice kp kn kc))
      (first | exact HS0.out | exact HS1.out _ | exact HS2.out _ _ | exact HS3.out _ _ | exact hq)
      (first
        | (go_at_call 30; (refine oneOf_c.mono ?_); rintro e w3 ⟨rfl, rfl⟩)
        | (go_at_call 29; (refine HC.out.mono ?_); rintro e w5 ⟨rfl, b5, f5⟩; have hq := (HBX.out _ (HFD.out.trans f5)).2.2.1))
    obtain ⟨_, _, _, m3, m4⟩ := HBX.out _ (HFD.out.trans f5)
    have HT := Lib.hid (times_c b5 hmn hmx (by have h := HL.out; rw [List.length_append] at h; rw [List.length_append]; omega))
    have HF5 := Lib.hid (HFV.out.trans (HFD.out.trans f5))
    clear b5 f5 hq HC hmn hmx k0 k1 k2 k3 k4
    go_wp2_with fail
    refine HT.out.mono ?_
    rintro e w6 ⟨rfl, b6, f6⟩
    have H1 : Hid (Bl B b (l ++ (joinK [2, 3, 4] (bs ⟨#[]⟩) kids ++ timesT mn mx)) w6 ∧ Fr b w w6) := Lib.hid ⟨by rw [← List.append_assoc]; exact b6, HF5.out.trans f6⟩
    clear b6 f6 HT
    go_wp2
    go_end0
    exact ⟨rfl, H1.out.1, H1.out.2⟩
theorem node_all : ∀ (t : Ns), NodeW t
  | .mk k sl kids mn mx => node_w _ (fun u _hu => node_all u)
termination_by t => SizeOf.sizeOf t
decreasing_by
  have := List.sizeOf_lt_of_mem (show u ∈ kids from _hu)
  simp only [Ns.mk.sizeOf_spec]
  omega
end Go.Proofs.YtdcnfflleaplnaaGreatDoor
