/- RWords, RAmong, RSee, RNum, RHex, RCut, RR6a, in one text. -/
import Derived.Test.YtdcnfflleaplnaaGreatDoorFO
import Derived.Test.YtdcnfflleaplnaaGreatDoorWE
import Derived.Test.YtdcnfflleaplnaaGreatDoorPURE
import Derived.Test.YtdcnfflleaplnaaGreatDoorPA
import Derived.Lib.IndexAny
import Derived.Deep.RegionHeld3
import Derived.WalkSmall
import Derived.IntWalk
import Derived.Shelf.SlicesQ.IndexFunc
import Derived.Laws.IdiomStrings
import Derived.Lib.Hide
import Derived.Laws.Strings3
import Derived.Laws.BytesArg
import Derived.WalkKit
import Derived.BigCall
import Derived.BigGuard
import Derived.BigQuiet
/- rx's reader in memory: where it stands, what stays beside it; what a sign is among. -/
namespace Go.Proofs.YtdcnfflleaplnaaGreatDoor
open Go.RowKit Go.Shelf SetM RxM
open U.UtfM (wr enc)

/-- A string's bytes as numbers. -/
def bs (s : ByteArray) : List Int := s.data.toList.map fun b => (b.toNat : Int)
theorem bs_len (s : ByteArray) : (bs s).length = s.size := by simp [bs]
/-- All but block R is as it was. -/
abbrev Gr (R : Nat) (W W' : World) : Prop := W.grownBy W' (some R)
theorem Gr.refl (R : Nat) (W : World) : Gr R W W := ⟨rfl, rfl, rfl, Nat.le_refl _, fun _ _ _ => rfl⟩
theorem Gr.trans {R : Nat} {a b c : World} (h : Gr R a b) (k : Gr R b c) : Gr R a c :=
  ⟨k.os.trans h.os, k.tape.trans h.tape, k.output.trans h.output, Nat.le_trans h.size k.size, fun i hi hr => (k.block i (Nat.lt_of_lt_of_le hi h.size) hr).trans (h.block i hi hr)⟩
theorem Gr.of {R : Nat} {a b : World} (h : Below a.heap.size a b) : Gr R a b := ⟨h.os, h.tape, h.output, h.size, fun k hk _ => h.block k hk⟩
theorem Gr.set {R : Nat} (W : World) (i : Nat) (v : Value) : Gr R W (W.setCell ⟨R, i, none⟩ v) :=
  ⟨rfl, rfl, rfl, by simp [World.setCell], fun k _ hk => Below.heap_setCell _ _ _ k (fun e => hk (by rw [e]))⟩
theorem Gr.below {R : Nat} {a b c : World} (h : Gr R b c) (k : Below a.heap.size a b) (hR : a.heap.size ≤ R) : Below a.heap.size a c :=
  ⟨h.os.trans k.os, h.tape.trans k.tape, h.output.trans k.output, Nat.le_trans k.size h.size, fun i hi => (h.block i (Nat.lt_of_lt_of_le hi k.size) (fun e => by cases e; omega)).trans (k.block i hi)⟩
theorem Gr.drew {R : Nat} {a b : World} (h : Gr R a b) : Gr R a b.drew := ⟨h.os, h.tape, h.output, h.size, h.block⟩

section
variable {R : Nat} {W W' : World} {s : ByteArray} {dv : Value} {rest : List Int} {d : Nat} {cl : Bool}
theorem heap_setR (W : World) (R : Nat) (cs : Array Value) (t : TypeId) (h : W.heap[R]? = some (.cells cs t (0, 0))) (i : Nat) (v : Value) : (W.setCell ⟨R, i, none⟩ v).heap[R]? = some (.cells (cs.set! i v) t (0, 0)) := by
  obtain ⟨hlt, hk⟩ := Array.getElem?_eq_some_iff.1 h
  show (W.heap.modify R _)[R]? = _
  rw [Array.getElem?_eq_getElem (by rw [Array.size_modify]; exact hlt), Array.getElem_modify_self, hk]
  rfl
end

/-! Bytes of what is left. -/
theorem wr_head_low {c : Int} (hs : U.UtfM.Sc c) (h : c < 128) (t : List Int) : wr (c :: t) = c :: wr t := by rw [U.UtfM.wr_cons, U.UtfM.enc1 hs h]; rfl
/-- The first byte of what is left: it is the sign, or none. -/
theorem wr_head {c : Int} (hs : U.UtfM.Sc c) (t : List Int) : ∃ b l, wr (c :: t) = b :: l ∧ 0 ≤ b ∧ b ≤ 255 ∧ ((b = c ∧ c < 128) ∨ (192 ≤ b ∧ 128 ≤ c)) := by
  rw [U.UtfM.wr_cons]
  rcases U.UtfM.sc_cases hs with h | h | h | h
  · exact ⟨c, _, by rw [U.UtfM.enc1 hs h.2]; rfl, by omega, by omega, .inl ⟨rfl, h.2⟩⟩
  · exact ⟨_, _, by rw [U.UtfM.enc2 hs h.1 h.2]; rfl, by omega, by omega, .inr ⟨by omega, by omega⟩⟩
  · exact ⟨_, _, by rw [U.UtfM.enc3 hs h.1 h.2]; rfl, by omega, by omega, .inr ⟨by omega, by omega⟩⟩
  · exact ⟨_, _, by rw [U.UtfM.enc4 hs h.1]; rfl, by omega, by omega, .inr ⟨by omega, by omega⟩⟩
theorem wr_len_pos {c : Int} (hs : U.UtfM.Sc c) (t : List Int) : (wr t).length < (wr (c :: t)).length := by
  rw [U.UtfM.wr_cons, List.length_append]
  have := U.UtfM.enc_pos hs
  omega
/-! What a byte is among. -/
/-- The value tells whether a byte is among some, whatever becomes of block R. -/
def Am (R : Nat) (W : World) (v : Value) (P : Int → Bool) : Prop :=
  ∃ g lb, v = .func (.func g) #[] lb ∧ (∀ args w, (callFunc g args).run Tryz.prog w = .ok (.enter g args) w) ∧
    ∀ W', Gr R W W' → ∀ b : Int, 0 ≤ b → b ≤ 255 → Calls Tryz.prog g (#[.int .u8 b] ++ lb) W' fun e W'' => e = .returned (.bool (P b)) ∧ Below W'.heap.size W' W''
theorem Am.kept {R : Nat} {W W' : World} {v : Value} {P : Int → Bool} (h : Am R W v P) (hg : Gr R W W') : Am R W' v P := by
  obtain ⟨g, lb, e, he, hc⟩ := h
  exact ⟨g, lb, e, he, fun W'' h => hc W'' (hg.trans h)⟩
theorem Am.congr {R : Nat} {W : World} {v : Value} {P Q : Int → Bool} (h : Am R W v P) (hpq : ∀ b, 0 ≤ b → b ≤ 255 → P b = Q b) : Am R W v Q := by
  obtain ⟨g, lb, e, he, hc⟩ := h
  exact ⟨g, lb, e, he, fun W'' h b h0 h1 => by have := hc W'' h b h0 h1; rw [hpq b h0 h1] at this; exact this⟩
end Go.Proofs.YtdcnfflleaplnaaGreatDoor

/- What bytes are among: from one to another, any of some. -/
namespace Go.Proofs.YtdcnfflleaplnaaGreatDoor
open Go.RowKit Go.Shelf SetM RxM
open U.UtfM (wr enc)

/-- The slice holds what tells whether a byte is among some, one behind the other. -/
def AmL (R : Nat) (W : World) (b : Nat) (Ps : List (Int → Bool)) : Prop :=
  ∀ j, (h : j < Ps.length) → ∃ v, W.cell? ⟨b, j, none⟩ = some v ∧ Am R W v Ps[j]
theorem AmL.kept {R : Nat} {W W' : World} {b : Nat} {Ps : List (Int → Bool)} (h : AmL R W b Ps) (hb : b < W.heap.size) (hg : Below W.heap.size W W') : AmL R W' b Ps := fun j hj => by
  obtain ⟨v, h1, h2⟩ := h j hj
  exact ⟨v, (hg.cell (p := ⟨b, j, none⟩) hb).trans h1, h2.kept (Gr.of hg)⟩
end Go.Proofs.YtdcnfflleaplnaaGreatDoor

/- The reader looks: what stands here, what stands behind it; it reads a sign. -/
namespace Go.Proofs.YtdcnfflleaplnaaGreatDoor
open Go.RowKit Go.Shelf SetM RxM
open U.UtfM (wr enc)
variable {R : Nat} {W : World} {s : ByteArray} {dv : Value} {rest : List Int} {d : Nat} {cl : Bool}

theorem Am.form {v : Value} {P : Int → Bool} (h : Am R W v P) : ∃ g lb, v = .func (.func g) #[] lb := let ⟨g, lb, e, _, _⟩ := h; ⟨g, lb, e⟩
/-! Is all read? What is wrong here? -/
/-! A sign. -/
/-- A sign's bytes as numbers, each below 128. -/
def Low (p : List Int) : Prop := ∀ c ∈ p, 0 ≤ c ∧ c < 128
theorem pre_low : ∀ (p : List Int), Low p → ∀ (rest : List Int), (∀ c ∈ rest, U.UtfM.Sc c) → (p <+: wr rest ↔ p <+: rest)
  | [], _, rest, _ => by simp
  | a :: p, hp, [], _ => by simp [U.UtfM.wr_nil]
  | a :: p, hp, c :: t, hs => by
    have ha := hp a (by simp)
    have hc := hs c (by simp)
    obtain ⟨b, l, e, _, _, h | h⟩ := wr_head hc t
    · rw [wr_head_low hc h.2, List.cons_prefix_cons, List.cons_prefix_cons, pre_low p (fun x hx => hp x (by simp [hx])) t (fun x hx => hs x (by simp [hx]))]
    · rw [e, List.cons_prefix_cons, List.cons_prefix_cons]
      constructor
      · rintro ⟨h1, _⟩; omega
      · rintro ⟨h1, _⟩; omega
theorem extract_bytes (s : ByteArray) (k : Nat) : bs (s.extract k s.size) = (bs s).drop k := by
  unfold bs
  rw [← List.map_drop]
  congr 1
  rw [ByteArray.data_extract, Array.toList_extract]
  rw [List.extract_eq_take_drop]
  exact List.take_of_length_le (by rw [List.length_drop]; exact Nat.le_refl _)
theorem drewN_below {W : World} (k : Nat) : Below W.heap.size W (W.drewN k) := ⟨rfl, rfl, rfl, Nat.le_refl _, fun _ _ => rfl⟩
theorem wr_low : ∀ (p : List Int), Low p → wr p = p
  | [], _ => rfl
  | a :: p, h => by
    have ha := h a (by simp)
    rw [wr_head_low (by unfold U.UtfM.Sc; omega) ha.2, wr_low p (fun c hc => h c (by simp [hc]))]
/-! What stands here, or behind. -/
end Go.Proofs.YtdcnfflleaplnaaGreatDoor

/- The reader reads numbers, and how often. -/
namespace Go.Proofs.YtdcnfflleaplnaaGreatDoor
open Go.RowKit Go.Shelf SetM RxM
variable {R : Nat} {W : World} {s : ByteArray} {dv : Value} {rest : List Int} {d : Nat} {cl : Bool}

/-! A string's bytes in new memory. -/
def capB (w : World) (t : ByteArray) : Nat := grownCap w t.size 0 5
def objB (w : World) (t : ByteArray) : Obj := .cells (bytesRow t (capB w t)) 5 ((bytesRow t (capB w t)).size, (bytesRow t (capB w t)).size + 1)
theorem conv_b (t : ByteArray) (w : World) : (convert 9 22 (.string t)).run Tryz.prog w = .ok (.slice (some ⟨w.heap.size, 0, none⟩) t.size (capB w t)) (w.drew.alloc (objB w t)) :=
  run_bytes_of_string w _ _ _ t Tryz.underlying9 Tryz.underlying22 Tryz.underlying5
theorem bs_bytes (t : ByteArray) : U.UtfM.IsBytes (bs t) := fun c hc => by
  obtain ⟨b, _, rfl⟩ := List.mem_map.1 hc
  have := b.toNat_lt
  omega
theorem by_conv (t : ByteArray) (w : World) : U.By (w.drew.alloc (objB w t)) (some ⟨w.heap.size, 0, none⟩) (bs t) :=
  ⟨bs_bytes t, fun _ => ⟨w.heap.size, 0, rfl, by rw [World.size_alloc]; exact Nat.lt_succ_self _, fun j hj => by
    rw [bs_len] at hj
    rw [show (w.drew.alloc (objB w t)).cell? ⟨w.heap.size, 0 + j, none⟩ = (bytesRow t (capB w t))[0 + j]? from cell_of_row _ w.heap.size _ _ _ _ (heap_alloc_new w.drew _), Nat.zero_add]
    unfold bytesRow bs
    have hj' : j < t.data.size := hj
    rw [Array.getElem?_append_left (by simp; omega)]
    have hj2 : (bs t)[j]? = some (bs t)[j] := List.getElem?_eq_getElem _
    unfold bs at hj2
    rw [List.getElem?_map, Array.getElem?_toList, Array.getElem?_eq_getElem hj'] at hj2
    rw [Array.getElem?_map, Array.getElem?_eq_getElem hj']
    exact congrArg some (congrArg (Value.int .u8) (by simpa using hj2))⟩⟩
theorem below_conv (t : ByteArray) (w : World) : Below w.heap.size w (w.drew.alloc (objB w t)) := (Below.refl _ _).drew.alloc (Nat.le_refl _) _

/-! A number. -/
end Go.Proofs.YtdcnfflleaplnaaGreatDoor

/- strconv.ParseInt at one to six hexadecimal digits. -/
namespace Go.Proofs.YtdcnfflleaplnaaGreatDoor.Hx
open Go.RowKit Go.Shelf RxM

theorem isH_cases {c : Int} (h : isH c = true) : (48 ≤ c ∧ c ≤ 57) ∨ (97 ≤ c ∧ c ≤ 102) ∨ (65 ≤ c ∧ c ≤ 70) := by
  simpa [isH, isD] using h
def hexA (a : Int) (l : List Int) : Int := l.foldl (fun n c => n * 16 + hexV c) a
theorem hexA_cons (a c : Int) (l : List Int) : hexA a (c :: l) = hexA (a * 16 + hexV c) l := rfl
theorem hexV_le {c : Int} (h : isH c = true) : 0 ≤ hexV c ∧ hexV c ≤ 15 := by
  unfold hexV
  rcases isH_cases h with h | h | h
  · rw [if_pos h.2]; omega
  · rw [if_neg (by omega), if_neg (by omega)]; omega
  · rw [if_neg (by omega), if_pos h.2]; omega

def capB (w : World) (t : ByteArray) : Nat := grownCap w t.size 0 5
def objB (w : World) (t : ByteArray) : Obj := .cells (bytesRow t (capB w t)) 5 ((bytesRow t (capB w t)).size, (bytesRow t (capB w t)).size + 1)
theorem conv_b (t : ByteArray) (w : World) : (convert 9 22 (.string t)).run Tryz.prog w = .ok (.slice (some ⟨w.heap.size, 0, none⟩) t.size (capB w t)) (w.drew.alloc (objB w t)) :=
  run_bytes_of_string w _ _ _ t Tryz.underlying9 Tryz.underlying22 Tryz.underlying5
theorem pow16 (a b : Nat) (h : a ≤ b) : (16 : Int) ^ a ≤ 16 ^ b := by
  have := Nat.pow_le_pow_right (show 0 < 16 by decide) h
  exact_mod_cast this
theorem hexA_bound : ∀ (l : List Int) (a : Int) (k : Nat), 0 ≤ a → a < 16 ^ k → (∀ c ∈ l, isH c = true) → 0 ≤ hexA a l ∧ hexA a l < 16 ^ (k + l.length)
  | [], a, k, h0, h1, _ => ⟨h0, h1⟩
  | c :: l, a, k, h0, h1, h => by
    have hv := hexV_le (h c (by simp))
    have := hexA_bound l (a * 16 + hexV c) (k + 1) (by omega) (by rw [Int.pow_succ]; omega) (fun x hx => h x (by simp [hx]))
    rw [hexA_cons, List.length_cons, show k + (l.length + 1) = k + 1 + l.length from by omega]
    exact this
end Go.Proofs.YtdcnfflleaplnaaGreatDoor.Hx

/- strings.Cut at a sign of one byte. -/
namespace Go.Proofs.YtdcnfflleaplnaaGreatDoor.Hx
open Go.RowKit Go.Shelf RxM
open Go.Proofs.YtdcnfflleaplnaaGreatDoor.U.UtfM (wr enc Sc)

theorem takeWhile_app {α : Type} (p : α → Bool) (a b : List α) (h : ∀ x ∈ a, p x = true) : (a ++ b).takeWhile p = a ++ b.takeWhile p := by
  induction a with
  | nil => rfl
  | cons x a ih =>
    rw [List.cons_append, List.takeWhile_cons, if_pos (h x (by simp)), ih (fun y hy => h y (by simp [hy]))]; rfl
/-! Bytes of scalars up to a sign. -/
theorem enc_not {c : Int} (hs : Sc c) (h : c ≠ 125) : ∀ b ∈ enc c, b ≠ 125 := by
  rcases U.UtfM.sc_cases hs with h1 | h1 | h1 | h1
  · rw [U.UtfM.enc1 hs h1.2]; intro b hb; simp at hb; omega
  · rw [U.UtfM.enc2 hs h1.1 h1.2]; intro b hb; simp at hb; omega
  · rw [U.UtfM.enc3 hs h1.1 h1.2]; intro b hb; simp at hb; omega
  · rw [U.UtfM.enc4 hs h1.1]; intro b hb; simp at hb; omega
theorem wr_while : ∀ (r : List Int), (∀ c ∈ r, Sc c) → (wr r).takeWhile not125 = wr (r.takeWhile not125) ∧ (125 ∈ wr r ↔ r.dropWhile not125 ≠ [])
  | [], _ => by simp [U.UtfM.wr_nil]
  | c :: t, h => by
    have ih := wr_while t (fun x hx => h x (by simp [hx]))
    by_cases h1 : c = 125
    · subst h1
      have e : enc 125 = [125] := rfl
      rw [U.UtfM.wr_cons, e]
      constructor
      · rfl
      · simp [not125]
    · have hn : not125 c = true := by simp [not125, h1]
      have he := enc_not (h c (by simp)) h1
      rw [U.UtfM.wr_cons, List.takeWhile_cons, List.dropWhile_cons, if_pos hn, if_pos hn, takeWhile_app _ _ _ (fun x hx => by simp [not125]; exact he x hx), ih.1, U.UtfM.wr_cons]
      refine ⟨rfl, ?_⟩
      rw [List.mem_append, ← ih.2]
      constructor
      · rintro (h | h)
        · exact absurd rfl (he _ h)
        · exact h
      · exact .inr
end Go.Proofs.YtdcnfflleaplnaaGreatDoor.Hx

/- The document's reader of patterns at the text of the law's definition: what it sees, what it takes. -/
namespace Go.Proofs.YtdcnfflleaplnaaGreatDoor
open Go.RowKit Go.Shelf Go.Maps SetM PropsM RxM

/-- The definition's text: ab|[K-M]. -/
def S8 : ByteArray := ⟨#[97, 98, 124, 91, 75, 45, 77, 93]⟩
/-- The document's reader at block R, at a place; nothing was wrong. -/
def R6 (R : Nat) (W : World) (i : Nat) : Prop := W.heap[R]? = some (.cells #[.string S8, .int .i64 i, .slice none 0 0, .int .i64 0, .int .i64 0, .int .i64 0, .int .i64 0] 56 (0, 0))
section
variable {R : Nat} {W : World} {i : Nat}
theorem R6.lt (h : R6 R W i) : R < W.heap.size := (Array.getElem?_eq_some_iff.1 h).1
theorem R6.kept {W' : World} (h : R6 R W i) (hb : Below W.heap.size W W') : R6 R W' i := (hb.block R h.lt).trans h
theorem R6.cell (h : R6 R W i) (j : Nat) : W.cell? ⟨R, j, none⟩ = (#[.string S8, .int .i64 i, .slice none 0 0, .int .i64 0, .int .i64 0, .int .i64 0, .int .i64 0] : Array Value)[j]? := cell_of_row W R j _ _ _ h
theorem R6.c0 (h : R6 R W i) : W.cell? ⟨R, 0, none⟩ = some (.string S8) := h.cell 0
theorem R6.c1 (h : R6 R W i) : W.cell? ⟨R, 1, none⟩ = some (.int .i64 i) := h.cell 1
theorem R6.c4 (h : R6 R W i) : W.cell? ⟨R, 4, none⟩ = some (.int .i64 0) := h.cell 4
theorem R6.c5 (h : R6 R W i) : W.cell? ⟨R, 5, none⟩ = some (.int .i64 0) := h.cell 5
theorem R6.z (h : R6 R W i) (j : Nat) : W.frozen? ⟨R, j, none⟩ = false := by have h' := h; unfold R6 at h'; simp [World.frozen?, h']
theorem R6.move (h : R6 R W i) (j : Nat) : R6 R (W.setCell ⟨R, 1, none⟩ (.int .i64 j)) j := heap_setR W R _ _ h 1 _
end
end Go.Proofs.YtdcnfflleaplnaaGreatDoor
