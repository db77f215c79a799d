/- RWords, RAmong, RSee, RRun, in one text. -/
import Derived.Test.YtahgljglleeloaaGreatDoorFB
import Derived.Test.YtahgljglleeloaaGreatDoorUB
import Derived.Test.YtahgljglleeloaaGreatDoorRM
import Derived.Test.YtahgljglleeloaaGreatDoorRShelf
import Derived.Test.YtahgljglleeloaaGreatDoorPA
import Derived.Lib.IndexAny
import Derived.Deep.RegionHeld3
import Derived.WalkSmall
import Derived.IntWalk
import Derived.Shelf.SlicesQ.IndexFunc
/- rx's reader in memory: where it stands, what stays beside it; what a sign is among. -/
namespace Go.Proofs.YtahgljglleeloaaGreatDoor
open Go.RowKit Go.Shelf SetM RxM
open U.UtfM (wr enc)

/-- A string's bytes as numbers. -/
def bs (s : ByteArray) : List Int := s.data.toList.map fun b => (b.toNat : Int)
theorem bs_len (s : ByteArray) : (bs s).length = s.size := by simp [bs]
/-- All but block R is as it was. -/
abbrev Gr (R : Nat) (W W' : World) : Prop := W.grownBy W' (some R)
theorem Gr.refl (R : Nat) (W : World) : Gr R W W := ⟨rfl, rfl, rfl, Nat.le_refl _, fun _ _ _ => rfl⟩
theorem Gr.trans {R : Nat} {a b c : World} (h : Gr R a b) (k : Gr R b c) : Gr R a c :=
  ⟨k.os.trans h.os, k.tape.trans h.tape, k.output.trans h.output, Nat.le_trans h.size k.size, fun i hi hr => (k.block i (Nat.lt_of_lt_of_le hi h.size) hr).trans (h.block i hi hr)⟩
theorem Gr.of {R : Nat} {a b : World} (h : Below a.heap.size a b) : Gr R a b := ⟨h.os, h.tape, h.output, h.size, fun k hk _ => h.block k hk⟩
theorem Gr.set {R : Nat} (W : World) (i : Nat) (v : Value) : Gr R W (W.setCell ⟨R, i, none⟩ v) :=
  ⟨rfl, rfl, rfl, by simp [World.setCell], fun k _ hk => Below.heap_setCell _ _ _ k (fun e => hk (by rw [e]))⟩
theorem Gr.below {R : Nat} {a b c : World} (h : Gr R b c) (k : Below a.heap.size a b) (hR : a.heap.size ≤ R) : Below a.heap.size a c :=
  ⟨h.os.trans k.os, h.tape.trans k.tape, h.output.trans k.output, Nat.le_trans k.size h.size, fun i hi => (h.block i (Nat.lt_of_lt_of_le hi k.size) (fun e => by cases e; omega)).trans (k.block i hi)⟩
theorem Gr.drew {R : Nat} {a b : World} (h : Gr R a b) : Gr R a b.drew := ⟨h.os, h.tape, h.output, h.size, h.block⟩

/-- The reader at block R. -/
structure Rd (R : Nat) (W : World) (s : ByteArray) (dv : Value) (rest : List Int) (d : Nat) (cl : Bool) : Prop where
  blk : W.heap[R]? = some (.cells #[.string s, .int .i64 ((s.size : Int) - ((wr rest).length : Nat)), dv, .int .i64 d, .bool cl] 49 (0, 0))
  tl : ∃ pre, bs s = pre ++ wr rest
  sc : ∀ c ∈ rest, U.UtfM.Sc c
  small : s.size ≤ 200
section
variable {R : Nat} {W W' : World} {s : ByteArray} {dv : Value} {rest : List Int} {d : Nat} {cl : Bool}
theorem Rd.lt (h : Rd R W s dv rest d cl) : R < W.heap.size := (Array.getElem?_eq_some_iff.1 h.blk).1
theorem Rd.len (h : Rd R W s dv rest d cl) : (wr rest).length ≤ s.size := by
  obtain ⟨pre, hp⟩ := h.tl
  have := congrArg List.length hp
  rw [bs_len, List.length_append] at this
  omega
theorem Rd.kept (h : Rd R W s dv rest d cl) (hb : Below W.heap.size W W') : Rd R W' s dv rest d cl :=
  ⟨(hb.block R h.lt).trans h.blk, h.tl, h.sc, h.small⟩
theorem Rd.cell (h : Rd R W s dv rest d cl) (i : Nat) : W.cell? ⟨R, i, none⟩ = (#[.string s, .int .i64 ((s.size : Int) - ((wr rest).length : Nat)), dv, .int .i64 d, .bool cl] : Array Value)[i]? := cell_of_row W R i _ _ _ h.blk
theorem Rd.c0 (h : Rd R W s dv rest d cl) : W.cell? ⟨R, 0, none⟩ = some (.string s) := h.cell 0
theorem Rd.c1 (h : Rd R W s dv rest d cl) : W.cell? ⟨R, 1, none⟩ = some (.int .i64 ((s.size : Int) - ((wr rest).length : Nat))) := h.cell 1
theorem Rd.c2 (h : Rd R W s dv rest d cl) : W.cell? ⟨R, 2, none⟩ = some dv := h.cell 2
theorem Rd.c3 (h : Rd R W s dv rest d cl) : W.cell? ⟨R, 3, none⟩ = some (.int .i64 d) := h.cell 3
theorem Rd.c4 (h : Rd R W s dv rest d cl) : W.cell? ⟨R, 4, none⟩ = some (.bool cl) := h.cell 4
theorem Rd.z (h : Rd R W s dv rest d cl) (i : Nat) : W.frozen? ⟨R, i, none⟩ = false := by simp [World.frozen?, h.blk]
theorem heap_setR (W : World) (R : Nat) (cs : Array Value) (t : TypeId) (h : W.heap[R]? = some (.cells cs t (0, 0))) (i : Nat) (v : Value) : (W.setCell ⟨R, i, none⟩ v).heap[R]? = some (.cells (cs.set! i v) t (0, 0)) := by
  obtain ⟨hlt, hk⟩ := Array.getElem?_eq_some_iff.1 h
  show (W.heap.modify R _)[R]? = _
  rw [Array.getElem?_eq_getElem (by rw [Array.size_modify]; exact hlt), Array.getElem_modify_self, hk]
  rfl
/-- It goes on by p. -/
theorem Rd.move {p rest' : List Int} {x : Int} (h : Rd R W s dv rest d cl) (hp : rest = p ++ rest') (hx : x = (s.size : Int) - ((wr rest').length : Nat)) : Rd R (W.setCell ⟨R, 1, none⟩ (.int .i64 x)) s dv rest' d cl := by
  subst hx
  refine ⟨heap_setR W R _ _ h.blk 1 _, ?_, fun c hc => h.sc c (by rw [hp]; exact List.mem_append_right _ hc), h.small⟩
  obtain ⟨pre, e⟩ := h.tl
  exact ⟨pre ++ wr p, by rw [e, hp, U.UtfM.wr_append, List.append_assoc]⟩
theorem Rd.deeper (h : Rd R W s dv rest d cl) (d' : Nat) : Rd R (W.setCell ⟨R, 3, none⟩ (.int .i64 d')) s dv rest d' cl := ⟨heap_setR W R _ _ h.blk 3 _, h.tl, h.sc, h.small⟩
theorem Rd.cased (h : Rd R W s dv rest d cl) (c : Bool) : Rd R (W.setCell ⟨R, 4, none⟩ (.bool c)) s dv rest d c := ⟨heap_setR W R _ _ h.blk 4 _, h.tl, h.sc, h.small⟩
end

/-! Bytes of what is left. -/
theorem wr_head_low {c : Int} (hs : U.UtfM.Sc c) (h : c < 128) (t : List Int) : wr (c :: t) = c :: wr t := by rw [U.UtfM.wr_cons, U.UtfM.enc1 hs h]; rfl
/-- The first byte of what is left: it is the sign, or none. -/
theorem wr_head {c : Int} (hs : U.UtfM.Sc c) (t : List Int) : ∃ b l, wr (c :: t) = b :: l ∧ 0 ≤ b ∧ b ≤ 255 ∧ ((b = c ∧ c < 128) ∨ (192 ≤ b ∧ 128 ≤ c)) := by
  rw [U.UtfM.wr_cons]
  rcases U.UtfM.sc_cases hs with h | h | h | h
  · exact ⟨c, _, by rw [U.UtfM.enc1 hs h.2]; rfl, by omega, by omega, .inl ⟨rfl, h.2⟩⟩
  · exact ⟨_, _, by rw [U.UtfM.enc2 hs h.1 h.2]; rfl, by omega, by omega, .inr ⟨by omega, by omega⟩⟩
  · exact ⟨_, _, by rw [U.UtfM.enc3 hs h.1 h.2]; rfl, by omega, by omega, .inr ⟨by omega, by omega⟩⟩
  · exact ⟨_, _, by rw [U.UtfM.enc4 hs h.1]; rfl, by omega, by omega, .inr ⟨by omega, by omega⟩⟩
theorem wr_len_pos {c : Int} (hs : U.UtfM.Sc c) (t : List Int) : (wr t).length < (wr (c :: t)).length := by
  rw [U.UtfM.wr_cons, List.length_append]
  have := U.UtfM.enc_pos hs
  omega
theorem wr_eq_nil {rest : List Int} (hs : ∀ c ∈ rest, U.UtfM.Sc c) : (wr rest).length = 0 ↔ rest = [] := by
  cases rest with
  | nil => simp [U.UtfM.wr_nil]
  | cons c t => have := wr_len_pos (hs c (by simp)) t; constructor
                · intro h; omega
                · intro h; cases h
/-- The byte that stands n bytes behind where the reader is. -/
theorem Rd.byte {R : Nat} {W : World} {s : ByteArray} {dv : Value} {rest : List Int} {d : Nat} {cl : Bool} (h : Rd R W s dv rest d cl) (n : Nat) (b : Int) (hb : (wr rest)[n]? = some b) :
    ∀ w, (Instr.index 9 (.string s) (.int .i64 ((s.size : Int) - ((wr rest).length : Nat) + n))).run Tryz.prog w = .ok (.int .u8 b) w := by
  intro w
  obtain ⟨pre, e⟩ := h.tl
  have hn : n < (wr rest).length := (List.getElem?_eq_some_iff.1 hb).1
  have hl := congrArg List.length e
  rw [bs_len, List.length_append] at hl
  have e1 : (s.size : Int) - ((wr rest).length : Nat) + n = ((pre.length + n : Nat) : Int) := by omega
  have hk : pre.length + n < s.data.toList.length := by have : s.size = s.data.toList.length := rfl; omega
  rw [e1, str_ix s (pre.length + n) hk w]
  have e2 : (bs s)[pre.length + n]? = some b := by rw [e, List.getElem?_append_right (by omega), Nat.add_sub_cancel_left]; exact hb
  have e3 : (bs s)[pre.length + n]? = some ((s.data.toList[pre.length + n].toNat : Nat) : Int) := by
    unfold bs
    rw [List.getElem?_map, List.getElem?_eq_getElem hk]; rfl
  rw [e2] at e3
  cases e3
  rfl

/-! What a byte is among. -/
/-- The value tells whether a byte is among some, whatever becomes of block R. -/
def Am (R : Nat) (W : World) (v : Value) (P : Int → Bool) : Prop :=
  ∃ g lb, v = .func (.func g) #[] lb ∧ (∀ args w, (callFunc g args).run Tryz.prog w = .ok (.enter g args) w) ∧
    ∀ W', Gr R W W' → ∀ b : Int, 0 ≤ b → b ≤ 255 → Calls Tryz.prog g (#[.int .u8 b] ++ lb) W' fun e W'' => e = .returned (.bool (P b)) ∧ Below W'.heap.size W' W''
theorem Am.kept {R : Nat} {W W' : World} {v : Value} {P : Int → Bool} (h : Am R W v P) (hg : Gr R W W') : Am R W' v P := by
  obtain ⟨g, lb, e, he, hc⟩ := h
  exact ⟨g, lb, e, he, fun W'' h => hc W'' (hg.trans h)⟩
theorem Am.congr {R : Nat} {W : World} {v : Value} {P Q : Int → Bool} (h : Am R W v P) (hpq : ∀ b, 0 ≤ b → b ≤ 255 → P b = Q b) : Am R W v Q := by
  obtain ⟨g, lb, e, he, hc⟩ := h
  exact ⟨g, lb, e, he, fun W'' h b h0 h1 => by have := hc W'' h b h0 h1; rw [hpq b h0 h1] at this; exact this⟩
/-- A box of one cell at another place than R. -/
theorem box_gr {R : Nat} {W W' : World} {b : Nat} {t : TypeId} {v : Value} (h : W.heap[b]? = some (.cells #[v] t (0, 0))) (hg : Gr R W W') (hne : b ≠ R) : W'.cell? ⟨b, 0, none⟩ = some v := by
  rw [cell_of_row W' b 0 _ _ _ ((hg.block b (Array.getElem?_eq_some_iff.1 h).1 (fun e => hne (by cases e; rfl))).trans h)]; rfl

theorem idx_num (l : List UInt8) (b : Int) (h0 : 0 ≤ b) (h1 : b ≤ 255) : decide (Lib.indexByte l b.toNat.toUInt8 ≥ 0) = inS (l.map fun x => (x.toNat : Int)) b := by
  have e : decide (Lib.indexByte l b.toNat.toUInt8 ≥ 0) = l.contains b.toNat.toUInt8 := (Lib.contains_iff_indexByte l _).symm
  rw [e]
  unfold inS
  rw [Bool.eq_iff_iff, List.contains_iff_mem, List.contains_iff_mem, List.mem_map]
  constructor
  · intro h; exact ⟨_, h, by simp [Nat.toUInt8]; omega⟩
  · rintro ⟨x, hx, rfl⟩
    have : ((x.toNat : Int).toNat).toUInt8 = x := by simp [Nat.toUInt8]
    rw [this]; exact hx
theorem enters_one : ∀ args w, (callFunc 50 args).run Tryz.prog w = .ok (.enter 50 args) w := enters_of Tryz.func50 (by kernel_rfl) rfl
theorem enters_within : ∀ args w, (callFunc 122 args).run Tryz.prog w = .ok (.enter 122 args) w := enters_of Tryz.func122 (by kernel_rfl) rfl
theorem enters_either : ∀ args w, (callFunc 104 args).run Tryz.prog w = .ok (.enter 104 args) w := enters_of Tryz.func104 (by kernel_rfl) rfl
theorem enters_each : ∀ args w, (callFunc 106 args).run Tryz.prog w = .ok (.enter 106 args) w := enters_of Tryz.func106 (by kernel_rfl) rfl

set_option maxRecDepth 100000 in
set_option maxHeartbeats 1000000 in
theorem one_call (b : Nat) (l : ByteArray) (x : Int) (h0 : 0 ≤ x) (h1 : x ≤ 255) (W : World) (hc : W.cell? ⟨b, 0, none⟩ = some (.string l)) :
    Calls Tryz.prog 50 #[.int .u8 x, .pointer (some ⟨b, 0, none⟩)] W fun e W' => e = .returned (.bool (inS (bs l) x)) ∧ Below W.heap.size W W' := by
  rw [show inS (bs l) x = decide (Lib.indexByte l.data.toList x.toNat.toUInt8 ≥ 0) from (idx_num _ x h0 h1).symm]
  go_enter Tryz.func50, Tryz.ntmps50
  go_wp2_with fail
  refine (Tryz.strings_IndexByte l x _).mono ?_
  rintro e w1 ⟨rfl, rfl⟩
  go_wp2
  go_ret
  exact ⟨rfl, Below.refl _ _⟩
set_option maxRecDepth 100000 in
set_option maxHeartbeats 1000000 in
theorem oneOf_c (R : Nat) (l : ByteArray) (W : World) (hR : R < W.heap.size) :
    Calls Tryz.prog 43 #[.string l] W fun e W' => ∃ v, e = .returned v ∧ Am R W' v (inS (bs l)) ∧ Below W.heap.size W W' := by
  go_enter Tryz.func43, Tryz.ntmps43
  go_wp2
  go_ret
  refine ⟨_, rfl, ⟨_, _, rfl, enters_one, fun W' hg b h0 h1 => ?_⟩, (Below.refl _ _).alloc (Nat.le_refl _) _⟩
  exact one_call W.heap.size l b h0 h1 W' (box_gr (heap_alloc_new W _) hg (by omega))
end Go.Proofs.YtahgljglleeloaaGreatDoor

/- What bytes are among: from one to another, any of some. -/
namespace Go.Proofs.YtahgljglleeloaaGreatDoor
open Go.RowKit Go.Shelf SetM RxM
open U.UtfM (wr enc)

def inR (lo hi : Int) (c : Int) : Bool := decide (lo ≤ c ∧ c ≤ hi)
set_option maxRecDepth 100000 in
set_option maxHeartbeats 1000000 in
theorem within_call (b1 b2 : Nat) (lo hi x : Int) (W : World) (h1 : W.cell? ⟨b1, 0, none⟩ = some (.int .u8 lo)) (h2 : W.cell? ⟨b2, 0, none⟩ = some (.int .u8 hi)) :
    Calls Tryz.prog 122 #[.int .u8 x, .pointer (some ⟨b1, 0, none⟩), .pointer (some ⟨b2, 0, none⟩)] W fun e W' => e = .returned (.bool (inR lo hi x)) ∧ Below W.heap.size W W' := by
  by_cases h : lo ≤ x
  · by_cases g : x ≤ hi
    · rw [show inR lo hi x = true from by simp [inR, h, g]]
      go_enter Tryz.func122, Tryz.ntmps122
      go_wp2
      go_ret
      exact ⟨by simp, Below.refl _ _⟩
    · rw [show inR lo hi x = false from by simp [inR, g]]
      go_enter Tryz.func122, Tryz.ntmps122
      go_wp2
      go_ret
      exact ⟨by simp, Below.refl _ _⟩
  · rw [show inR lo hi x = false from by simp [inR, h]]
    go_enter Tryz.func122, Tryz.ntmps122
    go_wp2
    go_ret
    exact ⟨rfl, Below.refl _ _⟩
set_option maxRecDepth 100000 in
set_option maxHeartbeats 1000000 in
theorem within_c (R : Nat) (lo hi : Int) (W : World) (hR : R < W.heap.size) :
    Calls Tryz.prog 97 #[.int .u8 lo, .int .u8 hi] W fun e W' => ∃ v, e = .returned v ∧ Am R W' v (inR lo hi) ∧ Below W.heap.size W W' := by
  go_enter Tryz.func97, Tryz.ntmps97
  go_wp2
  go_ret
  have b1 := (Below.refl W.heap.size W).alloc (Nat.le_refl _) (.cells #[.int .u8 lo] 5)
  have b2 := b1.alloc b1.size (.cells #[.int .u8 hi] 5)
  have z1 : (W.alloc (.cells #[.int .u8 lo] 5)).heap.size = W.heap.size + 1 := World.size_alloc _ _
  refine ⟨_, rfl, ⟨_, _, rfl, enters_within, fun W' hg b h0 h1 => ?_⟩, b2⟩
  refine within_call W.heap.size (W.heap.size + 1) lo hi b W' ?_ ?_
  · refine box_gr (t := 5) ?_ hg (by omega)
    rw [heap_alloc_old _ _ _ (by omega), heap_alloc_new]
  · refine box_gr (t := 5) ?_ hg (by omega)
    have := heap_alloc_new (W.alloc (.cells #[.int .u8 lo] 5)) (.cells #[.int .u8 hi] 5)
    rwa [z1] at this

/-- One of some asks a byte. -/
theorem each_call (R : Nat) (bx : Nat) (x : Int) (h0 : 0 ≤ x) (h1 : x ≤ 255) (v : Value) (P : Int → Bool) (W : World) (hv : Am R W v P) (hc : W.cell? ⟨bx, 0, none⟩ = some (.int .u8 x)) :
    Calls Tryz.prog 106 #[v, .pointer (some ⟨bx, 0, none⟩)] W fun e W' => e = .returned (.bool (P x)) ∧ Below W.heap.size W W' := by
  obtain ⟨g, lb, rfl, he, hcall⟩ := hv
  have hcall := hcall W (Gr.refl R W) x h0 h1
  go_enter Tryz.func106, Tryz.ntmps106
  go_wp2_with (go_at_fn g; refine hcall.mono ?_; rintro e w' ⟨rfl, hb'⟩)
  go_ret
  exact ⟨rfl, hb'⟩
/-- The slice holds what tells whether a byte is among some, one behind the other. -/
def AmL (R : Nat) (W : World) (b : Nat) (Ps : List (Int → Bool)) : Prop :=
  ∀ j, (h : j < Ps.length) → ∃ v, W.cell? ⟨b, j, none⟩ = some v ∧ Am R W v Ps[j]
theorem AmL.kept {R : Nat} {W W' : World} {b : Nat} {Ps : List (Int → Bool)} (h : AmL R W b Ps) (hb : b < W.heap.size) (hg : Below W.heap.size W W') : AmL R W' b Ps := fun j hj => by
  obtain ⟨v, h1, h2⟩ := h j hj
  exact ⟨v, (hg.cell (p := ⟨b, j, none⟩) hb).trans h1, h2.kept (Gr.of hg)⟩
set_option maxRecDepth 100000 in
set_option maxHeartbeats 2000000 in
theorem index_c (R : Nat) (bx : Nat) (x : Int) (h0 : 0 ≤ x) (h1 : x ≤ 255) (b c : Nat) (Ps : List (Int → Bool)) (hl : Ps.length ≤ 10) (w : World) (hP : AmL R w b Ps) (hb : b < w.heap.size) (hbx : bx < w.heap.size) (hc : w.cell? ⟨bx, 0, none⟩ = some (.int .u8 x)) :
    Calls Tryz.prog 127 #[.slice (some ⟨b, 0, none⟩) Ps.length c, .func (.func 106) #[] #[.pointer (some ⟨bx, 0, none⟩)]] w fun e w' => ∃ i : Int, e = .returned (.int .i64 i) ∧ decide (i ≥ 0) = Ps.any (fun P => P x) ∧ Below w.heap.size w w' := by
  have HP := Lib.hid hP
  clear hP
  have he := enters_each
  go_enter Tryz.func127, Tryz.ntmps127
  go_wp2
  go_loopg [5, 8] Ps.length (fun gg _ s8 wr => ∃ kk : Nat, kk ≤ Ps.length ∧ Ps.length - kk ≤ gg ∧ s8 = .int .i64 kk ∧ Aside (Below w.heap.size w wr) ∧ Aside (∀ j, (h : j < Ps.length) → j < kk → Ps[j] x = false))
  case atStart => exact ⟨0, Nat.zero_le _, by omega, rfl, Below.refl _ w, fun j _ hj => absurd hj (Nat.not_lt_zero _)⟩
  case round =>
    obtain ⟨kk, hkk, hg, rfl, BW, A⟩ := hrel
    by_cases hlt : kk < Ps.length
    · have hltz : (kk : Int) < (Ps.length : Int) := by omega
      obtain ⟨v, hv, ha⟩ := (HP.out.kept hb BW.out) kk hlt
      have hv' : wr.cell? ⟨b, 0 + kk * 1, none⟩ = some v := by rw [Nat.zero_add, Nat.mul_one]; exact hv
      have hv'' : wr.cell? ⟨b, 0 + kk, none⟩ = some v := by rw [Nat.zero_add]; exact hv
      have hcall := each_call R bx x h0 h1 v Ps[kk] wr ha ((BW.out.cell (p := ⟨bx, 0, none⟩) hbx).trans hc)
      have B : Aside (Ps[kk] x = Ps[kk] x) := rfl
      clear ha
      cases hq : Ps[kk] x with
      | true =>
        rw [hq] at hcall
        have Q : Aside (Ps[kk] x = true) := hq
        clear hq
        go_wp2_with (go_at_fn 106; refine hcall.mono ?_; rintro e w' ⟨rfl, hb'⟩)
        go_ret
        refine ⟨_, rfl, ?_, BW.out.trans (hb'.mono BW.out.size)⟩
        rw [show Ps.any (fun P => P x) = true from List.any_eq_true.2 ⟨Ps[kk], List.getElem_mem hlt, Q.out⟩]
        simp
      | false =>
        rw [hq] at hcall
        have Q : Aside (Ps[kk] x = false) := hq
        clear hq
        go_wp2_with (go_at_fn 106; refine hcall.mono ?_; rintro e w' ⟨rfl, hb'⟩)
        go_roundg (Ps.length - (kk + 1))
        case measure => omega
        case rel =>
          refine ⟨kk + 1, by omega, by omega, by go_num, BW.out.trans (hb'.mono BW.out.size), (show Aside _ from fun j hj hjk => ?_)⟩
          by_cases e : j = kk
          · subst e; exact Q.out
          · exact A.out j hj (by omega)
    · have hltz : ¬ (kk : Int) < (Ps.length : Int) := by omega
      have : kk = Ps.length := by omega
      subst this
      go_wp2
      go_ret
      refine ⟨_, rfl, ?_, BW.out⟩
      rw [show Ps.any (fun P => P x) = false from by
        rw [List.any_eq_false]
        intro P hP
        obtain ⟨j, hj, rfl⟩ := List.mem_iff_getElem.1 hP
        rw [A.out j hj hj]; decide]
      rfl
set_option maxRecDepth 100000 in
set_option maxHeartbeats 1000000 in
theorem contains_c (R : Nat) (bx : Nat) (x : Int) (h0 : 0 ≤ x) (h1 : x ≤ 255) (b c : Nat) (Ps : List (Int → Bool)) (hl : Ps.length ≤ 10) (w : World) (hP : AmL R w b Ps) (hb : b < w.heap.size) (hbx : bx < w.heap.size) (hc : w.cell? ⟨bx, 0, none⟩ = some (.int .u8 x)) :
    Calls Tryz.prog 105 #[.slice (some ⟨b, 0, none⟩) Ps.length c, .func (.func 106) #[] #[.pointer (some ⟨bx, 0, none⟩)]] w fun e w' => e = .returned (.bool (Ps.any (fun P => P x))) ∧ Below w.heap.size w w' := by
  have HC := Lib.hid (index_c R bx x h0 h1 b c Ps hl w hP hb hbx hc)
  clear hP
  go_enter Tryz.func105, Tryz.ntmps105
  go_wp2_with fail
  refine HC.out.mono ?_
  rintro e w1 ⟨i, rfl, hi, b1⟩
  have HI := Lib.hid hi
  clear hi
  go_wp2
  go_ret
  exact ⟨by rw [← HI.out]; rfl, b1⟩
set_option maxRecDepth 100000 in
set_option maxHeartbeats 1000000 in
theorem either_call (R : Nat) (x : Int) (h0 : 0 ≤ x) (h1 : x ≤ 255) (b0 b c : Nat) (Ps : List (Int → Bool)) (hl : Ps.length ≤ 10) (w : World) (hP : AmL R w b Ps) (hb : b < w.heap.size) (hc : w.cell? ⟨b0, 0, none⟩ = some (.slice (some ⟨b, 0, none⟩) Ps.length c)) (hb0 : b0 < w.heap.size) :
    Calls Tryz.prog 104 #[.int .u8 x, .pointer (some ⟨b0, 0, none⟩)] w fun e w' => e = .returned (.bool (Ps.any (fun P => P x))) ∧ Below w.heap.size w w' := by
  have bb := (Below.refl w.heap.size w).alloc (Nat.le_refl _) (.cells #[.int .u8 x] 5)
  have hc' := (bb.cell (p := ⟨b0, 0, none⟩) hb0).trans hc
  have HC := Lib.hid (contains_c R w.heap.size x h0 h1 b c Ps hl _ (hP.kept hb bb) (by have := bb.size; omega) (by rw [World.size_alloc]; omega) (by rw [cell_of_row _ w.heap.size 0 _ _ _ (heap_alloc_new w _)]; rfl))
  have BB := Lib.hid bb
  clear hP bb hc
  go_enter Tryz.func104, Tryz.ntmps104
  go_wp2_with fail
  refine HC.out.mono ?_
  rintro e w1 ⟨rfl, b1⟩
  go_wp2
  go_ret
  exact ⟨rfl, BB.out.trans (b1.mono BB.out.size)⟩
set_option maxRecDepth 100000 in
set_option maxHeartbeats 1000000 in
theorem either_c (R : Nat) (b c : Nat) (Ps : List (Int → Bool)) (hl : Ps.length ≤ 10) (W : World) (hP : AmL R W b Ps) (hb : b < W.heap.size) (hbR : b ≠ R) (hR : R < W.heap.size) :
    Calls Tryz.prog 85 #[.slice (some ⟨b, 0, none⟩) Ps.length c] W fun e W' => ∃ v, e = .returned v ∧ Am R W' v (fun x => Ps.any (fun P => P x)) ∧ Below W.heap.size W W' := by
  have HP := Lib.hid hP
  clear hP
  go_enter Tryz.func85, Tryz.ntmps85
  go_wp2
  go_ret
  have bb := (Below.refl W.heap.size W).alloc (Nat.le_refl _) (.cells #[.slice (some ⟨b, 0, none⟩) Ps.length c] 120)
  refine ⟨_, rfl, ⟨_, _, rfl, enters_either, fun W' hg x h0 h1 => ?_⟩, bb⟩
  have hsz : (W.alloc (.cells #[.slice (some ⟨b, 0, none⟩) Ps.length c] 120)).heap.size = W.heap.size + 1 := World.size_alloc _ _
  have hzz := hg.size
  refine either_call R x h0 h1 W.heap.size b c Ps hl W' (fun j hj => ?_) (by omega) (box_gr (heap_alloc_new W _) hg (by omega)) (by omega)
  obtain ⟨v, e1, e2⟩ := (HP.out.kept hb bb) j hj
  exact ⟨v, (hg.cell e1 (fun e => hbR (by cases e; rfl))), e2.kept hg⟩
end Go.Proofs.YtahgljglleeloaaGreatDoor

/- The reader looks: what stands here, what stands behind it; it reads a sign. -/
namespace Go.Proofs.YtahgljglleeloaaGreatDoor
open Go.RowKit Go.Shelf SetM RxM
open U.UtfM (wr enc)
variable {R : Nat} {W : World} {s : ByteArray} {dv : Value} {rest : List Int} {d : Nat} {cl : Bool}

theorem Am.form {v : Value} {P : Int → Bool} (h : Am R W v P) : ∃ g lb, v = .func (.func g) #[] lb := let ⟨g, lb, e, _, _⟩ := h; ⟨g, lb, e⟩
set_option maxRecDepth 100000 in
set_option maxHeartbeats 1000000 in
theorem digit_c (hR : R < W.heap.size) :
    Calls Tryz.prog 86 #[] W fun e W' => ∃ v, e = .returned v ∧ Am R W' v isD ∧ Below W.heap.size W W' := by
  go_enter Tryz.func86, Tryz.ntmps86
  go_wp2_with fail
  refine (within_c R 48 57 _ hR).mono ?_
  rintro e w1 ⟨v, rfl, h1, b1⟩
  have H1 := Lib.hid h1
  clear h1
  go_wp2
  go_ret
  exact ⟨v, rfl, H1.out, b1⟩
/-- Two that were just laid side by side. -/
theorem amL2 {v1 v2 : Value} {P1 P2 : Int → Bool} (h1 : Am R W v1 P1) (h2 : Am R W v2 P2) (t : TypeId) : AmL R (W.alloc (.cells #[v1, v2] t)) W.heap.size [P1, P2] := fun j hj => by
  have hb : Gr R W (W.alloc (.cells #[v1, v2] t)) := Gr.of ((Below.refl _ _).alloc (Nat.le_refl _) _)
  match j, hj with
  | 0, _ => exact ⟨v1, by rw [cell_of_row _ W.heap.size _ _ _ _ (heap_alloc_new W _)]; rfl, h1.kept hb⟩
  | 1, _ => exact ⟨v2, by rw [cell_of_row _ W.heap.size _ _ _ _ (heap_alloc_new W _)]; rfl, h2.kept hb⟩
theorem amL3 {v1 v2 v3 : Value} {P1 P2 P3 : Int → Bool} (h1 : Am R W v1 P1) (h2 : Am R W v2 P2) (h3 : Am R W v3 P3) (t : TypeId) : AmL R (W.alloc (.cells #[v1, v2, v3] t)) W.heap.size [P1, P2, P3] := fun j hj => by
  have hb : Gr R W (W.alloc (.cells #[v1, v2, v3] t)) := Gr.of ((Below.refl _ _).alloc (Nat.le_refl _) _)
  match j, hj with
  | 0, _ => exact ⟨v1, by rw [cell_of_row _ W.heap.size _ _ _ _ (heap_alloc_new W _)]; rfl, h1.kept hb⟩
  | 1, _ => exact ⟨v2, by rw [cell_of_row _ W.heap.size _ _ _ _ (heap_alloc_new W _)]; rfl, h2.kept hb⟩
  | 2, _ => exact ⟨v3, by rw [cell_of_row _ W.heap.size _ _ _ _ (heap_alloc_new W _)]; rfl, h3.kept hb⟩
theorem either2_c {v1 v2 : Value} {P1 P2 Q : Int → Bool} (h1 : Am R W v1 P1) (h2 : Am R W v2 P2) (hR : R < W.heap.size) (hQ : ∀ b, 0 ≤ b → b ≤ 255 → (P1 b || P2 b) = Q b) :
    Calls Tryz.prog 85 #[.slice (some ⟨W.heap.size, 0, none⟩) 2 2] (W.alloc (.cells #[v1, v2] 86)) fun e W' => ∃ v, e = .returned v ∧ Am R W' v Q ∧ Below W.heap.size W W' := by
  have hb := (Below.refl W.heap.size W).alloc (Nat.le_refl _) (.cells #[v1, v2] 86)
  have hz := World.size_alloc W (.cells #[v1, v2] 86)
  refine (either_c R W.heap.size 2 [P1, P2] (by simp) _ (amL2 h1 h2 _) (by omega) (by omega) (by omega)).mono ?_
  rintro e W' ⟨v, rfl, ha, b2⟩
  exact ⟨v, rfl, ha.congr (fun b g0 g1 => by simpa using hQ b g0 g1), hb.trans (b2.mono hb.size)⟩
theorem either3_c {v1 v2 v3 : Value} {P1 P2 P3 Q : Int → Bool} (h1 : Am R W v1 P1) (h2 : Am R W v2 P2) (h3 : Am R W v3 P3) (hR : R < W.heap.size) (hQ : ∀ b, 0 ≤ b → b ≤ 255 → (P1 b || (P2 b || P3 b)) = Q b) :
    Calls Tryz.prog 85 #[.slice (some ⟨W.heap.size, 0, none⟩) 3 3] (W.alloc (.cells #[v1, v2, v3] 86)) fun e W' => ∃ v, e = .returned v ∧ Am R W' v Q ∧ Below W.heap.size W W' := by
  have hb := (Below.refl W.heap.size W).alloc (Nat.le_refl _) (.cells #[v1, v2, v3] 86)
  have hz := World.size_alloc W (.cells #[v1, v2, v3] 86)
  refine (either_c R W.heap.size 3 [P1, P2, P3] (by simp) _ (amL3 h1 h2 h3 _) (by omega) (by omega) (by omega)).mono ?_
  rintro e W' ⟨v, rfl, ha, b2⟩
  exact ⟨v, rfl, ha.congr (fun b g0 g1 => by simpa using hQ b g0 g1), hb.trans (b2.mono hb.size)⟩
set_option maxRecDepth 100000 in
set_option maxHeartbeats 1000000 in
theorem letter_c (hR : R < W.heap.size) :
    Calls Tryz.prog 69 #[] W fun e W' => ∃ v, e = .returned v ∧ Am R W' v isL ∧ Below W.heap.size W W' := by
  go_enter Tryz.func69, Tryz.ntmps69
  go_wp2_with fail
  refine (within_c R 97 122 _ hR).mono ?_
  rintro e w1 ⟨v1, rfl, h1, b1⟩
  obtain ⟨g1, lb1, rfl⟩ := h1.form
  have H1 := Lib.hid h1
  have hR1 : R < w1.heap.size := by have := b1.size; omega
  clear h1
  go_wp2_with fail
  refine (within_c R 65 90 _ hR1).mono ?_
  rintro e w2 ⟨v2, rfl, h2, b2⟩
  obtain ⟨g2, lb2, rfl⟩ := h2.form
  have H1 := Lib.hid (H1.out.kept (Gr.of b2))
  have H2 := Lib.hid h2
  have hR2 : R < w2.heap.size := by have := b2.size; omega
  clear h2
  go_wp2_with fail
  refine (either2_c H1.out H2.out hR2 (Q := isL) (fun b _ _ => rfl)).mono ?_
  rintro e w3 ⟨v3, rfl, h3, b3⟩
  have H3 := Lib.hid h3
  clear h3
  go_wp2
  go_ret
  exact ⟨v3, rfl, H3.out, b1.trans ((b2.trans (b3.mono b2.size)).mono b1.size)⟩
set_option maxRecDepth 100000 in
set_option maxHeartbeats 1000000 in
theorem hexDigit_c (hR : R < W.heap.size) :
    Calls Tryz.prog 116 #[] W fun e W' => ∃ v, e = .returned v ∧ Am R W' v isH ∧ Below W.heap.size W W' := by
  go_enter Tryz.func116, Tryz.ntmps116
  go_wp2_with fail
  refine (digit_c hR).mono ?_
  rintro e w0 ⟨v0, rfl, h0, b0⟩
  obtain ⟨g0, lb0, rfl⟩ := h0.form
  have H0 := Lib.hid h0
  have hR0 : R < w0.heap.size := by have := b0.size; omega
  clear h0
  go_wp2_with fail
  refine (within_c R 97 102 _ hR0).mono ?_
  rintro e w1 ⟨v1, rfl, h1, b1⟩
  obtain ⟨g1, lb1, rfl⟩ := h1.form
  have H0 := Lib.hid (H0.out.kept (Gr.of b1))
  have H1 := Lib.hid h1
  have hR1 : R < w1.heap.size := by have := b1.size; omega
  clear h1
  go_wp2_with fail
  refine (within_c R 65 70 _ hR1).mono ?_
  rintro e w2 ⟨v2, rfl, h2, b2⟩
  obtain ⟨g2, lb2, rfl⟩ := h2.form
  have H0 := Lib.hid (H0.out.kept (Gr.of b2))
  have H1 := Lib.hid (H1.out.kept (Gr.of b2))
  have H2 := Lib.hid h2
  have hR2 : R < w2.heap.size := by have := b2.size; omega
  clear h2
  go_wp2_with fail
  refine (either3_c H0.out H1.out H2.out hR2 (Q := isH) (fun b _ _ => rfl)).mono ?_
  rintro e w3 ⟨v3, rfl, h3, b3⟩
  have H3 := Lib.hid h3
  clear h3
  go_wp2
  go_ret
  exact ⟨v3, rfl, H3.out, b0.trans ((b1.trans ((b2.trans (b3.mono b2.size)).mono b1.size)).mono b0.size)⟩

/-! Is all read? What is wrong here? -/
set_option maxRecDepth 100000 in
set_option maxHeartbeats 1000000 in
theorem ended_c (h : Rd R W s dv rest d cl) :
    Calls Tryz.prog 27 #[.pointer (some ⟨R, 0, none⟩)] W fun e W' => e = .returned (.bool (decide (rest = []))) ∧ Below W.heap.size W W' := by
  have c0 := h.c0
  have c1 := h.c1
  have hl := h.len
  have hz := wr_eq_nil h.sc
  have e : decide (rest = []) = ((s.size : Int) - ((wr rest).length : Nat) == (s.size : Int)) := by
    rw [Bool.eq_iff_iff, decide_eq_true_iff, beq_iff_eq, ← hz]
    omega
  have HE := Lib.hid e
  clear h hl hz e
  go_enter Tryz.func27, Tryz.ntmps27
  go_wp2_with fail
  go_quiet (fail)
  go_wp2
  go_ret
  exact ⟨by rw [HE.out]; rfl, ⟨rfl, rfl, rfl, Nat.le_refl _, fun _ _ => rfl⟩⟩
/-- What is wrong, and where: what is left there. -/
def faultV (s : ByteArray) (e : Nat) (r : List Int) : Value := .iface 64 (.agg #[.int .u16 e, .int .i64 ((s.size : Int) - ((wr r).length : Nat))])
def Bad (s : ByteArray) (e : Nat) (r : List Int) (e' : Ending) : Prop := e' = .panicked [{ v := faultV s e r, recovered := false }]
set_option maxRecDepth 100000 in
set_option maxHeartbeats 1000000 in
theorem misplaced_c (h : Rd R W s dv rest d cl) :
    Calls Tryz.prog 28 #[.pointer (some ⟨R, 0, none⟩)] W fun e W' => e = .returned (.agg #[.int .u16 60, .int .i64 ((s.size : Int) - ((wr rest).length : Nat))]) ∧ Below W.heap.size W W' := by
  have hb := (Below.refl W.heap.size W).alloc (Nat.le_refl _) (.cells #[.int .u16 0, .int .i64 0] 64)
  have c1 := (hb.cell (p := ⟨R, 1, none⟩) h.lt).trans h.c1
  have HB := Lib.hid hb
  clear h hb
  go_enter Tryz.func28, Tryz.ntmps28
  go_wp2
  go_returns
  exact ⟨rfl, (Below.refl _ _).alloc (Nat.le_refl _) _⟩

/-! A sign. -/
/-- A sign's bytes as numbers, each below 128. -/
def Low (p : List Int) : Prop := ∀ c ∈ p, 0 ≤ c ∧ c < 128
theorem pre_low : ∀ (p : List Int), Low p → ∀ (rest : List Int), (∀ c ∈ rest, U.UtfM.Sc c) → (p <+: wr rest ↔ p <+: rest)
  | [], _, rest, _ => by simp
  | a :: p, hp, [], _ => by simp [U.UtfM.wr_nil]
  | a :: p, hp, c :: t, hs => by
    have ha := hp a (by simp)
    have hc := hs c (by simp)
    obtain ⟨b, l, e, _, _, h | h⟩ := wr_head hc t
    · rw [wr_head_low hc h.2, List.cons_prefix_cons, List.cons_prefix_cons, pre_low p (fun x hx => hp x (by simp [hx])) t (fun x hx => hs x (by simp [hx]))]
    · rw [e, List.cons_prefix_cons, List.cons_prefix_cons]
      constructor
      · rintro ⟨h1, _⟩; omega
      · rintro ⟨h1, _⟩; omega
theorem prefix_num : ∀ (p l : List UInt8), (p.map fun b => (b.toNat : Int)) <+: (l.map fun b => (b.toNat : Int)) ↔ p <+: l
  | [], l => by simp
  | a :: p, [] => by simp
  | a :: p, b :: l => by
    rw [List.map_cons, List.map_cons, List.cons_prefix_cons, List.cons_prefix_cons, prefix_num p l]
    constructor
    · rintro ⟨h1, h2⟩; exact ⟨UInt8.toNat_inj.1 (by omega), h2⟩
    · rintro ⟨rfl, h2⟩; exact ⟨rfl, h2⟩
theorem extract_bytes (s : ByteArray) (k : Nat) : bs (s.extract k s.size) = (bs s).drop k := by
  unfold bs
  rw [← List.map_drop]
  congr 1
  rw [ByteArray.data_extract, Array.toList_extract]
  rw [List.extract_eq_take_drop]
  exact List.take_of_length_le (by rw [List.length_drop]; exact Nat.le_refl _)
/-- What is left, as bytes. -/
theorem Rd.tail_bytes (h : Rd R W s dv rest d cl) : bs (s.extract (s.size - (wr rest).length) s.size) = wr rest := by
  rw [extract_bytes]
  obtain ⟨pre, e⟩ := h.tl
  have hl := congrArg List.length e
  rw [bs_len, List.length_append] at hl
  rw [show s.size - (wr rest).length = pre.length from by omega, e, List.drop_left]
theorem Rd.has (h : Rd R W s dv rest d cl) (p : ByteArray) (hp : Low (bs p)) : Lib.hasPrefix (s.extract (s.size - (wr rest).length) s.size).data.toList p.data.toList = decide (bs p <+: rest) := by
  unfold Lib.hasPrefix
  rw [Bool.eq_iff_iff, List.isPrefixOf_iff_prefix, decide_eq_true_iff, ← pre_low (bs p) hp rest h.sc, ← prefix_num]
  have := h.tail_bytes
  unfold bs at this ⊢
  rw [this]
theorem Rd.has_c (h : Rd R W s dv rest d cl) (p : ByteArray) (hp : Low (bs p)) (q : Bool) (hq : decide (bs p <+: rest) = q) (U : World) :
    Calls Tryz.prog 46 #[.string (s.extract (s.size - (wr rest).length) s.size), .string p] U fun e w' => e = .returned (.bool q) ∧ w' = U := by
  have := Tryz.strings_HasPrefix (s.extract (s.size - (wr rest).length) s.size) p U
  rwa [h.has p hp, hq] at this
theorem drewN_below {W : World} (k : Nat) : Below W.heap.size W (W.drewN k) := ⟨rfl, rfl, rfl, Nat.le_refl _, fun _ _ => rfl⟩
set_option maxRecDepth 100000 in
set_option maxHeartbeats 2000000 in
theorem take_no (p : ByteArray) (hp : Low (bs p)) (hn : ¬ bs p <+: rest) (h : Rd R W s dv rest d cl) :
    Calls Tryz.prog 36 #[.pointer (some ⟨R, 0, none⟩), .string p] W fun e W' => e = .returned (.bool false) ∧ Below W.heap.size W W' := by
  have c0 := h.c0
  have c1 := h.c1
  have hl := h.len
  have HC := Lib.hid (h.has_c p hp false (decide_eq_false hn))
  have l1 : (0 : Int) ≤ (s.size : Int) - ((wr rest).length : Nat) := by omega
  have l2 : (s.size : Int) - ((wr rest).length : Nat) ≤ (s.size : Int) := by omega
  clear h hl hp hn
  go_enter Tryz.func36, Tryz.ntmps36
  go_wp2_with fail
  go_quiet ((go_at_call 46; exact Calls.quiet_of_same (HC.out _)))
  go_wp2
  go_ret
  exact ⟨rfl, drewN_below _⟩
theorem low_len : ∀ (p : List Int), Low p → (∀ c ∈ p, U.UtfM.Sc c)
  | p, h => fun c hc => by have := h c hc; unfold U.UtfM.Sc; omega
theorem wr_low : ∀ (p : List Int), Low p → wr p = p
  | [], _ => rfl
  | a :: p, h => by
    have ha := h a (by simp)
    rw [wr_head_low (by unfold U.UtfM.Sc; omega) ha.2, wr_low p (fun c hc => h c (by simp [hc]))]
set_option maxRecDepth 100000 in
set_option maxHeartbeats 2000000 in
theorem take_yes (p : ByteArray) (hp : Low (bs p)) (t : List Int) (h : Rd R W s dv (bs p ++ t) d cl) :
    Calls Tryz.prog 36 #[.pointer (some ⟨R, 0, none⟩), .string p] W fun e W' => e = .returned (.bool true) ∧ Rd R W' s dv t d cl ∧ Gr R W W' := by
  have hl := h.len
  have HC := Lib.hid (h.has_c p hp true (decide_eq_true (List.prefix_append _ _)))
  have hlen : (wr (bs p ++ t)).length = p.size + (wr t).length := by rw [U.UtfM.wr_append, wr_low _ hp, List.length_append, bs_len]
  have l1 : (0 : Int) ≤ (s.size : Int) - ((wr (bs p ++ t)).length : Nat) := by omega
  have l2 : (s.size : Int) - ((wr (bs p ++ t)).length : Nat) ≤ (s.size : Int) := by omega
  have HM := Lib.hid (fun U (hU : Rd R U s dv (bs p ++ t) d cl) => hU.move (p := bs p) (rest' := t) (x := (s.size : Int) - ((wr (bs p ++ t)).length : Nat) + (p.size : Int)) rfl (by omega))
  have hsm := h.small
  have k0 : ∀ n, (W.drewN n).cell? ⟨R, 0, none⟩ = some (.string s) := fun _ => h.c0
  have k1 : ∀ n, (W.drewN n).cell? ⟨R, 1, none⟩ = some (.int .i64 ((s.size : Int) - ((wr (bs p ++ t)).length : Nat))) := fun _ => h.c1
  have kz : ∀ n, (W.drewN n).frozen? ⟨R, 1, none⟩ = false := fun _ => h.z 1
  have c0 := h.c0
  have c1 := h.c1
  have HR := Lib.hid h
  have ew : IntKind.i64.wrap ((s.size : Int) - ((wr (bs p ++ t)).length : Nat) + (p.size : Int)) = (s.size : Int) - ((wr (bs p ++ t)).length : Nat) + (p.size : Int) := IntWalk.i64_in _ (by omega)
  have hps : (p.size : Int) ≤ 1000 := by omega
  clear h hl hp hlen
  go_enter Tryz.func36, Tryz.ntmps36
  go_wp2_with fail
  go_quiet ((go_at_call 46; exact Calls.quiet_of_same (HC.out _)))
  go_wp2
  go_ret
  exact ⟨rfl, HM.out _ (HR.out.kept (drewN_below _)), (Gr.of (drewN_below nq)).trans (Gr.set _ 1 _)⟩
set_option maxRecDepth 100000 in
set_option maxHeartbeats 1000000 in
theorem need_yes (p : ByteArray) (hp : Low (bs p)) (t : List Int) (h : Rd R W s dv (bs p ++ t) d cl) :
    Calls Tryz.prog 82 #[.pointer (some ⟨R, 0, none⟩), .string p] W fun e W' => e = .returned (.tuple #[]) ∧ Rd R W' s dv t d cl ∧ Gr R W W' := by
  have HC := Lib.hid (take_yes p hp t h)
  clear h hp
  go_enter Tryz.func82, Tryz.ntmps82
  go_wp2_with fail
  refine HC.out.mono ?_
  rintro e w1 ⟨rfl, h1, b1⟩
  have H1 := Lib.hid h1
  clear h1
  go_wp2
  go_returns
  exact ⟨rfl, H1.out, b1⟩
set_option maxRecDepth 100000 in
set_option maxHeartbeats 1000000 in
theorem need_no (p : ByteArray) (hp : Low (bs p)) (hn : ¬ bs p <+: rest) (h : Rd R W s dv rest d cl) :
    Calls Tryz.prog 82 #[.pointer (some ⟨R, 0, none⟩), .string p] W fun e W' => Bad s 60 rest e ∧ Below W.heap.size W W' := by
  have HC := Lib.hid (take_no p hp hn h)
  have HM := Lib.hid (fun U (hU : Rd R U s dv rest d cl) => misplaced_c hU)
  have HR := Lib.hid h
  clear h hp hn
  go_enter Tryz.func82, Tryz.ntmps82
  go_wp2_with fail
  refine HC.out.mono ?_
  rintro e w1 ⟨rfl, b1⟩
  have HR1 := Lib.hid (HR.out.kept b1)
  go_wp2_with fail
  refine (HM.out _ HR1.out).mono ?_
  rintro e w2 ⟨rfl, b2⟩
  go_wp2
  exact ⟨rfl, rfl, b1.trans (b2.mono b1.size)⟩

/-! What stands here, or behind. -/
set_option maxRecDepth 100000 in
set_option maxHeartbeats 1000000 in
theorem ahead_none (n : Nat) (hn : (wr rest).length ≤ n) (hn1 : n ≤ 1) (v : Value) (P : Int → Bool) (hv : Am R W v P) (h : Rd R W s dv rest d cl) :
    Calls Tryz.prog 52 #[.pointer (some ⟨R, 0, none⟩), .int .i64 n, v] W fun e W' => e = .returned (.bool false) ∧ Below W.heap.size W W' := by
  obtain ⟨g, lb, rfl⟩ := hv.form
  have c0 := h.c0
  have c1 := h.c1
  have hl := h.len
  have hsm := h.small
  have ew : IntKind.i64.wrap ((s.size : Int) - ((wr rest).length : Nat) + (n : Int)) = (s.size : Int) - ((wr rest).length : Nat) + (n : Int) := IntWalk.i64_in _ (by omega)
  have hlt : decide ((s.size : Int) - ((wr rest).length : Nat) + (n : Int) < (s.size : Int)) = false := decide_eq_false (by omega)
  clear h hv hl
  go_enter Tryz.func52, Tryz.ntmps52
  go_wp2_with fail
  go_quiet (fail)
  go_wp2
  go_ret
  exact ⟨rfl, drewN_below _⟩
set_option maxRecDepth 100000 in
set_option maxHeartbeats 2000000 in
theorem ahead_some (n : Nat) (b : Int) (hb : (wr rest)[n]? = some b) (h0 : 0 ≤ b) (h1 : b ≤ 255) (v : Value) (P : Int → Bool) (hv : Am R W v P) (h : Rd R W s dv rest d cl) :
    Calls Tryz.prog 52 #[.pointer (some ⟨R, 0, none⟩), .int .i64 n, v] W fun e W' => e = .returned (.bool (P b)) ∧ Below W.heap.size W W' := by
  obtain ⟨g, lb, rfl, he, hcall⟩ := hv
  have hix := h.byte n b hb
  have hl := h.len
  have hn := (List.getElem?_eq_some_iff.1 hb).1
  have hsm := h.small
  have k0 : ∀ U, Below W.heap.size W U → U.cell? ⟨R, 0, none⟩ = some (.string s) := fun U hU => (h.kept hU).c0
  have k1 : ∀ U, Below W.heap.size W U → U.cell? ⟨R, 1, none⟩ = some (.int .i64 ((s.size : Int) - ((wr rest).length : Nat))) := fun U hU => (h.kept hU).c1
  have HC := Lib.hid (fun U (hU : Below W.heap.size W U) => hcall U (Gr.of hU) b h0 h1)
  have ew : IntKind.i64.wrap ((s.size : Int) - ((wr rest).length : Nat) + (n : Int)) = (s.size : Int) - ((wr rest).length : Nat) + (n : Int) := IntWalk.i64_in _ (by omega)
  have hlt : (s.size : Int) - ((wr rest).length : Nat) + (n : Int) < (s.size : Int) := by omega
  clear h hcall hl hb
  go_enter Tryz.func52, Tryz.ntmps52
  go_wp2_with fail
  have hr : Below W.heap.size W W := Below.refl _ _
  go_region_held3 (fun w' => w'.cell? ⟨R, 0, none⟩ = some (.string s) ∧ w'.cell? ⟨R, 1, none⟩ = some (.int .i64 ((s.size : Int) - ((wr rest).length : Nat))))
    (first | exact ⟨k0 _ hr, k1 _ hr⟩ | exact ⟨k0 _ (below_drewN hr 1), k1 _ (below_drewN hr 1)⟩)
    (first
      | (go_at_fn g; (refine (HC.out _ (by first | exact hr | exact below_drewN hr 1)).mono ?_); rintro e w2 ⟨rfl, hb2⟩; have hr := (show Below W.heap.size W _ by first | exact hr | exact below_drewN hr 1).trans (hb2.mono (by have := hr.size; (try simp only [World.size_drew]); omega))))
  all_goals
    go_wp2
    go_ret
    exact ⟨rfl, hr⟩
theorem at1_prefix (c : Int) (r : List Int) : at1 c r = decide ([c] <+: r) := by
  cases r with
  | nil => simp [at1]
  | cons b t => rw [Bool.eq_iff_iff]; simp [at1, List.cons_prefix_cons, eq_comm]
/-- Nothing that lies above the ascii is among them. -/
def Asc (P : Int → Bool) : Prop := ∀ b, 128 ≤ b → P b = false
theorem sees_c (v : Value) (P : Int → Bool) (hA : Asc P) (hv : Am R W v P) (h : Rd R W s dv rest d cl) :
    Calls Tryz.prog 44 #[.pointer (some ⟨R, 0, none⟩), v] W fun e W' => e = .returned (.bool (sees P rest)) ∧ Below W.heap.size W W' := by
  have HC : Hid (Calls Tryz.prog 52 #[.pointer (some ⟨R, 0, none⟩), .int .i64 0, v] W fun e W' => e = .returned (.bool (sees P rest)) ∧ Below W.heap.size W W') := Lib.hid (by
    cases rest with
    | nil => exact ahead_none 0 (by simp [U.UtfM.wr_nil]) (by omega) v P hv h
    | cons c t =>
      obtain ⟨b, l, e, g0, g1, hh⟩ := wr_head (h.sc c (by simp)) t
      have hq : sees P (c :: t) = P b := by
        rcases hh with ⟨rfl, _⟩ | ⟨k1, k2⟩
        · rfl
        · rw [hA b (by omega)]; exact hA c (by omega)
      rw [hq]
      exact ahead_some 0 b (by rw [e]; rfl) g0 g1 v P hv h)
  clear h hv
  go_enter Tryz.func44, Tryz.ntmps44
  go_wp2_with fail
  refine HC.out.mono ?_
  rintro e w1 ⟨rfl, b1⟩
  go_wp2
  go_ret
  exact ⟨rfl, b1⟩
/-- One place on, behind a sign of one byte. -/
theorem ahead1_c (c : Int) (t : List Int) (hc : 0 ≤ c ∧ c < 128) (v : Value) (P : Int → Bool) (hA : Asc P) (hv : Am R W v P) (h : Rd R W s dv (c :: t) d cl) :
    Calls Tryz.prog 52 #[.pointer (some ⟨R, 0, none⟩), .int .i64 1, v] W fun e W' => e = .returned (.bool (sees P t)) ∧ Below W.heap.size W W' := by
  have e0 := wr_head_low (h.sc c (by simp)) hc.2 t
  cases t with
  | nil => exact ahead_none 1 (by rw [e0]; simp [U.UtfM.wr_nil]) (by omega) v P hv h
  | cons x t =>
    obtain ⟨b, l, e, g0, g1, hh⟩ := wr_head (h.sc x (by simp)) t
    have hq : sees P (x :: t) = P b := by
      rcases hh with ⟨rfl, _⟩ | ⟨k1, k2⟩
      · rfl
      · rw [hA b (by omega)]; exact hA x (by omega)
    rw [hq]
    exact ahead_some 1 b (by rw [e0, e]; rfl) g0 g1 v P hv h
end Go.Proofs.YtahgljglleeloaaGreatDoor

/- The reader reads bytes as long as they are among some; a scalar. -/
namespace Go.Proofs.YtahgljglleeloaaGreatDoor
open Go.RowKit Go.Shelf SetM RxM
variable {R : Nat} {W : World} {s : ByteArray} {dv : Value} {rest : List Int} {d : Nat} {cl : Bool}

theorem extract_mid (s : ByteArray) (i j : Nat) : bs (s.extract i j) = ((bs s).drop i).take (j - i) := by
  unfold bs
  rw [← List.map_drop, ← List.map_take]
  congr 1
  rw [ByteArray.data_extract, Array.toList_extract, List.extract_eq_take_drop]
/-- What was read between two places. -/
theorem Rd.between {ds r : List Int} (h : Rd R W s dv (ds ++ r) d cl) (hd : Low ds) : bs (s.extract (s.size - (U.UtfM.wr (ds ++ r)).length) (s.size - (U.UtfM.wr r).length)) = ds := by
  obtain ⟨pre, e⟩ := h.tl
  have hl := congrArg List.length e
  have hw : U.UtfM.wr (ds ++ r) = ds ++ U.UtfM.wr r := by rw [U.UtfM.wr_append, wr_low _ hd]
  rw [hw] at e hl ⊢
  rw [bs_len, List.length_append, List.length_append] at hl
  rw [List.length_append, extract_mid, e]
  rw [show s.size - (ds.length + (U.UtfM.wr r).length) = pre.length from by omega, List.drop_left, show s.size - (U.UtfM.wr r).length - pre.length = ds.length from by omega, List.take_left]
theorem Rd.gr {W' : World} (h : Rd R W s dv rest d cl) (hb : Below W.heap.size W W') : Rd R W' s dv rest d cl := h.kept hb
theorem run_zero (P : Int → Bool) (r : List Int) : runF P 0 r = ([], r) := rfl
theorem run_yes {P : Int → Bool} {c : Int} (k : Nat) (t : List Int) (h : P c = true) : runF P (k + 1) (c :: t) = (c :: (runF P k t).1, (runF P k t).2) := by simp [runF, h]
theorem run_no {P : Int → Bool} (k : Nat) {r : List Int} (h : sees P r = false) : runF P k r = ([], r) := by
  cases k with
  | zero => rfl
  | succ k =>
    cases r with
    | nil => rfl
    | cons c t => simp [sees] at h; simp [runF, h]
set_option maxRecDepth 100000 in
set_option maxHeartbeats 4000000 in
theorem run_c (k : Nat) (hk : k ≤ 1000) (v : Value) (P : Int → Bool) (hA : Asc P) (hv : Am R W v P) (h : Rd R W s dv rest d cl) :
    Calls Tryz.prog 84 #[.pointer (some ⟨R, 0, none⟩), .int .i64 k, v] W fun e W' => ∃ t, e = .returned (.string t) ∧ bs t = (runF P k rest).1 ∧ Rd R W' s dv (runF P k rest).2 d cl ∧ Gr R W W' := by
  have HR := Lib.hid h
  have HV := Lib.hid hv
  have c1 := h.c1
  have hl := h.len
  have hsm := h.small
  obtain ⟨g0, lb0, rfl⟩ := hv.form
  clear h hv
  go_enter Tryz.func84, Tryz.ntmps84
  go_wp2
  go_loopg [] k (fun g wx => ∃ ds r, Hid (rest = ds ++ r) ∧ Hid (Low ds) ∧ Hid (runF P k rest = (ds ++ (runF P g r).1, (runF P g r).2)) ∧ ds.length + g = k ∧ Hid (Rd R wx s dv r d cl) ∧ Hid (Gr R W wx))
  case atStart => exact ⟨[], rest, Lib.hid rfl, Lib.hid (fun c hc => by cases hc), Lib.hid rfl, by simp, HR, Lib.hid (Gr.refl _ _)⟩
  case round =>
    obtain ⟨ds, r, he, hlow, hrun, hg, hrd, hgr⟩ := hrel
    have c1' := hrd.out.c1
    have cz' := hrd.out.z 1
    have hl' := hrd.out.len
    have hd : (U.UtfM.wr rest).length = ds.length + (U.UtfM.wr r).length := by rw [he.out, U.UtfM.wr_append, wr_low _ hlow.out, List.length_append]
    have HD := Lib.hid hd
    have c0' := hrd.out.c0
    have ew : IntKind.i64.wrap ((s.size : Int) - ((U.UtfM.wr r).length : Nat) - ((s.size : Int) - ((U.UtfM.wr rest).length : Nat))) = (s.size : Int) - ((U.UtfM.wr r).length : Nat) - ((s.size : Int) - ((U.UtfM.wr rest).length : Nat)) := IntWalk.i64_in _ (by omega)
    have fin : ∀ (wy : World), sees P r = false ∨ gk = 0 → Rd R wy s dv r d cl → Gr R W wy → bs (s.extract (s.size - (U.UtfM.wr rest).length) (s.size - (U.UtfM.wr r).length)) = (runF P k rest).1 ∧ Rd R wy s dv (runF P k rest).2 d cl ∧ Gr R W wy := by
      intro wy hs hy hy2
      have h0 : runF P gk r = ([], r) := by
        rcases hs with hs | hs
        · exact run_no gk hs
        · rw [hs]; rfl
      have hb : bs (s.extract (s.size - (U.UtfM.wr rest).length) (s.size - (U.UtfM.wr r).length)) = ds := by
        have h := HR.out
        rw [he.out] at h ⊢
        exact h.between hlow.out
      have hr := hrun.out
      rw [h0] at hr
      rw [hr, hb]
      exact ⟨by simp, hy, hy2⟩
    cases gk with
    | zero =>
      have hlt : decide ((s.size : Int) - ((U.UtfM.wr r).length : Nat) - ((s.size : Int) - ((U.UtfM.wr rest).length : Nat)) < (k : Int)) = false := decide_eq_false (by omega)
      have l1 : (0 : Int) ≤ (s.size : Int) - ((U.UtfM.wr rest).length : Nat) := by omega
      have l2 : (s.size : Int) - ((U.UtfM.wr rest).length : Nat) ≤ (s.size : Int) - ((U.UtfM.wr r).length : Nat) := by omega
      have l3 : (s.size : Int) - ((U.UtfM.wr r).length : Nat) ≤ (s.size : Int) := by omega
      have HF := Lib.hid (fun wy => fin wy (.inr rfl))
      clear fin hd
      go_wp2_with fail
      go_quiet (fail)
      go_wp2
      go_ret
      exact ⟨_, rfl, HF.out _ (hrd.out.kept (drewN_below nq)) (hgr.out.trans (Gr.of (drewN_below nq)))⟩
    | succ g =>
      have hlt : decide ((s.size : Int) - ((U.UtfM.wr r).length : Nat) - ((s.size : Int) - ((U.UtfM.wr rest).length : Nat)) < (k : Int)) = true := decide_eq_true (by omega)
      cases hs : sees P r with
      | false =>
        have HF := Lib.hid (fun wy => fin wy (.inl hs))
        have l1 : (0 : Int) ≤ (s.size : Int) - ((U.UtfM.wr rest).length : Nat) := by omega
        have l2 : (s.size : Int) - ((U.UtfM.wr rest).length : Nat) ≤ (s.size : Int) - ((U.UtfM.wr r).length : Nat) := by omega
        have l3 : (s.size : Int) - ((U.UtfM.wr r).length : Nat) ≤ (s.size : Int) := by omega
        have HC := Lib.hid (sees_c _ P hA (HV.out.kept hgr.out) hrd.out)
        rw [hs] at HC
        clear fin hd hs
        go_wp2_with fail
        refine HC.out.mono ?_
        rintro e w1 ⟨rfl, b1⟩
        have hrd1 := Lib.hid (hrd.out.kept b1)
        have c1' := hrd1.out.c1
        have c0' := hrd1.out.c0
        go_wp2_with fail
        go_quiet (fail)
        go_wp2
        go_ret
        exact ⟨_, rfl, HF.out _ (hrd1.out.kept (drewN_below nq)) ((hgr.out.trans (Gr.of b1)).trans (Gr.of (drewN_below nq)))⟩
      | true =>
        cases r with
        | nil => simp [sees] at hs
        | cons c r =>
          have hPc : P c = true := hs
          have hc : c < 128 := by
            rcases Int.lt_or_le c 128 with h | h
            · exact h
            · rw [hA c h] at hPc; cases hPc
          have hsc : U.UtfM.Sc c := hrd.out.sc c (by simp)
          have hw : (U.UtfM.wr (c :: r)).length = (U.UtfM.wr r).length + 1 := by rw [wr_head_low hsc hc]; rfl
          have HM := Lib.hid (fun V (hV : Rd R V s dv (c :: r) d cl) => hV.move (p := [c]) (rest' := r) (x := (s.size : Int) - ((U.UtfM.wr (c :: r)).length : Nat) + 1) rfl (by omega))
          have ew2 : IntKind.i64.wrap ((s.size : Int) - ((U.UtfM.wr (c :: r)).length : Nat) + 1) = (s.size : Int) - ((U.UtfM.wr (c :: r)).length : Nat) + 1 := IntWalk.i64_in _ (by omega)
          have HC := Lib.hid (sees_c _ P hA (HV.out.kept hgr.out) hrd.out)
          rw [hs] at HC
          have HP := Lib.hid hPc
          have HLC := Lib.hid (show Low (ds ++ [c]) from fun x hx => by
            rcases List.mem_append.1 hx with h | h
            · exact hlow.out x h
            · simp at h; subst h; unfold U.UtfM.Sc at hsc; omega)
          clear fin hd hs hPc hw
          go_wp2_with fail
          refine HC.out.mono ?_
          rintro e w1 ⟨rfl, b1⟩
          have hrd1 := Lib.hid (hrd.out.kept b1)
          have c1' := hrd1.out.c1
          have cz' := hrd1.out.z 1
          go_wp2
          go_roundg g
          case measure => omega
          case rel =>
            refine ⟨ds ++ [c], r, Lib.hid (by rw [he.out]; simp), HLC, Lib.hid ?_, by simp; omega, Lib.hid (HM.out _ hrd1.out), Lib.hid ((hgr.out.trans (Gr.of b1)).trans (Gr.set _ 1 _))⟩
            rw [hrun.out, run_yes g r HP.out]
            simp
end Go.Proofs.YtahgljglleeloaaGreatDoor
