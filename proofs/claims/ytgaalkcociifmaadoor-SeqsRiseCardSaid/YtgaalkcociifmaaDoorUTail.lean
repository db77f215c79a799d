
/- UShape, UDec, UChars, UKnown, UAppend, UOrderWalk, in one text. -/
import Derived.Test.YtgaalkcociifmaaDoorUEnc
import Derived.StillTailTactics
import Derived.Deep.LoopGhost
import Derived.Laws.BytesArg
import Derived.Lib.SlBytesConst
import Derived.Laws.AppendOwnNone
import Derived.Test.YtgaalkcociifmaaDoorUOrder

/- utf.shapeOf and takes: what a lead byte says. -/
namespace Go.Proofs.YtgaalkcociifmaaDoor.U
open Go.RowKit Go.Shelf UtfM

def aggS (s : Shape) : Value := .agg #[.int .i64 s.bits, .int .i64 s.more, .int .u8 s.lo, .int .u8 s.hi]
def shapeV : Option Shape → Value
  | some s => .tuple #[aggS s, .bool true]
  | none => .tuple #[.agg #[.int .i64 0, .int .i64 0, .int .u8 0, .int .u8 0], .bool false]
def ShapePost (w : World) (a : Int) (e : Ending) (w' : World) : Prop := e = .returned (shapeV (lead a)) ∧ Below w.heap.size w w'
theorem i64_and31 (x : Int) (h₀ : 0 ≤ x) (h₁ : x < 2147483648) : bits .and .i64 x 31 = x % 32 := bits_mask .i64 31 (by decide) wraps_i64 5 (by decide) x h₀ h₁
theorem i64_and15 (x : Int) (h₀ : 0 ≤ x) (h₁ : x < 2147483648) : bits .and .i64 x 15 = x % 16 := bits_mask .i64 31 (by decide) wraps_i64 4 (by decide) x h₀ h₁
theorem i64_and7 (x : Int) (h₀ : 0 ≤ x) (h₁ : x < 2147483648) : bits .and .i64 x 7 = x % 8 := bits_mask .i64 31 (by decide) wraps_i64 3 (by decide) x h₀ h₁

end Go.Proofs.YtgaalkcociifmaaDoor.U


/- utf.Decode: the first char of bytes. -/
namespace Go.Proofs.YtgaalkcociifmaaDoor.U
open Go.RowKit Go.Shelf UtfM

def decV (l : List Int) : Value := .tuple #[.int .i64 (dec l).1, .int .i64 ((dec l).2 : Int)]
def DecPost (w : World) (l : List Int) (e : Ending) (w' : World) : Prop := e = .returned (decV l) ∧ Below w.heap.size w w'
/-- Where the loop over the bytes behind the lead one stands. -/
def DecAt (l : List Int) (s : Shape) (k : Nat) (r : Int) : Prop :=
  dec l = goOn (s.more - k) (if k = 0 then s.lo else 128) (if k = 0 then s.hi else 191) r (k + 1) (l.drop (k + 1)) ∧ 0 ≤ r ∧ r < 128 * 64 ^ k
theorem DecAt.start {a : Int} {t : List Int} {s : Shape} (h : lead a = some s) (ha : 0 ≤ a) : DecAt (a :: t) s 0 s.bits := by
  refine ⟨by rw [dec_some h]; simp, (lead_in h ha).1, ?_⟩
  have := (lead_in h ha).2.1
  simp; omega
theorem DecAt.done {l : List Int} {s : Shape} {k : Nat} {r : Int} (h : DecAt l s k r) (hk : k = s.more) : dec l = (r, k + 1) := by
  rw [h.1, hk, Nat.sub_self, goOn_zero]
theorem DecAt.short {l : List Int} {s : Shape} {k : Nat} {r : Int} (h : DecAt l s k r) (hk : k < s.more) (hl : l.length = k + 1) : dec l = (-1, k + 1) := by
  obtain ⟨m, hm⟩ : ∃ m, s.more - k = m + 1 := ⟨s.more - k - 1, by omega⟩
  rw [h.1, hm, show l.drop (k + 1) = [] from List.drop_eq_nil_of_le (by omega), goOn_end]
theorem drop_cons {l : List Int} {k : Nat} (h : k < l.length) : l.drop k = l[k] :: l.drop (k + 1) := by
  rw [← List.getElem_cons_drop h]
theorem DecAt.bad {l : List Int} {s : Shape} {k : Nat} {r : Int} (h : DecAt l s k r) (hk : k < s.more) (hl : k + 1 < l.length) (hc : ¬ ((if k = 0 then s.lo else 128) ≤ l[k + 1] ∧ l[k + 1] ≤ (if k = 0 then s.hi else 191))) : dec l = (-1, k + 1) := by
  obtain ⟨m, hm⟩ : ∃ m, s.more - k = m + 1 := ⟨s.more - k - 1, by omega⟩
  rw [h.1, hm, drop_cons hl, goOn_no (by omega)]
theorem DecAt.next {l : List Int} {s : Shape} {k : Nat} {r : Int} (h : DecAt l s k r) (hk : k < s.more) (hl : k + 1 < l.length) (hc : (if k = 0 then s.lo else 128) ≤ l[k + 1] ∧ l[k + 1] ≤ (if k = 0 then s.hi else 191)) (h8 : 128 ≤ l[k + 1] ∧ l[k + 1] ≤ 191) : DecAt l s (k + 1) (r * 64 + (l[k + 1] - 128)) := by
  obtain ⟨m, hm⟩ : ∃ m, s.more - k = m + 1 := ⟨s.more - k - 1, by omega⟩
  refine ⟨?_, ?_, ?_⟩
  · rw [h.1, hm, drop_cons hl, goOn_yes hc.1 hc.2, show s.more - (k + 1) = m from by omega]; simp
  · have := h.2.1; omega
  · have := h.2.2; rw [Int.pow_succ]; omega

theorem dec_shut {w w' : World} {l : List Int} {r m : Int} {n : Nat} (h : dec l = (r, n)) (hm : m = (n : Int)) (hb : Below w.heap.size w w') : DecPost w l (.returned (.tuple #[.int .i64 r, .int .i64 m])) w' := by
  subst hm
  refine ⟨?_, hb⟩
  rw [decV, h]
theorem below_drewN {n₀ : Nat} {w w' : World} (hb : Below n₀ w w') (k : Nat) : Below n₀ w (w'.drewN k) := ⟨hb.os, hb.tape, hb.output, hb.size, hb.block⟩
/-- Whether a byte may come at the place behind k others. -/
def takeB (s : Shape) (k : Nat) (c : Int) : Bool := decide ((if k = 0 then s.lo else 128) ≤ c ∧ c ≤ (if k = 0 then s.hi else 191))
end Go.Proofs.YtgaalkcociifmaaDoor.U


/- utf.Chars: all chars of bytes. -/
namespace Go.Proofs.YtgaalkcociifmaaDoor.U
open Go.RowKit Go.Shelf UtfM

def encC (c : Ch) : List Value := [.int .i64 c.1, .int .i64 (c.2.1 : Int), .int .i64 (c.2.2 : Int)]
def cellsC (l : List Ch) : List Value := l.flatMap encC
theorem cellsC_append (a b : List Ch) : cellsC (a ++ b) = cellsC a ++ cellsC b := by simp [cellsC]
theorem cell_news (w : World) (l : List Value) (t : TypeId) : ∀ j u, l[j]? = some u → (w.alloc (.cells l.toArray t)).cell? ((⟨w.heap.size, 0, none⟩ : Addr).add j) = some u := by
  intro j u hj
  have : ((⟨w.heap.size, 0, none⟩ : Addr).add j) = ⟨w.heap.size, j, none⟩ := by unfold Addr.add; split <;> simp_all
  rw [this, cell_of_row _ w.heap.size j l.toArray t (0, 0) (heap_alloc_new w _)]
  simpa using hj
theorem cellsC_get : ∀ (l : List Ch) (j : Nat), j < l.length * 3 → (cellsC l)[j]? = (encC (l[j / 3]?.getD default))[j % 3]?
  | [], j, h => by simp at h
  | m :: t, j, h => by
    have e : cellsC (m :: t) = encC m ++ cellsC t := rfl
    rw [e]
    by_cases hj : j < 3
    · rw [List.getElem?_append_left (by simpa [encC] using hj), Nat.div_eq_of_lt hj, Nat.mod_eq_of_lt hj]; simp
    · rw [List.getElem?_append_right (by simp [encC]; omega)]
      have h3 : (encC m).length = 3 := rfl
      rw [h3, cellsC_get t (j - 3) (by simp at h; omega), show j / 3 = (j - 3) / 3 + 1 from by omega, show (j - 3) % 3 = j % 3 from by omega]
      simp
/-- A slice of chars. -/
def Cs (W : World) (P : Option Addr) (l : List Ch) : Prop :=
  l ≠ [] → ∃ b off, P = some ⟨b, off, none⟩ ∧ b < W.heap.size ∧ ∀ j (h : j < l.length), W.cell? ⟨b, off + j * 3, none⟩ = some (.int .i64 l[j].1) ∧ W.cell? ⟨b, off + j * 3 + 1, none⟩ = some (.int .i64 (l[j].2.1 : Int)) ∧ W.cell? ⟨b, off + j * 3 + 2, none⟩ = some (.int .i64 (l[j].2.2 : Int))
theorem Cs.step {W W' : World} {P : Option Addr} {l : List Ch} (h : Cs W P l) (hb : Below W.heap.size W W') : Cs W' P l := fun hne => by
  obtain ⟨b, off, e, hbb, hc⟩ := h hne
  have := hb.size
  exact ⟨b, off, e, by omega, fun j hj => ⟨(hb.cell (p := ⟨b, off + j * 3, none⟩) hbb).trans (hc j hj).1, (hb.cell (p := ⟨b, off + j * 3 + 1, none⟩) hbb).trans (hc j hj).2.1, (hb.cell (p := ⟨b, off + j * 3 + 2, none⟩) hbb).trans (hc j hj).2.2⟩⟩
def CharsPost (w : World) (l : List Int) (e : Ending) (w' : World) : Prop :=
  ∃ P c, e = .returned (.slice P (chars 0 l).length c) ∧ Cs w' P (chars 0 l) ∧ Below w.heap.size w w'
theorem own_below {W W' : World} {base : Nat} {t : TypeId} {size n : Nat} {v : Value} {xs : List Value} (h : W.ownsRow base t size v n xs) (hb : Below W.heap.size W W') : W'.ownsRow base t size v n xs := by
  obtain ⟨h0, h⟩ := h
  refine ⟨h0, ?_⟩
  rcases h with h | ⟨g, cap, cur, e, hbase, hg, h1, h2, h3, h4⟩
  · exact .inl h
  · exact .inr ⟨g, cap, cur, e, hbase, (hb.block g (Array.getElem?_eq_some_iff.1 hg).1).trans hg, h1, h2, h3, h4⟩
end Go.Proofs.YtgaalkcociifmaaDoor.U


/- The law's 'known': the chapter's examples; a slice of bytes as a string. -/
namespace Go.Proofs.YtgaalkcociifmaaDoor.U
open Go.RowKit Go.Shelf UtfM

/-- A slice of bytes, made a string. -/
theorem conv_c {W : World} {P : Option Addr} {c : Nat} {l : List Int} (hs : By W P l) (hP : l = [] → P = none) : (convert 30 9 (.slice P l.length c)).run Tryd.prog W = .ok (.string (strOfNums l)) W := by
  by_cases h : l = []
  · subst h
    rw [hP rfl]
    exact run_convert_bytes_nil W 30 5 Tryd.underlying30 Tryd.underlying5 _ _ 9 Tryd.underlying9
  · obtain ⟨b, off, rfl, _, hc⟩ := hs.2 h
    exact run_convert_bytes_arg W 30 5 Tryd.underlying30 Tryd.underlying5 b off l.length c l rfl (fun i hi => by rw [hc i hi]; simp [List.getD, hi]) 9 Tryd.underlying9
theorem byte_inj {a b : Int} (ha : 0 ≤ a ∧ a ≤ 255) (hb : 0 ≤ b ∧ b ≤ 255) (h : UInt8.ofNat a.toNat = UInt8.ofNat b.toNat) : a = b := by
  have := congrArg UInt8.toNat h
  simp only [UInt8.toNat_ofNat'] at this
  rw [Nat.mod_eq_of_lt (by omega), Nat.mod_eq_of_lt (by omega)] at this
  omega
theorem nums_inj : ∀ {l m : List Int}, IsBytes l → IsBytes m → (l.map fun n => UInt8.ofNat n.toNat) = (m.map fun n => UInt8.ofNat n.toNat) → l = m
  | [], [], _, _, _ => rfl
  | [], _ :: _, _, _, h => by simp at h
  | _ :: _, [], _, _, h => by simp at h
  | a :: s, b :: t, hl, hm, h => by
    simp only [List.map_cons, List.cons.injEq] at h
    rw [byte_inj (hl a (by simp)) (hm b (by simp)) h.1, nums_inj (fun c hc => hl c (by simp [hc])) (fun c hc => hm c (by simp [hc])) h.2]
/-- A new block of bytes, with a mark. -/
theorem by_mark (w : World) (t : TypeId) (fr : Nat × Nat) (l : List Int) (hl : IsBytes l) : By (w.alloc (.cells (l.map (Value.int .u8)).toArray t fr)) (some ⟨w.heap.size, 0, none⟩) l :=
  ⟨hl, fun _ => ⟨w.heap.size, 0, rfl, by rw [World.size_alloc]; omega, fun j hj => by
    rw [cell_of_row _ w.heap.size _ _ _ _ (heap_alloc_new w _)]
    simp [hj]⟩⟩
theorem dec_k1 : decV [226, 130, 65] = .tuple #[.int .i64 (-1), .int .i64 2] := by rfl
theorem isB {l : List Int} (h : l.all (fun c => decide (0 ≤ c ∧ c ≤ 255)) = true) : IsBytes l := fun c hc => by simpa using List.all_eq_true.1 h c hc
theorem chars_k2 : (chars 0 [237, 160, 128]).length = 3 := by
  rw [chars_step (isB rfl) (by simp), show dec [237, 160, 128] = (-1, 1) from rfl]
  simp only [List.drop_succ_cons, List.drop_zero]
  rw [chars_step (isB rfl) (by simp), show dec [160, 128] = (-1, 1) from rfl]
  simp only [List.drop_succ_cons, List.drop_zero]
  rw [chars_step (isB rfl) (by simp), show dec [128] = (-1, 1) from rfl]
  simp only [List.drop_succ_cons, List.drop_zero]
  rw [chars_nil]; rfl
theorem first_k3 : first [65, 192] = 1 := by
  unfold first
  rw [chars_step (isB rfl) (by simp), show dec [65, 192] = (65, 1) from rfl]
  simp only [List.drop_succ_cons, List.drop_zero]
  rw [firstOf_good (by simp), chars_step (isB rfl) (by simp), show dec [192] = (-1, 1) from rfl, firstOf_bad (by simp)]
  rfl
theorem first_k4 : first [97] = -1 := by
  unfold first
  rw [chars_step (isB rfl) (by simp), show dec [97] = (97, 1) from rfl]
  simp only [List.drop_succ_cons, List.drop_zero]
  rw [firstOf_good (by simp), chars_nil]
  rfl
theorem enc_k5 : enc 8364 = [226, 130, 172] := by decide

end Go.Proofs.YtgaalkcociifmaaDoor.U

/- Slices of the call's own, appended to: bytes, ints. -/
namespace Go.Proofs.YtgaalkcociifmaaDoor.U
open Go.RowKit Go.Shelf UtfM

theorem infoB : (Tryd.prog.info? 5).map (fun i => (i.zero, i.size, i.bytes)) = some (some (.int .u8 0), 1, 1) := by kernel_rfl
theorem infoI : (Tryd.prog.info? 3).map (fun i => (i.zero, i.size, i.bytes)) = some (some (.int .i64 0), 1, 8) := by kernel_rfl
theorem one_bytes (l : List Int) (k : IntKind) : ∀ u ∈ l.map (Value.int k), u.oneCell' = true := by
  intro u hu; obtain ⟨x, _, rfl⟩ := List.mem_map.1 hu; rfl
theorem bytes_news {W : World} {b off : Nat} {l : List Int} (hs : By W (some ⟨b, off, none⟩) l) : ∀ j u, (l.map (Value.int .u8))[j]? = some u → W.cell? ((⟨b, off, none⟩ : Addr).add j) = some u := by
  intro j u hj
  have hlt : j < l.length := by
    rcases Nat.lt_or_ge j l.length with h | h
    · exact h
    · rw [List.getElem?_eq_none (by simpa using h)] at hj; cases hj
  obtain ⟨b', off', e, _, hc⟩ := hs.2 (by intro h; rw [h] at hlt; simp at hlt)
  cases e
  have e1 : (⟨b, off, none⟩ : Addr).add j = ⟨b, off + j, none⟩ := by unfold Addr.add; split <;> simp_all
  rw [e1, hc j hlt]
  rw [List.getElem?_map, List.getElem?_eq_getElem hlt] at hj
  exact hj
theorem bytes_of {W : World} {base : Nat} {v : Value} {l : List Int} (hl : IsBytes l) (h : W.ownsRow base 5 1 v l.length (l.map (Value.int .u8))) : ∃ P c, v = .slice P l.length c ∧ By W P l ∧ l.length ≤ c ∧ (P = none → c = 0) := by
  rcases h.2 with ⟨rfl, h0⟩ | ⟨g, cap, cur, rfl, hb, hg, h1, h2, h3, h4⟩
  · exact ⟨none, 0, by rw [h0], ⟨hl, fun hne => absurd (List.eq_nil_of_length_eq_zero h0) hne⟩, by omega, fun _ => rfl⟩
  · refine ⟨_, cap, rfl, ⟨hl, fun _ => ⟨g, 0, rfl, (Array.getElem?_eq_some_iff.1 hg).1, fun j hj => ?_⟩⟩, h1, fun h => by cases h⟩
    rw [cell_of_row W g _ cur _ _ hg, Nat.zero_add, ← Array.getElem?_toList]
    have : (cur.toList.take (l.length * 1))[j]? = some (.int .u8 l[j]) := by rw [h4]; simp [hj]
    rwa [List.getElem?_take_of_lt (by omega)] at this
/-- A slice of ints holds the numbers l. -/
def Ints (W : World) (A : Option Addr) (l : List Int) : Prop :=
  l ≠ [] → ∃ b off, A = some ⟨b, off, none⟩ ∧ b < W.heap.size ∧ ∀ j (h : j < l.length), W.cell? ⟨b, off + j, none⟩ = some (.int .i64 l[j])
theorem Ints.step {W W' : World} {A : Option Addr} {l : List Int} (h : Ints W A l) (hb : Below W.heap.size W W') : Ints W' A l := fun hl => by
  obtain ⟨b, off, e, hbb, hc⟩ := h hl
  have := hb.size
  exact ⟨b, off, e, by omega, fun j hj => (hb.cell (p := ⟨b, off + j, none⟩) hbb).trans (hc j hj)⟩
theorem ints_of {W : World} {base : Nat} {v : Value} {l : List Int} (h : W.ownsRow base 3 1 v l.length (l.map (Value.int .i64))) : ∃ P c, v = .slice P l.length c ∧ Ints W P l := by
  rcases h.2 with ⟨rfl, h0⟩ | ⟨g, cap, cur, rfl, hb, hg, h1, h2, h3, h4⟩
  · exact ⟨none, 0, by rw [h0], fun hne => absurd (List.eq_nil_of_length_eq_zero h0) hne⟩
  · refine ⟨_, cap, rfl, fun _ => ⟨g, 0, rfl, (Array.getElem?_eq_some_iff.1 hg).1, fun j hj => ?_⟩⟩
    rw [cell_of_row W g _ cur _ _ hg, Nat.zero_add, ← Array.getElem?_toList]
    have : (cur.toList.take (l.length * 1))[j]? = some (.int .i64 l[j]) := by rw [h4]; simp [hj]
    rwa [List.getElem?_take_of_lt (by omega)] at this
theorem By.kept {W W' : World} {b off : Nat} {row : Option Nat} {l : List Int} (hs : By W (some ⟨b, off, none⟩) l) (hg : W.grownBy W' row) (hne : some b ≠ row) : By W' (some ⟨b, off, none⟩) l := ⟨hs.1, fun hl => by
  obtain ⟨b', off', e, hbb, hc⟩ := hs.2 hl
  cases e
  have := hg.size
  exact ⟨b, off, rfl, by omega, fun j hj => hg.cell (hc j hj) hne⟩⟩
/-- Rows of two types lie in two blocks. -/
theorem own_apart {W : World} {base base' : Nat} {e e' : TypeId} {s s' n n' : Nat} {v v' : Value} {xs xs' : List Value} (h : W.ownsRow base e s v n xs) (h' : W.ownsRow base' e' s' v' n' xs') (hne : e ≠ e') : v.ownBlock = none ∨ v.ownBlock ≠ v'.ownBlock := by
  rcases h.2 with ⟨rfl, _⟩ | ⟨g, cap, cur, rfl, _, hg, _⟩
  · exact .inl rfl
  · right
    rcases h'.2 with ⟨rfl, _⟩ | ⟨g', cap', cur', rfl, _, hg', _⟩
    · simp [Value.ownBlock]
    · intro he
      have : g = g' := by simpa [Value.ownBlock] using he
      subst this
      rw [hg] at hg'
      injection hg' with hg'
      injection hg' with _ ht
      exact hne ht
theorem own_size {W : World} {base : Nat} {e : TypeId} {s n : Nat} {v : Value} {xs : List Value} (h : W.ownsRow base e s v n xs) {w2 : World} (hg : W.grownBy w2 v.ownBlock) {w : World} (hw : w.heap.size ≤ base) (hb : Below w.heap.size w W) : Below w.heap.size w w2 :=
  hb.grown hg hb.size (fun j hj => by have := (h.lt j hj).1; omega)
theorem grown_refl (w : World) (row : Option Nat) : w.grownBy w row := ⟨rfl, rfl, rfl, Nat.le_refl _, fun _ _ _ => rfl⟩
theorem bytes_news_any {W : World} {a : Addr} {l : List Int} (hs : By W (some a) l) : ∀ j u, (l.map (Value.int .u8))[j]? = some u → W.cell? (a.add j) = some u := by
  by_cases hl : l = []
  · subst hl; intro j u hj; simp at hj
  · obtain ⟨b, off, e, _, _⟩ := hs.2 hl
    cases e
    exact bytes_news hs
/-- Bytes appended to a slice of the call's own. -/
theorem wpList_append_bytes {w : World} {ops : Array Oper} {rest : List Oper} {o : Oper} {a : Act} {Q : Exit → Act → World → Prop} (hgd : o.guard = none) (s x : Operand)
    (ho : o.op = .call { callee := .builtin .append, args := #[s, x], argTypes := #[30, 30] }) (base : Nat)
    (v : Value) (n : Nat) (xs : List Value) (hs : a.eval s = v) (hown : w.ownsRow base 5 1 v n xs)
    (P : Option Addr) (c : Nat) (l : List Int) (hx : a.eval x = .slice P l.length c) (hb : By w P l) (hP : P = none → c = 0)
    (h63 : n + l.length ≤ 1000000) (hbase : base ≤ w.heap.size)
    (h : ∀ v' w', w'.ownsRow base 5 1 v' (n + l.length) (xs ++ l.map (Value.int .u8)) → w.grownBy w' v.ownBlock → wpList Tryd.prog ops Q rest (a.put o.dst v') w') : wpList Tryd.prog ops Q (o :: rest) a w := by
  obtain ⟨iB, hiB, hzB0, hzB1, hzB2⟩ := info_parts infoB
  cases P with
  | none =>
    have hl : l = [] := by
      by_cases hl : l = []
      · exact hl
      · obtain ⟨_, _, e, _⟩ := hb.2 hl; cases e
    subst hl
    rw [hP rfl] at hx
    refine wpList_append_own_none hgd s x 30 ho base 5 iB 1 Tryd.underlying30 hiB v n xs hs hown hx ?_
    exact h v w (by simpa using hown) (grown_refl _ _)
  | some ad =>
    refine wpList_append_own _ hgd s x 30 ho base 5 iB (.int .u8 0) 1 1 Tryd.underlying30 hiB hzB0 hzB1 hzB2 rfl (by decide) v n xs hs hown ad l.length c (l.map (Value.int .u8)) hx (by simp) (bytes_news_any hb) (one_bytes _ _) (by unfold maxLen; omega) (by omega) hbase ?_
    intro v' w' h1 h2 _
    exact h v' w' h1 h2
end Go.Proofs.YtgaalkcociifmaaDoor.U


/- UtfOrder: the walk. -/
namespace Go.Proofs.YtgaalkcociifmaaDoor.U
open Go.RowKit Go.Shelf UtfM

theorem less_nums : ∀ {l m : List Int}, IsBytes l → IsBytes m → Op.bytesLess (l.map fun n => UInt8.ofNat n.toNat) (m.map fun n => UInt8.ofNat n.toNat) = lexLt l m
  | [], [], _, _ => rfl
  | [], _ :: _, _, _ => rfl
  | _ :: _, [], _, _ => rfl
  | a :: s, b :: t, hl, hm => by
    have ha := hl a (by simp)
    have hb := hm b (by simp)
    have ih := less_nums (l := s) (m := t) (fun c hc => hl c (by simp [hc])) (fun c hc => hm c (by simp [hc]))
    simp only [List.map_cons, Op.bytesLess, lexLt, ih]
    have e1 : decide (UInt8.ofNat a.toNat < UInt8.ofNat b.toNat) = decide (a < b) := by
      rw [decide_eq_decide, UInt8.lt_iff_toNat_lt]
      simp only [UInt8.toNat_ofNat']
      rw [Nat.mod_eq_of_lt (by omega), Nat.mod_eq_of_lt (by omega)]; omega
    have e2 : (UInt8.ofNat a.toNat == UInt8.ofNat b.toNat) = (a == b) := by
      rw [Bool.eq_iff_iff, beq_iff_eq, beq_iff_eq]
      exact ⟨byte_inj ha hb, fun h => by rw [h]⟩
    rw [e1, e2]
theorem less_strs {l m : List Int} (hl : IsBytes l) (hm : IsBytes m) : Op.bytesLess (strOfNums l).toList (strOfNums m).toList = lexLt l m := by
  rw [← less_nums hl hm, ByteArray.toList_eq, ByteArray.toList_eq]; rfl

end Go.Proofs.YtgaalkcociifmaaDoor.U
