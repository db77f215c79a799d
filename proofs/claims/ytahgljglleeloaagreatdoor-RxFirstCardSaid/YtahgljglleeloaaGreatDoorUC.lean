/- UKnown, UAppend, URlong, URdec, URchars, in one text. -/
import Derived.Test.YtahgljglleeloaaGreatDoorUB
import Derived.Laws.BytesArg
import Derived.Lib.SlBytesConst
import Derived.Laws.AppendOwnNone
import Derived.Deep.RegionWith
import Derived.BigRegion
import Derived.Laws.StructEq

/- The law's 'known': the chapter's examples; a slice of bytes as a string. -/
namespace Go.Proofs.YtahgljglleeloaaGreatDoor.U
open Go.RowKit Go.Shelf UtfM

/-- A slice of bytes, made a string. -/
theorem conv_c {W : World} {P : Option Addr} {c : Nat} {l : List Int} (hs : By W P l) (hP : l = [] → P = none) : (convert 38 9 (.slice P l.length c)).run Tryz.prog W = .ok (.string (strOfNums l)) W := by
  by_cases h : l = []
  · subst h
    rw [hP rfl]
    exact run_convert_bytes_nil W 38 5 Tryz.underlying38 Tryz.underlying5 _ _ 9 Tryz.underlying9
  · obtain ⟨b, off, rfl, _, hc⟩ := hs.2 h
    exact run_convert_bytes_arg W 38 5 Tryz.underlying38 Tryz.underlying5 b off l.length c l rfl (fun i hi => by rw [hc i hi]; simp [List.getD, hi]) 9 Tryz.underlying9
theorem byte_inj {a b : Int} (ha : 0 ≤ a ∧ a ≤ 255) (hb : 0 ≤ b ∧ b ≤ 255) (h : UInt8.ofNat a.toNat = UInt8.ofNat b.toNat) : a = b := by
  have := congrArg UInt8.toNat h
  simp only [UInt8.toNat_ofNat'] at this
  rw [Nat.mod_eq_of_lt (by omega), Nat.mod_eq_of_lt (by omega)] at this
  omega
theorem nums_inj : ∀ {l m : List Int}, IsBytes l → IsBytes m → (l.map fun n => UInt8.ofNat n.toNat) = (m.map fun n => UInt8.ofNat n.toNat) → l = m
  | [], [], _, _, _ => rfl
  | [], _ :: _, _, _, h => by simp at h
  | _ :: _, [], _, _, h => by simp at h
  | a :: s, b :: t, hl, hm, h => by
    simp only [List.map_cons, List.cons.injEq] at h
    rw [byte_inj (hl a (by simp)) (hm b (by simp)) h.1, nums_inj (fun c hc => hl c (by simp [hc])) (fun c hc => hm c (by simp [hc])) h.2]
/-- A new block of bytes, with a mark. -/
theorem by_mark (w : World) (t : TypeId) (fr : Nat × Nat) (l : List Int) (hl : IsBytes l) : By (w.alloc (.cells (l.map (Value.int .u8)).toArray t fr)) (some ⟨w.heap.size, 0, none⟩) l :=
  ⟨hl, fun _ => ⟨w.heap.size, 0, rfl, by rw [World.size_alloc]; omega, fun j hj => by
    rw [cell_of_row _ w.heap.size _ _ _ _ (heap_alloc_new w _)]
    simp [hj]⟩⟩
theorem dec_k1 : decV [226, 130, 65] = .tuple #[.int .i64 (-1), .int .i64 2] := by rfl
theorem isB {l : List Int} (h : l.all (fun c => decide (0 ≤ c ∧ c ≤ 255)) = true) : IsBytes l := fun c hc => by simpa using List.all_eq_true.1 h c hc
theorem chars_k2 : (chars 0 [237, 160, 128]).length = 3 := by
  rw [chars_step (isB rfl) (by simp), show dec [237, 160, 128] = (-1, 1) from rfl]
  simp only [List.drop_succ_cons, List.drop_zero]
  rw [chars_step (isB rfl) (by simp), show dec [160, 128] = (-1, 1) from rfl]
  simp only [List.drop_succ_cons, List.drop_zero]
  rw [chars_step (isB rfl) (by simp), show dec [128] = (-1, 1) from rfl]
  simp only [List.drop_succ_cons, List.drop_zero]
  rw [chars_nil]; rfl
theorem first_k3 : first [65, 192] = 1 := by
  unfold first
  rw [chars_step (isB rfl) (by simp), show dec [65, 192] = (65, 1) from rfl]
  simp only [List.drop_succ_cons, List.drop_zero]
  rw [firstOf_good (by simp), chars_step (isB rfl) (by simp), show dec [192] = (-1, 1) from rfl, firstOf_bad (by simp)]
  rfl
theorem first_k4 : first [97] = -1 := by
  unfold first
  rw [chars_step (isB rfl) (by simp), show dec [97] = (97, 1) from rfl]
  simp only [List.drop_succ_cons, List.drop_zero]
  rw [firstOf_good (by simp), chars_nil]
  rfl
theorem enc_k5 : enc 8364 = [226, 130, 172] := by decide

end Go.Proofs.YtahgljglleeloaaGreatDoor.U

/- Slices of the call's own, appended to: bytes, ints. -/
namespace Go.Proofs.YtahgljglleeloaaGreatDoor.U
open Go.RowKit Go.Shelf UtfM

theorem infoB : (Tryz.prog.info? 5).map (fun i => (i.zero, i.size, i.bytes)) = some (some (.int .u8 0), 1, 1) := by kernel_rfl
theorem infoI : (Tryz.prog.info? 3).map (fun i => (i.zero, i.size, i.bytes)) = some (some (.int .i64 0), 1, 8) := by kernel_rfl
theorem one_bytes (l : List Int) (k : IntKind) : ∀ u ∈ l.map (Value.int k), u.oneCell' = true := by
  intro u hu; obtain ⟨x, _, rfl⟩ := List.mem_map.1 hu; rfl
theorem bytes_news {W : World} {b off : Nat} {l : List Int} (hs : By W (some ⟨b, off, none⟩) l) : ∀ j u, (l.map (Value.int .u8))[j]? = some u → W.cell? ((⟨b, off, none⟩ : Addr).add j) = some u := by
  intro j u hj
  have hlt : j < l.length := by
    rcases Nat.lt_or_ge j l.length with h | h
    · exact h
    · rw [List.getElem?_eq_none (by simpa using h)] at hj; cases hj
  obtain ⟨b', off', e, _, hc⟩ := hs.2 (by intro h; rw [h] at hlt; simp at hlt)
  cases e
  have e1 : (⟨b, off, none⟩ : Addr).add j = ⟨b, off + j, none⟩ := by unfold Addr.add; split <;> simp_all
  rw [e1, hc j hlt]
  rw [List.getElem?_map, List.getElem?_eq_getElem hlt] at hj
  exact hj
theorem bytes_of {W : World} {base : Nat} {v : Value} {l : List Int} (hl : IsBytes l) (h : W.ownsRow base 5 1 v l.length (l.map (Value.int .u8))) : ∃ P c, v = .slice P l.length c ∧ By W P l ∧ l.length ≤ c ∧ (P = none → c = 0) := by
  rcases h.2 with ⟨rfl, h0⟩ | ⟨g, cap, cur, rfl, hb, hg, h1, h2, h3, h4⟩
  · exact ⟨none, 0, by rw [h0], ⟨hl, fun hne => absurd (List.eq_nil_of_length_eq_zero h0) hne⟩, by omega, fun _ => rfl⟩
  · refine ⟨_, cap, rfl, ⟨hl, fun _ => ⟨g, 0, rfl, (Array.getElem?_eq_some_iff.1 hg).1, fun j hj => ?_⟩⟩, h1, fun h => by cases h⟩
    rw [cell_of_row W g _ cur _ _ hg, Nat.zero_add, ← Array.getElem?_toList]
    have : (cur.toList.take (l.length * 1))[j]? = some (.int .u8 l[j]) := by rw [h4]; simp [hj]
    rwa [List.getElem?_take_of_lt (by omega)] at this
/-- A slice of ints holds the numbers l. -/
def Ints (W : World) (A : Option Addr) (l : List Int) : Prop :=
  l ≠ [] → ∃ b off, A = some ⟨b, off, none⟩ ∧ b < W.heap.size ∧ ∀ j (h : j < l.length), W.cell? ⟨b, off + j, none⟩ = some (.int .i64 l[j])
theorem Ints.step {W W' : World} {A : Option Addr} {l : List Int} (h : Ints W A l) (hb : Below W.heap.size W W') : Ints W' A l := fun hl => by
  obtain ⟨b, off, e, hbb, hc⟩ := h hl
  have := hb.size
  exact ⟨b, off, e, by omega, fun j hj => (hb.cell (p := ⟨b, off + j, none⟩) hbb).trans (hc j hj)⟩
theorem ints_of {W : World} {base : Nat} {v : Value} {l : List Int} (h : W.ownsRow base 3 1 v l.length (l.map (Value.int .i64))) : ∃ P c, v = .slice P l.length c ∧ Ints W P l := by
  rcases h.2 with ⟨rfl, h0⟩ | ⟨g, cap, cur, rfl, hb, hg, h1, h2, h3, h4⟩
  · exact ⟨none, 0, by rw [h0], fun hne => absurd (List.eq_nil_of_length_eq_zero h0) hne⟩
  · refine ⟨_, cap, rfl, fun _ => ⟨g, 0, rfl, (Array.getElem?_eq_some_iff.1 hg).1, fun j hj => ?_⟩⟩
    rw [cell_of_row W g _ cur _ _ hg, Nat.zero_add, ← Array.getElem?_toList]
    have : (cur.toList.take (l.length * 1))[j]? = some (.int .i64 l[j]) := by rw [h4]; simp [hj]
    rwa [List.getElem?_take_of_lt (by omega)] at this
theorem By.kept {W W' : World} {b off : Nat} {row : Option Nat} {l : List Int} (hs : By W (some ⟨b, off, none⟩) l) (hg : W.grownBy W' row) (hne : some b ≠ row) : By W' (some ⟨b, off, none⟩) l := ⟨hs.1, fun hl => by
  obtain ⟨b', off', e, hbb, hc⟩ := hs.2 hl
  cases e
  have := hg.size
  exact ⟨b, off, rfl, by omega, fun j hj => hg.cell (hc j hj) hne⟩⟩
/-- Rows of two types lie in two blocks. -/
theorem own_apart {W : World} {base base' : Nat} {e e' : TypeId} {s s' n n' : Nat} {v v' : Value} {xs xs' : List Value} (h : W.ownsRow base e s v n xs) (h' : W.ownsRow base' e' s' v' n' xs') (hne : e ≠ e') : v.ownBlock = none ∨ v.ownBlock ≠ v'.ownBlock := by
  rcases h.2 with ⟨rfl, _⟩ | ⟨g, cap, cur, rfl, _, hg, _⟩
  · exact .inl rfl
  · right
    rcases h'.2 with ⟨rfl, _⟩ | ⟨g', cap', cur', rfl, _, hg', _⟩
    · simp [Value.ownBlock]
    · intro he
      have : g = g' := by simpa [Value.ownBlock] using he
      subst this
      rw [hg] at hg'
      injection hg' with hg'
      injection hg' with _ ht
      exact hne ht
theorem own_size {W : World} {base : Nat} {e : TypeId} {s n : Nat} {v : Value} {xs : List Value} (h : W.ownsRow base e s v n xs) {w2 : World} (hg : W.grownBy w2 v.ownBlock) {w : World} (hw : w.heap.size ≤ base) (hb : Below w.heap.size w W) : Below w.heap.size w w2 :=
  hb.grown hg hb.size (fun j hj => by have := (h.lt j hj).1; omega)
theorem grown_refl (w : World) (row : Option Nat) : w.grownBy w row := ⟨rfl, rfl, rfl, Nat.le_refl _, fun _ _ _ => rfl⟩
theorem bytes_news_any {W : World} {a : Addr} {l : List Int} (hs : By W (some a) l) : ∀ j u, (l.map (Value.int .u8))[j]? = some u → W.cell? (a.add j) = some u := by
  by_cases hl : l = []
  · subst hl; intro j u hj; simp at hj
  · obtain ⟨b, off, e, _, _⟩ := hs.2 hl
    cases e
    exact bytes_news hs
/-- Bytes appended to a slice of the call's own. -/
theorem wpList_append_bytes {w : World} {ops : Array Oper} {rest : List Oper} {o : Oper} {a : Act} {Q : Exit → Act → World → Prop} (hgd : o.guard = none) (s x : Operand)
    (ho : o.op = .call { callee := .builtin .append, args := #[s, x], argTypes := #[38, 38] }) (base : Nat)
    (v : Value) (n : Nat) (xs : List Value) (hs : a.eval s = v) (hown : w.ownsRow base 5 1 v n xs)
    (P : Option Addr) (c : Nat) (l : List Int) (hx : a.eval x = .slice P l.length c) (hb : By w P l) (hP : P = none → c = 0)
    (h63 : n + l.length ≤ 1000000) (hbase : base ≤ w.heap.size)
    (h : ∀ v' w', w'.ownsRow base 5 1 v' (n + l.length) (xs ++ l.map (Value.int .u8)) → w.grownBy w' v.ownBlock → wpList Tryz.prog ops Q rest (a.put o.dst v') w') : wpList Tryz.prog ops Q (o :: rest) a w := by
  obtain ⟨iB, hiB, hzB0, hzB1, hzB2⟩ := info_parts infoB
  cases P with
  | none =>
    have hl : l = [] := by
      by_cases hl : l = []
      · exact hl
      · obtain ⟨_, _, e, _⟩ := hb.2 hl; cases e
    subst hl
    rw [hP rfl] at hx
    refine wpList_append_own_none hgd s x 38 ho base 5 iB 1 Tryz.underlying38 hiB v n xs hs hown hx ?_
    exact h v w (by simpa using hown) (grown_refl _ _)
  | some ad =>
    refine wpList_append_own _ hgd s x 38 ho base 5 iB (.int .u8 0) 1 1 Tryz.underlying38 hiB hzB0 hzB1 hzB2 rfl (by decide) v n xs hs hown ad l.length c (l.map (Value.int .u8)) hx (by simp) (bytes_news_any hb) (one_bytes _ _) (by unfold maxLen; omega) (by omega) hbase ?_
    intro v' w' h1 h2 _
    exact h v' w' h1 h2
end Go.Proofs.YtahgljglleeloaaGreatDoor.U

/- The document's own Decode: long, second, Decode. -/
namespace Go.Proofs.YtahgljglleeloaaGreatDoor.U
open Go.RowKit Go.Shelf UtfM

/-- How many bytes a first one begins. -/
def longF (a : Int) : Nat := match lead a with
  | some s => s.more + 1
  | none => 0
def secondF (a b : Int) : Bool :=
  if a = 224 then decide (160 ≤ b ∧ b ≤ 191) else if a = 237 then decide (128 ≤ b ∧ b ≤ 159) else if a = 240 then decide (144 ≤ b ∧ b ≤ 191) else if a = 244 then decide (128 ≤ b ∧ b ≤ 143) else decide (128 ≤ b ∧ b ≤ 191)
theorem longF1 {a : Int} (h : a < 128) : longF a = 1 := by unfold longF; rw [lead1 h]
theorem longF2 {a : Int} (h : 194 ≤ a) (h2 : a ≤ 223) : longF a = 2 := by unfold longF; rw [lead2 h (by omega)]
theorem longF3 {a : Int} (h : 224 ≤ a) (h2 : a ≤ 239) : longF a = 3 := by obtain ⟨lo, hi, e, _⟩ := lead3 h (by omega); unfold longF; rw [e]
theorem longF4 {a : Int} (h : 240 ≤ a) (h2 : a ≤ 244) : longF a = 4 := by obtain ⟨lo, hi, e, _⟩ := lead4 h h2; unfold longF; rw [e]
theorem longF0 {a : Int} (h : (128 ≤ a ∧ a < 194) ∨ 244 < a) : longF a = 0 := by
  have : lead a = none := by
    rcases lead_cases a with h1 | h1 | h1 | h1 | h1
    · omega
    · exact h1
    · omega
    · omega
    · omega
  unfold longF; rw [this]

set_option maxHeartbeats 1000000 in
theorem long_1 (a : Int) (h : a < 128) (w : World) : Calls Tryz.prog 56 #[.int .u8 a] w fun e w' => e = .returned (.int .i64 1) ∧ w = w' := by
  have d0 : a < 128 := by omega
  go_enter Tryz.func56, Tryz.ntmps56
  go_wp2
  go_ret
  exact ⟨rfl, rfl⟩

set_option maxHeartbeats 1000000 in
theorem long_0a (a : Int) (h : 128 ≤ a) (h2 : a < 194) (w : World) : Calls Tryz.prog 56 #[.int .u8 a] w fun e w' => e = .returned (.int .i64 0) ∧ w = w' := by
  have d0 : ¬ (a < 128) := by omega
  have d1 : decide (194 ≤ a) = false := decide_eq_false (by omega)
  have d2 : decide (224 ≤ a) = false := decide_eq_false (by omega)
  have d3 : decide (240 ≤ a) = false := decide_eq_false (by omega)
  go_enter Tryz.func56, Tryz.ntmps56
  go_wp2
  go_ret
  exact ⟨rfl, rfl⟩

set_option maxHeartbeats 1000000 in
theorem long_2 (a : Int) (h : 194 ≤ a) (h2 : a ≤ 223) (w : World) : Calls Tryz.prog 56 #[.int .u8 a] w fun e w' => e = .returned (.int .i64 2) ∧ w = w' := by
  have d0 : ¬ (a < 128) := by omega
  have d1 : decide (194 ≤ a) = true := decide_eq_true (by omega)
  have d2 : decide (a ≤ 223) = true := decide_eq_true (by omega)
  go_enter Tryz.func56, Tryz.ntmps56
  go_wp2
  go_ret
  exact ⟨rfl, rfl⟩

set_option maxHeartbeats 1000000 in
theorem long_3 (a : Int) (h : 224 ≤ a) (h2 : a ≤ 239) (w : World) : Calls Tryz.prog 56 #[.int .u8 a] w fun e w' => e = .returned (.int .i64 3) ∧ w = w' := by
  have d0 : ¬ (a < 128) := by omega
  have d1 : decide (194 ≤ a) = true := decide_eq_true (by omega)
  have d2 : decide (a ≤ 223) = false := decide_eq_false (by omega)
  have d3 : decide (224 ≤ a) = true := decide_eq_true (by omega)
  have d4 : decide (a ≤ 239) = true := decide_eq_true (by omega)
  go_enter Tryz.func56, Tryz.ntmps56
  go_wp2
  go_ret
  exact ⟨rfl, rfl⟩

set_option maxHeartbeats 1000000 in
theorem long_4 (a : Int) (h : 240 ≤ a) (h2 : a ≤ 244) (w : World) : Calls Tryz.prog 56 #[.int .u8 a] w fun e w' => e = .returned (.int .i64 4) ∧ w = w' := by
  have d0 : ¬ (a < 128) := by omega
  have d1 : decide (194 ≤ a) = true := decide_eq_true (by omega)
  have d2 : decide (a ≤ 223) = false := decide_eq_false (by omega)
  have d3 : decide (224 ≤ a) = true := decide_eq_true (by omega)
  have d4 : decide (a ≤ 239) = false := decide_eq_false (by omega)
  have d5 : decide (240 ≤ a) = true := decide_eq_true (by omega)
  have d6 : decide (a ≤ 244) = true := decide_eq_true (by omega)
  go_enter Tryz.func56, Tryz.ntmps56
  go_wp2
  go_ret
  exact ⟨rfl, rfl⟩

set_option maxHeartbeats 1000000 in
theorem long_0b (a : Int) (h : 244 < a) (w : World) : Calls Tryz.prog 56 #[.int .u8 a] w fun e w' => e = .returned (.int .i64 0) ∧ w = w' := by
  have d0 : ¬ (a < 128) := by omega
  have d1 : decide (194 ≤ a) = true := decide_eq_true (by omega)
  have d2 : decide (a ≤ 223) = false := decide_eq_false (by omega)
  have d3 : decide (224 ≤ a) = true := decide_eq_true (by omega)
  have d4 : decide (a ≤ 239) = false := decide_eq_false (by omega)
  have d5 : decide (240 ≤ a) = true := decide_eq_true (by omega)
  have d6 : decide (a ≤ 244) = false := decide_eq_false (by omega)
  go_enter Tryz.func56, Tryz.ntmps56
  go_wp2
  go_ret
  exact ⟨rfl, rfl⟩

theorem long_c (a : Int) (w : World) : Calls Tryz.prog 56 #[.int .u8 a] w fun e w' => e = .returned (.int .i64 (longF a : Int)) ∧ w = w' := by
  by_cases h1 : a < 128
  · rw [longF1 h1]; exact long_1 a h1 w
  by_cases h2 : a < 194
  · rw [longF0 (.inl ⟨by omega, h2⟩)]; exact long_0a a (by omega) h2 w
  by_cases h3 : a ≤ 223
  · rw [longF2 (by omega) h3]; exact long_2 a (by omega) h3 w
  by_cases h4 : a ≤ 239
  · rw [longF3 (by omega) h4]; exact long_3 a (by omega) h4 w
  by_cases h5 : a ≤ 244
  · rw [longF4 (by omega) h5]; exact long_4 a (by omega) h5 w
  rw [longF0 (.inr (by omega))]; exact long_0b a (by omega) w

set_option maxHeartbeats 1000000 in
theorem second_0_0 (a b : Int) (h0 : (a = 224)) (p : 160 ≤ b) (q : b ≤ 191) (w : World) : Calls Tryz.prog 57 #[.int .u8 a, .int .u8 b] w fun e w' => e = .returned (.bool true) ∧ w = w' := by
  have t0 : (a == 224) = true := by rw [beq_iff_eq]; exact h0
  have dp : decide (160 ≤ b) = true := decide_eq_true p
  have dq : decide (b ≤ 191) = true := decide_eq_true q
  clear h0
  go_enter Tryz.func57, Tryz.ntmps57
  go_wp2
  go_ret
  exact ⟨rfl, rfl⟩

set_option maxHeartbeats 1000000 in
theorem second_0_1 (a b : Int) (h0 : (a = 224)) (p : 160 ≤ b) (q : ¬ (b ≤ 191)) (w : World) : Calls Tryz.prog 57 #[.int .u8 a, .int .u8 b] w fun e w' => e = .returned (.bool false) ∧ w = w' := by
  have t0 : (a == 224) = true := by rw [beq_iff_eq]; exact h0
  have dp : decide (160 ≤ b) = true := decide_eq_true p
  have dq : decide (b ≤ 191) = false := decide_eq_false q
  clear h0
  go_enter Tryz.func57, Tryz.ntmps57
  go_wp2
  go_ret
  exact ⟨rfl, rfl⟩

set_option maxHeartbeats 1000000 in
theorem second_0_2 (a b : Int) (h0 : (a = 224)) (p : ¬ (160 ≤ b)) (w : World) : Calls Tryz.prog 57 #[.int .u8 a, .int .u8 b] w fun e w' => e = .returned (.bool false) ∧ w = w' := by
  have t0 : (a == 224) = true := by rw [beq_iff_eq]; exact h0
  have dp : decide (160 ≤ b) = false := decide_eq_false p
  clear h0
  go_enter Tryz.func57, Tryz.ntmps57
  go_wp2
  go_ret
  exact ⟨rfl, rfl⟩

set_option maxHeartbeats 1000000 in
theorem second_1_0 (a b : Int) (h0 : ¬ (a = 224)) (h1 : (a = 237)) (p : 128 ≤ b) (q : b ≤ 159) (w : World) : Calls Tryz.prog 57 #[.int .u8 a, .int .u8 b] w fun e w' => e = .returned (.bool true) ∧ w = w' := by
  have t0 : (a == 224) = false := by rw [beq_eq_false_iff_ne]; exact h0
  have t1 : (a == 237) = true := by rw [beq_iff_eq]; exact h1
  have dp : decide (128 ≤ b) = true := decide_eq_true p
  have dq : decide (b ≤ 159) = true := decide_eq_true q
  clear h0 h1
  go_enter Tryz.func57, Tryz.ntmps57
  go_wp2
  go_ret
  exact ⟨rfl, rfl⟩

set_option maxHeartbeats 1000000 in
theorem second_1_1 (a b : Int) (h0 : ¬ (a = 224)) (h1 : (a = 237)) (p : 128 ≤ b) (q : ¬ (b ≤ 159)) (w : World) : Calls Tryz.prog 57 #[.int .u8 a, .int .u8 b] w fun e w' => e = .returned (.bool false) ∧ w = w' := by
  have t0 : (a == 224) = false := by rw [beq_eq_false_iff_ne]; exact h0
  have t1 : (a == 237) = true := by rw [beq_iff_eq]; exact h1
  have dp : decide (128 ≤ b) = true := decide_eq_true p
  have dq : decide (b ≤ 159) = false := decide_eq_false q
  clear h0 h1
  go_enter Tryz.func57, Tryz.ntmps57
  go_wp2
  go_ret
  exact ⟨rfl, rfl⟩

set_option maxHeartbeats 1000000 in
theorem second_1_2 (a b : Int) (h0 : ¬ (a = 224)) (h1 : (a = 237)) (p : ¬ (128 ≤ b)) (w : World) : Calls Tryz.prog 57 #[.int .u8 a, .int .u8 b] w fun e w' => e = .returned (.bool false) ∧ w = w' := by
  have t0 : (a == 224) = false := by rw [beq_eq_false_iff_ne]; exact h0
  have t1 : (a == 237) = true := by rw [beq_iff_eq]; exact h1
  have dp : decide (128 ≤ b) = false := decide_eq_false p
  clear h0 h1
  go_enter Tryz.func57, Tryz.ntmps57
  go_wp2
  go_ret
  exact ⟨rfl, rfl⟩

set_option maxHeartbeats 1000000 in
theorem second_2_0 (a b : Int) (h0 : ¬ (a = 224)) (h1 : ¬ (a = 237)) (h2 : (a = 240)) (p : 144 ≤ b) (q : b ≤ 191) (w : World) : Calls Tryz.prog 57 #[.int .u8 a, .int .u8 b] w fun e w' => e = .returned (.bool true) ∧ w = w' := by
  have t0 : (a == 224) = false := by rw [beq_eq_false_iff_ne]; exact h0
  have t1 : (a == 237) = false := by rw [beq_eq_false_iff_ne]; exact h1
  have t2 : (a == 240) = true := by rw [beq_iff_eq]; exact h2
  have dp : decide (144 ≤ b) = true := decide_eq_true p
  have dq : decide (b ≤ 191) = true := decide_eq_true q
  clear h0 h1 h2
  go_enter Tryz.func57, Tryz.ntmps57
  go_wp2
  go_ret
  exact ⟨rfl, rfl⟩

set_option maxHeartbeats 1000000 in
theorem second_2_1 (a b : Int) (h0 : ¬ (a = 224)) (h1 : ¬ (a = 237)) (h2 : (a = 240)) (p : 144 ≤ b) (q : ¬ (b ≤ 191)) (w : World) : Calls Tryz.prog 57 #[.int .u8 a, .int .u8 b] w fun e w' => e = .returned (.bool false) ∧ w = w' := by
  have t0 : (a == 224) = false := by rw [beq_eq_false_iff_ne]; exact h0
  have t1 : (a == 237) = false := by rw [beq_eq_false_iff_ne]; exact h1
  have t2 : (a == 240) = true := by rw [beq_iff_eq]; exact h2
  have dp : decide (144 ≤ b) = true := decide_eq_true p
  have dq : decide (b ≤ 191) = false := decide_eq_false q
  clear h0 h1 h2
  go_enter Tryz.func57, Tryz.ntmps57
  go_wp2
  go_ret
  exact ⟨rfl, rfl⟩

set_option maxHeartbeats 1000000 in
theorem second_2_2 (a b : Int) (h0 : ¬ (a = 224)) (h1 : ¬ (a = 237)) (h2 : (a = 240)) (p : ¬ (144 ≤ b)) (w : World) : Calls Tryz.prog 57 #[.int .u8 a, .int .u8 b] w fun e w' => e = .returned (.bool false) ∧ w = w' := by
  have t0 : (a == 224) = false := by rw [beq_eq_false_iff_ne]; exact h0
  have t1 : (a == 237) = false := by rw [beq_eq_false_iff_ne]; exact h1
  have t2 : (a == 240) = true := by rw [beq_iff_eq]; exact h2
  have dp : decide (144 ≤ b) = false := decide_eq_false p
  clear h0 h1 h2
  go_enter Tryz.func57, Tryz.ntmps57
  go_wp2
  go_ret
  exact ⟨rfl, rfl⟩

set_option maxHeartbeats 1000000 in
theorem second_3_0 (a b : Int) (h0 : ¬ (a = 224)) (h1 : ¬ (a = 237)) (h2 : ¬ (a = 240)) (h3 : (a = 244)) (p : 128 ≤ b) (q : b ≤ 143) (w : World) : Calls Tryz.prog 57 #[.int .u8 a, .int .u8 b] w fun e w' => e = .returned (.bool true) ∧ w = w' := by
  have t0 : (a == 224) = false := by rw [beq_eq_false_iff_ne]; exact h0
  have t1 : (a == 237) = false := by rw [beq_eq_false_iff_ne]; exact h1
  have t2 : (a == 240) = false := by rw [beq_eq_false_iff_ne]; exact h2
  have t3 : (a == 244) = true := by rw [beq_iff_eq]; exact h3
  have dp : decide (128 ≤ b) = true := decide_eq_true p
  have dq : decide (b ≤ 143) = true := decide_eq_true q
  clear h0 h1 h2 h3
  go_enter Tryz.func57, Tryz.ntmps57
  go_wp2
  go_ret
  exact ⟨rfl, rfl⟩

set_option maxHeartbeats 1000000 in
theorem second_3_1 (a b : Int) (h0 : ¬ (a = 224)) (h1 : ¬ (a = 237)) (h2 : ¬ (a = 240)) (h3 : (a = 244)) (p : 128 ≤ b) (q : ¬ (b ≤ 143)) (w : World) : Calls Tryz.prog 57 #[.int .u8 a, .int .u8 b] w fun e w' => e = .returned (.bool false) ∧ w = w' := by
  have t0 : (a == 224) = false := by rw [beq_eq_false_iff_ne]; exact h0
  have t1 : (a == 237) = false := by rw [beq_eq_false_iff_ne]; exact h1
  have t2 : (a == 240) = false := by rw [beq_eq_false_iff_ne]; exact h2
  have t3 : (a == 244) = true := by rw [beq_iff_eq]; exact h3
  have dp : decide (128 ≤ b) = true := decide_eq_true p
  have dq : decide (b ≤ 143) = false := decide_eq_false q
  clear h0 h1 h2 h3
  go_enter Tryz.func57, Tryz.ntmps57
  go_wp2
  go_ret
  exact ⟨rfl, rfl⟩

set_option maxHeartbeats 1000000 in
theorem second_3_2 (a b : Int) (h0 : ¬ (a = 224)) (h1 : ¬ (a = 237)) (h2 : ¬ (a = 240)) (h3 : (a = 244)) (p : ¬ (128 ≤ b)) (w : World) : Calls Tryz.prog 57 #[.int .u8 a, .int .u8 b] w fun e w' => e = .returned (.bool false) ∧ w = w' := by
  have t0 : (a == 224) = false := by rw [beq_eq_false_iff_ne]; exact h0
  have t1 : (a == 237) = false := by rw [beq_eq_false_iff_ne]; exact h1
  have t2 : (a == 240) = false := by rw [beq_eq_false_iff_ne]; exact h2
  have t3 : (a == 244) = true := by rw [beq_iff_eq]; exact h3
  have dp : decide (128 ≤ b) = false := decide_eq_false p
  clear h0 h1 h2 h3
  go_enter Tryz.func57, Tryz.ntmps57
  go_wp2
  go_ret
  exact ⟨rfl, rfl⟩

set_option maxHeartbeats 1000000 in
theorem second_4_0 (a b : Int) (h0 : ¬ (a = 224)) (h1 : ¬ (a = 237)) (h2 : ¬ (a = 240)) (h3 : ¬ (a = 244)) (p : 128 ≤ b) (q : b ≤ 191) (w : World) : Calls Tryz.prog 57 #[.int .u8 a, .int .u8 b] w fun e w' => e = .returned (.bool true) ∧ w = w' := by
  have t0 : (a == 224) = false := by rw [beq_eq_false_iff_ne]; exact h0
  have t1 : (a == 237) = false := by rw [beq_eq_false_iff_ne]; exact h1
  have t2 : (a == 240) = false := by rw [beq_eq_false_iff_ne]; exact h2
  have t3 : (a == 244) = false := by rw [beq_eq_false_iff_ne]; exact h3
  have dp : decide (128 ≤ b) = true := decide_eq_true p
  have dq : decide (b ≤ 191) = true := decide_eq_true q
  clear h0 h1 h2 h3
  go_enter Tryz.func57, Tryz.ntmps57
  go_wp2
  go_ret
  exact ⟨rfl, rfl⟩

set_option maxHeartbeats 1000000 in
theorem second_4_1 (a b : Int) (h0 : ¬ (a = 224)) (h1 : ¬ (a = 237)) (h2 : ¬ (a = 240)) (h3 : ¬ (a = 244)) (p : 128 ≤ b) (q : ¬ (b ≤ 191)) (w : World) : Calls Tryz.prog 57 #[.int .u8 a, .int .u8 b] w fun e w' => e = .returned (.bool false) ∧ w = w' := by
  have t0 : (a == 224) = false := by rw [beq_eq_false_iff_ne]; exact h0
  have t1 : (a == 237) = false := by rw [beq_eq_false_iff_ne]; exact h1
  have t2 : (a == 240) = false := by rw [beq_eq_false_iff_ne]; exact h2
  have t3 : (a == 244) = false := by rw [beq_eq_false_iff_ne]; exact h3
  have dp : decide (128 ≤ b) = true := decide_eq_true p
  have dq : decide (b ≤ 191) = false := decide_eq_false q
  clear h0 h1 h2 h3
  go_enter Tryz.func57, Tryz.ntmps57
  go_wp2
  go_ret
  exact ⟨rfl, rfl⟩

set_option maxHeartbeats 1000000 in
theorem second_4_2 (a b : Int) (h0 : ¬ (a = 224)) (h1 : ¬ (a = 237)) (h2 : ¬ (a = 240)) (h3 : ¬ (a = 244)) (p : ¬ (128 ≤ b)) (w : World) : Calls Tryz.prog 57 #[.int .u8 a, .int .u8 b] w fun e w' => e = .returned (.bool false) ∧ w = w' := by
  have t0 : (a == 224) = false := by rw [beq_eq_false_iff_ne]; exact h0
  have t1 : (a == 237) = false := by rw [beq_eq_false_iff_ne]; exact h1
  have t2 : (a == 240) = false := by rw [beq_eq_false_iff_ne]; exact h2
  have t3 : (a == 244) = false := by rw [beq_eq_false_iff_ne]; exact h3
  have dp : decide (128 ≤ b) = false := decide_eq_false p
  clear h0 h1 h2 h3
  go_enter Tryz.func57, Tryz.ntmps57
  go_wp2
  go_ret
  exact ⟨rfl, rfl⟩

theorem second_c (a b : Int) (w : World) : Calls Tryz.prog 57 #[.int .u8 a, .int .u8 b] w fun e w' => e = .returned (.bool (secondF a b)) ∧ w = w' := by
  unfold secondF
  by_cases h0 : a = 224
  · rw [if_pos h0]
    by_cases p : 160 ≤ b
    · by_cases q : b ≤ 191
      · rw [decide_eq_true (show 160 ≤ b ∧ b ≤ 191 from ⟨p, q⟩)]; exact second_0_0 a b h0 p q w
      · rw [decide_eq_false (show ¬ (160 ≤ b ∧ b ≤ 191) from fun h => q h.2)]; exact second_0_1 a b h0 p q w
    · rw [decide_eq_false (show ¬ (160 ≤ b ∧ b ≤ 191) from fun h => p h.1)]; exact second_0_2 a b h0 p w
  rw [if_neg h0]
  by_cases h1 : a = 237
  · rw [if_pos h1]
    by_cases p : 128 ≤ b
    · by_cases q : b ≤ 159
      · rw [decide_eq_true (show 128 ≤ b ∧ b ≤ 159 from ⟨p, q⟩)]; exact second_1_0 a b h0 h1 p q w
      · rw [decide_eq_false (show ¬ (128 ≤ b ∧ b ≤ 159) from fun h => q h.2)]; exact second_1_1 a b h0 h1 p q w
    · rw [decide_eq_false (show ¬ (128 ≤ b ∧ b ≤ 159) from fun h => p h.1)]; exact second_1_2 a b h0 h1 p w
  rw [if_neg h1]
  by_cases h2 : a = 240
  · rw [if_pos h2]
    by_cases p : 144 ≤ b
    · by_cases q : b ≤ 191
      · rw [decide_eq_true (show 144 ≤ b ∧ b ≤ 191 from ⟨p, q⟩)]; exact second_2_0 a b h0 h1 h2 p q w
      · rw [decide_eq_false (show ¬ (144 ≤ b ∧ b ≤ 191) from fun h => q h.2)]; exact second_2_1 a b h0 h1 h2 p q w
    · rw [decide_eq_false (show ¬ (144 ≤ b ∧ b ≤ 191) from fun h => p h.1)]; exact second_2_2 a b h0 h1 h2 p w
  rw [if_neg h2]
  by_cases h3 : a = 244
  · rw [if_pos h3]
    by_cases p : 128 ≤ b
    · by_cases q : b ≤ 143
      · rw [decide_eq_true (show 128 ≤ b ∧ b ≤ 143 from ⟨p, q⟩)]; exact second_3_0 a b h0 h1 h2 h3 p q w
      · rw [decide_eq_false (show ¬ (128 ≤ b ∧ b ≤ 143) from fun h => q h.2)]; exact second_3_1 a b h0 h1 h2 h3 p q w
    · rw [decide_eq_false (show ¬ (128 ≤ b ∧ b ≤ 143) from fun h => p h.1)]; exact second_3_2 a b h0 h1 h2 h3 p w
  rw [if_neg h3]
  by_cases p : 128 ≤ b
  · by_cases q : b ≤ 191
    · rw [decide_eq_true (show 128 ≤ b ∧ b ≤ 191 from ⟨p, q⟩)]; exact second_4_0 a b h0 h1 h2 h3 p q w
    · rw [decide_eq_false (show ¬ (128 ≤ b ∧ b ≤ 191) from fun h => q h.2)]; exact second_4_1 a b h0 h1 h2 h3 p q w
  · rw [decide_eq_false (show ¬ (128 ≤ b ∧ b ≤ 191) from fun h => p h.1)]; exact second_4_2 a b h0 h1 h2 h3 p w
end Go.Proofs.YtahgljglleeloaaGreatDoor.U

/- The document's own Decode. -/
namespace Go.Proofs.YtahgljglleeloaaGreatDoor.U
open Go.RowKit Go.Shelf UtfM

theorem second_q (a b : Int) (w : World) : Calls Tryz.prog 57 #[.int .u8 a, .int .u8 b] w fun e w' => e = .returned (.bool (secondF a b)) ∧ w' = w :=
  (second_c a b w).mono fun _ _ ⟨h1, h2⟩ => ⟨h1, h2.symm⟩
/-- Whether a byte may come behind k others, as the document asks it. -/
theorem secondF_take {a : Int} {s : Shape} (h : lead a = some s) (hm : s.more ≠ 0) (b : Int) : secondF a b = takeB s 0 b := by
  unfold takeB
  simp only [if_true]
  unfold lead at h
  unfold secondF
  repeat' split at h
  all_goals first | (cases h; done) | skip
  all_goals obtain rfl := Option.some.inj h
  all_goals first | (exact absurd rfl hm) | skip
  all_goals (repeat' split) <;> first | rfl | omega
theorem rdec_empty (A : Option Addr) (c : Nat) (w : World) : Calls Tryz.prog 47 #[.slice A 0 c] w (DecPost w []) := by
  go_enter Tryz.func47, Tryz.ntmps47
  go_wp2
  go_ret2
  exact ⟨rfl, Below.refl _ _⟩

set_option maxRecDepth 100000 in
set_option maxHeartbeats 2000000 in
theorem rdec_full (b off c : Nat) (l : List Int) (hne : 0 < l.length) (w : World) (hs : By w (some ⟨b, off, none⟩) l) : Calls Tryz.prog 47 #[.slice (some ⟨b, off, none⟩) l.length c] w (DecPost w l) := by
  obtain ⟨b', off', he, hbb, hcell⟩ := hs.2 (List.length_pos_iff.1 hne)
  cases he
  have h0 := hcell 0 hne
  rw [Nat.add_zero] at h0
  have ha := hs.1 l[0] (List.getElem_mem hne)
  have hlz : ((l.length : Int) == 0) = false := by rw [beq_eq_false_iff_ne]; omega
  have hlp : (0 : Int) < (l.length : Int) := by omega
  have HC := Lib.hid hcell
  have HB := Lib.hid hs.1
  obtain ⟨t, ht⟩ : ∃ t, l = l[0] :: t := ⟨l.drop 1, by rw [← drop_cons hne]; simp⟩
  have HT := Lib.hid ht
  clear hs hcell ht
  generalize l[0] = a at *
  have ha0 := ha.1
  have ha1 := ha.2
  clear ha
  cases hl : lead a with
  | none =>
    have hlo : longF a = 0 := by unfold longF; rw [hl]
    have HN := Lib.hid hl
    have HLO := Lib.hid hlo
    clear hl hlo
    go_enter Tryz.func47, Tryz.ntmps47
    go_wp2_with fail
    refine (long_c a _).mono ?_
    rintro e w1 ⟨rfl, rfl⟩
    rw [HLO.out]
    go_wp2
    go_ret2
    exact dec_shut (m := 1) (by rw [HT.out, dec_none HN.out]) rfl (Below.refl _ _)
  | some s =>
    have hlo : longF a = s.more + 1 := by unfold longF; rw [hl]
    have hst := DecAt.start (t := t) hl ha0
    rw [← HT.out] at hst
    have hin := lead_in hl ha0
    have HST := Lib.hid hst
    have HIN := Lib.hid hin
    have HLO := Lib.hid hlo
    have HL := Lib.hid hl
    have h3 := hin.2.2.1
    clear hst hin hl hlo
    by_cases hm0 : s.more = 0
    · have hres := HST.out.done hm0.symm
      have hbits : s.bits = a := by
        have h1 : a < 128 := by
          rcases lead_cases a with h | h | h | h | h
          · exact h
          · rw [HL.out] at h; cases h
          · have := HL.out; rw [lead2 h.1 h.2] at this; cases this; simp at hm0
          · obtain ⟨lo, hi, e, _⟩ := lead3 h.1 h.2; rw [e] at HL; have := HL.out; cases this; simp at hm0
          · obtain ⟨lo, hi, e, _⟩ := lead4 h.1 h.2; rw [e] at HL; have := HL.out; cases this; simp at hm0
        have := HL.out; rw [lead1 h1] at this; cases this; rfl
      rw [hbits] at hres
      have HR := Lib.hid hres
      clear hres hbits
      go_enter Tryz.func47, Tryz.ntmps47
      go_wp2_with fail
      refine (long_c a _).mono ?_
      rintro e w1 ⟨rfl, rfl⟩
      rw [HLO.out, hm0]
      go_wp2
      go_ret2
      exact dec_shut (m := 1) HR.out (by omega) (Below.refl _ _)
    · obtain ⟨base, hbase, hbits⟩ : ∃ base : Int, ((s.more = 1 ∧ base = 192) ∨ (s.more = 2 ∧ base = 224) ∨ (s.more = 3 ∧ base = 240)) ∧ s.bits = a - base := by
        have hh := HL.out
        rcases lead_cases a with h | h | h | h | h
        · rw [lead1 h] at hh; cases hh; simp at hm0
        · rw [hh] at h; cases h
        · rw [lead2 h.1 h.2] at hh; cases hh; exact ⟨192, .inl ⟨rfl, rfl⟩, rfl⟩
        · obtain ⟨lo, hi, e, _⟩ := lead3 h.1 h.2; rw [e] at hh; cases hh; exact ⟨224, .inr (.inl ⟨rfl, rfl⟩), rfl⟩
        · obtain ⟨lo, hi, e, _⟩ := lead4 h.1 h.2; rw [e] at hh; cases hh; exact ⟨240, .inr (.inr ⟨rfl, rfl⟩), rfl⟩
      have hsec := secondF_take HL.out hm0
      have HSEC := Lib.hid hsec
      rw [hbits] at HST
      have HBI := Lib.hid hbits
      clear hsec hbits
      have hmm : (s.more = 1 ∧ base = 192) ∨ (s.more = 2 ∧ base = 224) ∨ (s.more = 3 ∧ base = 240) := hbase
      clear hbase
      go_enter Tryz.func47, Tryz.ntmps47
      go_wp2_with fail
      refine (long_c a _).mono ?_
      rintro e w1 ⟨rfl, rfl⟩
      rw [HLO.out]
      rcases hmm with ⟨hm, rfl⟩ | ⟨hm, rfl⟩ | ⟨hm, rfl⟩
      · rw [hm]
        have hdec0 := HST.out
        have HMM := Lib.hid hm
        clear hm hm0
        go_wp2
        go_region
        have hbV : Below w.heap.size w (w.alloc (.cells #[.int .i64 0, .int .i64 0, .int .i64 192, .int .i64 224, .int .i64 240] 3)).drew := below_drewN ((Below.refl _ _).alloc (Nat.le_refl _) _) 1
        generalize (w.alloc (.cells #[.int .i64 0, .int .i64 0, .int .i64 192, .int .i64 224, .int .i64 240] 3)).drew = V at *
        go_wp2
        go_loopg [5, 6] 1 (fun g s5 s6 wx => ∃ (i : Nat) (r : Int), i + g = 2 ∧ 1 ≤ i ∧ i ≤ l.length ∧ s6 = .int .i64 i ∧ s5 = .int .i64 r ∧ Hid (DecAt l s (i - 1) r) ∧ Below w.heap.size w wx)
        case atStart => exact ⟨1, _, by omega, by omega, by omega, rfl, rfl, Lib.hid hdec0, hbV⟩
        case round =>
          clear hbV hdec0
          obtain ⟨i, r, hig, hi1, hil, rfl, rfl, HD, hb⟩ := hrel
          have HBB := Lib.hid hb
          cases gk with
          | zero =>
            have hkz : ¬ ((i : Int) < 2) := by omega
            have hres := HD.out.done (by rw [HMM.out]; omega)
            have HR := Lib.hid hres
            clear hres hb
            go_wp2
            go_ret2
            exact dec_shut (m := 2) HR.out (by omega) HBB.out
          | succ g =>
            have hkz : (i : Int) < 2 := by omega
            have hk1 : i - 1 < s.more := by rw [HMM.out]; omega
            by_cases hlen : i = l.length
            · have hd : decide ((l.length : Int) ≤ (i : Int)) = true := decide_eq_true (by omega)
              have hres := HD.out.short hk1 (by omega)
              have HR := Lib.hid hres
              have hdn : decide (l.length ≤ i) = true := decide_eq_true (by omega)
              clear hres hlen hb
              go_wp2
              go_quiet (fail)
              go_wp2
              go_ret2
              exact dec_shut (m := (i : Int)) HR.out (by omega) (below_drewN HBB.out _)
            · have hlt : i < l.length := by omega
              have hd : decide ((l.length : Int) ≤ (i : Int)) = false := decide_eq_false (by omega)
              have hdn : decide (l.length ≤ i) = false := decide_eq_false (by omega)
              have hlz2 : (i : Int) < (l.length : Int) := by omega
              have c0 := (hb.cell (p := ⟨b, off, none⟩) hbb).trans h0
              have ci := (hb.cell (p := ⟨b, off + i, none⟩) hbb).trans (HC.out i hlt)
              have hch := HB.out l[i] (List.getElem_mem hlt)
              have hii : i - 1 + 1 = i := by omega
              have hbad : takeB s (i - 1) l[i] = false → dec l = (-1, i) := fun h => by
                have := HD.out.bad hk1 (by omega) (by simp only [hii]; simpa [takeB] using h)
                rw [hii] at this; exact this
              have hnx : takeB s (i - 1) l[i] = true → 128 ≤ l[i] ∧ l[i] ≤ 191 → DecAt l s (i + 1 - 1) (64 * r + l[i] - 128) := fun h h8 => by
                have := HD.out.next hk1 (by omega) (by simp only [hii]; simpa [takeB] using h) (by simp only [hii]; exact h8)
                simp only [hii] at this
                rw [show i + 1 - 1 = i from by omega, show 64 * r + l[i] - 128 = r * 64 + (l[i] - 128) from by omega]; exact this
              have hr0 := HD.out.2.1
              have hr1 : r ≤ 524287 := by
                have := HD.out.2.2
                rcases (by omega : i - 1 = 0 ∨ i - 1 = 1 ∨ i - 1 = 2) with h | h | h <;> rw [h] at this <;> simp at this <;> omega
              have HBAD := Lib.hid hbad
              have HNX := Lib.hid hnx
              have h128 : takeB s (i - 1) l[i] = true → 128 ≤ l[i] ∧ l[i] ≤ 191 := fun h => by
                have hh := HIN.out.2.2.2 (by have := HMM.out; omega)
                have h' : (if i - 1 = 0 then s.lo else 128) ≤ l[i] ∧ l[i] ≤ (if i - 1 = 0 then s.hi else 191) := by simpa [takeB] using h
                by_cases hk0 : i - 1 = 0
                · simp only [if_pos hk0] at h'; omega
                · simp only [if_neg hk0] at h'; omega
              have H128 := Lib.hid h128
              have hc1 : i = 1 → wr.cell? ⟨b, off + 1, none⟩ = some (.int .u8 l[i]) := fun h => by
                have := ci
                rw [show off + i = off + 1 from by omega] at this; exact this
              have hl1 : (1 : Int) < (l.length : Int) := by omega
              clear hbad hnx h128 hii hlen
              generalize l[i] = ch at *
              by_cases hi0 : i = 1
              · have c1 := hc1 hi0
                have ei : ((i : Int) == 1) = true := by rw [beq_iff_eq]; omega
                have hse : secondF a ch = takeB s (i - 1) ch := by rw [HSEC.out, show i - 1 = 0 from by omega]
                clear hc1 hi0 hb
                cases hT : takeB s (i - 1) ch with
                | false =>
                  have hse2 : secondF a ch = false := hse.trans hT
                  have hsq : ∀ U, Calls Tryz.prog 57 #[.int .u8 a, .int .u8 ch] U fun e w' => e = .returned (.bool false) ∧ w' = U := fun U => by have := second_q a ch U; rwa [hse2] at this
                  have HSQ := Lib.hid hsq
                  have HR := Lib.hid (HBAD.out hT)
                  clear hse hse2 hsq hT
                  go_wp2
                  go_quiet ((go_at_call 57; exact Calls.quiet_of_same (HSQ.out _)))
                  go_wp2
                  go_ret2
                  exact dec_shut (m := (i : Int)) HR.out (by omega) (below_drewN HBB.out _)
                | true =>
                  have hse2 : secondF a ch = true := hse.trans hT
                  have hsq : ∀ U, Calls Tryz.prog 57 #[.int .u8 a, .int .u8 ch] U fun e w' => e = .returned (.bool true) ∧ w' = U := fun U => by have := second_q a ch U; rwa [hse2] at this
                  have HSQ := Lib.hid hsq
                  obtain ⟨g8, g9⟩ := H128.out hT
                  have HNN := Lib.hid (HNX.out hT ⟨g8, g9⟩)
                  have e1 : decide (ch < 128) = false := decide_eq_false (by omega)
                  have e2 : decide (191 < ch) = false := decide_eq_false (by omega)
                  clear hse hse2 hsq hT
                  go_wp2
                  go_quiet ((go_at_call 57; exact Calls.quiet_of_same (HSQ.out _)))
                  go_wp2
                  go_roundg g
                  case measure => omega
                  case rel => exact ⟨i + 1, _, by omega, by omega, by omega, by go_num, rfl, HNN, below_drewN HBB.out _⟩
              · have ei : ((i : Int) == 1) = false := by rw [beq_eq_false_iff_ne]; omega
                have hTi : takeB s (i - 1) ch = decide (128 ≤ ch ∧ ch ≤ 191) := by unfold takeB; rw [if_neg (by omega), if_neg (by omega)]
                clear hc1 hi0 hb
                by_cases g8 : 128 ≤ ch
                · have e1 : decide (ch < 128) = false := decide_eq_false (by omega)
                  by_cases g9 : ch ≤ 191
                  · have HNN := Lib.hid (HNX.out (hTi.trans (decide_eq_true ⟨g8, g9⟩)) ⟨g8, g9⟩)
                    have e2 : decide (191 < ch) = false := decide_eq_false (by omega)
                    clear hTi
                    go_wp2
                    go_quiet (fail)
                    go_wp2
                    go_roundg g
                    case measure => omega
                    case rel => exact ⟨i + 1, _, by omega, by omega, by omega, by go_num, rfl, HNN, below_drewN HBB.out _⟩
                  · have HR := Lib.hid (HBAD.out (hTi.trans (decide_eq_false (fun h => g9 h.2))))
                    have e2 : decide (191 < ch) = true := decide_eq_true (by omega)
                    clear hTi
                    go_wp2
                    go_quiet (fail)
                    go_wp2
                    go_ret2
                    exact dec_shut (m := (i : Int)) HR.out (by omega) (below_drewN HBB.out _)
                · have HR := Lib.hid (HBAD.out (hTi.trans (decide_eq_false (fun h => g8 h.1))))
                  have e1 : decide (ch < 128) = true := decide_eq_true (by omega)
                  clear hTi
                  go_wp2
                  go_quiet (fail)
                  go_wp2
                  go_ret2
                  exact dec_shut (m := (i : Int)) HR.out (by omega) (below_drewN HBB.out _)
      · rw [hm]
        have hdec0 := HST.out
        have HMM := Lib.hid hm
        clear hm hm0
        go_wp2
        go_region
        have hbV : Below w.heap.size w (w.alloc (.cells #[.int .i64 0, .int .i64 0, .int .i64 192, .int .i64 224, .int .i64 240] 3)).drew := below_drewN ((Below.refl _ _).alloc (Nat.le_refl _) _) 1
        generalize (w.alloc (.cells #[.int .i64 0, .int .i64 0, .int .i64 192, .int .i64 224, .int .i64 240] 3)).drew = V at *
        go_wp2
        go_loopg [5, 6] 2 (fun g s5 s6 wx => ∃ (i : Nat) (r : Int), i + g = 3 ∧ 1 ≤ i ∧ i ≤ l.length ∧ s6 = .int .i64 i ∧ s5 = .int .i64 r ∧ Hid (DecAt l s (i - 1) r) ∧ Below w.heap.size w wx)
        case atStart => exact ⟨1, _, by omega, by omega, by omega, rfl, rfl, Lib.hid hdec0, hbV⟩
        case round =>
          clear hbV hdec0
          obtain ⟨i, r, hig, hi1, hil, rfl, rfl, HD, hb⟩ := hrel
          have HBB := Lib.hid hb
          cases gk with
          | zero =>
            have hkz : ¬ ((i : Int) < 3) := by omega
            have hres := HD.out.done (by rw [HMM.out]; omega)
            have HR := Lib.hid hres
            clear hres hb
            go_wp2
            go_ret2
            exact dec_shut (m := 3) HR.out (by omega) HBB.out
          | succ g =>
            have hkz : (i : Int) < 3 := by omega
            have hk1 : i - 1 < s.more := by rw [HMM.out]; omega
            by_cases hlen : i = l.length
            · have hd : decide ((l.length : Int) ≤ (i : Int)) = true := decide_eq_true (by omega)
              have hres := HD.out.short hk1 (by omega)
              have HR := Lib.hid hres
              have hdn : decide (l.length ≤ i) = true := decide_eq_true (by omega)
              clear hres hlen hb
              go_wp2
              go_quiet (fail)
              go_wp2
              go_ret2
              exact dec_shut (m := (i : Int)) HR.out (by omega) (below_drewN HBB.out _)
            · have hlt : i < l.length := by omega
              have hd : decide ((l.length : Int) ≤ (i : Int)) = false := decide_eq_false (by omega)
              have hdn : decide (l.length ≤ i) = false := decide_eq_false (by omega)
              have hlz2 : (i : Int) < (l.length : Int) := by omega
              have c0 := (hb.cell (p := ⟨b, off, none⟩) hbb).trans h0
              have ci := (hb.cell (p := ⟨b, off + i, none⟩) hbb).trans (HC.out i hlt)
              have hch := HB.out l[i] (List.getElem_mem hlt)
              have hii : i - 1 + 1 = i := by omega
              have hbad : takeB s (i - 1) l[i] = false → dec l = (-1, i) := fun h => by
                have := HD.out.bad hk1 (by omega) (by simp only [hii]; simpa [takeB] using h)
                rw [hii] at this; exact this
              have hnx : takeB s (i - 1) l[i] = true → 128 ≤ l[i] ∧ l[i] ≤ 191 → DecAt l s (i + 1 - 1) (64 * r + l[i] - 128) := fun h h8 => by
                have := HD.out.next hk1 (by omega) (by simp only [hii]; simpa [takeB] using h) (by simp only [hii]; exact h8)
                simp only [hii] at this
                rw [show i + 1 - 1 = i from by omega, show 64 * r + l[i] - 128 = r * 64 + (l[i] - 128) from by omega]; exact this
              have hr0 := HD.out.2.1
              have hr1 : r ≤ 524287 := by
                have := HD.out.2.2
                rcases (by omega : i - 1 = 0 ∨ i - 1 = 1 ∨ i - 1 = 2) with h | h | h <;> rw [h] at this <;> simp at this <;> omega
              have HBAD := Lib.hid hbad
              have HNX := Lib.hid hnx
              have h128 : takeB s (i - 1) l[i] = true → 128 ≤ l[i] ∧ l[i] ≤ 191 := fun h => by
                have hh := HIN.out.2.2.2 (by have := HMM.out; omega)
                have h' : (if i - 1 = 0 then s.lo else 128) ≤ l[i] ∧ l[i] ≤ (if i - 1 = 0 then s.hi else 191) := by simpa [takeB] using h
                by_cases hk0 : i - 1 = 0
                · simp only [if_pos hk0] at h'; omega
                · simp only [if_neg hk0] at h'; omega
              have H128 := Lib.hid h128
              have hc1 : i = 1 → wr.cell? ⟨b, off + 1, none⟩ = some (.int .u8 l[i]) := fun h => by
                have := ci
                rw [show off + i = off + 1 from by omega] at this; exact this
              have hl1 : (1 : Int) < (l.length : Int) := by omega
              clear hbad hnx h128 hii hlen
              generalize l[i] = ch at *
              by_cases hi0 : i = 1
              · have c1 := hc1 hi0
                have ei : ((i : Int) == 1) = true := by rw [beq_iff_eq]; omega
                have hse : secondF a ch = takeB s (i - 1) ch := by rw [HSEC.out, show i - 1 = 0 from by omega]
                clear hc1 hi0 hb
                cases hT : takeB s (i - 1) ch with
                | false =>
                  have hse2 : secondF a ch = false := hse.trans hT
                  have hsq : ∀ U, Calls Tryz.prog 57 #[.int .u8 a, .int .u8 ch] U fun e w' => e = .returned (.bool false) ∧ w' = U := fun U => by have := second_q a ch U; rwa [hse2] at this
                  have HSQ := Lib.hid hsq
                  have HR := Lib.hid (HBAD.out hT)
                  clear hse hse2 hsq hT
                  go_wp2
                  go_quiet ((go_at_call 57; exact Calls.quiet_of_same (HSQ.out _)))
                  go_wp2
                  go_ret2
                  exact dec_shut (m := (i : Int)) HR.out (by omega) (below_drewN HBB.out _)
                | true =>
                  have hse2 : secondF a ch = true := hse.trans hT
                  have hsq : ∀ U, Calls Tryz.prog 57 #[.int .u8 a, .int .u8 ch] U fun e w' => e = .returned (.bool true) ∧ w' = U := fun U => by have := second_q a ch U; rwa [hse2] at this
                  have HSQ := Lib.hid hsq
                  obtain ⟨g8, g9⟩ := H128.out hT
                  have HNN := Lib.hid (HNX.out hT ⟨g8, g9⟩)
                  have e1 : decide (ch < 128) = false := decide_eq_false (by omega)
                  have e2 : decide (191 < ch) = false := decide_eq_false (by omega)
                  clear hse hse2 hsq hT
                  go_wp2
                  go_quiet ((go_at_call 57; exact Calls.quiet_of_same (HSQ.out _)))
                  go_wp2
                  go_roundg g
                  case measure => omega
                  case rel => exact ⟨i + 1, _, by omega, by omega, by omega, by go_num, rfl, HNN, below_drewN HBB.out _⟩
              · have ei : ((i : Int) == 1) = false := by rw [beq_eq_false_iff_ne]; omega
                have hTi : takeB s (i - 1) ch = decide (128 ≤ ch ∧ ch ≤ 191) := by unfold takeB; rw [if_neg (by omega), if_neg (by omega)]
                clear hc1 hi0 hb
                by_cases g8 : 128 ≤ ch
                · have e1 : decide (ch < 128) = false := decide_eq_false (by omega)
                  by_cases g9 : ch ≤ 191
                  · have HNN := Lib.hid (HNX.out (hTi.trans (decide_eq_true ⟨g8, g9⟩)) ⟨g8, g9⟩)
                    have e2 : decide (191 < ch) = false := decide_eq_false (by omega)
                    clear hTi
                    go_wp2
                    go_quiet (fail)
                    go_wp2
                    go_roundg g
                    case measure => omega
                    case rel => exact ⟨i + 1, _, by omega, by omega, by omega, by go_num, rfl, HNN, below_drewN HBB.out _⟩
                  · have HR := Lib.hid (HBAD.out (hTi.trans (decide_eq_false (fun h => g9 h.2))))
                    have e2 : decide (191 < ch) = true := decide_eq_true (by omega)
                    clear hTi
                    go_wp2
                    go_quiet (fail)
                    go_wp2
                    go_ret2
                    exact dec_shut (m := (i : Int)) HR.out (by omega) (below_drewN HBB.out _)
                · have HR := Lib.hid (HBAD.out (hTi.trans (decide_eq_false (fun h => g8 h.1))))
                  have e1 : decide (ch < 128) = true := decide_eq_true (by omega)
                  clear hTi
                  go_wp2
                  go_quiet (fail)
                  go_wp2
                  go_ret2
                  exact dec_shut (m := (i : Int)) HR.out (by omega) (below_drewN HBB.out _)
      · rw [hm]
        have hdec0 := HST.out
        have HMM := Lib.hid hm
        clear hm hm0
        go_wp2
        go_region
        have hbV : Below w.heap.size w (w.alloc (.cells #[.int .i64 0, .int .i64 0, .int .i64 192, .int .i64 224, .int .i64 240] 3)).drew := below_drewN ((Below.refl _ _).alloc (Nat.le_refl _) _) 1
        generalize (w.alloc (.cells #[.int .i64 0, .int .i64 0, .int .i64 192, .int .i64 224, .int .i64 240] 3)).drew = V at *
        go_wp2
        go_loopg [5, 6] 3 (fun g s5 s6 wx => ∃ (i : Nat) (r : Int), i + g = 4 ∧ 1 ≤ i ∧ i ≤ l.length ∧ s6 = .int .i64 i ∧ s5 = .int .i64 r ∧ Hid (DecAt l s (i - 1) r) ∧ Below w.heap.size w wx)
        case atStart => exact ⟨1, _, by omega, by omega, by omega, rfl, rfl, Lib.hid hdec0, hbV⟩
        case round =>
          clear hbV hdec0
          obtain ⟨i, r, hig, hi1, hil, rfl, rfl, HD, hb⟩ := hrel
          have HBB := Lib.hid hb
          cases gk with
          | zero =>
            have hkz : ¬ ((i : Int) < 4) := by omega
            have hres := HD.out.done (by rw [HMM.out]; omega)
            have HR := Lib.hid hres
            clear hres hb
            go_wp2
            go_ret2
            exact dec_shut (m := 4) HR.out (by omega) HBB.out
          | succ g =>
            have hkz : (i : Int) < 4 := by omega
            have hk1 : i - 1 < s.more := by rw [HMM.out]; omega
            by_cases hlen : i = l.length
            · have hd : decide ((l.length : Int) ≤ (i : Int)) = true := decide_eq_true (by omega)
              have hres := HD.out.short hk1 (by omega)
              have HR := Lib.hid hres
              have hdn : decide (l.length ≤ i) = true := decide_eq_true (by omega)
              clear hres hlen hb
              go_wp2
              go_quiet (fail)
              go_wp2
              go_ret2
              exact dec_shut (m := (i : Int)) HR.out (by omega) (below_drewN HBB.out _)
            · have hlt : i < l.length := by omega
              have hd : decide ((l.length : Int) ≤ (i : Int)) = false := decide_eq_false (by omega)
              have hdn : decide (l.length ≤ i) = false := decide_eq_false (by omega)
              have hlz2 : (i : Int) < (l.length : Int) := by omega
              have c0 := (hb.cell (p := ⟨b, off, none⟩) hbb).trans h0
              have ci := (hb.cell (p := ⟨b, off + i, none⟩) hbb).trans (HC.out i hlt)
              have hch := HB.out l[i] (List.getElem_mem hlt)
              have hii : i - 1 + 1 = i := by omega
              have hbad : takeB s (i - 1) l[i] = false → dec l = (-1, i) := fun h => by
                have := HD.out.bad hk1 (by omega) (by simp only [hii]; simpa [takeB] using h)
                rw [hii] at this; exact this
              have hnx : takeB s (i - 1) l[i] = true → 128 ≤ l[i] ∧ l[i] ≤ 191 → DecAt l s (i + 1 - 1) (64 * r + l[i] - 128) := fun h h8 => by
                have := HD.out.next hk1 (by omega) (by simp only [hii]; simpa [takeB] using h) (by simp only [hii]; exact h8)
                simp only [hii] at this
                rw [show i + 1 - 1 = i from by omega, show 64 * r + l[i] - 128 = r * 64 + (l[i] - 128) from by omega]; exact this
              have hr0 := HD.out.2.1
              have hr1 : r ≤ 524287 := by
                have := HD.out.2.2
                rcases (by omega : i - 1 = 0 ∨ i - 1 = 1 ∨ i - 1 = 2) with h | h | h <;> rw [h] at this <;> simp at this <;> omega
              have HBAD := Lib.hid hbad
              have HNX := Lib.hid hnx
              have h128 : takeB s (i - 1) l[i] = true → 128 ≤ l[i] ∧ l[i] ≤ 191 := fun h => by
                have hh := HIN.out.2.2.2 (by have := HMM.out; omega)
                have h' : (if i - 1 = 0 then s.lo else 128) ≤ l[i] ∧ l[i] ≤ (if i - 1 = 0 then s.hi else 191) := by simpa [takeB] using h
                by_cases hk0 : i - 1 = 0
                · simp only [if_pos hk0] at h'; omega
                · simp only [if_neg hk0] at h'; omega
              have H128 := Lib.hid h128
              have hc1 : i = 1 → wr.cell? ⟨b, off + 1, none⟩ = some (.int .u8 l[i]) := fun h => by
                have := ci
                rw [show off + i = off + 1 from by omega] at this; exact this
              have hl1 : (1 : Int) < (l.length : Int) := by omega
              clear hbad hnx h128 hii hlen
              generalize l[i] = ch at *
              by_cases hi0 : i = 1
              · have c1 := hc1 hi0
                have ei : ((i : Int) == 1) = true := by rw [beq_iff_eq]; omega
                have hse : secondF a ch = takeB s (i - 1) ch := by rw [HSEC.out, show i - 1 = 0 from by omega]
                clear hc1 hi0 hb
                cases hT : takeB s (i - 1) ch with
                | false =>
                  have hse2 : secondF a ch = false := hse.trans hT
                  have hsq : ∀ U, Calls Tryz.prog 57 #[.int .u8 a, .int .u8 ch] U fun e w' => e = .returned (.bool false) ∧ w' = U := fun U => by have := second_q a ch U; rwa [hse2] at this
                  have HSQ := Lib.hid hsq
                  have HR := Lib.hid (HBAD.out hT)
                  clear hse hse2 hsq hT
                  go_wp2
                  go_quiet ((go_at_call 57; exact Calls.quiet_of_same (HSQ.out _)))
                  go_wp2
                  go_ret2
                  exact dec_shut (m := (i : Int)) HR.out (by omega) (below_drewN HBB.out _)
                | true =>
                  have hse2 : secondF a ch = true := hse.trans hT
                  have hsq : ∀ U, Calls Tryz.prog 57 #[.int .u8 a, .int .u8 ch] U fun e w' => e = .returned (.bool true) ∧ w' = U := fun U => by have := second_q a ch U; rwa [hse2] at this
                  have HSQ := Lib.hid hsq
                  obtain ⟨g8, g9⟩ := H128.out hT
                  have HNN := Lib.hid (HNX.out hT ⟨g8, g9⟩)
                  have e1 : decide (ch < 128) = false := decide_eq_false (by omega)
                  have e2 : decide (191 < ch) = false := decide_eq_false (by omega)
                  clear hse hse2 hsq hT
                  go_wp2
                  go_quiet ((go_at_call 57; exact Calls.quiet_of_same (HSQ.out _)))
                  go_wp2
                  go_roundg g
                  case measure => omega
                  case rel => exact ⟨i + 1, _, by omega, by omega, by omega, by go_num, rfl, HNN, below_drewN HBB.out _⟩
              · have ei : ((i : Int) == 1) = false := by rw [beq_eq_false_iff_ne]; omega
                have hTi : takeB s (i - 1) ch = decide (128 ≤ ch ∧ ch ≤ 191) := by unfold takeB; rw [if_neg (by omega), if_neg (by omega)]
                clear hc1 hi0 hb
                by_cases g8 : 128 ≤ ch
                · have e1 : decide (ch < 128) = false := decide_eq_false (by omega)
                  by_cases g9 : ch ≤ 191
                  · have HNN := Lib.hid (HNX.out (hTi.trans (decide_eq_true ⟨g8, g9⟩)) ⟨g8, g9⟩)
                    have e2 : decide (191 < ch) = false := decide_eq_false (by omega)
                    clear hTi
                    go_wp2
                    go_quiet (fail)
                    go_wp2
                    go_roundg g
                    case measure => omega
                    case rel => exact ⟨i + 1, _, by omega, by omega, by omega, by go_num, rfl, HNN, below_drewN HBB.out _⟩
                  · have HR := Lib.hid (HBAD.out (hTi.trans (decide_eq_false (fun h => g9 h.2))))
                    have e2 : decide (191 < ch) = true := decide_eq_true (by omega)
                    clear hTi
                    go_wp2
                    go_quiet (fail)
                    go_wp2
                    go_ret2
                    exact dec_shut (m := (i : Int)) HR.out (by omega) (below_drewN HBB.out _)
                · have HR := Lib.hid (HBAD.out (hTi.trans (decide_eq_false (fun h => g8 h.1))))
                  have e1 : decide (ch < 128) = true := decide_eq_true (by omega)
                  clear hTi
                  go_wp2
                  go_quiet (fail)
                  go_wp2
                  go_ret2
                  exact dec_shut (m := (i : Int)) HR.out (by omega) (below_drewN HBB.out _)

theorem rdec_c {W : World} {A : Option Addr} {c : Nat} {l : List Int} (hs : By W A l) : Calls Tryz.prog 47 #[.slice A l.length c] W (DecPost W l) := by
  by_cases h : l = []
  · subst h; exact rdec_empty A c W
  · obtain ⟨b, off, rfl, _, _⟩ := hs.2 h
    exact rdec_full b off c l (List.length_pos_iff.2 h) W hs
theorem rdecode_at {W : World} {b off c k : Nat} {l : List Int} (hs : By W (some ⟨b, off, none⟩) l) (_hk : k ≤ l.length) : Calls Tryz.prog 47 #[.slice (some ⟨b, off + k, none⟩) (l.length - k) c] W (DecPost W (l.drop k)) := by
  have := rdec_c (c := c) (hs.drop k)
  rwa [List.length_drop] at this
end Go.Proofs.YtahgljglleeloaaGreatDoor.U

/- The document's own Chars, First, Same. -/
namespace Go.Proofs.YtahgljglleeloaaGreatDoor.U
open Go.RowKit Go.Shelf UtfM

set_option maxRecDepth 100000 in
set_option maxHeartbeats 2000000 in
theorem rchars_c {W : World} {A : Option Addr} {c : Nat} {l : List Int} (hs : By W A l) (hl : l.length ≤ 1000000) (hlc : l.length ≤ c) : Calls Tryz.prog 40 #[.slice A l.length c] W (CharsPost W l) := by
  obtain ⟨i0, hi, hz0, hz1, hz2⟩ := info_parts infoC
  obtain ⟨w, hwW⟩ : ∃ w, w = W := ⟨_, rfl⟩
  rw [← hwW] at hs ⊢
  clear hwW
  have HS := Lib.hid hs
  clear hs
  go_enter Tryz.func40, Tryz.ntmps40
  go_wp2
  go_loopg [3, 4] l.length (fun g s3 s4 wx => ∃ (k : Nat) (done : List Ch), k + g = l.length ∧ s4 = .int .i64 k ∧ done.length ≤ k ∧ Hid (chars 0 l = done ++ chars k (l.drop k)) ∧ wx.ownsRow w.heap.size 85 3 s3 done.length (cellsC done) ∧ Below w.heap.size w wx)
  case atStart => exact ⟨0, [], by omega, rfl, by simp, Lib.hid (by simp), World.ownsRow_nil _ _ _ _, Below.refl _ _⟩
  case round =>
    obtain ⟨k, done, hkg, rfl, hdk, HE, hown, hb⟩ := hrel
    by_cases hk : k < l.length
    · have hkz : (k : Int) < (l.length : Int) := by omega
      have hs := HS.out.step hb
      obtain ⟨b, off, rfl, hbb, _⟩ := hs.2 (by intro h; rw [h] at hk; simp at hk)
      have hkl : k ≤ l.length := by omega
      have hkc : ¬ (c = k) := by omega
      have hne : l.drop k ≠ [] := by intro h; have := congrArg List.length h; simp at this; omega
      have hok := dec_ok (hs.1.drop k) hne
      have hst := chars_step (hs.1.drop k) hne k
      unfold DecOk at hok
      rw [List.length_drop] at hok
      have HST := Lib.hid hst
      have HSB := Lib.hid hs
      have hdc := rdecode_at (c := c - k) (k := k) hs hkl
      have HDC := Lib.hid hdc
      clear hst hs hne hdc
      go_wp2_with fail
      refine HDC.out.mono ?_
      rintro e w1 ⟨rfl, b1⟩
      unfold decV
      obtain ⟨p, hp⟩ : ∃ p, dec (l.drop k) = p := ⟨_, rfl⟩
      rw [hp] at HST hok ⊢
      obtain ⟨r, n⟩ := p
      dsimp only at *
      have hn1 := hok.1
      have hn2 := hok.2.1
      have HP := Lib.hid hp
      have hb1 := hb.trans (b1.mono hb.size)
      have hsz := hb1.size
      have hown1 := own_below hown b1
      clear hp hok hown hb b1 HDC
      go_wp2_with (at_builtin; refine wpList_append_own _ rfl _ _ 82 rfl w.heap.size 85 i0 (.agg #[.int .i64 0, .int .i64 0, .int .i64 0]) 3 24 Tryz.underlying82 hi hz0 hz1 hz2 rfl (by decide) _ _ _ rfl (hown1.alloc _) ⟨w1.heap.size, 0, none⟩ 1 1 [.int .i64 r, .int .i64 k, .int .i64 n] rfl rfl (cell_news _ _ _) (by simp [Value.oneCell']) (by unfold maxLen; omega) (by omega) (by rw [World.size_alloc]; omega) ?_; intro v' w2 hown' hgrow _)
      go_roundg (gk - n)
      case measure => omega
      case rel => exact ⟨k + n, done ++ [(r, k, n)], by omega, by go_num, by simp; omega, Lib.hid (by rw [HE.out, HST.out, List.drop_drop]; simp), by rw [cellsC_append, List.length_append]; exact hown', (hb1.alloc hsz _).grown hgrow (by rw [World.size_alloc]; omega) (fun j hj => (hown1.lt j hj).1)⟩
    · have hkz : ¬ ((k : Int) < (l.length : Int)) := by omega
      have hfin : chars 0 l = done := by rw [HE.out, show l.drop k = [] from List.drop_eq_nil_of_le (by omega), chars_nil]; simp
      have HF := Lib.hid hfin
      clear hfin
      go_wp2
      go_ret
      rw [← HF.out] at hown
      obtain ⟨P, cp, rfl, hcs⟩ := chars_of hown
      exact ⟨P, cp, rfl, hcs, hb⟩

set_option maxRecDepth 100000 in
set_option maxHeartbeats 2000000 in
theorem rfirst_c {W : World} {A : Option Addr} {c : Nat} {l : List Int} (hs : By W A l) (hl : l.length ≤ 1000000) (hlc : l.length ≤ c) : Calls Tryz.prog 30 #[.slice A l.length c] W fun e W' => e = .returned (.int .i64 (first l)) ∧ Below W.heap.size W W' := by
  obtain ⟨w, hwW⟩ : ∃ w, w = W := ⟨_, rfl⟩
  rw [← hwW] at hs ⊢
  clear hwW
  have hcl := chars_len_le l hs.1 0
  have HS := Lib.hid hs
  clear hs
  go_enter Tryz.func30, Tryz.ntmps30
  go_wp2_with fail
  refine (rchars_c HS.out hl hlc).mono ?_
  rintro e w1 ⟨P, cp, rfl, hcs, b1⟩
  have HCS := Lib.hid hcs
  have HFI : Hid (first l = firstOf ((chars 0 l).drop 0)) := Lib.hid rfl
  clear hcs
  generalize chars 0 l = cs at *
  go_wp2
  go_loopg [4] cs.length (fun g s4 wx => ∃ (k : Nat), k + g = cs.length ∧ s4 = .int .i64 k ∧ Hid (first l = firstOf (cs.drop k)) ∧ w1 = wx)
  case atStart => exact ⟨0, by omega, rfl, HFI, rfl⟩
  case round =>
    obtain ⟨k, hkg, rfl, HF, rfl⟩ := hrel
    cases gk with
    | zero =>
      have hkz : ¬ ((k : Int) < (cs.length : Int)) := by omega
      have hfin : first l = -1 := by rw [HF.out, List.drop_eq_nil_of_le (by omega)]; rfl
      have HR := Lib.hid hfin
      clear hfin
      go_wp2
      go_ret
      refine ⟨?_, b1⟩
      rw [HR.out]; rfl
    | succ g =>
      have hk : k < cs.length := by omega
      have hkz : (k : Int) < (cs.length : Int) := by omega
      obtain ⟨b, off, rfl, hbb, hc⟩ := HCS.out (by intro h; rw [h] at hk; simp at hk)
      obtain ⟨c0, c1, _⟩ := hc k hk
      have hdr : cs.drop k = cs[k] :: cs.drop (k + 1) := (List.getElem_cons_drop hk).symm
      have HDR := Lib.hid hdr
      clear hc hdr
      generalize cs[k] = y at *
      obtain ⟨r, at0, n0⟩ := y
      dsimp only at *
      by_cases hr : r < 0
      · have HR : Hid (first l = at0) := Lib.hid (by rw [HF.out, HDR.out, firstOf_bad hr])
        go_wp2
        go_ret
        refine ⟨?_, b1⟩
        rw [HR.out]; rfl
      · have HN : Hid (first l = firstOf (cs.drop (k + 1))) := Lib.hid (by rw [HF.out, HDR.out, firstOf_good (by simp only; omega)])
        go_wp2
        go_roundg g
        case measure => omega
        case rel => exact ⟨k + 1, by omega, by go_num, HN, rfl⟩
end Go.Proofs.YtahgljglleeloaaGreatDoor.U
