/- GMa, GMb, in one text. -/
import Derived.Test.YtioahgklplbinaaDoorGPub
import Derived.Test.YtioahgklplbinaaDoorNInv
import Derived.Test.YtioahgklplbinaaDoorRR
import Derived.Deep.DeepCutAuto
import Derived.Laws.OwnMore
/- The law's machines: what they are, and how they lie. -/
namespace SimM
open SetM NfaM WrM
/-- A machine that may be, of n states, no row of it longer than r. -/
structure Sd (n r : Nat) (m : Mc) : Prop where
  ed : m.ed.length = n
  fr : m.fr.length = n
  tg : m.tg.length = n
  tags : ∀ i, i < n → -1 ≤ m.tg.getD i 0
  es : ∀ i, i < n → (m.ed.getD i []).length ≤ r ∧ ∀ e ∈ m.ed.getD i [], 0 ≤ e.1 ∧ e.1 < (n : Int) ∧ isSetF 0 e.2 = true ∧ e.2.length ≤ 1000
  fs : ∀ i, i < n → (m.fr.getD i []).length ≤ r ∧ ∀ t ∈ m.fr.getD i [], 0 ≤ t ∧ t < (n : Int)
theorem Sd.mono {n r r' : Nat} {m : Mc} (h : Sd n r m) (hr : r ≤ r') : Sd n r' m :=
  ⟨h.ed, h.fr, h.tg, h.tags, fun i hi => ⟨Nat.le_trans (h.es i hi).1 hr, (h.es i hi).2⟩, fun i hi => ⟨Nat.le_trans (h.fs i hi).1 hr, (h.fs i hi).2⟩⟩
theorem Sd.start {n : Nat} {tg : List Int} (ht : tg.length = n) (h : ∀ t ∈ tg, -1 ≤ t) : Sd n 0 ⟨List.replicate n [], List.replicate n [], tg⟩ := by
  have he : ∀ {α : Type} (i : Nat), (List.replicate n ([] : List α)).getD i [] = [] := fun i => by
    rw [List.getD_eq_getElem?_getD]
    by_cases hi : i < n <;> simp [hi]
  refine ⟨by simp, by simp, ht, fun i hi => ?_, fun i hi => ?_, fun i hi => ?_⟩
  · rw [List.getD_eq_getElem?_getD]
    show -1 ≤ (tg[i]?).getD 0
    rw [List.getElem?_eq_getElem (by omega)]
    exact h _ (List.getElem_mem _)
  · rw [show (⟨List.replicate n [], List.replicate n [], tg⟩ : Mc).ed.getD i [] = [] from he i]
    exact ⟨Nat.le_refl _, fun e h => by cases h⟩
  · rw [show (⟨List.replicate n [], List.replicate n [], tg⟩ : Mc).fr.getD i [] = [] from he i]
    exact ⟨Nat.le_refl _, fun e h => by cases h⟩
theorem Sd.snd {n r : Nat} {m : Mc} (h : Sd n r m) (h1 : 1 ≤ n) (h2 : n ≤ 2000) : sndM m = true := by
  unfold sndM rowsM
  rw [Bool.and_eq_true, decide_eq_true_eq, List.all_eq_true]
  refine ⟨⟨by rw [h.tg]; exact h1, by rw [h.tg]; exact h2, h.ed.trans h.tg.symm, h.fr.trans h.tg.symm⟩, fun i hi => ?_⟩
  have hi' : i < n := by rw [← h.tg]; exact List.mem_range.1 hi
  unfold okR
  rw [Bool.and_eq_true, Bool.and_eq_true, decide_eq_true_eq]
  refine ⟨h.tags i hi', ?_, ?_⟩
  · unfold allE
    rw [List.all_eq_true]
    intro e he
    obtain ⟨a, b, c, _⟩ := (h.es i hi').2 e he
    unfold okE
    rw [Bool.and_eq_true, decide_eq_true_eq, h.tg]
    exact ⟨⟨a, b⟩, c⟩
  · unfold allI
    rw [List.all_eq_true]
    intro t ht
    unfold okI
    rw [decide_eq_true_eq, h.tg]
    exact (h.fs i hi').2 t ht
theorem isSetF_low : ∀ {l : List Sp} {f : Int}, 0 ≤ f → isSetF f l = true → ∀ s ∈ l, 0 ≤ s.2
  | [], _, _, _, s, h => by cases h
  | x :: l, f, hf, h, s, hs => by
    unfold isSetF at h
    split at h
    · cases h
    · split at h
      · cases h
      · rename_i h1 h2
        rcases List.mem_cons.1 hs with rfl | hs
        · omega
        · exact isSetF_low (f := x.2 + 2) (by omega) h s hs
theorem Sd.bd {n r : Nat} {m : Mc} (h : Sd n r m) (hr : r ≤ 1000) : Bd m :=
  ⟨fun i hi => ⟨by have := (h.es i (by rw [← h.ed]; exact hi)).1; omega, fun e he => by have := ((h.es i (by rw [← h.ed]; exact hi)).2 e he).2.2.2; omega⟩, fun i hi => by have := (h.fs i (by rw [← h.fr]; exact hi)).1; omega,
    fun i hi e he s hs => by have := isSetF_low (Int.le_refl 0) ((h.es i (by rw [← h.ed]; exact hi)).2 e he).2.2.1 s hs; omega⟩
theorem getD_put {α : Type} (l : List (List α)) (i j : Nat) (x : List α) (hi : i < l.length) : (l.set i x).getD j [] = if j = i then x else l.getD j [] := by
  simp only [List.getD_eq_getElem?_getD, List.getElem?_set]
  by_cases e : i = j
  · subst e; simp [hi]
  · simp [e, Ne.symm e]
theorem Sd.free {n r i : Nat} {m : Mc} {t : Int} (h : Sd n r m) (hi : i < n) (h0 : 0 ≤ t) (h1 : t < (n : Int)) : Sd n (r + 1) (frF m i t) := by
  have hm := h.mono (Nat.le_succ r)
  refine ⟨hm.ed, by simp [frF, hm.fr], hm.tg, hm.tags, hm.es, fun j hj => ?_⟩
  show ((m.fr.set i (m.fr.getD i [] ++ [t])).getD j []).length ≤ r + 1 ∧ ∀ u ∈ (m.fr.set i (m.fr.getD i [] ++ [t])).getD j [], 0 ≤ u ∧ u < (n : Int)
  rw [getD_put _ _ _ _ (by rw [h.fr]; exact hi)]
  by_cases e : j = i
  · rw [if_pos e]
    refine ⟨by rw [List.length_append]; exact Nat.succ_le_succ (h.fs i hi).1, fun u hu => ?_⟩
    rcases List.mem_append.1 hu with hu | hu
    · exact (h.fs i hi).2 u hu
    · rw [List.mem_singleton.1 hu]; exact ⟨h0, h1⟩
  · rw [if_neg e]
    exact hm.fs j hj
theorem Sd.edge {n r i : Nat} {m : Mc} {t : Int} {sl : List Sp} (h : Sd n r m) (hi : i < n) (h0 : 0 ≤ t) (h1 : t < (n : Int)) (hs : isSetF 0 sl = true) (hl : sl.length ≤ 1000) : Sd n (r + 1) (edF m i t sl) := by
  have hm := h.mono (Nat.le_succ r)
  refine ⟨by simp [edF, hm.ed], hm.fr, hm.tg, hm.tags, fun j hj => ?_, hm.fs⟩
  show ((m.ed.set i (m.ed.getD i [] ++ [(t, sl)])).getD j []).length ≤ r + 1 ∧ ∀ e ∈ (m.ed.set i (m.ed.getD i [] ++ [(t, sl)])).getD j [], 0 ≤ e.1 ∧ e.1 < (n : Int) ∧ isSetF 0 e.2 = true ∧ e.2.length ≤ 1000
  rw [getD_put _ _ _ _ (by rw [h.ed]; exact hi)]
  by_cases e : j = i
  · rw [if_pos e]
    refine ⟨by rw [List.length_append]; exact Nat.succ_le_succ (h.es i hi).1, fun u hu => ?_⟩
    rcases List.mem_append.1 hu with hu | hu
    · exact (h.es i hi).2 u hu
    · rw [List.mem_singleton.1 hu]; exact ⟨h0, h1, hs, hl⟩
  · rw [if_neg e]
    exact hm.es j hj
end SimM
namespace Go.Proofs.YtioahgklplbinaaDoor
open Go.RowKit Go.Shelf SetM NfaM SimM WrM
/-- The rows of a machine whose states have no edges yet. -/
def strR (n gE gF : Nat) (vT : Value) (tg : List Int) : Nat → Rw := fun i =>
  if i = 0 then ⟨44, 1, .slice (some ⟨gE, 0, none⟩) n n, n, List.replicate n (.slice none 0 0)⟩
  else if i = 1 then ⟨24, 1, .slice (some ⟨gF, 0, none⟩) n n, n, List.replicate n (.slice none 0 0)⟩
  else if i = 2 then ⟨3, 1, vT, n, tg.map (.int .i64)⟩
  else if i % 2 = 1 then ⟨47, 2, .slice none 0 0, 0, []⟩ else ⟨3, 1, .slice none 0 0, 0, []⟩
theorem mvx_start {W : World} {n gE gF : Nat} {vT : Value} {tg : List Int} (ht : tg.length = n)
    (hE : W.ownsRow 0 44 1 (.slice (some ⟨gE, 0, none⟩) n n) n (List.replicate n (.slice none 0 0))) (hF : W.ownsRow 0 24 1 (.slice (some ⟨gF, 0, none⟩) n n) n (List.replicate n (.slice none 0 0)))
    (hT : W.ownsRow 0 3 1 vT n (tg.map (.int .i64))) (h1 : gE ≠ gF) (h2 : vT.ownBlock ≠ some gE) (h3 : vT.ownBlock ≠ some gF) :
    MVx W (fun _ => False) (strR n gE gF vT tg) ⟨List.replicate n [], List.replicate n [], tg⟩ := by
  have he : ∀ {α : Type} (i : Nat), (List.replicate n ([] : List α)).getD i [] = [] := fun i => by
    rw [List.getD_eq_getElem?_getD]
    by_cases hi : i < n <;> simp [hi]
  have r0 : strR n gE gF vT tg 0 = ⟨44, 1, .slice (some ⟨gE, 0, none⟩) n n, n, List.replicate n (.slice none 0 0)⟩ := rfl
  have r1 : strR n gE gF vT tg 1 = ⟨24, 1, .slice (some ⟨gF, 0, none⟩) n n, n, List.replicate n (.slice none 0 0)⟩ := rfl
  have r2 : strR n gE gF vT tg 2 = ⟨3, 1, vT, n, tg.map (.int .i64)⟩ := rfl
  have ro : ∀ i, strR n gE gF vT tg (3 + 2 * i) = ⟨47, 2, .slice none 0 0, 0, []⟩ := fun i => by
    unfold strR; rw [if_neg (by omega), if_neg (by omega), if_neg (by omega), if_pos (by omega)]
  have re : ∀ i, strR n gE gF vT tg (4 + 2 * i) = ⟨3, 1, .slice none 0 0, 0, []⟩ := fun i => by
    unfold strR; rw [if_neg (by omega), if_neg (by omega), if_neg (by omega), if_neg (by omega)]
  have cs : ∀ i, i = 0 ∨ i = 1 ∨ i = 2 ∨ (∃ j, i = 3 + 2 * j) ∨ ∃ j, i = 4 + 2 * j := fun i => by
    rcases (show i = 0 ∨ i = 1 ∨ i = 2 ∨ (3 ≤ i ∧ i % 2 = 1) ∨ (4 ≤ i ∧ i % 2 = 0) by omega) with h | h | h | h | h
    · exact .inl h
    · exact .inr (.inl h)
    · exact .inr (.inr (.inl h))
    · exact .inr (.inr (.inr (.inl ⟨(i - 3) / 2, by omega⟩)))
    · exact .inr (.inr (.inr (.inr ⟨(i - 4) / 2, by omega⟩)))
  have ob : ∀ i k, (strR n gE gF vT tg i).v.ownBlock = some k → (i = 0 ∧ k = gE) ∨ (i = 1 ∧ k = gF) ∨ (i = 2 ∧ vT.ownBlock = some k) := fun i k hk => by
    rcases cs i with rfl | rfl | rfl | ⟨j, rfl⟩ | ⟨j, rfl⟩
    · rw [r0] at hk; exact .inl ⟨rfl, (Option.some.inj hk).symm⟩
    · rw [r1] at hk; exact .inr (.inl ⟨rfl, (Option.some.inj hk).symm⟩)
    · rw [r2] at hk; exact .inr (.inr ⟨rfl, hk⟩)
    · rw [ro] at hk; cases hk
    · rw [re] at hk; cases hk
  have rep : ∀ (f : Nat → Rw), (∀ i, (f i).v = .slice none 0 0) → List.replicate n (Value.slice none 0 0) = (List.range n).map (fun i => (f i).v) := fun f hf => by
    refine List.ext_getElem (by simp) (fun i h1 h2 => ?_)
    simp [hf]
  refine ⟨by simp [ht], by simp [ht], ⟨fun i _ => ?_, fun i j _ _ hij k hk hk2 => ?_⟩, fun k _ h => h, fun k h => h.elim, ?_, ?_, ?_, fun i hi => ?_, fun i hi => ?_⟩
  · rcases cs i with rfl | rfl | rfl | ⟨j, rfl⟩ | ⟨j, rfl⟩
    · rw [r0]; exact hE
    · rw [r1]; exact hF
    · rw [r2]; exact hT
    · rw [ro]; exact Rw.nil_ok _ _ _
    · rw [re]; exact Rw.nil_ok _ _ _
  · rcases ob i k hk with ⟨rfl, rfl⟩ | ⟨rfl, rfl⟩ | ⟨rfl, e1⟩ <;> rcases ob j _ hk2 with ⟨rfl, e⟩ | ⟨rfl, e⟩ | ⟨rfl, e⟩
    · exact hij rfl
    · exact h1 e
    · exact h2 e
    · exact h1 e.symm
    · exact hij rfl
    · exact h3 e
    · exact h2 (e ▸ e1)
    · exact h3 (e ▸ e1)
    · exact hij rfl
  · rw [r0]
    refine ⟨rfl, rfl, ht.symm, ?_⟩
    show List.replicate n (Value.slice none 0 0) = (List.range tg.length).map (fun i => (strR n gE gF vT tg (3 + 2 * i)).v)
    rw [ht]
    exact rep (fun i => strR n gE gF vT tg (3 + 2 * i)) (fun i => by rw [ro])
  · rw [r1]
    refine ⟨rfl, rfl, ht.symm, ?_⟩
    show List.replicate n (Value.slice none 0 0) = (List.range tg.length).map (fun i => (strR n gE gF vT tg (4 + 2 * i)).v)
    rw [ht]
    exact rep (fun i => strR n gE gF vT tg (4 + 2 * i)) (fun i => by rw [re])
  · rw [r2]
    exact ⟨rfl, rfl, ht.symm, rfl⟩
  · rw [ro, show (⟨List.replicate n [], List.replicate n [], tg⟩ : Mc).ed.getD i [] = [] from he i]
    exact ⟨rfl, rfl, rfl, trivial⟩
  · rw [re, show (⟨List.replicate n [], List.replicate n [], tg⟩ : Mc).fr.getD i [] = [] from he i]
    exact ⟨rfl, rfl, rfl, rfl⟩
set_option maxRecDepth 100000 in
set_option maxHeartbeats 8000000 in
theorem lnorm_c {W : World} {P : Option Addr} {c n : Nat} {l : List Sp} (hn : n = l.length) (hs : Sl W P l) (hl : n ≤ 100000) (hw : Wide l) :
    Calls Tryd.prog 24 #[.slice P n c] W fun e W' => ∃ Q c out, e = .returned (.slice Q (List.length out) c) ∧ isSetF 0 out = true ∧ out.length ≤ 4 + 2 * n ∧ Sl W' Q out ∧ (Q = none → c = 0) ∧ (∀ a, Q = some a → W.heap.size ≤ a.block) ∧ Below W.heap.size W W' := by
  subst hn
  have HN := Lib.hid (rnorm_n (c := c) hs hl hw)
  clear hs hl hw
  go_enter Tryd.func24, Tryd.ntmps24
  go_wp2_with fail
  refine HN.out.mono ?_
  rintro e w1 ⟨Q, c1, out, rfl, h2, h3, h4, h5, h6, h7⟩
  have HE := Lib.hid (And.intro ((isSet_norml out).2 ⟨h2.1, fun r hr => ((h2.2 r).1 hr).1⟩) (And.intro h3 (And.intro h4 (And.intro h5 (And.intro h6 h7)))))
  clear h2 h3 h4 h5 h6 h7 HN
  go_wp2_with fail
  go_ret
  exact ⟨Q, c1, out, rfl, HE.out⟩
end Go.Proofs.YtioahgklplbinaaDoor

/- The law's machines: the three blocks that they begin with. -/
namespace Go.Proofs.YtioahgklplbinaaDoor
open Go.RowKit Go.Shelf SetM NfaM SimM WrM
theorem infoEs : (Tryd.prog.info? 44).map (fun i => (i.zero, i.size, i.bytes)) = some (some (.slice none 0 0), 1, 24) := by kernel_rfl
theorem infoIs : (Tryd.prog.info? 24).map (fun i => (i.zero, i.size, i.bytes)) = some (some (.slice none 0 0), 1, 24) := by kernel_rfl
theorem make_rows {t e : TypeId} (ht : Tryd.prog.underlying t = some (.slice e)) (hinfo : (Tryd.prog.info? e).map (fun i => (i.zero, i.size, i.bytes)) = some (some (.slice none 0 0), 1, 24)) (n : Nat) (hn : n ≤ 100000) :
    ∃ f : World → World, ∀ W, (Instr.makeSlice t (.int .i64 n) (.int .i64 n)).run Tryd.prog W = .ok (.slice (some ⟨W.heap.size, 0, none⟩) n n) (f W) ∧ (f W).ownsRow 0 e 1 (.slice (some ⟨W.heap.size, 0, none⟩) n n) n (List.replicate n (.slice none 0 0)) ∧ Below W.heap.size W (f W) ∧ W.heap.size < (f W).heap.size := by
  obtain ⟨i0, hi, hz0, hz1, hz2⟩ := info_parts hinfo
  refine Classical.axiomOfChoice (r := fun W W' => (Instr.makeSlice t (.int .i64 n) (.int .i64 n)).run Tryd.prog W = .ok (.slice (some ⟨W.heap.size, 0, none⟩) n n) W' ∧ W'.ownsRow 0 e 1 (.slice (some ⟨W.heap.size, 0, none⟩) n n) n (List.replicate n (.slice none 0 0)) ∧ Below W.heap.size W W' ∧ W.heap.size < W'.heap.size) (fun W => ?_)
  obtain ⟨W1, hmk, h2, h3⟩ := run_makeSlice_full (P := Tryd.prog) (w := W) 0 t e i0 _ 1 ht hi hz0 hz1 .i64 .i64 n (by omega) (by rw [hz2]; omega) (by unfold maxLen; omega) (Nat.zero_le _)
  have e1 : (madeCells (Value.slice none 0 0).cells (n * 1)).toList = List.replicate n (.slice none 0 0) := by
    rw [Nat.mul_one]
    exact toList_madeCells_one _ _
  rw [e1] at h2
  exact ⟨W1, hmk, h2, ⟨h3.os, h3.tape, h3.output, h3.size, fun k hk => h3.block k hk (fun e => by cases e)⟩, (World.ownsRow.lt h2 W.heap.size rfl).2⟩
theorem own_step {W W' : World} {e : TypeId} {s n : Nat} {v : Value} {xs : List Value} (h : W.ownsRow 0 e s v n xs) (hb : Below W.heap.size W W') : W'.ownsRow 0 e s v n xs := by
  refine World.ownsRow.kept (row := none) h ⟨hb.os, hb.tape, hb.output, hb.size, fun k hk _ => hb.block k hk⟩ ?_
  cases h : v.ownBlock with
  | none => exact .inl rfl
  | some k => exact .inr (by simp)
/-- The machine's box gB; its rows' blocks gE, gF; its result's variable at W's end. -/
structure MB (W : World) (n gB gE gF : Nat) (w : World) : Prop where
  box : w.heap[gB]? = some (.cells #[.slice (some ⟨gE, 0, none⟩) n n, .slice (some ⟨gF, 0, none⟩) n n, .slice none 0 0] 30 (0, 0))
  e : w.ownsRow 0 44 1 (.slice (some ⟨gE, 0, none⟩) n n) n (List.replicate n (.slice none 0 0))
  f : w.ownsRow 0 24 1 (.slice (some ⟨gF, 0, none⟩) n n) n (List.replicate n (.slice none 0 0))
  res : w.heap[W.heap.size]? = some (.cells #[.slice none 0 0, .slice none 0 0, .slice none 0 0] 30 (0, 0))
  far : W.heap.size < gB ∧ W.heap.size < gE ∧ W.heap.size < gF ∧ gB ≠ gE ∧ gB ≠ gF ∧ gE ≠ gF
  bel : Below W.heap.size W w
theorem mb_of {W X : World} {n gB gE gF : Nat} (hB : X.heap[gB]? = some (.cells #[.slice none 0 0, .slice none 0 0, .slice none 0 0] 30 (0, 0)))
    (hE : X.ownsRow 0 44 1 (.slice (some ⟨gE, 0, none⟩) n n) n (List.replicate n (.slice none 0 0))) (hF : X.ownsRow 0 24 1 (.slice (some ⟨gF, 0, none⟩) n n) n (List.replicate n (.slice none 0 0)))
    (hres : X.heap[W.heap.size]? = some (.cells #[.slice none 0 0, .slice none 0 0, .slice none 0 0] 30 (0, 0))) (hf : W.heap.size < gB ∧ W.heap.size < gE ∧ W.heap.size < gF ∧ gB ≠ gE ∧ gB ≠ gF ∧ gE ≠ gF) (hb : Below W.heap.size W X) :
    MB W n gB gE gF (put3 X gB (.slice (some ⟨gE, 0, none⟩) n n) (.slice (some ⟨gF, 0, none⟩) n n) (.slice none 0 0)) := by
  have hk : ∀ {e : TypeId} {v : Value} {xs : List Value}, X.ownsRow 0 e 1 v n xs → v.ownBlock ≠ some gB → (put3 X gB (.slice (some ⟨gE, 0, none⟩) n n) (.slice (some ⟨gF, 0, none⟩) n n) (.slice none 0 0)).ownsRow 0 e 1 v n xs := fun h hne =>
    World.ownsRow.kept (row := some gB) h ⟨rfl, rfl, rfl, by rw [put3_size]; exact Nat.le_refl _, fun k _ hne => put3_other _ _ _ _ _ _ (fun e => hne (by rw [e]))⟩ (.inr hne)
  exact ⟨put3_heap _ _ _ hB, hk hE (fun e => hf.2.2.2.1 (Option.some.inj e).symm), hk hF (fun e => hf.2.2.2.2.1 (Option.some.inj e).symm), by rw [put3_other _ _ _ _ _ _ (by omega)]; exact hres, hf,
    ⟨hb.os, hb.tape, hb.output, by rw [put3_size]; exact hb.size, fun k hk => by rw [put3_other _ _ _ _ _ _ (by omega)]; exact hb.block k hk⟩⟩
theorem mb_last {W X : World} {n gE gF : Nat} (hE : X.ownsRow 0 44 1 (.slice (some ⟨gE, 0, none⟩) n n) n (List.replicate n (.slice none 0 0))) (hF : X.ownsRow 0 24 1 (.slice (some ⟨gF, 0, none⟩) n n) n (List.replicate n (.slice none 0 0))) (hres : X.heap[W.heap.size]? = some (.cells #[.slice none 0 0, .slice none 0 0, .slice none 0 0] 30 (0, 0))) (hf : W.heap.size < gE ∧ W.heap.size < gF ∧ gE ≠ gF) (hb : Below W.heap.size W X) :
    MB W n X.heap.size gE gF (X.alloc (.cells #[.slice (some ⟨gE, 0, none⟩) n n, .slice (some ⟨gF, 0, none⟩) n n, .slice none 0 0] 30)) := by
  have l1 := (World.ownsRow.lt hE gE rfl).2
  have l2 := (World.ownsRow.lt hF gF rfl).2
  have ba : ∀ o, Below X.heap.size X (X.alloc o) := fun o => (Below.refl _ _).alloc (Nat.le_refl _) _
  exact ⟨heap_alloc_new X _, own_step hE (ba _), own_step hF (ba _), ((ba _).block _ (Array.getElem?_eq_some_iff.1 hres).1).trans hres, ⟨by omega, hf.1, hf.2.1, by omega, by omega, hf.2.2⟩, hb.trans ((ba _).mono hb.size)⟩
theorem mb_six {W V : World} {n : Nat} {fE fF : World → World} (hv : V.heap.size = W.heap.size + 1) (hb : Below W.heap.size W V) (x0 : V.heap[W.heap.size]? = some (.cells #[.slice none 0 0, .slice none 0 0, .slice none 0 0] 30 (0, 0)))
    (oE : ∀ U : World, (fE U).ownsRow 0 44 1 (.slice (some ⟨U.heap.size, 0, none⟩) n n) n (List.replicate n (.slice none 0 0))) (bE : ∀ U : World, Below U.heap.size U (fE U)) (sE : ∀ U : World, U.heap.size < (fE U).heap.size)
    (oF : ∀ U : World, (fF U).ownsRow 0 24 1 (.slice (some ⟨U.heap.size, 0, none⟩) n n) n (List.replicate n (.slice none 0 0))) (bF : ∀ U : World, Below U.heap.size U (fF U)) (sF : ∀ U : World, U.heap.size < (fF U).heap.size) :
    MB W n (fF (fE V.drew)).heap.size V.heap.size (fE V.drew).heap.size ((fF (fE V.drew)).alloc (.cells #[.slice (some ⟨V.heap.size, 0, none⟩) n n, .slice (some ⟨(fE V.drew).heap.size, 0, none⟩) n n, .slice none 0 0] 30))
    ∧ MB W n (fE (fF V.drew)).heap.size (fF V.drew).heap.size V.heap.size ((fE (fF V.drew)).alloc (.cells #[.slice (some ⟨(fF V.drew).heap.size, 0, none⟩) n n, .slice (some ⟨V.heap.size, 0, none⟩) n n, .slice none 0 0] 30))
    ∧ MB W n V.heap.size (V.heap.size + 1) (fE (V.alloc (.cells #[.slice none 0 0, .slice none 0 0, .slice none 0 0] 30)).drew).heap.size (put3 (fF (fE (V.alloc (.cells #[.slice none 0 0, .slice none 0 0, .slice none 0 0] 30)).drew)) V.heap.size (.slice (some ⟨V.heap.size + 1, 0, none⟩) n n) (.slice (some ⟨(fE (V.alloc (.cells #[.slice none 0 0, .slice none 0 0, .slice none 0 0] 30)).drew).heap.size, 0, none⟩) n n) (.slice none 0 0))
    ∧ MB W n V.heap.size (fF (V.alloc (.cells #[.slice none 0 0, .slice none 0 0, .slice none 0 0] 30)).drew).heap.size (V.heap.size + 1) (put3 (fE (fF (V.alloc (.cells #[.slice none 0 0, .slice none 0 0, .slice none 0 0] 30)).drew)) V.heap.size (.slice (some ⟨(fF (V.alloc (.cells #[.slice none 0 0, .slice none 0 0, .slice none 0 0] 30)).drew).heap.size, 0, none⟩) n n) (.slice (some ⟨V.heap.size + 1, 0, none⟩) n n) (.slice none 0 0))
    ∧ MB W n (fE V.drew).heap.size V.heap.size ((fE V.drew).heap.size + 1) (put3 (fF ((fE V.drew).alloc (.cells #[.slice none 0 0, .slice none 0 0, .slice none 0 0] 30))) (fE V.drew).heap.size (.slice (some ⟨V.heap.size, 0, none⟩) n n) (.slice (some ⟨(fE V.drew).heap.size + 1, 0, none⟩) n n) (.slice none 0 0))
    ∧ MB W n (fF V.drew).heap.size ((fF V.drew).heap.size + 1) V.heap.size (put3 (fE ((fF V.drew).alloc (.cells #[.slice none 0 0, .slice none 0 0, .slice none 0 0] 30))) (fF V.drew).heap.size (.slice (some ⟨(fF V.drew).heap.size + 1, 0, none⟩) n n) (.slice (some ⟨V.heap.size, 0, none⟩) n n) (.slice none 0 0)) := by
  have bd : Below W.heap.size W V.drew := hb.drew
  have xd : V.drew.heap[W.heap.size]? = some (.cells #[.slice none 0 0, .slice none 0 0, .slice none 0 0] 30 (0, 0)) := x0
  have vd : V.drew.heap.size = V.heap.size := rfl
  obtain ⟨Z, hZ⟩ : ∃ Z, Z = (V.alloc (.cells #[.slice none 0 0, .slice none 0 0, .slice none 0 0] 30)).drew := ⟨_, rfl⟩
  have bz : Below W.heap.size W Z := by rw [hZ]; exact (hb.alloc hb.size _).drew
  have zs : Z.heap.size = V.heap.size + 1 := by rw [hZ]; show (V.alloc (.cells #[.slice none 0 0, .slice none 0 0, .slice none 0 0] 30)).heap.size = _; rw [World.size_alloc]
  have zb : Z.heap[V.heap.size]? = some (.cells #[.slice none 0 0, .slice none 0 0, .slice none 0 0] 30 (0, 0)) := by rw [hZ]; exact heap_alloc_new V _
  have kE : ∀ (U : World) (b : Nat), U.heap[b]? = some (.cells #[.slice none 0 0, .slice none 0 0, .slice none 0 0] 30 (0, 0)) → (fE U).heap[b]? = some (.cells #[.slice none 0 0, .slice none 0 0, .slice none 0 0] 30 (0, 0)) := fun U b h => ((bE U).block _ (Array.getElem?_eq_some_iff.1 h).1).trans h
  have kF : ∀ (U : World) (b : Nat), U.heap[b]? = some (.cells #[.slice none 0 0, .slice none 0 0, .slice none 0 0] 30 (0, 0)) → (fF U).heap[b]? = some (.cells #[.slice none 0 0, .slice none 0 0, .slice none 0 0] 30 (0, 0)) := fun U b h => ((bF U).block _ (Array.getElem?_eq_some_iff.1 h).1).trans h
  have zx : Z.heap[W.heap.size]? = some (.cells #[.slice none 0 0, .slice none 0 0, .slice none 0 0] 30 (0, 0)) := by rw [hZ]; show (V.alloc (.cells #[.slice none 0 0, .slice none 0 0, .slice none 0 0] 30)).heap[W.heap.size]? = _; rw [Lib.alloc_old _ _ _ (by omega)]; exact x0
  rw [← hZ]
  have cE : ∀ U, Below W.heap.size W U → Below W.heap.size W (fE U) := fun U h => h.trans ((bE U).mono h.size)
  have cF : ∀ U, Below W.heap.size W U → Below W.heap.size W (fF U) := fun U h => h.trans ((bF U).mono h.size)
  have ba : ∀ (U : World) o, Below U.heap.size U (U.alloc o) := fun U o => (Below.refl _ _).alloc (Nat.le_refl _) _
  have s1 := sE V.drew
  have s2 := sF V.drew
  have s3 := sE Z
  have s4 := sF Z
  have s5 := World.size_alloc (fE V.drew) (.cells #[.slice none 0 0, .slice none 0 0, .slice none 0 0] 30)
  have s6 := World.size_alloc (fF V.drew) (.cells #[.slice none 0 0, .slice none 0 0, .slice none 0 0] 30)
  have e1 := oE Z
  have f1 := oF Z
  rw [zs] at e1 f1
  have e2 := oE ((fF V.drew).alloc (.cells #[.slice none 0 0, .slice none 0 0, .slice none 0 0] 30))
  have f2 := oF ((fE V.drew).alloc (.cells #[.slice none 0 0, .slice none 0 0, .slice none 0 0] 30))
  rw [s6] at e2
  rw [s5] at f2
  have q1 := (ba (fE V.drew) (.cells #[.slice none 0 0, .slice none 0 0, .slice none 0 0] 30))
  have q2 := (ba (fF V.drew) (.cells #[.slice none 0 0, .slice none 0 0, .slice none 0 0] 30))
  have old : ∀ (U : World), Below W.heap.size W U → W.heap.size < U.heap.size → U.heap[W.heap.size]? = some (.cells #[.slice none 0 0, .slice none 0 0, .slice none 0 0] 30 (0, 0)) → (U.alloc (.cells #[.slice none 0 0, .slice none 0 0, .slice none 0 0] 30)).heap[W.heap.size]? = some (.cells #[.slice none 0 0, .slice none 0 0, .slice none 0 0] 30 (0, 0)) := fun U _ h h' => by rw [Lib.alloc_old _ _ _ h]; exact h'
  refine ⟨mb_last (own_step (oE V.drew) (bF _)) (oF _) (kF _ _ (kE _ _ xd)) ⟨by omega, by omega, by omega⟩ (cF _ (cE _ bd)),
    mb_last (oE _) (own_step (oF V.drew) (bE _)) (kE _ _ (kF _ _ xd)) ⟨by omega, by omega, by omega⟩ (cE _ (cF _ bd)),
    mb_of (kF _ _ (kE _ _ zb)) (own_step e1 (bF _)) (oF _) (kF _ _ (kE _ _ zx)) ⟨by omega, by omega, by omega, by omega, by omega, by omega⟩ (cF _ (cE _ bz)),
    mb_of (kE _ _ (kF _ _ zb)) (oE _) (own_step f1 (bE _)) (kE _ _ (kF _ _ zx)) ⟨by omega, by omega, by omega, by omega, by omega, by omega⟩ (cE _ (cF _ bz)),
    mb_of (kF _ _ (heap_alloc_new _ _)) (own_step (own_step (oE V.drew) q1) (bF _)) f2 (kF _ _ (old _ (cE _ bd) (by omega) (kE _ _ xd))) ⟨by omega, by omega, by omega, by omega, by omega, by omega⟩ (cF _ ((cE _ bd).trans (q1.mono (cE _ bd).size))),
    mb_of (kE _ _ (heap_alloc_new _ _)) e2 (own_step (own_step (oF V.drew) q2) (bE _)) (kE _ _ (old _ (cF _ bd) (by omega) (kF _ _ xd))) ⟨by omega, by omega, by omega, by omega, by omega, by omega⟩ (cE _ ((cF _ bd).trans (q2.mono (cF _ bd).size)))⟩
/-- As MB, with tags. -/
structure ML (W : World) (n gB gE gF : Nat) (vT : Value) (tg : List Int) (w : World) : Prop where
  box : w.heap[gB]? = some (.cells #[.slice (some ⟨gE, 0, none⟩) n n, .slice (some ⟨gF, 0, none⟩) n n, vT] 30 (0, 0))
  e : w.ownsRow 0 44 1 (.slice (some ⟨gE, 0, none⟩) n n) n (List.replicate n (.slice none 0 0))
  f : w.ownsRow 0 24 1 (.slice (some ⟨gF, 0, none⟩) n n) n (List.replicate n (.slice none 0 0))
  res : w.heap[W.heap.size]? = some (.cells #[.slice none 0 0, .slice none 0 0, .slice none 0 0] 30 (0, 0))
  far : W.heap.size < gB ∧ W.heap.size < gE ∧ W.heap.size < gF ∧ gB ≠ gE ∧ gB ≠ gF ∧ gE ≠ gF
  bel : Below W.heap.size W w
  t : w.ownsRow 0 3 1 vT tg.length (tg.map (.int .i64))
  ta : ∀ k, vT.ownBlock = some k → W.heap.size < k ∧ k ≠ gB ∧ k ≠ gE ∧ k ≠ gF
theorem MB.toML {W w : World} {n gB gE gF : Nat} (h : MB W n gB gE gF w) : ML W n gB gE gF (.slice none 0 0) [] w :=
  ⟨h.box, h.e, h.f, h.res, h.far, h.bel, World.ownsRow_nil _ _ _ _, fun k hk => by cases hk⟩
theorem ML.keep {W w w1 : World} {n gB gE gF : Nat} {vT : Value} {tg : List Int} (h : ML W n gB gE gF vT tg w) {o : Obj} (hg : (w.alloc o).grownBy w1 vT.ownBlock) :
    ∀ k, k < w.heap.size → (k ≤ W.heap.size ∨ k = gB ∨ k = gE ∨ k = gF) → w1.heap[k]? = w.heap[k]? := fun k hk hc => by
  rw [hg.block k (by rw [World.size_alloc]; omega) (fun e => by
    obtain ⟨a, b, c, d⟩ := h.ta k e.symm
    omega), Lib.alloc_old _ _ _ hk]
theorem ML.app {W w w1 : World} {n gB gE gF : Nat} {vT : Value} {tg : List Int} (h : ML W n gB gE gF vT tg w) {t : Int} {g p : Nat}
    (hr : ((⟨3, 1, vT, tg.length, tg.map (.int .i64)⟩ : Rw).more g p [.int .i64 t]).ok w1) (hg : (w.alloc (.cells #[.int .i64 t] 3)).grownBy w1 vT.ownBlock) (ha : vT.ownBlock = some g ∨ g = (w.alloc (.cells #[.int .i64 t] 3)).heap.size) :
    ML W n gB gE gF (.slice (some ⟨g, 0, none⟩) (tg.length + 1) p) (tg ++ [t]) (w1.setCell ⟨gB, 2, none⟩ (.slice (some ⟨g, 0, none⟩) (tg.length + 1) p)) := by
  have lb := (Array.getElem?_eq_some_iff.1 h.box).1
  have le := (World.ownsRow.lt h.e gE rfl).2
  have lf := (World.ownsRow.lt h.f gF rfl).2
  have lr := (Array.getElem?_eq_some_iff.1 h.res).1
  have hk := h.keep hg
  have hf := h.far
  have hgn : W.heap.size < g ∧ g ≠ gB ∧ g ≠ gE ∧ g ≠ gF := by
    rcases ha with e | e
    · exact h.ta g e
    · rw [World.size_alloc] at e; omega
  have hs : ∀ k, k < w.heap.size → (k ≤ W.heap.size ∨ k = gE ∨ k = gF) → (w1.setCell ⟨gB, 2, none⟩ (.slice (some ⟨g, 0, none⟩) (tg.length + 1) p)).heap[k]? = w.heap[k]? := fun k h1 h2 => by
    rw [heap_setCell_other _ ⟨gB, 2, none⟩ k _ (by intro e; have e : k = gB := e; omega)]
    exact hk k h1 (by omega)
  have hz := hg.size
  rw [World.size_alloc] at hz
  refine ⟨heap_setC w1 gB _ _ ((hk gB lb (.inr (.inl rfl))).trans h.box) 2 _, ?_, ?_, (hs _ lr (.inl (Nat.le_refl _))).trans h.res, hf, ⟨hg.os.trans h.bel.os, hg.tape.trans h.bel.tape, hg.output.trans h.bel.output, by rw [World.size_setCell]; have := h.bel.size; omega, fun k hkW => (hs k (by have := h.bel.size; omega) (.inl (by omega))).trans (h.bel.block k hkW)⟩, ?_, fun k e => ?_⟩
  · exact Rw.ok.of_block (r := ⟨44, 1, .slice (some ⟨gE, 0, none⟩) n n, n, _⟩) h.e (fun k e => by obtain rfl := Option.some.inj e; exact hs _ le (.inr (.inl rfl)))
  · exact Rw.ok.of_block (r := ⟨24, 1, .slice (some ⟨gF, 0, none⟩) n n, n, _⟩) h.f (fun k e => by obtain rfl := Option.some.inj e; exact hs _ lf (.inr (.inr rfl)))
  · have := Rw.ok.of_block (W' := w1.setCell ⟨gB, 2, none⟩ (.slice (some ⟨g, 0, none⟩) (tg.length + 1) p)) hr (fun k e => by obtain rfl := Option.some.inj e; exact heap_setCell_other _ ⟨gB, 2, none⟩ _ _ (by intro e; have e : g = gB := e; omega))
    rw [List.map_append, List.length_append]
    exact this
  · obtain rfl := Option.some.inj e
    exact hgn
/-- Small numbers that came in. -/
def I8s (W : World) (A : Option Addr) (l : List Int) : Prop := (∀ c ∈ l, -128 ≤ c ∧ c ≤ 127) ∧ ∀ j (h : j < l.length), ∃ b off, A = some ⟨b, off, none⟩ ∧ b < W.heap.size ∧ W.cell? ⟨b, off + j, none⟩ = some (.int .i8 l[j])
end Go.Proofs.YtioahgklplbinaaDoor
