/- Plain mathematics: what the document's own Make of two lists of spans comes to: edges, segments, the normal list. Nothing of a program stands here. -/
import Derived.Test.YtkphbjppmiefkaaDoorMath
namespace SetM
/-- Numbers that rise, each once. -/
def Up (l : List Int) : Prop := l.Pairwise (· < ·)
/-- One number more, in its place. -/
def layL (l : List Int) (x : Int) : List Int := l.filter (fun y => decide (y < x)) ++ x :: l.filter (fun y => decide (x < y))
theorem mem_layL (l : List Int) (x y : Int) : y ∈ layL l x ↔ y = x ∨ y ∈ l := by
  unfold layL
  simp only [List.mem_append, List.mem_cons, List.mem_filter, decide_eq_true_eq]
  constructor
  · rintro (⟨h, _⟩ | h | ⟨h, _⟩)
    · exact .inr h
    · exact .inl h
    · exact .inr h
  · rintro (h | h)
    · exact .inr (.inl h)
    · rcases Int.lt_trichotomy y x with h1 | h1 | h1
      · exact .inl ⟨h, h1⟩
      · exact .inr (.inl h1)
      · exact .inr (.inr ⟨h, h1⟩)
theorem up_layL {l : List Int} (h : Up l) (x : Int) : Up (layL l x) := by
  unfold layL Up
  rw [List.pairwise_append]
  refine ⟨List.Pairwise.filter _ h, ?_, ?_⟩
  · rw [List.pairwise_cons]
    exact ⟨fun y hy => by simpa using (List.mem_filter.1 hy).2, List.Pairwise.filter _ h⟩
  · intro a ha b hb
    have h1 : a < x := by simpa using (List.mem_filter.1 ha).2
    rcases List.mem_cons.1 hb with rfl | hb
    · exact h1
    · have h2 : x < b := by simpa using (List.mem_filter.1 hb).2
      omega
theorem layL_len (l : List Int) (x : Int) : (layL l x).length ≤ l.length + 1 := by
  unfold layL
  rw [List.length_append, List.length_cons]
  have : ∀ m : List Int, (m.filter (fun y => decide (y < x))).length + (m.filter (fun y => decide (x < y))).length ≤ m.length := by
    intro m
    induction m with
    | nil => simp
    | cons a t ih =>
      by_cases h1 : a < x
      · have h2 : ¬ x < a := by omega
        simp [h1, h2]; omega
      · by_cases h2 : x < a
        · simp [h1, h2]; omega
        · simp [h1, h2]; omega
  have := this l
  omega
/-- In a list that rises, what lies ahead of a number is a front, and what lies beyond it is the rest, but the number itself. -/
theorem layL_cut {l : List Int} (h : Up l) (x : Int) (i : Nat) (hi : i ≤ l.length) (h1 : ∀ j (hj : j < l.length), j < i → l[j] < x) (h2 : ∀ (hi : i < l.length), x ≤ l[i]) :
    layL l x = l.take i ++ x :: (if l[i]? = some x then l.drop (i + 1) else l.drop i) := by
  have hsplit : l = l.take i ++ l.drop i := (List.take_append_drop i l).symm
  have hup := h
  rw [hsplit] at hup
  have hd := (List.pairwise_append.1 hup).2.1
  have e1 : (l.take i).filter (fun y => decide (y < x)) = l.take i := by
    rw [List.filter_eq_self]
    intro y hy
    obtain ⟨j, hj, rfl⟩ := List.mem_iff_getElem.1 hy
    rw [List.length_take] at hj
    simpa using h1 j (by omega) (by omega)
  have e2 : (l.take i).filter (fun y => decide (x < y)) = [] := by
    rw [List.filter_eq_nil_iff]
    intro y hy
    obtain ⟨j, hj, rfl⟩ := List.mem_iff_getElem.1 hy
    rw [List.length_take] at hj
    have := h1 j (by omega) (by omega)
    simp; omega
  have hge : ∀ y ∈ l.drop i, x ≤ y := by
    intro y hy
    rcases Nat.lt_or_ge i l.length with hlt | hlt
    · rw [List.drop_eq_getElem_cons hlt] at hy hd
      rcases List.mem_cons.1 hy with rfl | hy
      · exact h2 hlt
      · have := (List.pairwise_cons.1 hd).1 y hy; have := h2 hlt; omega
    · rw [List.drop_eq_nil_of_le hlt] at hy; simp at hy
  have e3 : (l.drop i).filter (fun y => decide (y < x)) = [] := by
    rw [List.filter_eq_nil_iff]
    intro y hy; have := hge y hy; simp; omega
  have e4 : (l.drop i).filter (fun y => decide (x < y)) = if l[i]? = some x then l.drop (i + 1) else l.drop i := by
    rcases Nat.lt_or_ge i l.length with hlt | hlt
    · rw [List.drop_eq_getElem_cons hlt] at hd ⊢
      have ht : (l.drop (i + 1)).filter (fun y => decide (x < y)) = l.drop (i + 1) := by
        rw [List.filter_eq_self]
        intro y hy; have := (List.pairwise_cons.1 hd).1 y hy; have := h2 hlt; simp; omega
      by_cases hx : l[i] = x
      · rw [if_pos (by rw [List.getElem?_eq_getElem hlt, hx]), List.filter_cons, if_neg (by simp [hx]), ht]
      · have := h2 hlt
        rw [if_neg (by rw [List.getElem?_eq_getElem hlt]; simpa using hx), List.filter_cons, if_pos (by simp; omega), ht]
    · rw [List.drop_eq_nil_of_le hlt, if_neg (by rw [List.getElem?_eq_none hlt]; simp)]; rfl
  unfold layL
  have f1 : l.filter (fun y => decide (y < x)) = l.take i := by
    have : l.filter (fun y => decide (y < x)) = (l.take i ++ l.drop i).filter (fun y => decide (y < x)) := by rw [← hsplit]
    rw [this, List.filter_append, e1, e3, List.append_nil]
  have f2 : l.filter (fun y => decide (x < y)) = if l[i]? = some x then l.drop (i + 1) else l.drop i := by
    have : l.filter (fun y => decide (x < y)) = (l.take i ++ l.drop i).filter (fun y => decide (x < y)) := by rw [← hsplit]
    rw [this, List.filter_append, e2, List.nil_append, e4]
  rw [f1, f2]

/-- The edges of spans, as the document lays them. -/
def edgeStep (E : List Int) (s : Sp) : List Int :=
  let E1 := if Sc s.1 then layL E s.1 else E
  if s.2 < 1114111 ∧ Sc (s.2 + 1) then layL E1 (s.2 + 1) else E1
def edgesL (l : List Sp) : List Int := l.foldl edgeStep [0, 57344]
theorem edgeStep_up {E : List Int} (h : Up E) (s : Sp) : Up (edgeStep E s) := by
  unfold edgeStep
  have h1 : Up (if Sc s.1 then layL E s.1 else E) := by split <;> first | exact up_layL h _ | exact h
  dsimp only
  split <;> first | exact up_layL h1 _ | exact h1
theorem mem_edgeStep (E : List Int) (s : Sp) (y : Int) : y ∈ edgeStep E s ↔ y ∈ E ∨ (Sc s.1 ∧ y = s.1) ∨ (s.2 < 1114111 ∧ Sc (s.2 + 1) ∧ y = s.2 + 1) := by
  unfold edgeStep
  dsimp only
  by_cases h1 : Sc s.1 <;> by_cases h2 : s.2 < 1114111 ∧ Sc (s.2 + 1)
  · rw [if_pos h1, if_pos h2, mem_layL, mem_layL]; constructor
    · rintro (h | h | h)
      · exact .inr (.inr ⟨h2.1, h2.2, h⟩)
      · exact .inr (.inl ⟨h1, h⟩)
      · exact .inl h
    · rintro (h | h | h)
      · exact .inr (.inr h)
      · exact .inr (.inl h.2)
      · exact .inl h.2.2
  · rw [if_pos h1, if_neg h2, mem_layL]; constructor
    · rintro (h | h)
      · exact .inr (.inl ⟨h1, h⟩)
      · exact .inl h
    · rintro (h | h | h)
      · exact .inr h
      · exact .inl h.2
      · exact absurd ⟨h.1, h.2.1⟩ h2
  · rw [if_neg h1, if_pos h2, mem_layL]; constructor
    · rintro (h | h)
      · exact .inr (.inr ⟨h2.1, h2.2, h⟩)
      · exact .inl h
    · rintro (h | h | h)
      · exact .inr h
      · exact absurd h.1 h1
      · exact .inl h.2.2
  · rw [if_neg h1, if_neg h2]; constructor
    · intro h; exact .inl h
    · rintro (h | h | h)
      · exact h
      · exact absurd h.1 h1
      · exact absurd ⟨h.1, h.2.1⟩ h2
theorem foldl_edges : ∀ (l : List Sp) (E : List Int), (Up E → Up (l.foldl edgeStep E)) ∧ (∀ y, y ∈ l.foldl edgeStep E ↔ y ∈ E ∨ ∃ s ∈ l, (Sc s.1 ∧ y = s.1) ∨ (s.2 < 1114111 ∧ Sc (s.2 + 1) ∧ y = s.2 + 1)) ∧ (l.foldl edgeStep E).length ≤ E.length + 2 * l.length
  | [], E => ⟨id, fun y => by simp, by simp⟩
  | s :: t, E => by
    obtain ⟨h1, h2, h3⟩ := foldl_edges t (edgeStep E s)
    refine ⟨fun h => h1 (edgeStep_up h s), fun y => ?_, ?_⟩
    · rw [List.foldl_cons, h2, mem_edgeStep]
      constructor
      · rintro ((h | h) | ⟨u, hu, h⟩)
        · exact .inl h
        · exact .inr ⟨s, by simp, h⟩
        · exact .inr ⟨u, by simp [hu], h⟩
      · rintro (h | ⟨u, hu, h⟩)
        · exact .inl (.inl h)
        · rcases List.mem_cons.1 hu with rfl | hu
          · exact .inl (.inr h)
          · exact .inr ⟨u, hu, h⟩
    · rw [List.foldl_cons, List.length_cons]
      have hs : (edgeStep E s).length ≤ E.length + 2 := by
        unfold edgeStep; dsimp only
        have e1 : (if Sc s.1 then layL E s.1 else E).length ≤ E.length + 1 := by
          split
          · exact layL_len E s.1
          · omega
        split
        · have := layL_len (if Sc s.1 then layL E s.1 else E) (s.2 + 1); omega
        · omega
      omega
theorem edgesL_up (l : List Sp) : Up (edgesL l) := (foldl_edges l _).1 (by simp [Up])
theorem mem_edgesL (l : List Sp) (y : Int) : y ∈ edgesL l ↔ (y = 0 ∨ y = 57344) ∨ ∃ s ∈ l, (Sc s.1 ∧ y = s.1) ∨ (s.2 < 1114111 ∧ Sc (s.2 + 1) ∧ y = s.2 + 1) := by
  unfold edgesL; rw [(foldl_edges l _).2.1]; simp
theorem edgesL_len (l : List Sp) : (edgesL l).length ≤ 2 + 2 * l.length := by have := (foldl_edges l [0, 57344]).2.2; simpa [edgesL] using this
/-- All edges of two lists. -/
def bothL (a b : List Sp) : List Int := (edgesL b).foldl layL (edgesL a)
theorem foldl_lay : ∀ (m E : List Int), (Up E → Up (m.foldl layL E)) ∧ (∀ y, y ∈ m.foldl layL E ↔ y ∈ E ∨ y ∈ m) ∧ (m.foldl layL E).length ≤ E.length + m.length
  | [], E => ⟨id, fun y => by simp, by simp⟩
  | x :: t, E => by
    obtain ⟨h1, h2, h3⟩ := foldl_lay t (layL E x)
    refine ⟨fun h => h1 (up_layL h x), fun y => ?_, ?_⟩
    · rw [List.foldl_cons, h2, mem_layL, List.mem_cons]
      constructor
      · rintro ((h | h) | h)
        · exact .inr (.inl h)
        · exact .inl h
        · exact .inr (.inr h)
      · rintro (h | h | h)
        · exact .inl (.inr h)
        · exact .inl (.inl h)
        · exact .inr h
    · rw [List.foldl_cons, List.length_cons]; have := layL_len E x; omega

theorem bothL_up (a b : List Sp) : Up (bothL a b) := (foldl_lay _ _).1 (edgesL_up a)
theorem mem_bothL (a b : List Sp) (y : Int) : y ∈ bothL a b ↔ y ∈ edgesL a ∨ y ∈ edgesL b := (foldl_lay _ _).2.1 y
theorem bothL_len (a b : List Sp) : (bothL a b).length ≤ 4 + 2 * a.length + 2 * b.length := by
  have h1 := (foldl_lay (edgesL b) (edgesL a)).2.2
  have h2 := edgesL_len a; have h3 := edgesL_len b
  have e : bothL a b = (edgesL b).foldl layL (edgesL a) := rfl
  rw [e]; omega
theorem edgesL_sc (l : List Sp) (y : Int) (h : y ∈ edgesL l) : Sc y := by
  rcases (mem_edgesL l y).1 h with (rfl | rfl) | ⟨s, _, ⟨h1, rfl⟩ | ⟨_, h2, rfl⟩⟩
  · unfold Sc; omega
  · unfold Sc; omega
  · exact h1
  · exact h2

/-- Between two edges nothing changes. -/
theorem same_between (l : List Sp) (e r : Int) (he : Sc e) (hr : Sc r) (hle : e ≤ r) (hno : ∀ y ∈ edgesL l, y ≤ e ∨ r < y) : Tells l r ↔ Tells l e := by
  have harea : (e ≤ 55295 ∧ r ≤ 55295) ∨ (57344 ≤ e ∧ 57344 ≤ r) := by
    have h1 := hno 57344 ((mem_edgesL l _).2 (.inl (.inr rfl)))
    unfold Sc at he hr; omega
  unfold Tells
  constructor
  · rintro ⟨_, s, hs, h1, h2⟩
    refine ⟨he, s, hs, ?_, by omega⟩
    rcases Int.lt_or_le e s.1 with h3 | h3
    · have hsc : Sc s.1 := by unfold Sc at *; omega
      have := hno s.1 ((mem_edgesL l _).2 (.inr ⟨s, hs, .inl ⟨hsc, rfl⟩⟩))
      omega
    · exact h3
  · rintro ⟨_, s, hs, h1, h2⟩
    refine ⟨hr, s, hs, by omega, ?_⟩
    rcases Int.lt_or_le s.2 r with h3 | h3
    · have hsc : Sc (s.2 + 1) := by unfold Sc at *; omega
      have := hno (s.2 + 1) ((mem_edgesL l _).2 (.inr ⟨s, hs, .inr ⟨by unfold Sc at hr; omega, hsc, rfl⟩⟩))
      omega
    · exact h3

def hiOf (e : Int) (nx : Option Int) : Int :=
  if e < 55296 then min (match nx with | some y => y - 1 | none => 1114111) 55295 else (match nx with | some y => y - 1 | none => 1114111)
def putSeg (out : List Sp) (e hi : Int) : List Sp :=
  match out.getLast? with
  | some s => if s.2 = e - 1 then out.dropLast ++ [(s.1, hi)] else out ++ [(e, hi)]
  | none => [(e, hi)]
theorem putSeg_nil (e hi : Int) : putSeg [] e hi = [(e, hi)] := rfl
theorem putSeg_snoc (l : List Sp) (s : Sp) (e hi : Int) : putSeg (l ++ [s]) e hi = if s.2 = e - 1 then l ++ [(s.1, hi)] else l ++ [s] ++ [(e, hi)] := by
  unfold putSeg; rw [List.getLast?_concat]; dsimp only; rw [List.dropLast_concat]
def refStep (sel : Int → Bool) (out : List Sp) (e : Int) (nx : Option Int) : List Sp := if sel e = true then putSeg out e (hiOf e nx) else out
def refRun (sel : Int → Bool) : List Int → List Sp → List Sp
  | [], out => out
  | e :: t, out => refRun sel t (refStep sel out e t.head?)
theorem putSeg_len (out : List Sp) (e hi : Int) : (putSeg out e hi).length ≤ out.length + 1 := by
  rcases List.eq_nil_or_concat out with rfl | ⟨l, s, rfl⟩
  · simp [putSeg]
  · rw [List.concat_eq_append, putSeg_snoc]; split <;> simp
theorem refRun_len (sel : Int → Bool) : ∀ (E : List Int) (out : List Sp), (refRun sel E out).length ≤ out.length + E.length
  | [], out => by simp [refRun]
  | e :: t, out => by
    have h := refRun_len sel t (refStep sel out e t.head?)
    have h2 : (refStep sel out e t.head?).length ≤ out.length + 1 := by
      unfold refStep; split
      · exact putSeg_len _ _ _
      · omega
    show (refRun sel t (refStep sel out e t.head?)).length ≤ _
    rw [List.length_cons]; omega
theorem nf_unsnoc {l : List Sp} {s : Sp} (h : Nf (l ++ [s])) : Nf l ∧ s.1 ≤ s.2 ∧ ∀ u ∈ l, u.2 + 1 < s.1 := by
  induction l with
  | nil => exact ⟨trivial, h.1, by simp⟩
  | cons x t ih =>
    obtain ⟨h1, h2, h3⟩ := ih h.2.2
    refine ⟨⟨h.1, fun u hu => h.2.1 u (by simp [hu]), h1⟩, h2, fun u hu => ?_⟩
    rcases List.mem_cons.1 hu with rfl | hu
    · exact h.2.1 s (by simp)
    · exact h3 u hu

theorem putSeg_right {out : List Sp} {e hi : Int} (hn : Nf out) (hb : ∀ s ∈ out, s.2 < e) (he : e ≤ hi) :
    Nf (putSeg out e hi) ∧ (∀ s ∈ putSeg out e hi, s.2 ≤ hi) ∧ ∀ r, Mem (putSeg out e hi) r ↔ Mem out r ∨ (e ≤ r ∧ r ≤ hi) := by
  rcases List.eq_nil_or_concat out with rfl | ⟨l, s, rfl⟩
  · rw [putSeg_nil]
    refine ⟨⟨he, by simp, trivial⟩, fun s hs => ?_, fun r => ?_⟩
    · simp at hs; subst hs; exact Int.le_refl _
    · rw [mem_cons]; constructor
      · rintro (h | h)
        · exact .inr h
        · exact .inl h
      · rintro (h | h)
        · exact .inr h
        · exact .inl h
  · rw [List.concat_eq_append] at *
    obtain ⟨h1, h2, h3⟩ := nf_unsnoc hn
    have hs := hb s (by simp)
    rw [putSeg_snoc]
    by_cases hc : s.2 = e - 1
    · rw [if_pos hc]
      refine ⟨nf_snoc h1 (by show s.1 ≤ hi; omega) h3, fun u hu => ?_, fun r => ?_⟩
      · rcases List.mem_append.1 hu with hu | hu
        · have := h3 u hu; omega
        · simp at hu; subst hu; exact Int.le_refl _
      · rw [mem_append, mem_append, mem_cons, mem_cons]
        constructor
        · rintro (h | h | h)
          · exact .inl (.inl h)
          · dsimp only at h
            rcases Int.lt_or_le r e with h4 | h4
            · exact .inl (.inr (.inl ⟨h.1, by omega⟩))
            · exact .inr ⟨h4, h.2⟩
          · exact absurd h (mem_nil r)
        · rintro ((h | h | h) | h)
          · exact .inl h
          · exact .inr (.inl ⟨h.1, by show r ≤ hi; omega⟩)
          · exact absurd h (mem_nil r)
          · exact .inr (.inl ⟨by show s.1 ≤ r; omega, h.2⟩)
    · rw [if_neg hc]
      refine ⟨nf_snoc hn he (fun u hu => ?_), fun u hu => ?_, fun r => ?_⟩
      · rcases List.mem_append.1 hu with hu | hu
        · have := h3 u hu; show u.2 + 1 < e; omega
        · simp at hu; subst hu; show u.2 + 1 < e; omega
      · rcases List.mem_append.1 hu with hu | hu
        · have := hb u hu; omega
        · simp at hu; subst hu; exact Int.le_refl _
      · rw [mem_append (l ++ [s]), mem_cons (e, hi)]
        constructor
        · rintro (h | h | h)
          · exact .inl h
          · exact .inr h
          · exact absurd h (mem_nil r)
        · rintro (h | h)
          · exact .inl h
          · exact .inr (.inl h)

theorem refRun_right (sel : Int → Bool) (K : Int → Prop) (E : List Int) (hup : Up E) (hsc : ∀ y ∈ E, Sc y) (h57 : (57344 : Int) ∈ E) (hK : ∀ e ∈ E, ∀ r, Sc r → e ≤ r → (∀ y ∈ E, y ≤ e ∨ r < y) → (K r ↔ sel e = true)) :
    ∀ (rest pre : List Int) (out : List Sp), E = pre ++ rest → Nf out → (∀ s ∈ out, s.2 < rest.head?.getD 1114112) → (∀ r, Mem out r ↔ Sc r ∧ r < rest.head?.getD 1114112 ∧ K r) →
      Nf (refRun sel rest out) ∧ ∀ r, Mem (refRun sel rest out) r ↔ Sc r ∧ K r
  | [], pre, out, _, hn, _, hm => ⟨hn, fun r => by
      show Mem out r ↔ _
      rw [hm]
      constructor
      · rintro ⟨h1, _, h3⟩; exact ⟨h1, h3⟩
      · rintro ⟨h1, h3⟩; exact ⟨h1, by unfold Sc at h1; simp; omega, h3⟩⟩
  | e :: t, pre, out, hE, hn, hb, hm => by
    have hb' : ∀ s ∈ out, s.2 < e := hb
    have hm' : ∀ r, Mem out r ↔ Sc r ∧ r < e ∧ K r := hm
    have hEe : e ∈ E := by rw [hE]; simp
    have hse := hsc e hEe
    have hup' := hup
    rw [hE] at hup'
    have hpre : ∀ y ∈ pre, y < e := fun y hy => (List.pairwise_append.1 hup').2.2 y hy e (by simp)
    have hpost := (List.pairwise_cons.1 (List.pairwise_append.1 hup').2.1)
    obtain ⟨B, hB⟩ : ∃ B, B = t.head?.getD 1114112 := ⟨_, rfl⟩
    have heB : e < B := by
      rw [hB]
      cases t with
      | nil => unfold Sc at hse; simp; omega
      | cons y t' => simpa using hpost.1 y (by simp)
    have hnext : ∀ y ∈ E, y ≤ e ∨ B ≤ y := by
      intro y hy
      rw [hE] at hy
      rcases List.mem_append.1 hy with h | h
      · exact .inl (Int.le_of_lt (hpre y h))
      · rcases List.mem_cons.1 h with rfl | h
        · exact .inl (Int.le_refl _)
        · right
          rw [hB]
          cases t with
          | nil => simp at h
          | cons z t' =>
            rcases List.mem_cons.1 h with rfl | h
            · exact Int.le_refl _
            · have := (List.pairwise_cons.1 hpost.2).1 y h; simp; omega
    have hBle : B ≤ 1114112 := by
      rw [hB]
      cases t with
      | nil => simp
      | cons z t' =>
        have := hsc z (by rw [hE]; simp)
        unfold Sc at this; simp; omega
    have hhi : hiOf e t.head? = if e < 55296 then min (B - 1) 55295 else B - 1 := by
      unfold hiOf
      rw [hB]
      cases t with
      | nil => rfl
      | cons z t' => rfl
    have hB57 : e < 55296 → B ≤ 57344 := fun h => by have := hnext 57344 h57; omega
    have hBsc : B = 1114112 ∨ Sc B := by
      rw [hB]
      cases t with
      | nil => exact .inl rfl
      | cons z t' => exact .inr (hsc z (by rw [hE]; simp))
    have hseg : ∀ r, (Sc r ∧ e ≤ r ∧ r < B) ↔ (e ≤ r ∧ r ≤ hiOf e t.head?) := by
      intro r
      rw [hhi]
      unfold Sc at hse
      split
      · rename_i h
        have := hB57 h
        constructor
        · rintro ⟨h1, h2, h3⟩; unfold Sc at h1; exact ⟨h2, by omega⟩
        · rintro ⟨h2, h3⟩; exact ⟨by unfold Sc; omega, h2, by omega⟩
      · constructor
        · rintro ⟨h1, h2, h3⟩; exact ⟨h2, by omega⟩
        · rintro ⟨h2, h3⟩; exact ⟨by unfold Sc; omega, h2, by omega⟩
    have hehi : e ≤ hiOf e t.head? := ((hseg e).1 ⟨hse, Int.le_refl _, heB⟩).2
    have hhiB : hiOf e t.head? < B := by
      rw [hhi]; split
      · rename_i h; have := hB57 h; omega
      · omega
    have hKseg : ∀ r, Sc r → e ≤ r → r < B → (K r ↔ sel e = true) := fun r h1 h2 h3 => hK e hEe r h1 h2 (fun y hy => by have := hnext y hy; omega)
    have hgo : Nf (refStep sel out e t.head?) ∧ (∀ s ∈ refStep sel out e t.head?, s.2 < B) ∧ ∀ r, Mem (refStep sel out e t.head?) r ↔ Sc r ∧ r < B ∧ K r := by
      unfold refStep
      by_cases hs : sel e = true
      · rw [if_pos hs]
        obtain ⟨p1, p2, p3⟩ := putSeg_right hn hb' hehi
        refine ⟨p1, fun s hs' => by have := p2 s hs'; omega, fun r => ?_⟩
        rw [p3, hm', ← hseg]
        constructor
        · rintro (⟨h1, h2, h3⟩ | ⟨h1, h2, h3⟩)
          · exact ⟨h1, by omega, h3⟩
          · exact ⟨h1, h3, (hKseg r h1 h2 h3).2 hs⟩
        · rintro ⟨h1, h2, h3⟩
          rcases Int.lt_or_le r e with h4 | h4
          · exact .inl ⟨h1, h4, h3⟩
          · exact .inr ⟨h1, h4, h2⟩
      · rw [if_neg hs]
        refine ⟨hn, fun s hs' => by have := hb' s hs'; omega, fun r => ?_⟩
        rw [hm']
        constructor
        · rintro ⟨h1, h2, h3⟩; exact ⟨h1, by omega, h3⟩
        · rintro ⟨h1, h2, h3⟩
          rcases Int.lt_or_le r e with h4 | h4
          · exact ⟨h1, h4, h3⟩
          · exact absurd ((hKseg r h1 h4 h2).1 h3) hs
    obtain ⟨g1, g2, g3⟩ := hgo
    rw [hB] at g2 g3
    exact refRun_right sel K E hup hsc h57 hK t (pre ++ [e]) _ (by rw [hE]; simp) g1 g2 g3

/-- What the document's Make comes to. -/
theorem ref_final (a b : List Sp) (kf : Bool → Bool → Bool) :
    Nf (refRun (fun e => kf (decide (Tells a e)) (decide (Tells b e))) (bothL a b) []) ∧
    ∀ r, Mem (refRun (fun e => kf (decide (Tells a e)) (decide (Tells b e))) (bothL a b) []) r ↔ Sc r ∧ kf (decide (Tells a r)) (decide (Tells b r)) = true := by
  have hsc : ∀ y ∈ bothL a b, Sc y := fun y hy => by
    rcases (mem_bothL a b y).1 hy with h | h
    · exact edgesL_sc a y h
    · exact edgesL_sc b y h
  have h0 : (0 : Int) ∈ bothL a b := (mem_bothL a b _).2 (.inl ((mem_edgesL a _).2 (.inl (.inl rfl))))
  have h57 : (57344 : Int) ∈ bothL a b := (mem_bothL a b _).2 (.inl ((mem_edgesL a _).2 (.inl (.inr rfl))))
  have hup := bothL_up a b
  refine refRun_right _ (fun r => kf (decide (Tells a r)) (decide (Tells b r)) = true) (bothL a b) hup hsc h57 (fun e he r hr hle hno => ?_) (bothL a b) [] [] rfl trivial (by simp) (fun r => ?_)
  · have e1 := same_between a e r (hsc e he) hr hle (fun y hy => hno y ((mem_bothL a b y).2 (.inl hy)))
    have e2 := same_between b e r (hsc e he) hr hle (fun y hy => hno y ((mem_bothL a b y).2 (.inr hy)))
    rw [decide_eq_decide.2 e1, decide_eq_decide.2 e2]
  · refine ⟨fun h => absurd h (mem_nil r), fun ⟨h1, h2, _⟩ => ?_⟩
    cases hE : bothL a b with
    | nil => rw [hE] at h0; simp at h0
    | cons x t =>
      rw [hE] at h2 h0 hup
      have hx : x ≤ 0 := by
        rcases List.mem_cons.1 h0 with h | h
        · omega
        · have := (List.pairwise_cons.1 hup).1 0 h; omega
      unfold Sc at h1
      simp at h2
      omega
end SetM
