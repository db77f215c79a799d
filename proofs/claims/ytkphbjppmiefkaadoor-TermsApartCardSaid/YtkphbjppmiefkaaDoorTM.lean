/- Plain mathematics of parts of sets: what they are, that they are so in one way, how the document cuts them. Nothing of a program stands here. -/
import Derived.Test.YtkphbjppmiefkaaDoorPURE
namespace TermsM
open SetM
/-- Of each set both are in it, or neither. -/
def Al (l : List (List Sp)) (r r' : Int) : Prop := ∀ s ∈ l, (Tells s r ↔ Tells s r')
/-- In one of the sets. -/
def An (l : List (List Sp)) (r : Int) : Prop := ∃ s ∈ l, Tells s r
theorem Al.symm {l : List (List Sp)} {r r' : Int} (h : Al l r r') : Al l r' r := fun s hs => (h s hs).symm
theorem Al.trans {l : List (List Sp)} {a b c : Int} (h : Al l a b) (k : Al l b c) : Al l a c := fun s hs => (h s hs).trans (k s hs)
theorem al_snoc {l : List (List Sp)} {s : List Sp} {r r' : Int} : Al (l ++ [s]) r r' ↔ Al l r r' ∧ (Tells s r ↔ Tells s r') := by
  constructor
  · intro h; exact ⟨fun x hx => h x (by simp [hx]), h s (by simp)⟩
  · rintro ⟨h1, h2⟩ x hx
    rcases List.mem_append.1 hx with hx | hx
    · exact h1 x hx
    · rw [List.mem_singleton.1 hx]; exact h2
theorem an_snoc {l : List (List Sp)} {s : List Sp} {r : Int} : An (l ++ [s]) r ↔ An l r ∨ Tells s r := by
  constructor
  · rintro ⟨x, hx, h⟩
    rcases List.mem_append.1 hx with hx | hx
    · exact .inl ⟨x, hx, h⟩
    · rw [List.mem_singleton.1 hx] at h; exact .inr h
  · rintro (⟨x, hx, h⟩ | h)
    · exact ⟨x, by simp [hx], h⟩
    · exact ⟨s, by simp, h⟩
theorem an_sc {l : List (List Sp)} {r : Int} (h : An l r) : Sc r := let ⟨_, _, h⟩ := h; h.1
theorem an_al {l : List (List Sp)} {r r' : Int} (h : An l r) (k : Al l r r') : An l r' := let ⟨s, hs, h⟩ := h; ⟨s, hs, (k s hs).1 h⟩
/-- The least of a set. -/
def lo (x : List Sp) : Int := (x.head?.map (·.1)).getD 0
theorem lo_mem {x : List Sp} (h : Nf x) (hne : x ≠ []) : Mem x (lo x) := by
  cases x with
  | nil => exact absurd rfl hne
  | cons s t => exact ⟨s, by simp, Int.le_refl _, h.1⟩
theorem lo_le {x : List Sp} (h : Nf x) {r : Int} (hr : Mem x r) : lo x ≤ r := by
  cases x with
  | nil => exact absurd hr (mem_nil _)
  | cons s t =>
    obtain ⟨u, hu, h1, h2⟩ := hr
    rcases List.mem_cons.1 hu with rfl | hu
    · exact h1
    · have := h.2.1 u hu
      have := h.1
      show s.1 ≤ r
      omega
/-- Sets that cut what is told of D by being alike. -/
structure Bun (S : List (List Sp)) (D : Int → Prop) (o : List (List Sp)) : Prop where
  nf : ∀ x ∈ o, Nf x ∧ x ≠ []
  part : ∀ x ∈ o, ∀ r r', Mem x r → Mem x r' → Al S r r'
  cls : ∀ x ∈ o, ∀ r r', Mem x r → D r' → Al S r r' → Mem x r'
  dom : ∀ r, D r ↔ ∃ x ∈ o, Mem x r
  dis : o.Pairwise (fun x y => ∀ r, Mem x r → ¬ Mem y r)
/-- The parts, as the document says: cut so, by their least ones. -/
structure PartsOf (l p : List (List Sp)) : Prop where
  bun : Bun l (An l) p
  up : p.Pairwise (fun x y => lo x < lo y)
theorem Bun.none (S : List (List Sp)) : Bun S (fun _ => False) [] := ⟨fun x h => (by cases h), fun x h => (by cases h), fun x h => (by cases h), fun r => ⟨False.elim, fun ⟨_, h, _⟩ => by cases h⟩, List.Pairwise.nil⟩
theorem Bun.congr {S : List (List Sp)} {D D' : Int → Prop} {o : List (List Sp)} (h : Bun S D o) (e : ∀ r, D' r ↔ D r) : Bun S D' o := by
  obtain rfl : D' = D := funext fun r => propext (e r)
  exact h
/-- One set more, if it has something. -/
def someL (o : List (List Sp)) (x : List Sp) : List (List Sp) := if x = [] then o else o ++ [x]
theorem Bun.add {S : List (List Sp)} {D K : Int → Prop} {o : List (List Sp)} {x : List Sp} (h : Bun S D o) (hx : Nf x) (hK : ∀ r, Mem x r ↔ K r) (h1 : ∀ r r', K r → K r' → Al S r r') (h2 : ∀ r r', K r → D r' → ¬ Al S r r') : Bun S (fun r => D r ∨ K r) (someL o x) := by
  unfold someL
  by_cases e : x = []
  · rw [if_pos e]
    refine h.congr (fun r => ⟨fun hr => hr.elim id (fun hk => ?_), .inl⟩)
    have := (hK r).2 hk
    rw [e] at this
    exact absurd this (mem_nil _)
  · rw [if_neg e]
    refine ⟨fun y hy => ?_, fun y hy r r' hr hr' => ?_, fun y hy r r' hr hr' ha => ?_, fun r => ?_, ?_⟩
    · rcases List.mem_append.1 hy with hy | hy
      · exact h.nf y hy
      · rw [List.mem_singleton.1 hy]; exact ⟨hx, e⟩
    · rcases List.mem_append.1 hy with hy | hy
      · exact h.part y hy r r' hr hr'
      · rw [List.mem_singleton.1 hy] at hr hr'
        exact h1 r r' ((hK r).1 hr) ((hK r').1 hr')
    · rcases List.mem_append.1 hy with hy | hy
      · rcases hr' with hr' | hr'
        · exact h.cls y hy r r' hr hr' ha
        · exact absurd ha.symm (h2 r' r hr' ((h.dom r).2 ⟨y, hy, hr⟩))
      · rw [List.mem_singleton.1 hy] at hr ⊢
        rcases hr' with hr' | hr'
        · exact absurd ha (h2 r r' ((hK r).1 hr) hr')
        · exact (hK r').2 hr'
    · constructor
      · rintro (hr | hr)
        · obtain ⟨y, hy, h3⟩ := (h.dom r).1 hr
          exact ⟨y, by simp [hy], h3⟩
        · exact ⟨x, by simp, (hK r).2 hr⟩
      · rintro ⟨y, hy, h3⟩
        rcases List.mem_append.1 hy with hy | hy
        · exact .inl ((h.dom r).2 ⟨y, hy, h3⟩)
        · rw [List.mem_singleton.1 hy] at h3; exact .inr ((hK r).1 h3)
    · rw [List.pairwise_append]
      refine ⟨h.dis, by simp, fun y hy z hz r hr hr' => ?_⟩
      rw [List.mem_singleton.1 hz] at hr'
      have hk := (hK r).1 hr'
      exact h2 r r hk ((h.dom r).2 ⟨y, hy, hr⟩) (fun _ _ => Iff.rfl)
/-! The document's way: each set cuts each part in two. -/
/-- What stands in the first so many. -/
def Fr (o : List (List Sp)) (k : Nat) (r : Int) : Prop := ∃ x ∈ o.take k, Mem x r
theorem fr_next {o : List (List Sp)} {k : Nat} (h : k < o.length) (r : Int) : Fr o (k + 1) r ↔ Fr o k r ∨ Mem o[k] r := by
  unfold Fr
  rw [List.take_succ_eq_append_getElem h]
  constructor
  · rintro ⟨x, hx, hr⟩
    rcases List.mem_append.1 hx with hx | hx
    · exact .inl ⟨x, hx, hr⟩
    · rw [List.mem_singleton.1 hx] at hr; exact .inr hr
  · rintro (⟨x, hx, hr⟩ | hr)
    · exact ⟨x, List.mem_append.2 (.inl hx), hr⟩
    · exact ⟨_, List.mem_append.2 (.inr (List.mem_singleton.2 rfl)), hr⟩
theorem dis_take {o : List (List Sp)} (h : o.Pairwise (fun x y => ∀ r, Mem x r → ¬ Mem y r)) {k : Nat} (hk : k < o.length) {r : Int} (h1 : Fr o k r) : ¬ Mem o[k] r := by
  obtain ⟨x, hx, hr⟩ := h1
  obtain ⟨j, hj, rfl⟩ := List.mem_iff_getElem.1 hx
  rw [List.getElem_take] at hr
  rw [List.length_take] at hj
  exact List.pairwise_iff_getElem.1 h j k (by omega) hk (by omega) r hr
/-- One part cut by a set. -/
theorem Bun.cut {S : List (List Sp)} {s : List Sp} {o n : List (List Sp)} {k : Nat} (ho : Bun S (An S) o) (hk : k < o.length) (hn : Bun (S ++ [s]) (Fr o k) n) {a b : List Sp} (ha : Nf a) (hb : Nf b) (ha1 : ∀ r, Mem a r ↔ Mem o[k] r ∧ Tells s r) (hb1 : ∀ r, Mem b r ↔ Mem o[k] r ∧ ¬ Tells s r) : Bun (S ++ [s]) (Fr o (k + 1)) (someL (someL n a) b) := by
  have hmem := List.getElem_mem hk
  have hal : ∀ r r', Mem o[k] r → Mem o[k] r' → Al S r r' := ho.part _ hmem
  have hfar : ∀ r r', Mem o[k] r → Fr o k r' → ¬ Al (S ++ [s]) r r' := fun r r' h1 h2 h3 => by
    have h4 := (al_snoc.1 h3).1
    obtain ⟨x, hx, hr⟩ := h2
    have hD : An S r' := (ho.dom r').2 ⟨x, List.mem_of_mem_take hx, hr⟩
    exact dis_take ho.dis hk ⟨x, hx, hr⟩ (ho.cls _ hmem r r' h1 hD h4)
  have h1 := hn.add ha ha1 (fun r r' h h' => al_snoc.2 ⟨hal r r' h.1 h'.1, ⟨fun _ => h'.2, fun _ => h.2⟩⟩) (fun r r' h h' => hfar r r' h.1 h')
  have h2 := h1.add hb hb1 (fun r r' h h' => al_snoc.2 ⟨hal r r' h.1 h'.1, ⟨fun x => absurd x h.2, fun x => absurd x h'.2⟩⟩) (fun r r' h h' => h'.elim (fun h' => hfar r r' h.1 h') (fun h' h3 => h.2 ((al_snoc.1 h3).2.2 h'.2)))
  refine h2.congr (fun r => ?_)
  rw [fr_next hk]
  constructor
  · rintro (h | h)
    · exact .inl (.inl h)
    · by_cases ht : Tells s r
      · exact .inl (.inr ⟨h, ht⟩)
      · exact .inr ⟨h, ht⟩
  · rintro ((h | h) | h)
    · exact .inl h
    · exact .inr h.1
    · exact .inr h.1
/-- What none had yet, cut by a set. -/
theorem Bun.last {S : List (List Sp)} {s : List Sp} {o n : List (List Sp)} (ho : Bun S (An S) o) (hn : Bun (S ++ [s]) (Fr o o.length) n) {a : List Sp} (ha : Nf a) (ha1 : ∀ r, Mem a r ↔ ¬ An S r ∧ Tells s r) : Bun (S ++ [s]) (An (S ++ [s])) (someL n a) := by
  have hF : ∀ r, Fr o o.length r ↔ An S r := fun r => by
    unfold Fr
    rw [List.take_length]
    exact (ho.dom r).symm
  have h1 := hn.add ha ha1 (fun r r' h h' => al_snoc.2 ⟨fun x hx => ⟨fun t => absurd ⟨x, hx, t⟩ h.1, fun t => absurd ⟨x, hx, t⟩ h'.1⟩, ⟨fun _ => h'.2, fun _ => h.2⟩⟩) (fun r r' h h' h3 => h.1 (an_al ((hF r').1 h') (al_snoc.1 h3).1.symm))
  refine h1.congr (fun r => ?_)
  rw [an_snoc]
  constructor
  · rintro (h | h)
    · exact .inl ((hF r).2 h)
    · by_cases hA : An S r
      · exact .inl ((hF r).2 hA)
      · exact .inr ⟨hA, h⟩
  · rintro (h | h)
    · exact .inl ((hF r).1 h)
    · exact .inr h.2
/-! By their least ones. -/
/-- A part laid among others that rise. -/
def layP : List (List Sp) → List Sp → List (List Sp)
  | [], x => [x]
  | y :: t, x => if lo y < lo x then y :: layP t x else x :: y :: t
theorem mem_layP (x z : List Sp) : ∀ (l : List (List Sp)), z ∈ layP l x ↔ z ∈ l ∨ z = x
  | [] => by simp [layP]
  | y :: t => by
    rw [layP]
    split
    · rw [List.mem_cons, mem_layP x z t, List.mem_cons, or_assoc]
    · rw [List.mem_cons]; exact ⟨fun h => h.elim .inr .inl, fun h => h.elim .inr .inl⟩
theorem up_layP {x : List Sp} : ∀ (l : List (List Sp)), l.Pairwise (fun x y => lo x < lo y) → (∀ y ∈ l, lo y ≠ lo x) → (layP l x).Pairwise (fun x y => lo x < lo y)
  | [], _, _ => by simp [layP]
  | y :: t, h, hne => by
    rw [List.pairwise_cons] at h
    rw [layP]
    split
    · rename_i hlt
      rw [List.pairwise_cons]
      refine ⟨fun z hz => ?_, up_layP t h.2 (fun z hz => hne z (by simp [hz]))⟩
      rcases (mem_layP x z t).1 hz with hz | rfl
      · exact h.1 z hz
      · exact hlt
    · rename_i hge
      have := hne y (by simp)
      rw [List.pairwise_cons]
      refine ⟨fun z hz => ?_, by rw [List.pairwise_cons]; exact h⟩
      rcases List.mem_cons.1 hz with rfl | hz
      · omega
      · have := h.1 z hz; omega
def sortP (l : List (List Sp)) : List (List Sp) := l.foldl layP []
theorem sortP_snoc (l : List (List Sp)) (x : List Sp) : sortP (l ++ [x]) = layP (sortP l) x := by unfold sortP; rw [List.foldl_append]; rfl
theorem lo_ne {o : List (List Sp)} (hn : ∀ x ∈ o, Nf x ∧ x ≠ []) (hd : o.Pairwise (fun x y => ∀ r, Mem x r → ¬ Mem y r)) : o.Pairwise (fun x y => lo x ≠ lo y) :=
  List.Pairwise.imp_of_mem (fun {x y} hx hy h e => h (lo x) (lo_mem (hn x hx).1 (hn x hx).2) (by rw [e]; exact lo_mem (hn y hy).1 (hn y hy).2)) hd
theorem sortP_is : ∀ (n : Nat) (o : List (List Sp)), o.length = n → o.Pairwise (fun x y => lo x ≠ lo y) → (sortP o).Pairwise (fun x y => lo x < lo y) ∧ ∀ z, z ∈ sortP o ↔ z ∈ o
  | 0, o, h, _ => by
    obtain rfl : o = [] := List.eq_nil_of_length_eq_zero h
    exact ⟨List.Pairwise.nil, fun z => Iff.rfl⟩
  | n + 1, o, h, hp => by
    rcases List.eq_nil_or_concat o with rfl | ⟨K, x, e⟩
    · cases h
    · have e : o = K ++ [x] := by simpa using e
      subst e
      rw [List.pairwise_append] at hp
      obtain ⟨h1, h2⟩ := sortP_is n K (by rw [List.length_append, List.length_singleton] at h; omega) hp.1
      rw [sortP_snoc]
      refine ⟨up_layP _ h1 (fun y hy => hp.2.2 y ((h2 y).1 hy) x (by simp)), fun z => ?_⟩
      rw [mem_layP, h2, List.mem_append, List.mem_singleton]
theorem perm_dis {o p : List (List Sp)} (hb : ∀ z, z ∈ p ↔ z ∈ o) (hu : p.Pairwise (fun x y => lo x < lo y)) (hd : o.Pairwise (fun x y => ∀ r, Mem x r → ¬ Mem y r)) : p.Pairwise (fun x y => ∀ r, Mem x r → ¬ Mem y r) := by
  refine List.Pairwise.imp_of_mem (fun {x y} hx hy hlt r h1 h2 => ?_) hu
  obtain ⟨i, hi, e1⟩ := List.mem_iff_getElem.1 ((hb x).1 hx)
  obtain ⟨j, hj, e2⟩ := List.mem_iff_getElem.1 ((hb y).1 hy)
  have hd' := List.pairwise_iff_getElem.1 hd
  rcases Nat.lt_trichotomy i j with h | h | h
  · exact hd' i j hi hj h r (by rw [e1]; exact h1) (by rw [e2]; exact h2)
  · subst h
    rw [e1] at e2
    subst e2
    omega
  · exact hd' j i hj hi h r (by rw [e2]; exact h2) (by rw [e1]; exact h1)
theorem Bun.sorted {l o : List (List Sp)} (h : Bun l (An l) o) : PartsOf l (sortP o) := by
  obtain ⟨h1, h2⟩ := sortP_is _ o rfl (lo_ne h.nf h.dis)
  exact ⟨⟨fun x hx => h.nf x ((h2 x).1 hx), fun x hx => h.part x ((h2 x).1 hx), fun x hx => h.cls x ((h2 x).1 hx), fun r => (h.dom r).trans ⟨fun ⟨x, hx, hr⟩ => ⟨x, (h2 x).2 hx, hr⟩, fun ⟨x, hx, hr⟩ => ⟨x, (h2 x).1 hx, hr⟩⟩, perm_dis h2 h1 h.dis⟩, h1⟩
/-! There is one such row. -/
theorem up_unique : ∀ (p q : List (List Sp)), p.Pairwise (fun x y => lo x < lo y) → q.Pairwise (fun x y => lo x < lo y) → (∀ z, z ∈ p ↔ z ∈ q) → p = q
  | [], [], _, _, _ => rfl
  | [], y :: t, _, _, h => absurd ((h y).2 (by simp)) (by simp)
  | x :: s, [], _, _, h => absurd ((h x).1 (by simp)) (by simp)
  | x :: s, y :: t, ha, hb, h => by
    rw [List.pairwise_cons] at ha hb
    have e : x = y := by
      rcases List.mem_cons.1 ((h x).1 (by simp)) with h1 | h1
      · exact h1
      · rcases List.mem_cons.1 ((h y).2 (by simp)) with h2 | h2
        · exact h2.symm
        · have h3 := ha.1 y h2
          have h4 := hb.1 x h1
          omega
    subst e
    congr 1
    refine up_unique s t ha.2 hb.2 (fun z => ?_)
    constructor
    · intro hz
      rcases List.mem_cons.1 ((h z).1 (by simp [hz])) with h1 | h1
      · subst h1; have := ha.1 z hz; omega
      · exact h1
    · intro hz
      rcases List.mem_cons.1 ((h z).2 (by simp [hz])) with h1 | h1
      · subst h1; have := hb.1 z hz; omega
      · exact h1
theorem PartsOf.sub {l p q : List (List Sp)} (hp : PartsOf l p) (hq : PartsOf l q) : ∀ z, z ∈ p → z ∈ q := fun z hz => by
  have hm := lo_mem (hp.bun.nf z hz).1 (hp.bun.nf z hz).2
  have hA := (hp.bun.dom _).2 ⟨z, hz, hm⟩
  obtain ⟨y, hy, hm2⟩ := (hq.bun.dom _).1 hA
  have : z = y := nf_unique z y (hp.bun.nf z hz).1 (hq.bun.nf y hy).1 (fun r => by
    constructor
    · intro hr
      exact hq.bun.cls y hy _ r hm2 ((hp.bun.dom r).2 ⟨z, hz, hr⟩) (hp.bun.part z hz _ _ hm hr)
    · intro hr
      exact hp.bun.cls z hz _ r hm ((hq.bun.dom r).2 ⟨y, hy, hr⟩) (hq.bun.part y hy _ _ hm2 hr))
  rw [this]; exact hy
theorem PartsOf.unique {l p q : List (List Sp)} (hp : PartsOf l p) (hq : PartsOf l q) : p = q := up_unique p q hp.up hq.up (fun z => ⟨hp.sub hq z, hq.sub hp z⟩)
/-- A set is made of the parts that have something of it, whole. -/
theorem PartsOf.whole {l p : List (List Sp)} (h : PartsOf l p) {s : List Sp} (hs : s ∈ l) {x : List Sp} (hx : x ∈ p) {r r' : Int} (hr : Mem x r) (ht : Tells s r) (hr' : Mem x r') : Tells s r' := (h.bun.part x hx r r' hr hr' s hs).1 ht
end TermsM
