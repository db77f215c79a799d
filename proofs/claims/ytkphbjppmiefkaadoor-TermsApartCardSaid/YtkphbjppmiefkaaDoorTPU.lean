/- Several texts in one: TCnt, TA, TBnd, TLk. -/
import Derived.Test.YtkphbjppmiefkaaDoorPURE
import Derived.Test.YtkphbjppmiefkaaDoorTM
import Derived.Test.YtkphbjppmiefkaaDoorTKL
import Derived.Test.YtkphbjppmiefkaaDoorRefOps
section
/- Plain mathematics: how many numbers a normal list tells. Nothing of a program stands here. -/
namespace SetM
/-- How many numbers a list of spans has, each span counted whole. -/
def sizeZ (l : List Sp) : Int := (l.map fun s => s.2 - s.1 + 1).sum
/-- How many numbers below M a condition has. -/
def cnt (p : Nat → Bool) (M : Nat) : Nat := (List.range M).countP p
theorem cnt_succ (p : Nat → Bool) (M : Nat) : cnt p (M + 1) = cnt p M + if p M then 1 else 0 := by
  unfold cnt; rw [List.range_succ, List.countP_append]; simp [List.countP_cons]
theorem cnt_le (p : Nat → Bool) (M : Nat) : cnt p M ≤ M := by
  unfold cnt; have := List.countP_le_length (p := p) (l := List.range M); simpa using this
theorem cnt_span (a b : Int) (h0 : 0 ≤ a) (hab : a ≤ b) : ∀ M : Nat, (cnt (fun n => decide (a ≤ (n : Int) ∧ (n : Int) ≤ b)) M : Int) = max 0 (min (M : Int) (b + 1) - a)
  | 0 => by
    have : cnt (fun n => decide (a ≤ (n : Int) ∧ (n : Int) ≤ b)) 0 = 0 := rfl
    rw [this]; omega
  | M + 1 => by
    have ih := cnt_span a b h0 hab M
    have hs := cnt_succ (fun n => decide (a ≤ (n : Int) ∧ (n : Int) ≤ b)) M
    by_cases hm : a ≤ (M : Int) ∧ (M : Int) ≤ b
    · rw [if_pos (decide_eq_true hm)] at hs
      omega
    · rw [if_neg (by simpa using hm)] at hs
      omega
theorem cnt_congr {p q : Nat → Bool} {M : Nat} (h : ∀ n, n < M → p n = q n) : cnt p M = cnt q M := by
  unfold cnt
  refine List.countP_congr (fun n hn => ?_)
  rw [h n (List.mem_range.1 hn)]
theorem cnt_or_and (p q : Nat → Bool) : ∀ M, cnt (fun n => p n || q n) M + cnt (fun n => p n && q n) M = cnt p M + cnt q M
  | 0 => rfl
  | M + 1 => by
    rw [cnt_succ, cnt_succ, cnt_succ, cnt_succ]
    have := cnt_or_and p q M
    cases p M <;> cases q M <;> simp <;> omega
theorem cnt_none : ∀ M, cnt (fun _ => false) M = 0
  | 0 => rfl
  | M + 1 => by rw [cnt_succ, cnt_none M]; simp
/-- The size of a normal list is the count of what it tells. -/
theorem size_cnt (M : Nat) : ∀ (l : List Sp), Nf l → (∀ r, Mem l r → 0 ≤ r ∧ r < M) → sizeZ l = cnt (fun n => decide (Mem l (n : Int))) M
  | [], _, _ => by
    rw [cnt_congr (q := fun _ => false) (fun n _ => decide_eq_false (mem_nil n)), cnt_none]; rfl
  | s :: t, hn, hr => by
    have ih := size_cnt M t hn.2.2 (fun r h => hr r ((mem_cons s t r).2 (.inr h)))
    have h1 := hr s.1 ((mem_cons s t s.1).2 (.inl ⟨Int.le_refl _, hn.1⟩))
    have h2 := hr s.2 ((mem_cons s t s.2).2 (.inl ⟨hn.1, Int.le_refl _⟩))
    have e1 : cnt (fun n => decide (Mem (s :: t) (n : Int))) M = cnt (fun n => decide (s.1 ≤ (n : Int) ∧ (n : Int) ≤ s.2) || decide (Mem t (n : Int))) M :=
      cnt_congr (fun n _ => by rw [← Bool.decide_or]; exact decide_eq_decide.2 (mem_cons s t n))
    have e2 : cnt (fun n => decide (s.1 ≤ (n : Int) ∧ (n : Int) ≤ s.2) && decide (Mem t (n : Int))) M = 0 := by
      rw [cnt_congr (q := fun _ => false) (fun n _ => ?_), cnt_none]
      rw [Bool.and_eq_false_iff]
      by_cases hm : Mem t (n : Int)
      · left; exact decide_eq_false (fun h => by have := nf_beyond hn hm; omega)
      · right; exact decide_eq_false hm
    have e3 := cnt_or_and (fun n => decide (s.1 ≤ (n : Int) ∧ (n : Int) ≤ s.2)) (fun n => decide (Mem t (n : Int))) M
    have h3 := hn.1
    have e4 := cnt_span s.1 s.2 h1.1 hn.1 M
    rw [show min (M : Int) (s.2 + 1) = s.2 + 1 from Int.min_eq_right (by omega), show max 0 (s.2 + 1 - s.1) = s.2 + 1 - s.1 from Int.max_eq_right (by omega)] at e4
    have e5 : sizeZ (s :: t) = (s.2 - s.1 + 1) + sizeZ t := by simp [sizeZ]
    rw [e5, e1, ih]
    omega
/-- Two sets, what both have, and what either has. -/
theorem sizes_both {a b u i : List Sp} (ha : Nf a) (hb : Nf b) (hu : Nf u) (hi : Nf i) (hra : ∀ r, Mem a r → Sc r) (hrb : ∀ r, Mem b r → Sc r) (hU : ∀ r, Mem u r ↔ Mem a r ∨ Mem b r) (hI : ∀ r, Mem i r ↔ Mem a r ∧ Mem b r) :
    sizeZ u + sizeZ i = sizeZ a + sizeZ b := by
  obtain ⟨M, hM⟩ : ∃ M : Nat, (M : Int) = 1114112 := ⟨1114112, rfl⟩
  have hs : ∀ r, Sc r → 0 ≤ r ∧ r < M := fun r h => by unfold Sc at h; omega
  rw [size_cnt M a ha (fun r h => hs r (hra r h)), size_cnt M b hb (fun r h => hs r (hrb r h)), size_cnt M u hu (fun r h => hs r (((hU r).1 h).elim (hra r) (hrb r))), size_cnt M i hi (fun r h => hs r (hra r ((hI r).1 h).1))]
  have e1 : cnt (fun n => decide (Mem u (n : Int))) M = cnt (fun n => decide (Mem a (n : Int)) || decide (Mem b (n : Int))) M :=
    cnt_congr (fun n _ => by rw [← Bool.decide_or]; exact decide_eq_decide.2 (hU n))
  have e2 : cnt (fun n => decide (Mem i (n : Int))) M = cnt (fun n => decide (Mem a (n : Int)) && decide (Mem b (n : Int))) M :=
    cnt_congr (fun n _ => by rw [← Bool.decide_and]; exact decide_eq_decide.2 (hI n))
  have e3 := cnt_or_and (fun n => decide (Mem a (n : Int))) (fun n => decide (Mem b (n : Int))) M
  rw [e1, e2]; omega
theorem size_range {a : List Sp} (ha : Nf a) (hra : ∀ r, Mem a r → Sc r) : 0 ≤ sizeZ a ∧ sizeZ a ≤ 1114112 := by
  obtain ⟨M, hM⟩ : ∃ M : Nat, (M : Int) = 1114112 := ⟨1114112, rfl⟩
  have hs : ∀ r, Sc r → 0 ≤ r ∧ r < M := fun r h => by unfold Sc at h; omega
  rw [size_cnt M a ha (fun r h => hs r (hra r h))]
  have := cnt_le (fun n => decide (Mem a (n : Int))) M
  omega
/-- A set and all scalars that are not in it. -/
theorem sizes_not {a c : List Sp} (ha : Nf a) (hc : Nf c) (hra : ∀ r, Mem a r → Sc r) (hC : ∀ r, Mem c r ↔ Sc r ∧ ¬ Mem a r) : sizeZ a + sizeZ c = 1112064 := by
  have hk : Nf [(0, 55295), (57344, 1114111)] := by simp [Nf]
  have hkm : ∀ r, Mem [(0, 55295), (57344, 1114111)] r ↔ Sc r := fun r => by simp [Mem, Sc]
  have h := sizes_both (u := [(0, 55295), (57344, 1114111)]) (i := []) ha hc hk trivial hra (fun r h => ((hC r).1 h).1)
    (fun r => by rw [hkm, hC]; constructor
                 · intro h; by_cases hm : Mem a r
                   · exact .inl hm
                   · exact .inr ⟨h, hm⟩
                 · rintro (h | h)
                   · exact hra r h
                   · exact h.1)
    (fun r => by rw [hC]; exact ⟨fun h => absurd h (mem_nil r), fun h => absurd h.1 h.2.2⟩)
  have e1 : sizeZ [(0, 55295), (57344, 1114111)] = 1112064 := by decide
  have e2 : sizeZ [] = 0 := rfl
  omega
end SetM
end
section
/- Plain mathematics: what the laws of parts ask. Nothing of a program stands here. -/
namespace TermsM
open SetM
/-- Of two parts one set has one's least scalar, and not the other's. -/
theorem PartsOf.unlike {l p : List (List Sp)} (h : PartsOf l p) {i j : Nat} (hi : i < p.length) (hj : j < p.length) (hne : i ≠ j) : ∃ s ∈ l, ¬ (Tells s (lo p[i]) ↔ Tells s (lo p[j])) := by
  have ni := h.bun.nf _ (List.getElem_mem hi)
  have nj := h.bun.nf _ (List.getElem_mem hj)
  have mi := lo_mem ni.1 ni.2
  have mj := lo_mem nj.1 nj.2
  refine Classical.byContradiction (fun hc => ?_)
  have hal : Al l (lo p[i]) (lo p[j]) := fun s hs => Classical.byContradiction (fun h' => hc ⟨s, hs, h'⟩)
  have hm := h.bun.cls _ (List.getElem_mem hi) _ _ mi ((h.bun.dom _).2 ⟨_, List.getElem_mem hj, mj⟩) hal
  rcases Nat.lt_or_gt_of_ne hne with hlt | hlt
  · exact List.pairwise_iff_getElem.1 h.bun.dis i j hi hj hlt _ hm mj
  · exact List.pairwise_iff_getElem.1 h.bun.dis j i hj hi hlt _ mj hm
/-- A part has scalars alone. -/
theorem PartsOf.sc {l p : List (List Sp)} (h : PartsOf l p) {x : List Sp} (hx : x ∈ p) {r : Int} (hr : Mem x r) : Sc r := an_sc ((h.bun.dom r).2 ⟨x, hx, hr⟩)
theorem PartsOf.tells {l p : List (List Sp)} (h : PartsOf l p) {x : List Sp} (hx : x ∈ p) (r : Int) : Tells x r ↔ Mem x r := ⟨fun t => t.2, fun m => ⟨h.sc hx m, m⟩⟩
/-- A set is what the parts have that have something of it. -/
theorem PartsOf.made {l p : List (List Sp)} (h : PartsOf l p) {s : List Sp} (hs : s ∈ l) (r : Int) : (∃ x ∈ p, (∃ r', Tells x r' ∧ Tells s r') ∧ Tells x r) ↔ Tells s r := by
  constructor
  · rintro ⟨x, hx, ⟨r', h1, h2⟩, h3⟩
    exact h.whole hs hx h1.2 h2 h3.2
  · intro ht
    obtain ⟨x, hx, hm⟩ := (h.bun.dom r).1 ⟨s, hs, ht⟩
    have := (h.tells hx r).2 hm
    exact ⟨x, hx, ⟨r, this, ht⟩, this⟩
theorem cnt_or (p q : Nat → Bool) (M : Nat) (h : ∀ n, p n = true → q n = false) : cnt (fun n => p n || q n) M = cnt p M + cnt q M := by
  have h1 := cnt_or_and p q M
  rw [cnt_congr (q := fun _ => false) (p := fun n => p n && q n) (fun n _ => by
    cases hp : p n with
    | false => rfl
    | true => rw [h n hp]; rfl), cnt_none] at h1
  omega
theorem sum_cnt (M : Nat) : ∀ (p : List (List Sp)), (∀ x ∈ p, Nf x) → (∀ x ∈ p, ∀ r, Mem x r → 0 ≤ r ∧ r < M) → p.Pairwise (fun x y => ∀ r, Mem x r → ¬ Mem y r) → (p.map sizeZ).sum = cnt (fun n => decide (∃ x ∈ p, Mem x (n : Int))) M
  | [], _, _, _ => by
    rw [cnt_congr (q := fun _ => false) (fun n _ => decide_eq_false (fun ⟨x, hx, _⟩ => by cases hx)), cnt_none]; rfl
  | x :: t, hn, hr, hd => by
    rw [List.pairwise_cons] at hd
    have ih := sum_cnt M t (fun y hy => hn y (by simp [hy])) (fun y hy => hr y (by simp [hy])) hd.2
    have e1 : cnt (fun n => decide (∃ y ∈ x :: t, Mem y (n : Int))) M = cnt (fun n => decide (Mem x (n : Int)) || decide (∃ y ∈ t, Mem y (n : Int))) M :=
      cnt_congr (fun n _ => by rw [← Bool.decide_or]; exact decide_eq_decide.2 (by simp))
    rw [e1, cnt_or _ _ _ (fun n h => decide_eq_false (fun ⟨y, hy, hm⟩ => hd.1 y hy _ (of_decide_eq_true h) hm)), List.map_cons, List.sum_cons, ih, size_cnt M x (hn x (by simp)) (hr x (by simp))]
    omega
/-- How many scalars parts have, and all of them together. -/
theorem PartsOf.sizes {l p : List (List Sp)} (h : PartsOf l p) {a : List Sp} (ha : Nf a) (hm : ∀ r, Mem a r ↔ An l r) : (p.map sizeZ).sum = sizeZ a := by
  obtain ⟨M, hM⟩ : ∃ M : Nat, (M : Int) = 1114112 := ⟨1114112, rfl⟩
  have hs : ∀ r, Sc r → 0 ≤ r ∧ r < M := fun r h => by unfold Sc at h; omega
  rw [sum_cnt M p (fun x hx => (h.bun.nf x hx).1) (fun x hx r hr => hs r (h.sc hx hr)) h.bun.dis, size_cnt M a ha (fun r hr => hs r (an_sc ((hm r).1 hr)))]
  congr 1
  exact cnt_congr (fun n _ => decide_eq_decide.2 (by rw [hm, h.bun.dom]))
theorem sizes_take {p : List (List Sp)} {i : Nat} (h : i < p.length) : ((p.take (i + 1)).map sizeZ).sum = ((p.take i).map sizeZ).sum + sizeZ p[i] := by
  rw [List.take_succ_eq_append_getElem h, List.map_append, List.sum_append]
  simp
theorem sizes_le : ∀ {p : List (List Sp)}, (∀ x ∈ p, 0 ≤ sizeZ x ∧ sizeZ x ≤ 1114112) → 0 ≤ (p.map sizeZ).sum ∧ (p.map sizeZ).sum ≤ 1114112 * p.length
  | [], _ => by simp
  | x :: t, h => by
    have ih := sizes_le (p := t) (fun y hy => h y (by simp [hy]))
    have := h x (by simp)
    rw [List.map_cons, List.sum_cons, List.length_cons]
    omega
theorem PartsOf.pos {l p : List (List Sp)} (h : PartsOf l p) {x : List Sp} (hx : x ∈ p) : 0 < sizeZ x ∧ sizeZ x ≤ 1114112 := by
  obtain ⟨hn, hne⟩ := h.bun.nf x hx
  refine ⟨?_, (size_range hn (fun r hr => h.sc hx hr)).2⟩
  cases x with
  | nil => exact absurd rfl hne
  | cons s t =>
    have h1 : 0 ≤ sizeZ t := by
      clear h hne hx
      have : ∀ (t : List Sp), Nf t → 0 ≤ sizeZ t := fun t => by
        induction t with
        | nil => intro _; exact Int.le_refl 0
        | cons a u ih =>
          intro hu
          have := ih hu.2.2
          have := hu.1
          simp only [sizeZ, List.map_cons, List.sum_cons] at *
          omega
      exact this t hn.2.2
    have := hn.1
    simp only [sizeZ, List.map_cons, List.sum_cons] at *
    omega
end TermsM
end
section
/- Plain mathematics: how long sets are that are cut by sets. Nothing of a program stands here. -/
namespace TermsM
open SetM
theorem nodup_lenI : ∀ {l m : List Int}, l.Nodup → (∀ x ∈ l, x ∈ m) → l.length ≤ m.length
  | [], _, _, _ => Nat.zero_le _
  | a :: l, m, hn, hs => by
    rw [List.nodup_cons] at hn
    have ha := hs a (by simp)
    have h := nodup_lenI (l := l) (m := m.erase a) hn.2 (fun x hx => (List.mem_erase_of_ne (fun e => hn.1 (by rw [← e]; exact hx))).2 (hs x (by simp [hx])))
    rw [List.length_erase_of_mem ha] at h
    have := List.length_pos_of_mem ha
    rw [List.length_cons]
    omega
/-- Numbers where one of the sets may begin, or may have just ended. -/
def bds (S : List (List Sp)) : List Int := 0 :: 57344 :: (S.flatten.map (·.1) ++ S.flatten.map (fun u => u.2 + 1))
theorem bds_len (S : List (List Sp)) : (bds S).length = 2 + 2 * S.flatten.length := by
  unfold bds
  simp only [List.length_cons, List.length_append, List.length_map]
  omega
theorem al_step {S : List (List Sp)} {r : Int} (h0 : Sc r) (h1 : Sc (r - 1)) (hb : r ∉ bds S) : Al S r (r - 1) := by
  intro s hs
  have hu : ∀ u ∈ s, r ≠ u.1 ∧ r ≠ u.2 + 1 := fun u hu => by
    have hm : u ∈ S.flatten := List.mem_flatten.2 ⟨s, hs, hu⟩
    refine ⟨fun e => hb ?_, fun e => hb ?_⟩
    · unfold bds
      exact List.mem_cons_of_mem _ (List.mem_cons_of_mem _ (List.mem_append.2 (.inl (List.mem_map.2 ⟨u, hm, e.symm⟩))))
    · unfold bds
      exact List.mem_cons_of_mem _ (List.mem_cons_of_mem _ (List.mem_append.2 (.inr (List.mem_map.2 ⟨u, hm, e.symm⟩))))
  constructor
  · rintro ⟨_, u, h, h2, h3⟩
    have := hu u h
    exact ⟨h1, u, h, by omega, by omega⟩
  · rintro ⟨_, u, h, h2, h3⟩
    have := hu u h
    exact ⟨h0, u, h, by omega, by omega⟩
theorem lo_bds {S : List (List Sp)} {x : List Sp} (hn : Nf x) (hs : ∀ r, Mem x r → Sc r) (hc : ∀ r r', Mem x r → Sc r' → Al S r r' → Mem x r') {u : Sp} (hu : u ∈ x) : u.1 ∈ bds S := by
  refine Classical.byContradiction (fun hb => ?_)
  have hle : ∀ {y : List Sp}, Nf y → ∀ v ∈ y, v.1 ≤ v.2 := fun {y} => by
    induction y with
    | nil => intro _ v hv; cases hv
    | cons a t ih =>
      intro hy v hv
      rcases List.mem_cons.1 hv with rfl | hv
      · exact hy.1
      · exact ih hy.2.2 v hv
  have hapart : ∀ {y : List Sp}, Nf y → ∀ v ∈ y, ∀ w ∈ y, v = w ∨ v.2 + 1 < w.1 ∨ w.2 + 1 < v.1 := fun {y} => by
    induction y with
    | nil => intro _ v hv; cases hv
    | cons a t ih =>
      intro hy v hv w hw
      rcases List.mem_cons.1 hv with e1 | h1
      · rcases List.mem_cons.1 hw with e2 | h2
        · exact .inl (e1.trans e2.symm)
        · rw [e1]; exact .inr (.inl (hy.2.1 w h2))
      · rcases List.mem_cons.1 hw with e2 | h2
        · rw [e2]; exact .inr (.inr (hy.2.1 v h1))
        · exact ih hy.2.2 v h1 w h2
  have hm : Mem x u.1 := ⟨u, hu, Int.le_refl _, hle hn u hu⟩
  have hsc := hs _ hm
  have hne0 : u.1 ≠ 0 := fun e => hb (by rw [e]; unfold bds; simp)
  have hne1 : u.1 ≠ 57344 := fun e => hb (by rw [e]; unfold bds; simp)
  have hsc1 : Sc (u.1 - 1) := by unfold Sc at *; omega
  obtain ⟨v, hv, h1, h2⟩ := hc _ _ hm hsc1 (al_step hsc hsc1 hb)
  have := hle hn u hu
  rcases hapart hn u hu v hv with e | e | e
  · rw [← e] at h1; omega
  · omega
  · omega
theorem nf_los : ∀ {x : List Sp}, Nf x → (x.map (·.1)).Nodup
  | [], _ => by simp
  | a :: t, h => by
    rw [List.map_cons, List.nodup_cons]
    refine ⟨fun hm => ?_, nf_los h.2.2⟩
    obtain ⟨v, hv, e⟩ := List.mem_map.1 hm
    have := h.2.1 v hv
    have := h.1
    omega
theorem len_bds {S : List (List Sp)} {x : List Sp} (hn : Nf x) (hs : ∀ r, Mem x r → Sc r) (hc : ∀ r r', Mem x r → Sc r' → Al S r r' → Mem x r') : x.length ≤ 2 + 2 * S.flatten.length := by
  have h := nodup_lenI (nf_los hn) (fun z hz => by
    obtain ⟨u, hu, rfl⟩ := List.mem_map.1 hz
    exact lo_bds hn hs hc hu)
  rw [List.length_map, bds_len] at h
  exact h
theorem Bun.clo {S o : List (List Sp)} (h : Bun S (An S) o) {x : List Sp} (hx : x ∈ o) : (∀ r, Mem x r → Sc r) ∧ ∀ r r', Mem x r → Sc r' → Al S r r' → Mem x r' :=
  ⟨fun r hr => an_sc ((h.dom r).2 ⟨x, hx, hr⟩), fun r r' hr _ ha => h.cls x hx r r' hr (an_al ((h.dom r).2 ⟨x, hx, hr⟩) ha) ha⟩
theorem Bun.len {S o : List (List Sp)} (h : Bun S (An S) o) {x : List Sp} (hx : x ∈ o) : x.length ≤ 2 + 2 * S.flatten.length :=
  len_bds (h.nf x hx).1 (h.clo hx).1 (h.clo hx).2
theorem Bun.many {S o : List (List Sp)} (h : Bun S (An S) o) : o.length ≤ 2 + 2 * S.flatten.length := by
  have hn : (o.map lo).Nodup := by
    rw [List.Nodup, List.pairwise_map]
    exact lo_ne h.nf h.dis
  have h1 := nodup_lenI hn (m := bds S) (fun z hz => by
    obtain ⟨x, hx, rfl⟩ := List.mem_map.1 hz
    obtain ⟨hxn, hxe⟩ := h.nf x hx
    have hc := h.clo hx
    cases x with
    | nil => exact absurd rfl hxe
    | cons a t => exact lo_bds hxn hc.1 hc.2 (u := a) (by simp))
  rw [List.length_map, bds_len] at h1
  exact h1
theorem Bun.wide {S o : List (List Sp)} (h : Bun S (An S) o) {x : List Sp} (hx : x ∈ o) (r : Int) : Tells x r ↔ Mem x r := ⟨fun t => t.2, fun m => ⟨(h.clo hx).1 r m, m⟩⟩
/-- What no set had. -/
theorem rest_len {S : List (List Sp)} {x : List Sp} (hn : Nf x) (hm : ∀ r, Mem x r ↔ Sc r ∧ ¬ An S r) : x.length ≤ 2 + 2 * S.flatten.length :=
  len_bds hn (fun r h => ((hm r).1 h).1) (fun r r' h h' ha => (hm r').2 ⟨h', fun hA => ((hm r).1 h).2 (an_al hA ha.symm)⟩)
theorem flat_take_le (ls : List (List Sp)) (k : Nat) : (ls.take k).flatten.length ≤ ls.flatten.length := by
  have e : ls.flatten = (ls.take k).flatten ++ (ls.drop k).flatten := by rw [← List.flatten_append, List.take_append_drop]
  rw [e, List.length_append]; omega
end TermsM
end
section
/- What the walks of the laws of parts have in common. -/
namespace TermsM
open SetM
theorem flat_lem {l : List (List Sp)} {m : Nat} (h : ∀ y ∈ l, y.length ≤ m) : l.flatten.length ≤ m * l.length := by
  induction l with
  | nil => simp
  | cons a t ih =>
    have h1 := h a (by simp)
    have h2 := ih (fun y hy => h y (by simp [hy]))
    rw [List.flatten_cons, List.length_append, List.length_cons, Nat.mul_succ]
    omega
theorem flat_memm {l : List (List Sp)} {y : List Sp} (h : y ∈ l) : y.length ≤ l.flatten.length := by
  induction l with
  | nil => cases h
  | cons a t ih =>
    rw [List.flatten_cons, List.length_append]
    rcases List.mem_cons.1 h with rfl | h
    · omega
    · have := ih h; omega
theorem lo_at0 {y : List Sp} (h : 0 < y.length) : lo y = y[0].1 := by
  cases y with
  | nil => simp at h
  | cons a t => rfl
end TermsM
namespace Go.Proofs.YtkphbjppmiefkaaDoor
open Go.RowKit Go.Shelf Go.Maps SetM TermsM
theorem drewN_lo {n : Nat} {W V : World} (h : Below n W V) (k : Nat) : Below n W (V.drewN k) := h.trans ⟨rfl, rfl, rfl, Nat.le_refl _, fun _ _ => rfl⟩
theorem listF_mem {cs : List (List Int)} {y : List Sp} (h : y ∈ listF cs 8) : ∃ j, ∃ hj : j < cs.length, y = makeF cs[j] := by
  obtain ⟨a, ha, rfl⟩ := List.mem_map.1 h
  have ha2 := List.mem_of_mem_take (List.mem_filter.1 ha).1
  obtain ⟨j, hj, rfl⟩ := List.mem_iff_getElem.1 ha2
  exact ⟨j, hj, rfl⟩
theorem listF_le (cs : List (List Int)) : (listF cs 8).length ≤ 8 ∧ (∀ y ∈ listF cs 8, y.length ≤ 30) ∧ (listF cs 8).flatten.length ≤ 240 := by
  have h1 : (listF cs 8).length ≤ 8 := by unfold listF; rw [List.length_map]; exact Nat.le_trans (List.length_filter_le _ _) (by rw [List.length_take]; omega)
  have h2 : ∀ y ∈ listF cs 8, y.length ≤ 30 := fun y hy => by
    obtain ⟨j, hj, rfl⟩ := listF_mem hy
    exact makeF_len _
  have := flat_lem h2
  exact ⟨h1, h2, by omega⟩
theorem listF_wide {W : World} {A : Option Addr} {cs : List (List Int)} (hC : Css W A cs) : ∀ y ∈ listF cs 8, Wide y := fun y hy => by
  obtain ⟨j, hj, rfl⟩ := listF_mem hy
  obtain ⟨_, _, _, _, _, _, _, hu⟩ := hC j hj
  exact wide_make (fun c hc => (hu.1 c hc).1)
/-- The row of a place, and its first number, as they stand in any later world. -/
theorem Rs.lo_at {W : World} {b off : Nat} {ls : List (List Sp)} (h : Rs W (some ⟨b, off, none⟩) ls) (hne : ∀ x ∈ ls, x ≠ []) {i : Nat} (hi : i < ls.length) :
    ∃ bi oi ni ci, 0 < ni ∧ ni = ls[i].length ∧ Spans W.heap.size W (some ⟨bi, oi, none⟩) ls[i] ∧ ∀ V, Below W.heap.size W V → V.cell? ⟨b, off + i, none⟩ = some (.slice (some ⟨bi, oi, none⟩) ni ci) ∧ V.cell? ⟨bi, oi, none⟩ = some (.int .i64 (lo ls[i])) := by
  obtain ⟨b', off', e, hb, hrow⟩ := h (by intro e; rw [e] at hi; simp at hi)
  cases e
  obtain ⟨Q, c, h1, h2, _⟩ := hrow i hi
  have hn := hne _ (List.getElem_mem hi)
  obtain ⟨bi, oi, rfl, hbi, hci⟩ := h2 hn
  have h0 : 0 < ls[i].length := List.length_pos_iff.2 hn
  refine ⟨bi, oi, _, c, h0, rfl, fun _ => ⟨bi, oi, rfl, hbi, hci⟩, fun V hV => ⟨(hV.cell (p := ⟨b, off + i, none⟩) hb).trans h1, ?_⟩⟩
  have hc := (hci 0 h0).1
  rw [Nat.zero_mul, Nat.add_zero] at hc
  rw [lo_at0 h0]
  exact (hV.cell (p := ⟨bi, oi, none⟩) hbi).trans hc
theorem Rs.form {W : World} {P : Option Addr} {ls : List (List Sp)} (h : Rs W P ls) (hne : 0 < ls.length) : ∃ b off, P = some ⟨b, off, none⟩ := by
  obtain ⟨b, off, e, _⟩ := h (by intro e; rw [e] at hne; simp at hne)
  exact ⟨b, off, e⟩
/-- The row of a place, empty or not. -/
theorem Rs.row {W : World} {b off : Nat} {ls : List (List Sp)} (h : Rs W (some ⟨b, off, none⟩) ls) {i : Nat} (hi : i < ls.length) :
    ∃ Q c, (Q = none → c = 0) ∧ Spans W.heap.size W Q ls[i] ∧ ∀ V, Below W.heap.size W V → V.cell? ⟨b, off + i, none⟩ = some (.slice Q ls[i].length c) := by
  obtain ⟨b', off', e, hb, hrow⟩ := h (by intro e; rw [e] at hi; simp at hi)
  cases e
  obtain ⟨Q, c, h1, h2, h3⟩ := hrow i hi
  exact ⟨Q, c, h3, h2, fun V hV => (hV.cell (p := ⟨b, off + i, none⟩) hb).trans h1⟩
end Go.Proofs.YtkphbjppmiefkaaDoor
end
