/- SetOne: the walk. -/
import Derived.Test.YtnhkbafjjngomaaDoorKnown
namespace Go.Proofs.YtnhkbafjjngomaaDoor
open Go.RowKit Go.Shelf SetM

/-- The number that a choice says. -/
def placeF (c : Int) : Int :=
  if c % 8 = 0 then 55280 + c / 8 % 2080 else if c % 8 = 1 then 1114080 + c / 8 % 32 else if c % 8 = 2 then 2032 + c / 8 % 48 else if c % 8 = 3 then 65520 + c / 8 % 48 else c / 8 % 200
theorem placeF_in (c : Int) (_h0 : 0 ≤ c) : 0 ≤ placeF c ∧ placeF c ≤ 1114111 := by
  unfold placeF
  split
  · omega
  · split
    · omega
    · split
      · omega
      · split <;> omega
set_option maxHeartbeats 1000000 in
theorem place_any (c : Int) (h0 : 0 ≤ c) (h1 : c ≤ 65535) (w : World) : Calls Tryd.prog 12 #[.int .u16 c] w fun e w' => e = .returned (.int .i64 (placeF c)) ∧ w = w' := by
  have hd0 : 0 ≤ c / 8 := by omega
  have hd1 : c / 8 ≤ 8191 := by omega
  have q1 : IntKind.u16.wrap (c.tdiv 8) = c / 8 := by
    rw [Int.tdiv_eq_ediv_of_nonneg h0]
    simp [IntKind.wrap, IntKind.bits, IntKind.signed]; omega
  have hm : c % 8 = 0 ∨ c % 8 = 1 ∨ c % 8 = 2 ∨ c % 8 = 3 ∨ (4 ≤ c % 8 ∧ c % 8 ≤ 7) := by omega
  rcases hm with hm | hm | hm | hm | ⟨hm1, hm2⟩
  · have hp : placeF c = 55280 + c / 8 % 2080 := by unfold placeF; rw [if_pos hm]
    have t0 : ((c % 8 : Int) == 0) = true := by rw [beq_iff_eq]; exact hm
    rw [hp]; clear hp hm
    generalize c / 8 = n at *
    go_enter Tryd.func12, Tryd.ntmps12
    go_wp2
    go_ret
    exact ⟨rfl, rfl⟩
  · have hp : placeF c = 1114080 + c / 8 % 32 := by unfold placeF; rw [if_neg (by omega), if_pos hm]
    have t0 : ((c % 8 : Int) == 0) = false := by rw [beq_eq_false_iff_ne]; omega
    have t1 : ((c % 8 : Int) == 1) = true := by rw [beq_iff_eq]; exact hm
    rw [hp]; clear hp hm
    generalize c / 8 = n at *
    go_enter Tryd.func12, Tryd.ntmps12
    go_wp2
    go_ret
    exact ⟨rfl, rfl⟩
  · have hp : placeF c = 2032 + c / 8 % 48 := by unfold placeF; rw [if_neg (by omega), if_neg (by omega), if_pos hm]
    have t0 : ((c % 8 : Int) == 0) = false := by rw [beq_eq_false_iff_ne]; omega
    have t1 : ((c % 8 : Int) == 1) = false := by rw [beq_eq_false_iff_ne]; omega
    have t2 : ((c % 8 : Int) == 2) = true := by rw [beq_iff_eq]; exact hm
    rw [hp]; clear hp hm
    generalize c / 8 = n at *
    go_enter Tryd.func12, Tryd.ntmps12
    go_wp2
    go_ret
    exact ⟨rfl, rfl⟩
  · have hp : placeF c = 65520 + c / 8 % 48 := by unfold placeF; rw [if_neg (by omega), if_neg (by omega), if_neg (by omega), if_pos hm]
    have t0 : ((c % 8 : Int) == 0) = false := by rw [beq_eq_false_iff_ne]; omega
    have t1 : ((c % 8 : Int) == 1) = false := by rw [beq_eq_false_iff_ne]; omega
    have t2 : ((c % 8 : Int) == 2) = false := by rw [beq_eq_false_iff_ne]; omega
    have t3 : ((c % 8 : Int) == 3) = true := by rw [beq_iff_eq]; exact hm
    rw [hp]; clear hp hm
    generalize c / 8 = n at *
    go_enter Tryd.func12, Tryd.ntmps12
    go_wp2
    go_ret
    exact ⟨rfl, rfl⟩
  · have hp : placeF c = c / 8 % 200 := by unfold placeF; rw [if_neg (by omega), if_neg (by omega), if_neg (by omega), if_neg (by omega)]
    have t0 : ((c % 8 : Int) == 0) = false := by rw [beq_eq_false_iff_ne]; omega
    have t1 : ((c % 8 : Int) == 1) = false := by rw [beq_eq_false_iff_ne]; omega
    have t2 : ((c % 8 : Int) == 2) = false := by rw [beq_eq_false_iff_ne]; omega
    have t3 : ((c % 8 : Int) == 3) = false := by rw [beq_eq_false_iff_ne]; omega
    rw [hp]; clear hp hm1 hm2
    generalize c / 8 = n at *
    go_enter Tryd.func12, Tryd.ntmps12
    go_wp2
    go_ret
    exact ⟨rfl, rfl⟩

theorem tells_one (x r : Int) : Tells [(x, x)] r ↔ Sc x ∧ r = x := by
  unfold Tells
  rw [mem_cons]
  constructor
  · rintro ⟨h1, h2 | h2⟩
    · have : r = x := by dsimp only at h2; omega
      subst this; exact ⟨h1, rfl⟩
    · exact absurd h2 (mem_nil r)
  · rintro ⟨h1, rfl⟩; exact ⟨h1, .inl ⟨Int.le_refl _, Int.le_refl _⟩⟩

set_option maxRecDepth 100000 in
set_option maxHeartbeats 4000000 in
theorem setOne_any (r c far : Int) (hc0 : 0 ≤ c) (hc1 : c ≤ 65535) (hf0 : 0 ≤ far) (hf1 : far ≤ 255) (w : World) (h0 : 0 < w.heap.size) (hA : Areas w) :
    Calls Tryd.prog 3 #[.int .i64 r, .int .u16 c, .int .u8 far] w fun e w' => e = .returned (.bool true) ∧ Below w.heap.size w w' := by
  have HA := Lib.hid hA
  clear hA
  have hfar : far % 5 = 0 ∨ ¬ far % 5 = 0 := by omega
  obtain ⟨p, hp⟩ : ∃ p, p = placeF c := ⟨_, rfl⟩
  have hpl : ∀ w, Calls Tryd.prog 12 #[.int .u16 c] w fun e w' => e = .returned (.int .i64 p) ∧ w = w' := fun w => by rw [hp]; exact place_any c hc0 hc1 w
  have HPL := Lib.hid hpl
  clear hpl hp
  rcases hfar with hf | hf
  · have t0 : ((far % 5 : Int) == 0) = true := by rw [beq_iff_eq]; exact hf
    clear hf
    go_enter Tryd.func3, Tryd.ntmps3
    go_wp2_with fail
    refine (HPL.out _).mono ?_
    rintro e w' ⟨rfl, rfl⟩
    go_wp2_with fail
    have hb0 : Below w.heap.size w (w.alloc (.cells (cellsS [(r, r)]).toArray 27)) := (Below.refl _ w).alloc (Nat.le_refl _) _
    have hz0 : (w.alloc (.cells (cellsS [(r, r)]).toArray 27)).heap.size = w.heap.size + 1 := World.size_alloc _ _
    have hs0 := spans_new w [(r, r)]
    rw [← hz0] at hs0
    refine (norm_any (some ⟨w.heap.size, 0, none⟩) 1 [(r, r)] (by simp) _ (by omega) (HA.out.below hb0 h0) hs0).mono ?_
    intro e W1 hp
    obtain ⟨v1, o1, rfl, n1, m1, _, r1, b1⟩ := hp.lower hb0
    clear hb0 hz0 hs0 hp
    have hcase : (r < 0 ∨ (55296 ≤ r ∧ r ≤ 57343) ∨ 1114111 < r) ∨ ((0 ≤ r ∧ r ≤ 55295) ∨ (57344 ≤ r ∧ r ≤ 1114111)) := by omega
    rcases hcase with hno | hyes
    · have hns : ¬ Sc r := by unfold Sc; omega
      obtain rfl := nf_is (l := []) n1 m1 trivial (fun q => ⟨fun h => absurd h (mem_nil q), fun h => absurd ((tells_one r q).1 h).1 hns⟩)
      obtain ⟨P1, c1, rfl, s1⟩ := spans_of r1
      have hhas : decide (Tells [(r, r)] r) = false := decide_eq_false (fun h => hns ((tells_one r r).1 h).1)
      have HH := Lib.hid hhas
      clear n1 m1 r1 hns hhas s1
      rcases hno with hx | ⟨hx, hy⟩ | hx
      · have d1 : decide (0 ≤ r) = false := decide_eq_false (by omega)
        go_wp2_with fail
        refine (known_any W1 (by have := b1.size; omega) (HA.out.below b1 h0)).mono ?_
        rintro e W2 ⟨rfl, b2'⟩
        have b2 := b1.trans (b2'.mono b1.size)
        clear b2'
        go_wp2_with fail
        have b3' : Below W2.heap.size W2 (W2.alloc (.cells (cellsS [(r, r)]).toArray 27)) := (Below.refl _ _).alloc (Nat.le_refl _) _
        have b3 := b2.trans (b3'.mono b2.size)
        have hs3 := spans_new W2 [(r, r)]
        rw [← World.size_alloc W2 (.cells (cellsS [(r, r)]).toArray 27)] at hs3
        refine (has_any (some ⟨W2.heap.size, 0, none⟩) 1 [(r, r)] r (by simp) _ (by have := b3.size; omega) (HA.out.below b3 h0) hs3).mono ?_
        rintro e W4 ⟨rfl, b4'⟩
        have b4 := b3.trans (b4'.mono b3.size)
        rw [HH.out]
        clear b4' hs3 b3'
        go_wp2
        go_ret
        exact ⟨rfl, b4⟩
      · have d1 : decide (0 ≤ r) = true := decide_eq_true (by omega)
        have e1 : 0 ≤ r := by omega
        have e2 : r ≤ 1114111 := by omega
        have d2 : decide (r ≤ 1114111) = true := decide_eq_true (by omega)
        have d3 : decide (r < 55296) = false := decide_eq_false (by omega)
        have d4 : decide (57343 < r) = false := decide_eq_false (by omega)
        go_wp2_with fail
        refine (known_any W1 (by have := b1.size; omega) (HA.out.below b1 h0)).mono ?_
        rintro e W2 ⟨rfl, b2'⟩
        have b2 := b1.trans (b2'.mono b1.size)
        clear b2'
        go_wp2_with fail
        have b3' : Below W2.heap.size W2 (W2.alloc (.cells (cellsS [(r, r)]).toArray 27)) := (Below.refl _ _).alloc (Nat.le_refl _) _
        have b3 := b2.trans (b3'.mono b2.size)
        have hs3 := spans_new W2 [(r, r)]
        rw [← World.size_alloc W2 (.cells (cellsS [(r, r)]).toArray 27)] at hs3
        refine (has_any (some ⟨W2.heap.size, 0, none⟩) 1 [(r, r)] r (by simp) _ (by have := b3.size; omega) (HA.out.below b3 h0) hs3).mono ?_
        rintro e W4 ⟨rfl, b4'⟩
        have b4 := b3.trans (b4'.mono b3.size)
        rw [HH.out]
        clear b4' hs3 b3'
        go_wp2
        go_ret
        exact ⟨rfl, b4⟩
      · have d1 : decide (0 ≤ r) = true := decide_eq_true (by omega)
        have e1 : 0 ≤ r := by omega
        have d2 : decide (r ≤ 1114111) = false := decide_eq_false (by omega)
        go_wp2_with fail
        refine (known_any W1 (by have := b1.size; omega) (HA.out.below b1 h0)).mono ?_
        rintro e W2 ⟨rfl, b2'⟩
        have b2 := b1.trans (b2'.mono b1.size)
        clear b2'
        go_wp2_with fail
        have b3' : Below W2.heap.size W2 (W2.alloc (.cells (cellsS [(r, r)]).toArray 27)) := (Below.refl _ _).alloc (Nat.le_refl _) _
        have b3 := b2.trans (b3'.mono b2.size)
        have hs3 := spans_new W2 [(r, r)]
        rw [← World.size_alloc W2 (.cells (cellsS [(r, r)]).toArray 27)] at hs3
        refine (has_any (some ⟨W2.heap.size, 0, none⟩) 1 [(r, r)] r (by simp) _ (by have := b3.size; omega) (HA.out.below b3 h0) hs3).mono ?_
        rintro e W4 ⟨rfl, b4'⟩
        have b4 := b3.trans (b4'.mono b3.size)
        rw [HH.out]
        clear b4' hs3 b3'
        go_wp2
        go_ret
        exact ⟨rfl, b4⟩
    · have hsc : Sc r := by unfold Sc; omega
      obtain rfl := nf_is (l := [(r, r)]) n1 m1 ⟨Int.le_refl _, by simp, trivial⟩ (fun q => by rw [tells_one]; simp [Mem]; constructor <;> intro h <;> first | exact ⟨hsc, by omega⟩ | omega)
      obtain ⟨P1, c1, rfl, s1⟩ := spans_of r1
      have hh1 : decide (Tells [(r, r)] (r + 1)) = false := decide_eq_false (fun h => by have := ((tells_one r _).1 h).2; omega)
      have hh2 : decide (Tells [(r, r)] r) = true := decide_eq_true ((tells_one r r).2 ⟨hsc, rfl⟩)
      have HH1 := Lib.hid hh1
      have HH2 := Lib.hid hh2
      have HSC := Lib.hid hsc
      clear n1 m1 r1 hsc hh1 hh2
      have g1 := gdSpan
      have g2 : ∀ w, (Op.equalIn 10000 27 (.agg #[.int .i64 r, .int .i64 r]) (.agg #[.int .i64 r, .int .i64 r])).run Tryd.prog w = .ok true w := fun w => by rw [eqSpan]; simp
      have hx1 : 0 ≤ r := by omega
      have hx2 : r ≤ 1114111 := by omega
      have d1 : decide (0 ≤ r) = true := decide_eq_true (by omega)
      have d2 : decide (r ≤ 1114111) = true := decide_eq_true (by omega)
      rcases hyes with ⟨hx, hy⟩ | ⟨hx, hy⟩
      · have d3 : decide (r < 55296) = true := decide_eq_true (by omega)
        have e3 : r < 55296 := by omega
        go_wp2_with fail
        refine (known_any W1 (by have := b1.size; omega) (HA.out.below b1 h0)).mono ?_
        rintro e W2 ⟨rfl, b2'⟩
        have b2 := b1.trans (b2'.mono b1.size)
        have s2 := (s1.below b2').mono b2'.size
        clear b2' s1
        have S2 := Lib.hid s2
        obtain ⟨g1', o1', rfl, _, c1'⟩ := s2 (by simp)
        obtain ⟨a0, a1⟩ := c1' 0 (by simp)
        simp only [List.getElem_cons_zero, Nat.zero_mul, Nat.add_zero] at a0 a1
        clear c1' s2
        go_wp2_with fail
        refine (size_any (some ⟨g1', o1', none⟩) c1 [(r, r)] (by simp) W2 (by have := b2.size; omega) (HA.out.below b2 h0) S2.out).mono ?_
        rintro e W3 ⟨o3, n3, m3, rfl, b3'⟩
        obtain rfl := nf_is (l := [(r, r)]) n3 m3 ⟨Int.le_refl _, by simp, trivial⟩ (fun q => by rw [tells_one]; simp [Mem]; constructor <;> intro h <;> first | exact ⟨HSC.out, by omega⟩ | omega)
        rw [show sizeL [(r, r)] = 1 from by simp [sizeL]]
        have b3 := b2.trans (b3'.mono b2.size)
        have S3 := Lib.hid ((S2.out.below b3').mono b3'.size)
        clear b3' n3 m3 S2 a0 a1
        go_wp2_with fail
        refine (has_any (some ⟨g1', o1', none⟩) c1 [(r, r)] (r + 1) (by simp) W3 (by have := b3.size; omega) (HA.out.below b3 h0) S3.out).mono ?_
        rintro e W4 ⟨rfl, b4'⟩
        rw [HH1.out]
        have b4 := b3.trans (b4'.mono b3.size)
        have S4 := Lib.hid ((S3.out.below b4').mono b4'.size)
        clear b4' S3
        go_wp2_with fail
        refine (has_any (some ⟨g1', o1', none⟩) c1 [(r, r)] r (by simp) W4 (by have := b4.size; omega) (HA.out.below b4 h0) S4.out).mono ?_
        rintro e W5 ⟨rfl, b5'⟩
        rw [HH2.out]
        have b5 := b4.trans (b5'.mono b4.size)
        clear b5' S4
        go_wp2
        go_ret
        exact ⟨rfl, b5⟩
      · have d3 : decide (r < 55296) = false := decide_eq_false (by omega)
        have d4 : decide (57343 < r) = true := decide_eq_true (by omega)
        have e4 : 57343 < r := by omega
        go_wp2_with fail
        refine (known_any W1 (by have := b1.size; omega) (HA.out.below b1 h0)).mono ?_
        rintro e W2 ⟨rfl, b2'⟩
        have b2 := b1.trans (b2'.mono b1.size)
        have s2 := (s1.below b2').mono b2'.size
        clear b2' s1
        have S2 := Lib.hid s2
        obtain ⟨g1', o1', rfl, _, c1'⟩ := s2 (by simp)
        obtain ⟨a0, a1⟩ := c1' 0 (by simp)
        simp only [List.getElem_cons_zero, Nat.zero_mul, Nat.add_zero] at a0 a1
        clear c1' s2
        go_wp2_with fail
        refine (size_any (some ⟨g1', o1', none⟩) c1 [(r, r)] (by simp) W2 (by have := b2.size; omega) (HA.out.below b2 h0) S2.out).mono ?_
        rintro e W3 ⟨o3, n3, m3, rfl, b3'⟩
        obtain rfl := nf_is (l := [(r, r)]) n3 m3 ⟨Int.le_refl _, by simp, trivial⟩ (fun q => by rw [tells_one]; simp [Mem]; constructor <;> intro h <;> first | exact ⟨HSC.out, by omega⟩ | omega)
        rw [show sizeL [(r, r)] = 1 from by simp [sizeL]]
        have b3 := b2.trans (b3'.mono b2.size)
        have S3 := Lib.hid ((S2.out.below b3').mono b3'.size)
        clear b3' n3 m3 S2 a0 a1
        go_wp2_with fail
        refine (has_any (some ⟨g1', o1', none⟩) c1 [(r, r)] (r + 1) (by simp) W3 (by have := b3.size; omega) (HA.out.below b3 h0) S3.out).mono ?_
        rintro e W4 ⟨rfl, b4'⟩
        rw [HH1.out]
        have b4 := b3.trans (b4'.mono b3.size)
        have S4 := Lib.hid ((S3.out.below b4').mono b4'.size)
        clear b4' S3
        go_wp2_with fail
        refine (has_any (some ⟨g1', o1', none⟩) c1 [(r, r)] r (by simp) W4 (by have := b4.size; omega) (HA.out.below b4 h0) S4.out).mono ?_
        rintro e W5 ⟨rfl, b5'⟩
        rw [HH2.out]
        have b5 := b4.trans (b5'.mono b4.size)
        clear b5' S4
        go_wp2
        go_ret
        exact ⟨rfl, b5⟩
  · have t0 : ((far % 5 : Int) == 0) = false := by rw [beq_eq_false_iff_ne]; exact hf
    clear hf
    go_enter Tryd.func3, Tryd.ntmps3
    go_wp2_with fail
    refine (HPL.out _).mono ?_
    rintro e w' ⟨rfl, rfl⟩
    go_wp2_with fail
    have hb0 : Below w.heap.size w (w.alloc (.cells (cellsS [(p, p)]).toArray 27)) := (Below.refl _ w).alloc (Nat.le_refl _) _
    have hz0 : (w.alloc (.cells (cellsS [(p, p)]).toArray 27)).heap.size = w.heap.size + 1 := World.size_alloc _ _
    have hs0 := spans_new w [(p, p)]
    rw [← hz0] at hs0
    refine (norm_any (some ⟨w.heap.size, 0, none⟩) 1 [(p, p)] (by simp) _ (by omega) (HA.out.below hb0 h0) hs0).mono ?_
    intro e W1 hp
    obtain ⟨v1, o1, rfl, n1, m1, _, r1, b1⟩ := hp.lower hb0
    clear hb0 hz0 hs0 hp
    have hcase : (p < 0 ∨ (55296 ≤ p ∧ p ≤ 57343) ∨ 1114111 < p) ∨ ((0 ≤ p ∧ p ≤ 55295) ∨ (57344 ≤ p ∧ p ≤ 1114111)) := by omega
    rcases hcase with hno | hyes
    · have hns : ¬ Sc p := by unfold Sc; omega
      obtain rfl := nf_is (l := []) n1 m1 trivial (fun q => ⟨fun h => absurd h (mem_nil q), fun h => absurd ((tells_one p q).1 h).1 hns⟩)
      obtain ⟨P1, c1, rfl, s1⟩ := spans_of r1
      have hhas : decide (Tells [(p, p)] p) = false := decide_eq_false (fun h => hns ((tells_one p p).1 h).1)
      have HH := Lib.hid hhas
      clear n1 m1 r1 hns hhas s1
      rcases hno with hx | ⟨hx, hy⟩ | hx
      · have d1 : decide (0 ≤ p) = false := decide_eq_false (by omega)
        go_wp2_with fail
        refine (known_any W1 (by have := b1.size; omega) (HA.out.below b1 h0)).mono ?_
        rintro e W2 ⟨rfl, b2'⟩
        have b2 := b1.trans (b2'.mono b1.size)
        clear b2'
        go_wp2_with fail
        have b3' : Below W2.heap.size W2 (W2.alloc (.cells (cellsS [(p, p)]).toArray 27)) := (Below.refl _ _).alloc (Nat.le_refl _) _
        have b3 := b2.trans (b3'.mono b2.size)
        have hs3 := spans_new W2 [(p, p)]
        rw [← World.size_alloc W2 (.cells (cellsS [(p, p)]).toArray 27)] at hs3
        refine (has_any (some ⟨W2.heap.size, 0, none⟩) 1 [(p, p)] p (by simp) _ (by have := b3.size; omega) (HA.out.below b3 h0) hs3).mono ?_
        rintro e W4 ⟨rfl, b4'⟩
        have b4 := b3.trans (b4'.mono b3.size)
        rw [HH.out]
        clear b4' hs3 b3'
        go_wp2
        go_ret
        exact ⟨rfl, b4⟩
      · have d1 : decide (0 ≤ p) = true := decide_eq_true (by omega)
        have e1 : 0 ≤ p := by omega
        have e2 : p ≤ 1114111 := by omega
        have d2 : decide (p ≤ 1114111) = true := decide_eq_true (by omega)
        have d3 : decide (p < 55296) = false := decide_eq_false (by omega)
        have d4 : decide (57343 < p) = false := decide_eq_false (by omega)
        go_wp2_with fail
        refine (known_any W1 (by have := b1.size; omega) (HA.out.below b1 h0)).mono ?_
        rintro e W2 ⟨rfl, b2'⟩
        have b2 := b1.trans (b2'.mono b1.size)
        clear b2'
        go_wp2_with fail
        have b3' : Below W2.heap.size W2 (W2.alloc (.cells (cellsS [(p, p)]).toArray 27)) := (Below.refl _ _).alloc (Nat.le_refl _) _
        have b3 := b2.trans (b3'.mono b2.size)
        have hs3 := spans_new W2 [(p, p)]
        rw [← World.size_alloc W2 (.cells (cellsS [(p, p)]).toArray 27)] at hs3
        refine (has_any (some ⟨W2.heap.size, 0, none⟩) 1 [(p, p)] p (by simp) _ (by have := b3.size; omega) (HA.out.below b3 h0) hs3).mono ?_
        rintro e W4 ⟨rfl, b4'⟩
        have b4 := b3.trans (b4'.mono b3.size)
        rw [HH.out]
        clear b4' hs3 b3'
        go_wp2
        go_ret
        exact ⟨rfl, b4⟩
      · have d1 : decide (0 ≤ p) = true := decide_eq_true (by omega)
        have e1 : 0 ≤ p := by omega
        have d2 : decide (p ≤ 1114111) = false := decide_eq_false (by omega)
        go_wp2_with fail
        refine (known_any W1 (by have := b1.size; omega) (HA.out.below b1 h0)).mono ?_
        rintro e W2 ⟨rfl, b2'⟩
        have b2 := b1.trans (b2'.mono b1.size)
        clear b2'
        go_wp2_with fail
        have b3' : Below W2.heap.size W2 (W2.alloc (.cells (cellsS [(p, p)]).toArray 27)) := (Below.refl _ _).alloc (Nat.le_refl _) _
        have b3 := b2.trans (b3'.mono b2.size)
        have hs3 := spans_new W2 [(p, p)]
        rw [← World.size_alloc W2 (.cells (cellsS [(p, p)]).toArray 27)] at hs3
        refine (has_any (some ⟨W2.heap.size, 0, none⟩) 1 [(p, p)] p (by simp) _ (by have := b3.size; omega) (HA.out.below b3 h0) hs3).mono ?_
        rintro e W4 ⟨rfl, b4'⟩
        have b4 := b3.trans (b4'.mono b3.size)
        rw [HH.out]
        clear b4' hs3 b3'
        go_wp2
        go_ret
        exact ⟨rfl, b4⟩
    · have hsc : Sc p := by unfold Sc; omega
      obtain rfl := nf_is (l := [(p, p)]) n1 m1 ⟨Int.le_refl _, by simp, trivial⟩ (fun q => by rw [tells_one]; simp [Mem]; constructor <;> intro h <;> first | exact ⟨hsc, by omega⟩ | omega)
      obtain ⟨P1, c1, rfl, s1⟩ := spans_of r1
      have hh1 : decide (Tells [(p, p)] (p + 1)) = false := decide_eq_false (fun h => by have := ((tells_one p _).1 h).2; omega)
      have hh2 : decide (Tells [(p, p)] p) = true := decide_eq_true ((tells_one p p).2 ⟨hsc, rfl⟩)
      have HH1 := Lib.hid hh1
      have HH2 := Lib.hid hh2
      have HSC := Lib.hid hsc
      clear n1 m1 r1 hsc hh1 hh2
      have g1 := gdSpan
      have g2 : ∀ w, (Op.equalIn 10000 27 (.agg #[.int .i64 p, .int .i64 p]) (.agg #[.int .i64 p, .int .i64 p])).run Tryd.prog w = .ok true w := fun w => by rw [eqSpan]; simp
      have hx1 : 0 ≤ p := by omega
      have hx2 : p ≤ 1114111 := by omega
      have d1 : decide (0 ≤ p) = true := decide_eq_true (by omega)
      have d2 : decide (p ≤ 1114111) = true := decide_eq_true (by omega)
      rcases hyes with ⟨hx, hy⟩ | ⟨hx, hy⟩
      · have d3 : decide (p < 55296) = true := decide_eq_true (by omega)
        have e3 : p < 55296 := by omega
        go_wp2_with fail
        refine (known_any W1 (by have := b1.size; omega) (HA.out.below b1 h0)).mono ?_
        rintro e W2 ⟨rfl, b2'⟩
        have b2 := b1.trans (b2'.mono b1.size)
        have s2 := (s1.below b2').mono b2'.size
        clear b2' s1
        have S2 := Lib.hid s2
        obtain ⟨g1', o1', rfl, _, c1'⟩ := s2 (by simp)
        obtain ⟨a0, a1⟩ := c1' 0 (by simp)
        simp only [List.getElem_cons_zero, Nat.zero_mul, Nat.add_zero] at a0 a1
        clear c1' s2
        go_wp2_with fail
        refine (size_any (some ⟨g1', o1', none⟩) c1 [(p, p)] (by simp) W2 (by have := b2.size; omega) (HA.out.below b2 h0) S2.out).mono ?_
        rintro e W3 ⟨o3, n3, m3, rfl, b3'⟩
        obtain rfl := nf_is (l := [(p, p)]) n3 m3 ⟨Int.le_refl _, by simp, trivial⟩ (fun q => by rw [tells_one]; simp [Mem]; constructor <;> intro h <;> first | exact ⟨HSC.out, by omega⟩ | omega)
        rw [show sizeL [(p, p)] = 1 from by simp [sizeL]]
        have b3 := b2.trans (b3'.mono b2.size)
        have S3 := Lib.hid ((S2.out.below b3').mono b3'.size)
        clear b3' n3 m3 S2 a0 a1
        go_wp2_with fail
        refine (has_any (some ⟨g1', o1', none⟩) c1 [(p, p)] (p + 1) (by simp) W3 (by have := b3.size; omega) (HA.out.below b3 h0) S3.out).mono ?_
        rintro e W4 ⟨rfl, b4'⟩
        rw [HH1.out]
        have b4 := b3.trans (b4'.mono b3.size)
        have S4 := Lib.hid ((S3.out.below b4').mono b4'.size)
        clear b4' S3
        go_wp2_with fail
        refine (has_any (some ⟨g1', o1', none⟩) c1 [(p, p)] p (by simp) W4 (by have := b4.size; omega) (HA.out.below b4 h0) S4.out).mono ?_
        rintro e W5 ⟨rfl, b5'⟩
        rw [HH2.out]
        have b5 := b4.trans (b5'.mono b4.size)
        clear b5' S4
        go_wp2
        go_ret
        exact ⟨rfl, b5⟩
      · have d3 : decide (p < 55296) = false := decide_eq_false (by omega)
        have d4 : decide (57343 < p) = true := decide_eq_true (by omega)
        have e4 : 57343 < p := by omega
        go_wp2_with fail
        refine (known_any W1 (by have := b1.size; omega) (HA.out.below b1 h0)).mono ?_
        rintro e W2 ⟨rfl, b2'⟩
        have b2 := b1.trans (b2'.mono b1.size)
        have s2 := (s1.below b2').mono b2'.size
        clear b2' s1
        have S2 := Lib.hid s2
        obtain ⟨g1', o1', rfl, _, c1'⟩ := s2 (by simp)
        obtain ⟨a0, a1⟩ := c1' 0 (by simp)
        simp only [List.getElem_cons_zero, Nat.zero_mul, Nat.add_zero] at a0 a1
        clear c1' s2
        go_wp2_with fail
        refine (size_any (some ⟨g1', o1', none⟩) c1 [(p, p)] (by simp) W2 (by have := b2.size; omega) (HA.out.below b2 h0) S2.out).mono ?_
        rintro e W3 ⟨o3, n3, m3, rfl, b3'⟩
        obtain rfl := nf_is (l := [(p, p)]) n3 m3 ⟨Int.le_refl _, by simp, trivial⟩ (fun q => by rw [tells_one]; simp [Mem]; constructor <;> intro h <;> first | exact ⟨HSC.out, by omega⟩ | omega)
        rw [show sizeL [(p, p)] = 1 from by simp [sizeL]]
        have b3 := b2.trans (b3'.mono b2.size)
        have S3 := Lib.hid ((S2.out.below b3').mono b3'.size)
        clear b3' n3 m3 S2 a0 a1
        go_wp2_with fail
        refine (has_any (some ⟨g1', o1', none⟩) c1 [(p, p)] (p + 1) (by simp) W3 (by have := b3.size; omega) (HA.out.below b3 h0) S3.out).mono ?_
        rintro e W4 ⟨rfl, b4'⟩
        rw [HH1.out]
        have b4 := b3.trans (b4'.mono b3.size)
        have S4 := Lib.hid ((S3.out.below b4').mono b4'.size)
        clear b4' S3
        go_wp2_with fail
        refine (has_any (some ⟨g1', o1', none⟩) c1 [(p, p)] p (by simp) W4 (by have := b4.size; omega) (HA.out.below b4 h0) S4.out).mono ?_
        rintro e W5 ⟨rfl, b5'⟩
        rw [HH2.out]
        have b5 := b4.trans (b5'.mono b4.size)
        clear b5' S4
        go_wp2
        go_ret
        exact ⟨rfl, b5⟩
end Go.Proofs.YtnhkbafjjngomaaDoor
