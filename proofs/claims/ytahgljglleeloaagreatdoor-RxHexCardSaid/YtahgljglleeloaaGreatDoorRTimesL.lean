/- RxTimes's walk: a repetition by numbers is what they say, if the first is not above the second, and both not above 20. -/
import Derived.Test.YtahgljglleeloaaGreatDoorRPlain
namespace Go.Proofs.YtahgljglleeloaaGreatDoor
open Go.RowKit Go.Shelf Go.Maps SetM PropsM RxM

theorem byte48 {d : Nat} (h : d < 10) : ∃ b : UInt8, ((b.toNat : Nat) : Int) = 48 + (d : Int) := byte_of (by omega) (by omega)
set_option maxRecDepth 100000 in
set_option maxHeartbeats 2000000 in
theorem digit1_c (d : Nat) (h : d < 10) (W : World) :
    Calls Tryz.prog 13 #[.int .i64 d] W fun e W' => ∃ t, e = .returned (.string t) ∧ bs t = [48 + (d : Int)] ∧ Below W.heap.size W W' := by
  obtain ⟨b, hb⟩ := byte48 h
  have hcv := fun U g => conv_at b U g
  have hlt : (d : Int) < 10 := by omega
  have hw1 : IntKind.u8.wrap (d : Int) = (d : Int) := by unfold IntKind.wrap; simp [IntKind.bits, IntKind.signed]; omega
  have hw2 : IntKind.u8.wrap (48 + (d : Int)) = 48 + (d : Int) := by unfold IntKind.wrap; simp [IntKind.bits, IntKind.signed]; omega
  rw [hb] at hcv
  go_enter Tryz.func13, Tryz.ntmps13
  go_wp2
  go_ret
  exact ⟨_, rfl, by unfold bs; simp [hb], (Below.refl _ _).alloc (Nat.le_refl _) _⟩
set_option maxRecDepth 100000 in
set_option maxHeartbeats 2000000 in
theorem digits_c (n : Nat) (h : n < 100) (W : World) :
    Calls Tryz.prog 13 #[.int .i64 n] W fun e W' => ∃ t, e = .returned (.string t) ∧ bs t = dig n ∧ Below W.heap.size W W' := by
  by_cases h10 : n < 10
  · have := digit1_c n h10 W
    rw [show dig n = [48 + (n : Int)] from by unfold dig; rw [if_pos h10]]
    exact this
  · have hlt : ¬ (n : Int) < 10 := by omega
    have hd : dig n = [48 + ((n / 10 : Nat) : Int)] ++ [48 + ((n % 10 : Nat) : Int)] := by unfold dig; rw [if_neg h10]; rfl
    have hq : (n : Int).tdiv 10 = ((n / 10 : Nat) : Int) := by rw [Int.tdiv_eq_ediv_of_nonneg (by omega)]; omega
    have hm : (n : Int).tmod 10 = ((n % 10 : Nat) : Int) := by rw [Int.tmod_eq_emod_of_nonneg (by omega)]; omega
    have hwq : wrap64 ((n / 10 : Nat) : Int) = ((n / 10 : Nat) : Int) := IntWalk.wrap64_in _ (by omega)
    have hwm : wrap64 ((n % 10 : Nat) : Int) = ((n % 10 : Nat) : Int) := IntWalk.wrap64_in _ (by omega)
    have H1 := Lib.hid (fun W => digit1_c (n / 10) (by omega) W)
    have H2 := Lib.hid (fun W => digit1_c (n % 10) (by omega) W)
    rw [hd]
    clear hd h10
    generalize hg1 : n / 10 = q1 at *
    generalize hg2 : n % 10 = q2 at *
    clear hg1 hg2
    go_enter Tryz.func13, Tryz.ntmps13
    go_wp2_with fail
    refine (H1.out _).mono ?_
    rintro e w1 ⟨t1, rfl, ht1, b1⟩
    have l1 : t1.size = 1 := by rw [← bs_len, ht1]; rfl
    have HT1 := Lib.hid ht1
    clear ht1
    go_wp2_with fail
    refine (H2.out _).mono ?_
    rintro e w2 ⟨t2, rfl, ht2, b2⟩
    have l2 : t2.size = 1 := by rw [← bs_len, ht2]; rfl
    have hs : ¬ 9223372036854775807 < t1.size + t2.size := by omega
    have HT2 := Lib.hid ht2
    clear ht2 l1 l2
    go_wp2
    go_ret
    exact ⟨_, rfl, by rw [bs_append, HT1.out, HT2.out]; rfl, b1.trans (b2.mono b1.size)⟩
/-- A place of a text from its end. -/
theorem bs_str {t : ByteArray} {l : List Int} (h : bs t = l) : t.size = l.length := by rw [← bs_len, h]
def timesT (x : Nat) (m : Option (Option Nat)) : List Int := 97 :: 123 :: (dig x ++ (mostE m ++ [125]))
theorem mostE_low {m : Option (Option Nat)} (hm : ∀ y, m = some (some y) → y < 100) : Low (mostE m) := by
  match m with
  | none => intro c hc; simp [mostE] at hc
  | some none => intro c hc; simp [mostE] at hc; subst hc; decide
  | some (some y) =>
    intro c hc
    simp only [mostE, List.mem_cons] at hc
    rcases hc with rfl | hc
    · decide
    · exact dig_low (hm y rfl) c hc
theorem times_low {x : Nat} (hx : x < 100) {m : Option (Option Nat)} (hm : ∀ y, m = some (some y) → y < 100) : Low (timesT x m) := by
  intro c hc
  unfold timesT at hc
  simp only [List.mem_cons, List.mem_append, List.not_mem_nil, or_false] at hc
  rcases hc with rfl | rfl | hc | hc | rfl
  · decide
  · decide
  · exact dig_low hx c hc
  · exact mostE_low hm c hc
  · decide
theorem mostE_len (m : Option (Option Nat)) : (mostE m).length ≤ 3 := by
  match m with
  | none => simp [mostE]
  | some none => simp [mostE]
  | some (some y) => have := (dig_len y).2; simp only [mostE, List.length_cons]; omega
/-- Is a repetition too often? -/
def tooOften (x : Nat) (z : Int) : Prop := 20 < (x : Int) ∨ 20 < z ∨ (0 ≤ z ∧ z < x)
theorem often_iff (x : Nat) (z : Int) (hz : -1 ≤ z) : (20 < max (x : Int) z ∨ (z ≠ -1 ∧ z < x)) ↔ tooOften x z := by unfold tooOften; omega
/-- The end of the walk: the text is read; what comes out is as it should be. -/
theorem times_ok {x : Nat} (hx : x < 100) {m : Option (Option Nat)} (hm : ∀ y, m = some (some y) → y < 100) (h : ¬ tooOften x (mostN x m)) (hz : -1 ≤ mostN x m) : wholeF [] (timesT x m) = .ok (.mk 4 none0 [one1 97] x (mostN x m)) [] := by
  have hb := bounds_dig hx hm
  rw [if_neg (fun e => h ((often_iff x _ hz).1 e))] at hb
  exact whole_rep (sees_dig hx _) hb
theorem times_bad {x : Nat} (hx : x < 100) {m : Option (Option Nat)} (hm : ∀ y, m = some (some y) → y < 100) (h : tooOften x (mostN x m)) (hz : -1 ≤ mostN x m) : wholeF [] (timesT x m) = .err 63 (dig x ++ (mostE m ++ [125])) := by
  have hb := bounds_dig hx hm
  rw [if_pos ((often_iff x _ hz).2 h)] at hb
  exact whole_rep_bad (sees_dig hx _) hb
theorem times_place {s : ByteArray} {x : Nat} (hx : x < 100) {m : Option (Option Nat)} (hm : ∀ y, m = some (some y) → y < 100) (hs : bs s = timesT x m) : (s.size : Int) - ((U.UtfM.wr (dig x ++ (mostE m ++ [125]))).length : Nat) = 2 := by
  rw [wr_low _ (fun c hc => times_low hx hm c (by unfold timesT; simp only [List.mem_cons]; exact .inr (.inr hc))), bs_str hs]
  unfold timesT
  simp only [List.length_cons]
  omega
/-- What Parse says of such a text. -/
def TimesP (w : World) (s : ByteArray) (x : Nat) (z : Int) : Prop := ∀ W, Cf w W → Calls Tryz.prog 9 #[.string s, .slice none 0 0] W fun e W' =>
  Below W.heap.size W W' ∧ ((tooOften x z ∧ e = .returned (.tuple #[.agg #[.int .u8 0, .slice none 0 0, .slice none 0 0, .int .i64 0, .int .i64 0], .int .u16 63, .int .i64 2])) ∨
    (¬ tooOften x z ∧ ∃ sp sn sc g kc, e = .returned (.tuple #[.agg #[.int .u8 4, .slice sp sn sc, .slice (some ⟨g, 0, none⟩) 1 kc, .int .i64 x, .int .i64 z], .int .u16 0, .int .i64 0]) ∧ g < W'.heap.size ∧ W'.cell? ⟨g, 0, none⟩ = some (.int .u8 1)))
theorem times_parse {w : World} {s : ByteArray} {x : Nat} (hx : x < 100) {m : Option (Option Nat)} (hm : ∀ y, m = some (some y) → y < 100) (hs : bs s = timesT x m) : TimesP w s x (mostN x m) := by
  intro W hC
  have hz : -1 ≤ mostN x m := by
    match m with
    | none => simp [mostN]
    | some none => simp [mostN]
    | some (some y) => simp [mostN]
  have hl := times_low hx hm
  have hbs : bs s = U.UtfM.wr (timesT x m) := by rw [hs, wr_low _ hl]
  have h200 : s.size ≤ 200 := by
    rw [bs_str hs]; unfold timesT
    have := (dig_len x).2
    have := mostE_len m
    simp only [List.length_cons, List.length_append, List.length_nil]; omega
  by_cases h : tooOften x (mostN x m)
  · refine (parse_bad hbs (low_len _ hl) h200 hC (times_bad hx hm h hz) 2 (times_place hx hm hs)).mono ?_
    rintro e W' ⟨rfl, b⟩
    exact ⟨b, .inl ⟨h, rfl⟩⟩
  · refine (parse_n hbs (low_len _ hl) h200 hC (times_ok hx hm h hz)).mono ?_
    rintro e W' ⟨b, v, rfl, hv⟩
    obtain ⟨sp, sl, sc, kp, kc, rfl, _, _, _, hk⟩ := hv.read
    obtain ⟨g, rfl, hg, hi⟩ := hk (by simp)
    obtain ⟨u, hu, hc⟩ := hi 0 (by simp)
    obtain ⟨sp', sl', sc', kp', kc', rfl, _⟩ := hu.read
    exact ⟨b, .inr ⟨h, sp, sl.length, sc, g, kc, rfl, hg, hc 0 (by decide)⟩⟩
/-- The walk, by kinds. -/
theorem mod3 {c : Int} (h0 : 0 ≤ c) : c.tmod 3 = 0 ∨ c.tmod 3 = 1 ∨ c.tmod 3 = 2 := by rw [Int.tmod_eq_emod_of_nonneg h0]; omega
theorem mod100 {a : Int} (h0 : 0 ≤ a) : ∃ x : Nat, a.tmod 100 = (x : Int) ∧ x < 100 := ⟨(a.tmod 100).toNat, by rw [Int.tmod_eq_emod_of_nonneg h0]; omega, by rw [Int.tmod_eq_emod_of_nonneg h0]; omega⟩
set_option maxRecDepth 100000 in
set_option maxHeartbeats 8000000 in
theorem rxTimes_any (a b c : Int) (ha : 0 ≤ a) (hb : 0 ≤ b) (hc : 0 ≤ c) (w : World) (hC : Cf w w) :
    Calls Tryz.prog 4 #[.int .u8 a, .int .u8 b, .int .u8 c] w fun e w' => e = .returned (.bool true) ∧ Below w.heap.size w w' := by
  have HC := Lib.hid hC
  obtain ⟨x, hx, hx1⟩ := mod100 ha
  obtain ⟨y, hy, hy1⟩ := mod100 hb
  have hk := mod3 hc
  have HD := Lib.hid (fun W => digits_c x hx1 W)
  have HD2 := Lib.hid (fun W => digits_c y hy1 W)
  have HX := Lib.hid hx1
  have HY := Lib.hid hy1
  have hwx : wrap64 (x : Int) = (x : Int) := IntWalk.wrap64_in _ (by omega)
  have hwy : wrap64 (y : Int) = (y : Int) := IntWalk.wrap64_in _ (by omega)
  clear hC
  rcases hk with hk | hk | hk
  · go_enter Tryz.func4, Tryz.ntmps4
    go_wp2_with fail
    refine (HD.out _).mono ?_
    rintro e w1 ⟨t1, rfl, ht1, b1⟩
    have l1 : t1.size ≤ 2 := by rw [bs_str ht1]; exact (dig_len x).2
    have HT1 := Lib.hid ht1
    have hs1 : ¬ 9223372036854775807 < 2 + t1.size := by omega
    have hs2 : ¬ 9223372036854775807 < 2 + t1.size + 1 := by omega
    have hs3 : ¬ 9223372036854775807 < 2 + t1.size + 1 + 1 := by omega
    have HB2 := Lib.hid b1
    have HC2 := Lib.hid (HC.out.step b1)
    have HP : Hid (TimesP w ((⟨#[97, 123]⟩ ++ t1) ++ ⟨#[125]⟩ : ByteArray) x (x : Int)) := Lib.hid (times_parse (m := none) HX.out (fun y' h => by cases h) (by
      simp only [bs_append, HT1.out]
      unfold timesT
      simp only [mostE, List.append_assoc]
      rfl))
    clear ht1 b1 HD HD2
    go_wp2_with fail
    refine (HP.out _ HC2.out).mono ?_
    rintro e w2 ⟨b2, ⟨ho, rfl⟩ | ⟨ho, sp, sn, sc, g, kc, rfl, hg, hc0⟩⟩
    · have HB3 := Lib.hid ((HB2.out.trans (b2.mono HB2.out.size)).alloc (by have := HB2.out.size; have := b2.size; omega) (.cells #[.int .u8 0, .slice none 0 0, .slice none 0 0, .int .i64 0, .int .i64 0] 27))
      have HC3 := Lib.hid (HC.out.step HB3.out)
      clear b2 HP
      unfold tooOften at ho
      rcases (show (20 < (x : Int)) ∨ (¬ 20 < (x : Int) ∧ 20 < ((x : Int))) ∨ (¬ 20 < (x : Int) ∧ ¬ 20 < ((x : Int)) ∧ 0 ≤ ((x : Int)) ∧ ((x : Int)) < x) by omega) with h1 | ⟨h1, h2⟩ | ⟨h1, h2, h3, h4⟩
      all_goals try (exfalso; omega)
      all_goals (
        go_wp2_with fail
        refine (known_c HC3.out).mono ?_
        rintro e w4 ⟨rfl, b4⟩
        go_wp2
        go_ret
        exact ⟨rfl, HB3.out.trans (b4.mono HB3.out.size)⟩)
    · have hlt2 : w2.heap.size < (w2.alloc (.cells #[.int .u8 4, .slice sp sn sc, .slice (some ⟨g, 0, none⟩) 1 kc, .int .i64 x, .int .i64 ((x : Int))] 27)).heap.size := by rw [World.size_alloc]; omega
      have hbn := (Below.refl w2.heap.size w2).alloc (Nat.le_refl _) (.cells #[.int .u8 4, .slice sp sn sc, .slice (some ⟨g, 0, none⟩) 1 kc, .int .i64 x, .int .i64 ((x : Int))] 27)
      have hkn := heap_alloc_new w2 (.cells #[.int .u8 4, .slice sp sn sc, .slice (some ⟨g, 0, none⟩) 1 kc, .int .i64 x, .int .i64 ((x : Int))] 27)
      have hc1 := (hbn.cell (p := ⟨g, 0, none⟩) hg).trans hc0
      have HB3 := Lib.hid (HB2.out.trans ((b2.trans (hbn.mono b2.size)).mono HB2.out.size))
      obtain ⟨V, hV⟩ : ∃ V, V = w2.alloc (.cells #[.int .u8 4, .slice sp sn sc, .slice (some ⟨g, 0, none⟩) 1 kc, .int .i64 x, .int .i64 ((x : Int))] 27) := ⟨_, rfl⟩
      rw [← hV] at hlt2 hkn hc1 HB3
      have HC3 := Lib.hid (HC.out.step HB3.out)
      have hgV : g < V.heap.size := by omega
      clear b2 HP hbn hc0
      unfold tooOften at ho
      rcases (show (¬ 20 < (x : Int) ∧ ¬ 20 < ((x : Int)) ∧ ¬ 0 ≤ ((x : Int))) ∨ (¬ 20 < (x : Int) ∧ ¬ 20 < ((x : Int)) ∧ 0 ≤ ((x : Int)) ∧ ¬ ((x : Int)) < x) by omega) with ⟨h1, h2, h3⟩ | ⟨h1, h2, h3, h4⟩
      all_goals try (exfalso; omega)
      all_goals (
        have HKN := Lib.hid (known_c HC3.out)
        go_wp2_with fail
        rw [← hV]
        refine HKN.out.mono ?_
        rintro e w4 ⟨rfl, b4⟩
        have hk4 := (b4.block _ hlt2).trans hkn
        have d0 : w4.cell? ⟨w2.heap.size, 0, none⟩ = some (.int .u8 4) := cell_of_row w4 _ 0 _ _ _ hk4
        have d2 : w4.cell? ⟨w2.heap.size, 2, none⟩ = some (.slice (some ⟨g, 0, none⟩) 1 kc) := cell_of_row w4 _ 2 _ _ _ hk4
        have d3 : w4.cell? ⟨w2.heap.size, 3, none⟩ = some (.int .i64 x) := cell_of_row w4 _ 3 _ _ _ hk4
        have d4 : w4.cell? ⟨w2.heap.size, 4, none⟩ = some (.int .i64 ((x : Int))) := cell_of_row w4 _ 4 _ _ _ hk4
        have d5 := (b4.cell (p := ⟨g, 0, none⟩) hgV).trans hc1
        have HB4 := Lib.hid (HB3.out.trans (b4.mono HB3.out.size))
        clear hkn hk4 hc1 b4 HB3 HKN hV
        go_wp2
        go_ret
        exact ⟨rfl, HB4.out⟩)
  · go_enter Tryz.func4, Tryz.ntmps4
    go_wp2_with fail
    refine (HD.out _).mono ?_
    rintro e w1 ⟨t1, rfl, ht1, b1⟩
    have l1 : t1.size ≤ 2 := by rw [bs_str ht1]; exact (dig_len x).2
    have HT1 := Lib.hid ht1
    have hs1 : ¬ 9223372036854775807 < 2 + t1.size := by omega
    have hs2 : ¬ 9223372036854775807 < 2 + t1.size + 1 := by omega
    have hs3 : ¬ 9223372036854775807 < 2 + t1.size + 1 + 1 := by omega
    have HB2 := Lib.hid b1
    have HC2 := Lib.hid (HC.out.step b1)
    have HP : Hid (TimesP w (((⟨#[97, 123]⟩ ++ t1) ++ ⟨#[44]⟩) ++ ⟨#[125]⟩ : ByteArray) x (-1 : Int)) := Lib.hid (times_parse (m := some none) HX.out (fun y' h => by simp at h) (by
      simp only [bs_append, HT1.out]
      unfold timesT
      simp only [mostE, List.append_assoc]
      rfl))
    clear ht1 b1 HD HD2
    go_wp2_with fail
    refine (HP.out _ HC2.out).mono ?_
    rintro e w2 ⟨b2, ⟨ho, rfl⟩ | ⟨ho, sp, sn, sc, g, kc, rfl, hg, hc0⟩⟩
    · have HB3 := Lib.hid ((HB2.out.trans (b2.mono HB2.out.size)).alloc (by have := HB2.out.size; have := b2.size; omega) (.cells #[.int .u8 0, .slice none 0 0, .slice none 0 0, .int .i64 0, .int .i64 0] 27))
      have HC3 := Lib.hid (HC.out.step HB3.out)
      clear b2 HP
      unfold tooOften at ho
      rcases (show (20 < (x : Int)) ∨ (¬ 20 < (x : Int) ∧ 20 < ((-1 : Int))) ∨ (¬ 20 < (x : Int) ∧ ¬ 20 < ((-1 : Int)) ∧ 0 ≤ ((-1 : Int)) ∧ ((-1 : Int)) < x) by omega) with h1 | ⟨h1, h2⟩ | ⟨h1, h2, h3, h4⟩
      all_goals try (exfalso; omega)
      all_goals (
        go_wp2_with fail
        refine (known_c HC3.out).mono ?_
        rintro e w4 ⟨rfl, b4⟩
        go_wp2
        go_ret
        exact ⟨rfl, HB3.out.trans (b4.mono HB3.out.size)⟩)
    · have hlt2 : w2.heap.size < (w2.alloc (.cells #[.int .u8 4, .slice sp sn sc, .slice (some ⟨g, 0, none⟩) 1 kc, .int .i64 x, .int .i64 ((-1 : Int))] 27)).heap.size := by rw [World.size_alloc]; omega
      have hbn := (Below.refl w2.heap.size w2).alloc (Nat.le_refl _) (.cells #[.int .u8 4, .slice sp sn sc, .slice (some ⟨g, 0, none⟩) 1 kc, .int .i64 x, .int .i64 ((-1 : Int))] 27)
      have hkn := heap_alloc_new w2 (.cells #[.int .u8 4, .slice sp sn sc, .slice (some ⟨g, 0, none⟩) 1 kc, .int .i64 x, .int .i64 ((-1 : Int))] 27)
      have hc1 := (hbn.cell (p := ⟨g, 0, none⟩) hg).trans hc0
      have HB3 := Lib.hid (HB2.out.trans ((b2.trans (hbn.mono b2.size)).mono HB2.out.size))
      obtain ⟨V, hV⟩ : ∃ V, V = w2.alloc (.cells #[.int .u8 4, .slice sp sn sc, .slice (some ⟨g, 0, none⟩) 1 kc, .int .i64 x, .int .i64 ((-1 : Int))] 27) := ⟨_, rfl⟩
      rw [← hV] at hlt2 hkn hc1 HB3
      have HC3 := Lib.hid (HC.out.step HB3.out)
      have hgV : g < V.heap.size := by omega
      clear b2 HP hbn hc0
      unfold tooOften at ho
      rcases (show (¬ 20 < (x : Int) ∧ ¬ 20 < ((-1 : Int)) ∧ ¬ 0 ≤ ((-1 : Int))) ∨ (¬ 20 < (x : Int) ∧ ¬ 20 < ((-1 : Int)) ∧ 0 ≤ ((-1 : Int)) ∧ ¬ ((-1 : Int)) < x) by omega) with ⟨h1, h2, h3⟩ | ⟨h1, h2, h3, h4⟩
      all_goals try (exfalso; omega)
      all_goals (
        have HKN := Lib.hid (known_c HC3.out)
        go_wp2_with fail
        rw [← hV]
        refine HKN.out.mono ?_
        rintro e w4 ⟨rfl, b4⟩
        have hk4 := (b4.block _ hlt2).trans hkn
        have d0 : w4.cell? ⟨w2.heap.size, 0, none⟩ = some (.int .u8 4) := cell_of_row w4 _ 0 _ _ _ hk4
        have d2 : w4.cell? ⟨w2.heap.size, 2, none⟩ = some (.slice (some ⟨g, 0, none⟩) 1 kc) := cell_of_row w4 _ 2 _ _ _ hk4
        have d3 : w4.cell? ⟨w2.heap.size, 3, none⟩ = some (.int .i64 x) := cell_of_row w4 _ 3 _ _ _ hk4
        have d4 : w4.cell? ⟨w2.heap.size, 4, none⟩ = some (.int .i64 ((-1 : Int))) := cell_of_row w4 _ 4 _ _ _ hk4
        have d5 := (b4.cell (p := ⟨g, 0, none⟩) hgV).trans hc1
        have HB4 := Lib.hid (HB3.out.trans (b4.mono HB3.out.size))
        clear hkn hk4 hc1 b4 HB3 HKN hV
        go_wp2
        go_ret
        exact ⟨rfl, HB4.out⟩)
  · go_enter Tryz.func4, Tryz.ntmps4
    go_wp2_with fail
    refine (HD.out _).mono ?_
    rintro e w1 ⟨t1, rfl, ht1, b1⟩
    have l1 : t1.size ≤ 2 := by rw [bs_str ht1]; exact (dig_len x).2
    have HT1 := Lib.hid ht1
    have hs1 : ¬ 9223372036854775807 < 2 + t1.size := by omega
    have hs2 : ¬ 9223372036854775807 < 2 + t1.size + 1 := by omega
    have hs3 : ¬ 9223372036854775807 < 2 + t1.size + 1 + 1 := by omega
    have HB1 := Lib.hid b1
    clear ht1 b1 HD
    go_wp2_with fail
    refine (HD2.out _).mono ?_
    rintro e w3 ⟨t2, rfl, ht2, b3⟩
    have l2 : t2.size ≤ 2 := by rw [bs_str ht2]; exact (dig_len y).2
    have HT2 := Lib.hid ht2
    have hs4 : ¬ 9223372036854775807 < 2 + t1.size + 1 + t2.size := by omega
    have hs5 : ¬ 9223372036854775807 < 2 + t1.size + 1 + t2.size + 1 := by omega
    have HB2 := Lib.hid (HB1.out.trans (b3.mono HB1.out.size))
    have HC2 := Lib.hid (HC.out.step HB2.out)
    have HP : Hid (TimesP w ((((⟨#[97, 123]⟩ ++ t1) ++ ⟨#[44]⟩) ++ t2) ++ ⟨#[125]⟩ : ByteArray) x (y : Int)) := Lib.hid (times_parse (m := some (some y)) HX.out (fun y' h => by simp at h; subst h; exact HY.out) (by
      simp only [bs_append, HT1.out, HT2.out]
      unfold timesT
      simp only [mostE, List.append_assoc]
      rfl))
    clear ht2 b3 HD2
    go_wp2_with fail
    refine (HP.out _ HC2.out).mono ?_
    rintro e w2 ⟨b2, ⟨ho, rfl⟩ | ⟨ho, sp, sn, sc, g, kc, rfl, hg, hc0⟩⟩
    · have HB3 := Lib.hid ((HB2.out.trans (b2.mono HB2.out.size)).alloc (by have := HB2.out.size; have := b2.size; omega) (.cells #[.int .u8 0, .slice none 0 0, .slice none 0 0, .int .i64 0, .int .i64 0] 27))
      have HC3 := Lib.hid (HC.out.step HB3.out)
      clear b2 HP
      unfold tooOften at ho
      rcases (show (20 < (x : Int)) ∨ (¬ 20 < (x : Int) ∧ 20 < ((y : Int))) ∨ (¬ 20 < (x : Int) ∧ ¬ 20 < ((y : Int)) ∧ 0 ≤ ((y : Int)) ∧ ((y : Int)) < x) by omega) with h1 | ⟨h1, h2⟩ | ⟨h1, h2, h3, h4⟩
      all_goals try (exfalso; omega)
      all_goals (
        go_wp2_with fail
        refine (known_c HC3.out).mono ?_
        rintro e w4 ⟨rfl, b4⟩
        go_wp2
        go_ret
        exact ⟨rfl, HB3.out.trans (b4.mono HB3.out.size)⟩)
    · have hlt2 : w2.heap.size < (w2.alloc (.cells #[.int .u8 4, .slice sp sn sc, .slice (some ⟨g, 0, none⟩) 1 kc, .int .i64 x, .int .i64 ((y : Int))] 27)).heap.size := by rw [World.size_alloc]; omega
      have hbn := (Below.refl w2.heap.size w2).alloc (Nat.le_refl _) (.cells #[.int .u8 4, .slice sp sn sc, .slice (some ⟨g, 0, none⟩) 1 kc, .int .i64 x, .int .i64 ((y : Int))] 27)
      have hkn := heap_alloc_new w2 (.cells #[.int .u8 4, .slice sp sn sc, .slice (some ⟨g, 0, none⟩) 1 kc, .int .i64 x, .int .i64 ((y : Int))] 27)
      have hc1 := (hbn.cell (p := ⟨g, 0, none⟩) hg).trans hc0
      have HB3 := Lib.hid (HB2.out.trans ((b2.trans (hbn.mono b2.size)).mono HB2.out.size))
      obtain ⟨V, hV⟩ : ∃ V, V = w2.alloc (.cells #[.int .u8 4, .slice sp sn sc, .slice (some ⟨g, 0, none⟩) 1 kc, .int .i64 x, .int .i64 ((y : Int))] 27) := ⟨_, rfl⟩
      rw [← hV] at hlt2 hkn hc1 HB3
      have HC3 := Lib.hid (HC.out.step HB3.out)
      have hgV : g < V.heap.size := by omega
      clear b2 HP hbn hc0
      unfold tooOften at ho
      rcases (show (¬ 20 < (x : Int) ∧ ¬ 20 < ((y : Int)) ∧ ¬ 0 ≤ ((y : Int))) ∨ (¬ 20 < (x : Int) ∧ ¬ 20 < ((y : Int)) ∧ 0 ≤ ((y : Int)) ∧ ¬ ((y : Int)) < x) by omega) with ⟨h1, h2, h3⟩ | ⟨h1, h2, h3, h4⟩
      all_goals try (exfalso; omega)
      all_goals (
        have HKN := Lib.hid (known_c HC3.out)
        go_wp2_with fail
        rw [← hV]
        refine HKN.out.mono ?_
        rintro e w4 ⟨rfl, b4⟩
        have hk4 := (b4.block _ hlt2).trans hkn
        have d0 : w4.cell? ⟨w2.heap.size, 0, none⟩ = some (.int .u8 4) := cell_of_row w4 _ 0 _ _ _ hk4
        have d2 : w4.cell? ⟨w2.heap.size, 2, none⟩ = some (.slice (some ⟨g, 0, none⟩) 1 kc) := cell_of_row w4 _ 2 _ _ _ hk4
        have d3 : w4.cell? ⟨w2.heap.size, 3, none⟩ = some (.int .i64 x) := cell_of_row w4 _ 3 _ _ _ hk4
        have d4 : w4.cell? ⟨w2.heap.size, 4, none⟩ = some (.int .i64 ((y : Int))) := cell_of_row w4 _ 4 _ _ _ hk4
        have d5 := (b4.cell (p := ⟨g, 0, none⟩) hgV).trans hc1
        have HB4 := Lib.hid (HB3.out.trans (b4.mono HB3.out.size))
        clear hkn hk4 hc1 b4 HB3 HKN hV
        go_wp2
        go_ret
        exact ⟨rfl, HB4.out⟩)
end Go.Proofs.YtahgljglleeloaaGreatDoor
