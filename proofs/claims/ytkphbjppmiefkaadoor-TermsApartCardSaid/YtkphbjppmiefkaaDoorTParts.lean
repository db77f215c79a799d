/- The program's Which and Parts. -/
import Derived.Test.YtkphbjppmiefkaaDoorTIdx
import Derived.Test.YtkphbjppmiefkaaDoorTOf
import Derived.Test.YtkphbjppmiefkaaDoorSort
import Derived.Test.YtkphbjppmiefkaaDoorRefLay
namespace TermsM
open SetM
/-- The first part that has a scalar. -/
def whichZ (ls : List (List Sp)) (r : Int) : Int := firstI (fun s => decide (Tells s r)) ls 0
/-- Has a span a scalar in common with a set? -/
def meetB (o : List Sp) (u : Sp) : Bool := decide (∃ v ∈ o, max u.1 v.1 ≤ min u.2 v.2)
/-- Places from i on. -/
def placesF (p : List Sp → Bool) : List (List Sp) → Nat → List Int
  | [], _ => []
  | s :: l, i => if p s then (i : Int) :: placesF p l (i + 1) else placesF p l (i + 1)
theorem meet_bs {o : List Sp} (ho : Nf o) {u : Sp} {i : Nat} (h1 : ∀ j (h : j < o.length), j < i → o[j].2 < u.1) (h2 : ∀ j (h : j < o.length), i ≤ j → u.1 ≤ o[j].2) :
    meetB o u = decide (∃ h : i < o.length, max u.1 o[i].1 ≤ u.2) := by
  refine decide_eq_decide.2 ⟨?_, ?_⟩
  · rintro ⟨v, hv, hm⟩
    obtain ⟨j, hj, rfl⟩ := List.mem_iff_getElem.1 hv
    have hji : i ≤ j := by
      rcases Nat.lt_or_ge j i with h | h
      · have := h1 j hj h; omega
      · exact h
    have hil : i < o.length := by omega
    refine ⟨hil, ?_⟩
    have hle := (nf_apt ho).1 _ (List.getElem_mem hil)
    rcases Nat.lt_or_ge i j with h | h
    · have := List.pairwise_iff_getElem.1 (nf_apt ho).2 i j hil hj h
      omega
    · obtain rfl : i = j := by omega
      omega
  · rintro ⟨hil, hm⟩
    have hle := (nf_apt ho).1 _ (List.getElem_mem hil)
    have := h2 i hil (Nat.le_refl _)
    exact ⟨_, List.getElem_mem hil, by omega⟩
end TermsM
namespace Go.Proofs.YtkphbjppmiefkaaDoor
open Go.RowKit Go.Shelf Go.Maps SetM TermsM
set_option maxRecDepth 100000 in
set_option maxHeartbeats 4000000 in
theorem which1_c {V : World} {B : Nat} {r : Int} {P : Option Addr} {cp : Nat} {s : List Sp} (hB : V.cell? ⟨B, 0, none⟩ = some (.int .i64 r)) (hl : s.length ≤ 1000000) (h0 : 0 < V.heap.size) (hA : Areas V) (hs : Spans V.heap.size V P s) :
    Calls Tryd.prog 36 #[.slice P s.length cp, .pointer (some ⟨B, 0, none⟩)] V fun e V' => e = .returned (.bool (decide (Tells s r))) ∧ Below V.heap.size V V' := by
  have HH := Lib.hid (has_any P cp s r (by omega) V h0 hA hs)
  clear hl h0 hA hs
  go_enter Tryd.func36, Tryd.ntmps36
  go_wp2_with fail
  refine HH.out.mono ?_
  rintro e w2 ⟨rfl, b2⟩
  go_wp2_with fail
  go_ret
  exact ⟨rfl, b2⟩
set_option maxRecDepth 100000 in
set_option maxHeartbeats 4000000 in
theorem which_c {W : World} {A : Option Addr} {n c : Nat} {ls : List (List Sp)} {r : Int} (h0 : 0 < W.heap.size) (hA : Areas W) (hn : n = ls.length) (h8 : n ≤ 1000000) (hR : Rs W A ls) (hl : ∀ s ∈ ls, s.length ≤ 1000000) :
    Calls Tryd.prog 15 #[.slice A n c, .int .i64 r] W fun e W' => e = .returned (.int .i64 (whichZ ls r)) ∧ Below W.heap.size W W' := by
  obtain ⟨U, hU⟩ : ∃ U, U = W.alloc (.cells #[.int .i64 r] 3) := ⟨_, rfl⟩
  have bU : Below W.heap.size W U := by rw [hU]; exact (Below.refl _ _).alloc (Nat.le_refl _) _
  have xU : U.heap[W.heap.size]? = some (.cells #[.int .i64 r] 3 (0, 0)) := by rw [hU]; exact heap_alloc_new W _
  have zU : W.heap.size < U.heap.size := by rw [hU, World.size_alloc]; omega
  have HI := Lib.hid (index_rows (W := U) (c := c) hn h8 (hR.step bU) 36 #[.pointer (some ⟨W.heap.size, 0, none⟩)] (enters_of Tryd.func36 (by kernel_rfl) rfl) (fun s => decide (Tells s r))
    (fun V P cp s hV hs hS => by
      have hz := hV.size
      refine which1_c (by rw [cell_of_row V _ 0 _ _ _ ((hV.block _ zU).trans xU)]; rfl) (hl s hs) (by omega) ((hA.below bU h0).below hV (by omega)) (hS.mono hz)))
  have HB := Lib.hid bU
  clear hn h8 hR hl bU xU zU hA h0
  go_enter Tryd.func15, Tryd.ntmps15
  go_wp2_with fail
  rw [← hU]
  refine HI.out.mono ?_
  rintro e w2 ⟨rfl, b2⟩
  have HB2 := Lib.hid (HB.out.trans (b2.mono HB.out.size))
  clear b2 hU
  go_wp2_with fail
  go_ret
  exact ⟨rfl, HB2.out⟩
theorem cmp_neg (b lo : Int) : Lib.compareInt b lo < 0 ↔ b < lo := by
  unfold Lib.compareInt
  by_cases h : b < lo
  · simp [h]
  · by_cases h2 : lo < b
    · simp [h, h2]
    · simp [h, h2]
set_option maxRecDepth 100000 in
set_option maxHeartbeats 4000000 in
theorem cmp_c {V : World} {a b lo : Int} :
    Calls Tryd.prog 52 #[.agg #[.int .i64 a, .int .i64 b], .int .i64 lo] V fun e V' => ∃ x : Int, e = .returned (.int .i64 x) ∧ (x < 0 ↔ b < lo) ∧ Below V.heap.size V V' := by
  have hcon := fun W' => AnyG.cmp_Compare_int Tryd.cmpInt b lo W'
  change ∀ W', Calls Tryd.prog 53 _ _ _ at hcon
  have hneg := cmp_neg b lo
  generalize Lib.compareInt b lo = x at hcon hneg
  have HX := Lib.hid hneg
  clear hneg
  go_enter Tryd.func52, Tryd.ntmps52
  go_wp2_with (go_at_call 53; refine (hcon _).mono ?_; rintro e w' ⟨rfl, rfl⟩)
  go_ret
  exact ⟨x, rfl, HX.out, (Below.refl _ _).alloc (Nat.le_refl _) _⟩
/-- What the search hands back: how many end below. -/
def BsPost (o : List Sp) (n : Nat) (lo : Int) (W : World) (e : Ending) (W' : World) : Prop :=
  ∃ (i : Nat) (fb : Bool), e = .returned (.tuple #[.int .i64 i, .bool fb]) ∧ i ≤ n ∧ (∀ j (h : j < o.length), j < i → o[j].2 < lo) ∧ (∀ j (h : j < o.length), i ≤ j → lo ≤ o[j].2) ∧ Below W.heap.size W W'
set_option maxRecDepth 100000 in
set_option maxHeartbeats 4000000 in
theorem bs_c {W : World} {A : Option Addr} {n c : Nat} {o : List Sp} {lo : Int} (hn : n = o.length) (h8 : n ≤ 1000000) (hS : Sl0 W A o) (ho : Nf o) :
    Calls Tryd.prog 51 #[.slice A n c, .int .i64 lo, .func (.func 52) #[] #[]] W (BsPost o n lo W) := by
  have HN := Lib.hid hn
  have HS := Lib.hid hS
  have HM : Hid (∀ i j (hi : i < o.length) (hj : j < o.length), i ≤ j → o[i].2 ≤ o[j].2) := Lib.hid (fun i j hi hj hij => by
    rcases Nat.lt_or_ge i j with h | h
    · have h1 := List.pairwise_iff_getElem.1 (nf_apt ho).2 i j hi hj h
      have h2 := (nf_apt ho).1 _ (List.getElem_mem hj)
      omega
    · obtain rfl : i = j := by omega
      exact Int.le_refl _)
  have eg := enters_of Tryd.func52 (by kernel_rfl) rfl
  clear hn hS ho
  go_enter Tryd.func51, Tryd.ntmps51
  go_wp2_with fail
  go_loopg [9, 10] n (fun kx s9 s10 wx => ∃ a b : Nat, s9 = .int .i64 a ∧ s10 = .int .i64 b ∧ a ≤ b ∧ b ≤ n ∧ b - a ≤ kx ∧ Hid (Below W.heap.size W wx) ∧ Hid ((∀ j (h : j < o.length), j < a → o[j].2 < lo) ∧ (∀ j (h : j < o.length), b ≤ j → lo ≤ o[j].2)))
  case atStart => exact ⟨0, n, rfl, rfl, Nat.zero_le _, Nat.le_refl _, by omega, Lib.hid (Below.refl _ _), Lib.hid ⟨fun j _ h => absurd h (Nat.not_lt_zero _), fun j h h' => by have := HN.out; omega⟩⟩
  case round =>
    obtain ⟨a, b, rfl, rfl, hab, hbn, hg, HB, HI⟩ := hrel
    by_cases hlt : a < b
    · have hml : (a + b) / 2 < o.length := by have := HN.out; omega
      obtain ⟨bb, off, rfl, hbb, hc⟩ := HS.out (by intro h; rw [h] at hml; simp at hml)
      obtain ⟨h1, h2⟩ := hc _ hml
      have c0 := (HB.out.cell (p := ⟨bb, off + (a + b) / 2 * 2, none⟩) hbb).trans h1
      have c1 := (HB.out.cell (p := ⟨bb, off + (a + b) / 2 * 2 + 1, none⟩) hbb).trans h2
      obtain ⟨u, hu⟩ : ∃ u, u = o[(a + b) / 2] := ⟨_, rfl⟩
      have HU := Lib.hid hu
      rw [← hu] at c0 c1
      obtain ⟨x, hx⟩ : ∃ x, x = u.1 := ⟨_, rfl⟩
      obtain ⟨y, hy⟩ : ∃ y, y = u.2 := ⟨_, rfl⟩
      rw [← hx] at c0
      rw [← hy] at c1
      have HY := Lib.hid hy
      clear hu hx hy h1 h2 hc
      go_wp2_with fail
      refine cmp_c.mono ?_
      rintro e w2 ⟨v, rfl, hv, b2⟩
      have HV := Lib.hid hv
      have HB2 := Lib.hid (HB.out.trans (b2.mono HB.out.size))
      clear hv b2 c0 c1
      by_cases hv0 : v < 0
      · have HI2 : Hid ((∀ j (h : j < o.length), j < (a + b) / 2 + 1 → o[j].2 < lo) ∧ (∀ j (h : j < o.length), b ≤ j → lo ≤ o[j].2)) := Lib.hid ⟨fun j h hj => by
          have h1 := HV.out.1 hv0
          have h2 := HM.out j _ h hml (by omega)
          rw [← HU.out, ← HY.out] at h2
          omega, HI.out.2⟩
        go_wp2_with fail
        go_roundg (b - ((a + b) / 2 + 1))
        case measure => omega
        case rel => exact ⟨(a + b) / 2 + 1, b, by rw [show ((a : Int) + (b : Int)) / 2 + 1 = (((a + b) / 2 + 1 : Nat) : Int) by omega], rfl, by omega, hbn, Nat.le_refl _, HB2, HI2⟩
      · have HI2 : Hid ((∀ j (h : j < o.length), j < a → o[j].2 < lo) ∧ (∀ j (h : j < o.length), (a + b) / 2 ≤ j → lo ≤ o[j].2)) := Lib.hid ⟨HI.out.1, fun j h hj => by
          have h1 : ¬ y < lo := fun h9 => hv0 (HV.out.2 h9)
          have h2 := HM.out _ j hml h hj
          rw [← HU.out, ← HY.out] at h2
          omega⟩
        go_wp2_with fail
        go_roundg ((a + b) / 2 - a)
        case measure => omega
        case rel => exact ⟨a, (a + b) / 2, rfl, by rw [show ((a : Int) + (b : Int)) / 2 = (((a + b) / 2 : Nat) : Int) by omega], by omega, by omega, Nat.le_refl _, HB2, HI2⟩
    · obtain rfl : a = b := by omega
      have hnl : ¬ (a : Int) < (a : Int) := by omega
      by_cases han : a < n
      · have hml : a < o.length := by have := HN.out; omega
        have hanz : (a : Int) < (n : Int) := by omega
        obtain ⟨bb, off, rfl, hbb, hc⟩ := HS.out (by intro h; rw [h] at hml; simp at hml)
        obtain ⟨h1, h2⟩ := hc _ hml
        have c0 := (HB.out.cell (p := ⟨bb, off + a * 2, none⟩) hbb).trans h1
        have c1 := (HB.out.cell (p := ⟨bb, off + a * 2 + 1, none⟩) hbb).trans h2
        obtain ⟨x, hx⟩ : ∃ x, x = o[a].1 := ⟨_, rfl⟩
        obtain ⟨y, hy⟩ : ∃ y, y = o[a].2 := ⟨_, rfl⟩
        rw [← hx] at c0
        rw [← hy] at c1
        clear hx hy h1 h2 hc
        go_wp2_with fail
        refine cmp_c.mono ?_
        rintro e w2 ⟨v, rfl, hv, b2⟩
        have HB2 := Lib.hid (HB.out.trans (b2.mono HB.out.size))
        clear hv b2 c0 c1
        go_wp2_with fail
        go_ret2
        exact ⟨a, _, rfl, hbn, HI.out.1, HI.out.2, HB2.out⟩
      · have hanz : ¬ (a : Int) < (n : Int) := by omega
        go_wp2_with fail
        go_ret2
        exact ⟨a, _, rfl, hbn, HI.out.1, HI.out.2, HB.out⟩
set_option maxRecDepth 100000 in
set_option maxHeartbeats 4000000 in
theorem meets1_c {V : World} {B n c : Nat} {P : Option Addr} {o : List Sp} {u : Sp} (hn : n = o.length) (h8 : n ≤ 1000000) (hB : V.cell? ⟨B, 0, none⟩ = some (.slice P n c)) (hS : Sl0 V P o) (ho : Nf o) :
    Calls Tryd.prog 50 #[.agg #[.int .i64 u.1, .int .i64 u.2], .pointer (some ⟨B, 0, none⟩)] V fun e V' => e = .returned (.bool (meetB o u)) ∧ Below V.heap.size V V' := by
  obtain ⟨x, hx⟩ : ∃ x, x = u.1 := ⟨_, rfl⟩
  obtain ⟨y, hy⟩ : ∃ y, y = u.2 := ⟨_, rfl⟩
  obtain ⟨U, hU⟩ : ∃ U, U = V.alloc (.cells #[.int .i64 x, .int .i64 y] 42) := ⟨_, rfl⟩
  have bU : Below V.heap.size V U := by rw [hU]; exact (Below.refl _ _).alloc (Nat.le_refl _) _
  have xU : U.heap[V.heap.size]? = some (.cells #[.int .i64 x, .int .i64 y] 42 (0, 0)) := by rw [hU]; exact heap_alloc_new V _
  have zU : V.heap.size < U.heap.size := by rw [hU, World.size_alloc]; omega
  have hBl := cell_in hB
  have HB0 := Lib.hid hB
  have hBU : U.cell? ⟨B, 0, none⟩ = some (.slice P n c) := (bU.cell (p := ⟨B, 0, none⟩) hBl).trans hB
  obtain ⟨⟨a0, a1⟩, _⟩ := cells2 xU
  have HX := Lib.hid xU
  have HBU := Lib.hid bU
  have HS := Lib.hid ((Spans.below bU hS).mono bU.size : Sl0 U P o)
  have HBS := Lib.hid (bs_c (c := c) (lo := x) hn h8 HS.out ho)
  have HM : Hid (∀ i : Nat, (∀ j (h : j < o.length), j < i → o[j].2 < x) → (∀ j (h : j < o.length), i ≤ j → x ≤ o[j].2) → meetB o u = decide (∃ h : i < o.length, max x o[i].1 ≤ y)) := Lib.hid (fun i q1 q2 => by rw [hx, hy]; exact meet_bs ho (by rw [← hx]; exact q1) (by rw [← hx]; exact q2))
  have HN := Lib.hid hn
  obtain ⟨mb, hmb⟩ : ∃ mb, mb = meetB o u := ⟨_, rfl⟩
  rw [← hmb] at HM ⊢
  rw [← hx, ← hy]
  clear hn hB hS ho xU bU hx hy hmb
  go_enter Tryd.func50, Tryd.ntmps50
  go_upto_region 1 with fail
  rw [← hU]
  clear hU
  go_wp2_with fail
  refine HBS.out.mono ?_
  rintro e w2 ⟨i, fb, rfl, hi, q1, q2, b2⟩
  have hmE := HM.out i q1 q2
  obtain ⟨⟨d0, d1⟩, _⟩ := cells2 ((b2.block _ zU).trans HX.out)
  have e0 : w2.drew.cell? ⟨V.heap.size, 0, none⟩ = some (.int .i64 x) := d0
  have e1 : w2.drew.cell? ⟨V.heap.size, 1, none⟩ = some (.int .i64 y) := d1
  have hB2 : w2.cell? ⟨B, 0, none⟩ = some (.slice P n c) := (b2.cell (p := ⟨B, 0, none⟩) (by have := HBU.out.size; show B < U.heap.size; have : B < V.heap.size := hBl; omega)).trans hBU
  have eB : w2.drew.cell? ⟨B, 0, none⟩ = some (.slice P n c) := hB2
  have HR : Hid (Below V.heap.size V w2.drew) := Lib.hid ((HBU.out.trans (b2.mono HBU.out.size)).drew)
  by_cases hin : i < n
  · have hil : i < o.length := by have := HN.out; omega
    have hinz : (i : Int) < (n : Int) := by omega
    obtain ⟨bb, off, rfl, hbb, hc⟩ := HS.out (by intro h; rw [h] at hil; simp at hil)
    have hc0 := (hc i hil).1
    have f0 : w2.drew.cell? ⟨bb, off + i * 2, none⟩ = some (.int .i64 o[i].1) := (b2.cell (p := ⟨bb, off + i * 2, none⟩) hbb).trans hc0
    have hme2 : mb = decide (max x o[i].1 ≤ y) := by rw [hmE]; exact decide_eq_decide.2 ⟨fun ⟨_, h⟩ => h, fun h => ⟨hil, h⟩⟩
    obtain ⟨z, hz⟩ : ∃ z, z = o[i].1 := ⟨_, rfl⟩
    rw [← hz] at f0 hme2
    have HME := Lib.hid hme2
    clear hc hc0 hz hmE hme2 q1 q2 b2 a0 a1 d0 d1 hB2 hBU
    go_wp2_with fail
    have hi0 : (0 : Int) ≤ (i : Int) := by omega
    go_region
    all_goals
      clear e0 e1 eB f0
      go_wp2_with fail
      go_ret
      exact ⟨by rw [HME.out]; rfl, HR.out⟩
  · have hinz : ¬ (i : Int) < (n : Int) := by omega
    have HME : Hid (mb = false) := Lib.hid (by rw [hmE]; exact decide_eq_false (fun ⟨h, _⟩ => by have := HN.out; omega))
    clear hmE q1 q2 b2 a0 a1 d0 d1 hB2 hBU
    go_wp2_with fail
    go_region
    all_goals
      clear e0 e1 eB
      go_wp2_with fail
      go_ret
      exact ⟨by rw [HME.out]; rfl, HR.out⟩
theorem own_below {W W' : World} {base e s n : Nat} {v : Value} {xs : List Value} (h : W.ownsRow base e s v n xs) (hb : Below W.heap.size W W') : W'.ownsRow base e s v n xs :=
  h.kept (row := none) ⟨hb.os, hb.tape, hb.output, hb.size, fun k hk _ => hb.block k hk⟩ (by cases v.ownBlock <;> simp)
theorem meets_c (P : Option Addr) (n c : Nat) (w : World) : Calls Tryd.prog 38 #[.slice P n c] w fun e w' => e = .returned (.func (.func 50) #[] #[.pointer (some ⟨w.heap.size, 0, none⟩)]) ∧ w' = w.alloc (.cells #[.slice P n c] 28) := by
  go_enter Tryd.func38, Tryd.ntmps38
  go_wp2
  go_ret
  exact ⟨by simp, rfl⟩
theorem places_drop (p : List Sp → Bool) (ls : List (List Sp)) {i : Nat} (h : i < ls.length) : placesF p (ls.drop i) i = if p ls[i] then (i : Int) :: placesF p (ls.drop (i + 1)) (i + 1) else placesF p (ls.drop (i + 1)) (i + 1) := by
  rw [List.drop_eq_getElem_cons h, placesF]
set_option maxRecDepth 100000 in
set_option maxHeartbeats 4000000 in
theorem parts_c {W : World} {A Q : Option Addr} {n c k d : Nat} {ls : List (List Sp)} {s : List Sp} (h0 : 0 < W.heap.size) (hA : Areas W) (hn : n = ls.length) (h8 : n ≤ 10000) (hR : Rs W A ls) (hl : ∀ s ∈ ls, s.length ≤ 1000000) (hk : k = s.length) (hk8 : k ≤ 100000) (hS : Sl0 W Q s) :
    Calls Tryd.prog 18 #[.slice A n c, .slice Q k d] W fun e W' => ∃ P cp o l, e = .returned (.slice P (List.length l) cp) ∧ Zs W' P l ∧ Nf o ∧ (∀ r, Mem o r ↔ Tells s r) ∧ l = placesF (fun x => decide (∃ u ∈ x, meetB o u = true)) ls 0 ∧ Below W.heap.size W W' := by
  have HNM := Lib.hid (norm_any Q d s (by omega) W h0 hA hS)
  have HN := Lib.hid hn
  have HR := Lib.hid hR
  have HL := Lib.hid hl
  have HK := Lib.hid hk
  rw [hk]
  clear hn hR hl hS hA h0 hk
  go_enter Tryd.func18, Tryd.ntmps18
  go_wp2_with fail
  refine HNM.out.mono ?_
  rintro e w1 ⟨v, o, rfl, q1, q2, q3, q4, q5⟩
  obtain ⟨Po, co, hv, hso⟩ := spans_of q4
  subst hv
  obtain ⟨no, hno⟩ : ∃ no, no = o.length := ⟨_, rfl⟩
  rw [← hno]
  have HNO := Lib.hid hno
  have HO := Lib.hid (And.intro q1 (And.intro q2 q3))
  have HSO := Lib.hid hso
  have HB1 := Lib.hid q5
  clear q1 q2 q3 q4 q5 hso hno HNM
  go_wp2_with fail
  refine (meets_c _ _ _ _).mono ?_
  rintro e w2 ⟨rfl, hw2⟩
  obtain ⟨b1, hb1⟩ : ∃ b1, b1 = w1.heap.size := ⟨_, rfl⟩
  rw [← hb1]
  have bV : Below w1.heap.size w1 w2 := by rw [hw2]; exact (Below.refl _ _).alloc (Nat.le_refl _) _
  have xV : w2.heap[b1]? = some (.cells #[.slice Po no co] 28 (0, 0)) := by rw [hw2, hb1]; exact heap_alloc_new w1 _
  have HX := Lib.hid xV
  have HB2 := Lib.hid (HB1.out.trans (bV.mono HB1.out.size))
  have HSO2 : Hid (Sl0 w2 Po o) := Lib.hid ((Spans.below bV HSO.out).mono bV.size)
  have hno8 : no ≤ 1000000 := by have := HNO.out; have := HO.out.2.2; have := HK.out; omega
  have eg := enters_of Tryd.func50 (by kernel_rfl) rfl
  obtain ⟨p, hp⟩ : ∃ p : List Sp → Bool, p = fun x => decide (∃ u ∈ x, meetB o u = true) := ⟨_, rfl⟩
  have HP := Lib.hid hp
  obtain ⟨i0, hi, hz0, hz1, hz2⟩ := info_parts infoI8
  clear hw2 hb1 bV xV hp
  go_wp2_with fail
  go_loopg [5, 14] n (fun g s5 s14 wx => ∃ (i : Nat) (l : List Int), i + g = n ∧ s14 = .int .i64 i ∧ Hid (placesF p ls 0 = l ++ placesF p (ls.drop i) i) ∧ wx.ownsRow w2.heap.size 3 1 s5 l.length (l.map (Value.int .i64)) ∧ l.length ≤ i ∧ Hid (Below w2.heap.size w2 wx))
  case atStart => exact ⟨0, [], by omega, rfl, Lib.hid rfl, World.ownsRow_nil _ _ _ _, Nat.le_refl _, Lib.hid (Below.refl _ _)⟩
  case round =>
    obtain ⟨i, l, hig, rfl, HE, hown, hli, HB⟩ := hrel
    have HIG := Lib.hid hig
    cases gk with
    | zero =>
      obtain rfl : i = n := by omega
      have hlt : ¬ (i : Int) < (i : Int) := by omega
      have hE : placesF p ls 0 = l := by
        rw [HE.out, List.drop_of_length_le (by have := HN.out; omega)]
        simp [placesF]
      obtain ⟨P9, c9, h9, hz9⟩ := ints_of hown
      subst h9
      have HF : Hid (Zs wr P9 l ∧ l = placesF p ls 0 ∧ Below W.heap.size W wr) := Lib.hid ⟨fun hne => by
        obtain ⟨b, off, k1, k2, k3⟩ := hz9.1 hne
        exact ⟨b, off, k1, k2, k3⟩, hE.symm, HB2.out.trans (HB.out.mono HB2.out.size)⟩
      obtain ⟨nl, hnl⟩ : ∃ nl, nl = l.length := ⟨_, rfl⟩
      rw [← hnl]
      have HNL := Lib.hid hnl
      clear hown hE hz9 hnl hli
      go_wp2_with fail
      go_ret
      exact ⟨P9, c9, o, l, by rw [← HNL.out]; rfl, HF.out.1, HO.out.1, HO.out.2.1, by rw [← HP.out]; exact HF.out.2.1, HF.out.2.2⟩
    | succ g =>
      have hlt : (i : Int) < (n : Int) := by omega
      have hil : i < ls.length := by have := HN.out; omega
      obtain ⟨b, off, rfl, hb, hrow⟩ := HR.out (by intro h; rw [h] at hil; simp at hil)
      obtain ⟨Px, cx, h1, h2, h3⟩ := hrow i hil
      have hBW := HB2.out.trans (HB.out.mono HB2.out.size)
      have c0 := (hBW.cell (p := ⟨b, off + i, none⟩) hb).trans h1
      have hzW := hBW.size
      have hz2w := HB.out.size
      have HC := Lib.hid (contains_spans (W := wr) (c := cx) (n := ls[i].length) (ls := ls[i]) rfl (HL.out _ (List.getElem_mem hil)) ((h2.below hBW).mono hzW) 50 #[.pointer (some ⟨b1, 0, none⟩)] eg (meetB o) (fun V u hV hu => by
        have hlx := (Array.getElem?_eq_some_iff.1 HX.out).1
        refine meets1_c HNO.out hno8 (by rw [cell_of_row V _ 0 _ _ _ ((hV.block _ (by omega)).trans ((HB.out.block _ hlx).trans HX.out))]; rfl) ((Spans.below (HB.out.trans (hV.mono HB.out.size)) HSO2.out).mono (by have := hV.size; omega)) HO.out.1))
      have hst := places_drop p ls hil
      have hpe : p ls[i] = decide (∃ u ∈ ls[i], meetB o u = true) := by rw [HP.out]
      rw [← hpe] at HC
      obtain ⟨ns, hns⟩ : ∃ ns, ns = ls[i].length := ⟨_, rfl⟩
      rw [← hns] at c0 HC
      obtain ⟨q, hq⟩ : ∃ q, q = p ls[i] := ⟨_, rfl⟩
      rw [← hq] at HC hst
      have hE := HE.out
      rw [hst] at hE
      clear hns hq hpe h1 h2 h3 hrow hst
      cases q with
      | true =>
        rw [if_pos rfl] at hE
        have HE2 : Hid (placesF p ls 0 = (l ++ [(i : Int)]) ++ placesF p (ls.drop (i + 1)) (i + 1)) := Lib.hid (by rw [hE]; simp)
        clear hE
        go_wp2_with fail
        refine HC.out.mono ?_
        rintro e w3 ⟨rfl, b3⟩
        have hown3 := own_below hown b3
        have HB3 := Lib.hid (HB.out.trans (b3.mono HB.out.size))
        have hz3 : w2.heap.size ≤ w3.heap.size := HB3.out.size
        clear hown b3 c0
        go_wp2_with (at_builtin; refine wpList_append_own _ rfl _ _ 35 rfl w2.heap.size 3 i0 (.int .i64 0) 1 8 Tryd.underlying35 hi hz0 hz1 hz2 rfl (by decide) _ _ _ rfl (hown3.alloc _) ⟨w3.heap.size, 0, none⟩ 1 1 [.int .i64 (i : Int)] rfl rfl (cell_news _ _ _) (by simp [Value.oneCell']) (by unfold maxLen; omega) (by omega) (by rw [World.size_alloc]; omega) ?_; intro v' w4 hown4 hg4 _)
        have HBN : Hid (Below w2.heap.size w2 w4) := Lib.hid (((HB3.out.alloc hz3 _).grown hg4 (by rw [World.size_alloc]; omega) (fun j hj => (hown3.lt j hj).1)))
        have HOW : Hid (w4.ownsRow w2.heap.size 3 1 v' (l ++ [(i : Int)]).length ((l ++ [(i : Int)]).map (Value.int .i64))) := Lib.hid (by rw [List.map_append, List.length_append]; exact hown4)
        clear hown3 hown4 hg4
        go_wp2_with fail
        go_roundg g
        case measure => omega
        case rel => exact ⟨i + 1, l ++ [(i : Int)], by have := HIG.out; omega, by go_num, HE2, HOW.out, by rw [List.length_append]; simp; omega, HBN⟩
      | false =>
        rw [if_neg (by simp)] at hE
        have HE2 := Lib.hid hE
        clear hE
        go_wp2_with fail
        refine HC.out.mono ?_
        rintro e w3 ⟨rfl, b3⟩
        have hown3 := own_below hown b3
        have HB3 := Lib.hid (HB.out.trans (b3.mono HB.out.size))
        clear hown b3 c0
        go_wp2_with fail
        go_roundg g
        case measure => omega
        case rel => exact ⟨i + 1, l, by have := HIG.out; omega, by go_num, HE2, hown3, by omega, HB3⟩
end Go.Proofs.YtkphbjppmiefkaaDoor
