/- UtfWhole: the walk. -/
import Derived.Test.YtofmkhkpgpkboaaKnown
import Derived.Deep.RegionWith
import Derived.BigRegion
namespace Go.Proofs.Ytofmkhkpgpkboaa
open Go.RowKit Go.Shelf UtfM

/-- What was not wanted yields nothing. -/
theorem yl_undef : yielded.match_1 (fun _ => Option Bool) (some undef) (fun b => some b) (fun _ => none) = none := rfl
attribute [local go_sem] yl_undef
/-- One char more. -/
theorem chars_next {l : List Int} (hb : IsBytes l) {cs : List Ch} {k a : Nat} (h : cs.drop k = chars a (l.drop a)) (hk : k < cs.length) :
    a < l.length ∧ cs[k] = ((dec (l.drop a)).1, a, (dec (l.drop a)).2) ∧ cs.drop (k + 1) = chars (a + (dec (l.drop a)).2) (l.drop (a + (dec (l.drop a)).2)) ∧ DecOk (l.drop a) := by
  rw [← List.getElem_cons_drop hk] at h
  have hne : l.drop a ≠ [] := by intro h0; rw [h0, chars_nil] at h; cases h
  have hal : a < l.length := by
    rcases Nat.lt_or_ge a l.length with h1 | h1
    · exact h1
    · exact absurd (List.drop_eq_nil_of_le h1) hne
  rw [chars_step (hb.drop a) hne, List.drop_drop] at h
  injection h with h1 h2
  exact ⟨hal, h1, h2, dec_ok (hb.drop a) hne⟩
theorem chars_end {l : List Int} (hb : IsBytes l) {a : Nat} (ha : a ≤ l.length) (h : chars a (l.drop a) = []) : a = l.length := by
  by_cases hne : l.drop a = []
  · have := congrArg List.length hne; rw [List.length_drop, List.length_nil] at this; omega
  · rw [chars_step (hb.drop a) hne] at h; cases h

set_option maxRecDepth 100000 in
set_option maxHeartbeats 4000000 in
theorem utfWhole_any (w : World) (A : Option Addr) (c : Nat) (l : List Int) (hs : By w A l) (hlc : l.length ≤ c) : Calls Try.prog 6 #[.slice A l.length c] w fun e w' => e = .returned (.bool true) ∧ Below w.heap.size w w' := by
  by_cases hbig : 1000 < l.length
  · have hbz : (1000 : Int) < (l.length : Int) := by omega
    clear hs
    go_enter Try.func6, Try.ntmps6
    go_wp2_with fail
    refine (known_c _).mono ?_
    rintro e w1 ⟨rfl, b1⟩
    go_wp2
    go_ret
    exact ⟨rfl, b1⟩
  · have hbz : ¬ ((1000 : Int) < (l.length : Int)) := by omega
    have HS := Lib.hid hs
    clear hs
    go_enter Try.func6, Try.ntmps6
    go_wp2_with fail
    refine (known_c _).mono ?_
    rintro e w1 ⟨rfl, b1⟩
    go_wp2_with fail
    refine (chars_c (HS.out.step b1) (by omega) hlc).mono ?_
    rintro e w3 ⟨P, cp, rfl, hcs, b3⟩
    have B3 := b1.trans (b3.mono b1.size)
    have HCS := Lib.hid hcs
    have HB3 := Lib.hid B3
    clear hcs b3 b1 B3
    have hcl : (chars 0 l).length ≤ 1000 := by have := chars_len_le l HS.out.1 0; omega
    have HE0 : Hid ((chars 0 l).drop 0 = chars 0 (l.drop 0)) := Lib.hid (by simp)
    generalize chars 0 l = cs at *
    go_wp2
    go_loopg [4, 5] cs.length (fun g s4 s5 wx => ∃ (k a : Nat), k + g = cs.length ∧ s5 = .int .i64 k ∧ s4 = .int .i64 a ∧ a ≤ l.length ∧ Hid (cs.drop k = chars a (l.drop a)) ∧ Below w3.heap.size w3 wx)
    case atStart => exact ⟨0, 0, by omega, rfl, rfl, by omega, HE0, Below.refl _ _⟩
    case round =>
      obtain ⟨k, a, hkg, rfl, rfl, hal, HE, hb⟩ := hrel
      have hfin := HB3.out.trans (hb.mono HB3.out.size)
      cases gk with
      | zero =>
        have hkz : ¬ ((k : Int) < (cs.length : Int)) := by omega
        have hend : a = l.length := chars_end HS.out.1 hal (by rw [← HE.out]; exact List.drop_eq_nil_of_le (by omega))
        have haz : ((a : Int) == (l.length : Int)) = true := by rw [beq_iff_eq]; omega
        clear hend
        go_wp2
        go_ret
        exact ⟨rfl, hfin⟩
      | succ g =>
        have hk : k < cs.length := by omega
        have hkz : (k : Int) < (cs.length : Int) := by omega
        obtain ⟨hal2, hck, hnx, hok⟩ := chars_next HS.out.1 HE.out hk
        have HNX := Lib.hid hnx
        obtain ⟨b, off, rfl, hbb, hc⟩ := HCS.out (by intro h; rw [h] at hk; simp at hk)
        obtain ⟨c0, c1, c2⟩ := hc k hk
        rw [hck] at c0 c1 c2
        dsimp only at c0 c1 c2
        replace c0 := (hb.cell (p := ⟨b, off + k * 3, none⟩) hbb).trans c0
        replace c1 := (hb.cell (p := ⟨b, off + k * 3 + 1, none⟩) hbb).trans c1
        replace c2 := (hb.cell (p := ⟨b, off + k * 3 + 2, none⟩) hbb).trans c2
        unfold DecOk at hok
        rw [List.length_drop] at hok
        have hsl := HS.out.step hfin
        have HSL := Lib.hid hsl
        have HFIN := Lib.hid hfin
        have HBB := Lib.hid hb
        clear hnx hc hck hsl hfin
        generalize dec (l.drop a) = p at *
        obtain ⟨r, n⟩ := p
        dsimp only at *
        obtain ⟨hn1, hn2, hr⟩ := hok
        have HR := Lib.hid hr
        have hn4 : n ≤ 4 := by
          rcases hr with h | h
          · omega
          · have h1 := enc_len_le r
            rw [h.2, List.length_take, List.length_drop] at h1
            omega
        clear hr hb
        have t1 : ((a : Int) != (a : Int)) = false := by simp
        have t2 : ¬ ((n : Int) < 1) := by omega
        have t3 : ¬ ((4 : Int) < (n : Int)) := by omega
        have t4 : ¬ ((l.length : Int) < (a : Int) + (n : Int)) := by omega
        go_wp2
        have q0 : (wr.alloc (.cells #[.int .i64 r, .int .i64 (a : Int), .int .i64 (n : Int)] 30)).cell? ⟨wr.heap.size, 0, none⟩ = some (.int .i64 r) := by go_simp
        have q2 : (wr.alloc (.cells #[.int .i64 r, .int .i64 (a : Int), .int .i64 (n : Int)] 30)).cell? ⟨wr.heap.size, 2, none⟩ = some (.int .i64 (n : Int)) := by go_simp
        have hbv : Below w3.heap.size w3 (wr.alloc (.cells #[.int .i64 r, .int .i64 (a : Int), .int .i64 (n : Int)] 30)) := HBB.out.alloc HBB.out.size _
        have hsv := HSL.out.step ((Below.refl wr.heap.size wr).alloc (Nat.le_refl _) (.cells #[.int .i64 r, .int .i64 (a : Int), .int .i64 (n : Int)] 30))
        have hsz : wr.heap.size < (wr.alloc (.cells #[.int .i64 r, .int .i64 (a : Int), .int .i64 (n : Int)] 30)).heap.size := by rw [World.size_alloc]; omega
        generalize wr.alloc (.cells #[.int .i64 r, .int .i64 (a : Int), .int .i64 (n : Int)] 30) = V at *
        generalize wr.heap.size = n6 at *
        clear c0 c1 c2 HSL HBB HFIN t1
        rcases HR.out with ⟨hr1, hr2⟩ | ⟨hr1, hr2⟩
        · subst hr1
          have t5 : ¬ ((3 : Int) < (n : Int)) := by omega
          clear hr2 hsv
          go_quiet (fail)
          go_wp2
          go_roundg g
          case measure => omega
          case rel => exact ⟨k + 1, a + n, by omega, by go_num, by go_num, by omega, HNX, ⟨hbv.os, hbv.tape, hbv.output, hbv.size, hbv.block⟩⟩
        · have hr0 : 0 ≤ r := by unfold Sc at hr1; omega
          have hrd : decide (0 ≤ r) = true := decide_eq_true hr0
          have hrl : decide (r < 0) = false := decide_eq_false (by omega)
          obtain ⟨bA, oA, rfl, _, _⟩ := HS.out.2 (by intro h; rw [h] at hal2; simp at hal2)
          have hkc : ¬ (c = a) := by omega
          have hcut : ∀ U, By U (some ⟨bA, oA, none⟩) l → (convert 23 9 (.slice (some ⟨bA, oA + a, none⟩) n (c - a))).run Try.prog U = .ok (.string (strOfNums (enc r))) U := fun U hU => by
            have h1 := (hU.drop a).take n
            have h2 : ((l.drop a).take n).length = n := by rw [List.length_take, List.length_drop]; omega
            have h3 := conv_c (c := c - a) h1 (fun h => by rw [h] at h2; simp at h2; omega)
            rw [h2, ← hr2] at h3
            exact h3
          have HCUT := Lib.hid hcut
          have i0 : (0 : Int) ≤ (a : Int) + (n : Int) := by omega
          have i1 : ((a : Int) + (n : Int)).toNat = a + n := by omega
          have i2 : IntKind.i64.wrap ((a : Int) + (n : Int)) = (a : Int) + (n : Int) := IntWalk.i64_in _ (by omega)
          have i3 : (a : Int) ≤ (a : Int) + (n : Int) := by omega
          have i4 : (a : Int) + (n : Int) ≤ (c : Int) := by omega
          have i5 : (0 : Int) ≤ (a : Int) := by omega
          have hrf : Below V.heap.size V V.drew := below_drewN (Below.refl _ _) 1
          have hq0 : ∀ U, Below V.heap.size V U → U.cell? ⟨n6, 0, none⟩ = some (.int .i64 r) := fun U hU => (hU.cell (p := ⟨n6, 0, none⟩) hsz).trans q0
          have hq2 : ∀ U, Below V.heap.size V U → U.cell? ⟨n6, 2, none⟩ = some (.int .i64 (n : Int)) := fun U hU => (hU.cell (p := ⟨n6, 2, none⟩) hsz).trans q2
          have hcv2 : ∀ U, Below V.heap.size V U → (convert 23 9 (.slice (some ⟨bA, oA + a, none⟩) n (c - a))).run Try.prog U = .ok (.string (strOfNums (enc r))) U := fun U hU => HCUT.out U (hsv.step hU)
          clear hcut hr2 hr1
          first | (go_region_with (first | (go_at_call 12; (with_reducible refine (enc_c r _).mono ?_); rintro e w5 ⟨P5, c5, rfl, h5, _, _, _, hp5, b5⟩; have hr5 : Below V.heap.size V w5 := hrf.trans (b5.mono hrf.size); have hcv1 := conv_c (c := c5) h5 hp5; clear h5 hp5 b5))) | fail
          all_goals
            have hfin5 := hbv.trans (hr5.mono hbv.size)
            have q5 := hq2 w5 hr5
            clear hq0 hq2 hcv2 hrf hr5 hcv1
            go_wp2
            go_roundg g
            case measure => omega
            case rel => exact ⟨k + 1, a + n, by omega, by go_num, by go_num, by omega, HNX, hfin5⟩
end Go.Proofs.Ytofmkhkpgpkboaa
