/- RxDeep's walk: twenty brackets within one another may be, one more may not. -/
import Derived.Test.YtahgljglleeloaaGreatDoorRKnown
namespace Go.Proofs.YtahgljglleeloaaGreatDoor
open Go.RowKit Go.Shelf Go.Maps SetM PropsM RxM

def deepT (k : Nat) : List Int := List.replicate k 40 ++ 97 :: List.replicate k 41
theorem deep_low (k : Nat) : Low (deepT k) := by
  intro c hc
  unfold deepT at hc
  rcases List.mem_append.1 hc with h | h
  · rw [List.eq_of_mem_replicate h]; decide
  · rcases List.mem_cons.1 h with h | h
    · rw [h]; decide
    · rw [List.eq_of_mem_replicate h]; decide
theorem deep_next (t : ByteArray) (k : Nat) (h : bs t = deepT k) : bs ((⟨#[40]⟩ ++ t) ++ ⟨#[41]⟩) = deepT (k + 1) := by
  rw [bs_append, bs_append, h]
  unfold deepT
  rw [show bs (⟨#[40]⟩ : ByteArray) = [40] from rfl, show bs (⟨#[41]⟩ : ByteArray) = [41] from rfl, List.replicate_succ, show List.replicate (k + 1) (41 : Int) = List.replicate k 41 ++ [41] from List.replicate_succ', List.append_assoc, List.append_assoc]
  rfl
theorem deep_len (k : Nat) : (deepT k).length = 2 * k + 1 := by unfold deepT; simp; omega
set_option maxRecDepth 100000 in
set_option maxHeartbeats 2000000 in
theorem rxDeep_any (n : Int) (h0 : 0 ≤ n) (w : World) (hC : Cf w w) :
    Calls Tryz.prog 7 #[.int .u8 n] w fun e w' => e = .returned (.bool true) ∧ Below w.heap.size w w' := by
  have HC := Lib.hid hC
  obtain ⟨k, hk, hk60⟩ : ∃ k : Nat, n.tmod 60 = (k : Int) ∧ k < 60 := ⟨(n.tmod 60).toNat, by rw [Int.tmod_eq_emod_of_nonneg h0]; omega, by rw [Int.tmod_eq_emod_of_nonneg h0]; omega⟩
  clear hC
  go_enter Tryz.func7, Tryz.ntmps7
  go_wp2
  go_loopg [4, 5] k (fun g s4 s5 wx => ∃ (i : Nat) (t : ByteArray), i + g = k ∧ s5 = .int .i64 i ∧ s4 = .string t ∧ Hid (bs t = deepT i) ∧ t.size = 2 * i + 1 ∧ Below w.heap.size w wx)
  case atStart => exact ⟨0, ⟨#[97]⟩, by omega, rfl, rfl, Lib.hid rfl, rfl, Below.refl _ _⟩
  case round =>
    obtain ⟨i, t, hig, rfl, rfl, HT, hts, hb⟩ := hrel
    cases gk with
    | zero =>
      have : i = k := by omega
      subst this
      have hiz : ¬ ((i : Int) < (i : Int)) := by omega
      have HB := Lib.hid hb
      have HCw := Lib.hid (HC.out.step hb)
      have hbs : bs t = U.UtfM.wr (deepT i) := by rw [HT.out, wr_low _ (deep_low i)]
      have hsc := low_len _ (deep_low i)
      by_cases h20 : i ≤ 20
      · have hz20 : (i : Int) ≤ 20 := by omega
        have HP := Lib.hid (parse_n hbs hsc (by omega) HCw.out (deep_le h20))
        clear hbs hsc hb h20
        go_wp2_with fail
        refine HP.out.mono ?_
        rintro e w1 ⟨b1, v, rfl, hv⟩
        obtain ⟨sp, sl, sc, kp, kc, hve, _⟩ := hv.read
        subst hve
        have HC1 := Lib.hid ((HCw.out.step b1).step ((Below.refl w1.heap.size w1).alloc (Nat.le_refl _) (.cells #[.int .u8 1, .slice sp sl.length sc, .slice kp 0 kc, .int .i64 0, .int .i64 0] 27)))
        have HB1 := Lib.hid (HB.out.trans (b1.mono HB.out.size))
        clear hv b1 HP
        go_wp2_with fail
        refine (known_c HC1.out).mono ?_
        rintro e w2 ⟨rfl, b2⟩
        go_wp2
        go_ret
        exact ⟨rfl, (HB1.out.alloc HB1.out.size _).trans (b2.mono (by have := HB1.out.size; rw [World.size_alloc]; omega))⟩
      · have hz20 : ¬ ((i : Int) ≤ 20) := by omega
        have HP := Lib.hid (parse_bad hbs hsc (by omega) HCw.out (by have := deep_gt (k := i) (by omega) (97 :: List.replicate i 41); exact this) 20 (by
          rw [wr_low _ (fun c hc => deep_low i c (by
            unfold deepT
            rcases List.mem_append.1 hc with h | h
            · exact List.mem_append.2 (.inl (List.mem_replicate.2 ⟨by omega, List.eq_of_mem_replicate h⟩))
            · exact List.mem_append.2 (.inr h))), List.length_append, List.length_replicate, List.length_cons, List.length_replicate]
          omega))
        clear hbs hsc hb h20
        go_wp2_with fail
        refine HP.out.mono ?_
        rintro e w1 ⟨rfl, b1⟩
        have HC1 := Lib.hid ((HCw.out.step b1).step ((Below.refl w1.heap.size w1).alloc (Nat.le_refl _) (.cells #[.int .u8 0, .slice none 0 0, .slice none 0 0, .int .i64 0, .int .i64 0] 27)))
        have HB1 := Lib.hid (HB.out.trans (b1.mono HB.out.size))
        clear b1 HP
        go_wp2_with fail
        refine (known_c HC1.out).mono ?_
        rintro e w2 ⟨rfl, b2⟩
        go_wp2
        go_ret
        exact ⟨rfl, (HB1.out.alloc HB1.out.size _).trans (b2.mono (by have := HB1.out.size; rw [World.size_alloc]; omega))⟩
    | succ g =>
      have hiz : (i : Int) < (k : Int) := by omega
      have hs1 : ¬ 9223372036854775807 < 1 + t.size := by omega
      have hs2 : ¬ 9223372036854775807 < 1 + t.size + 1 := by omega
      have HN := Lib.hid (deep_next t i HT.out)
      go_wp2
      go_roundg g
      case measure => omega
      case rel => exact ⟨i + 1, (⟨#[40]⟩ ++ t) ++ ⟨#[41]⟩, by omega, by go_num, rfl, HN, by simp only [ByteArray.size_append]; rw [hts]; show 1 + (2 * i + 1) + 1 = _; omega, hb⟩
end Go.Proofs.YtahgljglleeloaaGreatDoor
