/- FoldSmall's walk: what is folded to is folded no further; great letters of ascii are their small ones. -/
import Derived.Test.YtmmghgfkpndokaaDoorFKnown
namespace Go.Proofs.YtmmghgfkpndokaaDoor
open Go.RowKit Go.Shelf SetM

theorem small_great (x : Int) (h1 : 65 ≤ x) (h2 : x ≤ 90) : foldF x = x + 32 := by have := foldF_spec x; omega
theorem small_other (x : Int) (h0 : 0 ≤ x) (h1 : x < 128) (h2 : x < 65 ∨ 90 < x) : foldF x = x := by have := foldF_spec x; omega
set_option maxRecDepth 100000 in
set_option maxHeartbeats 400000 in
theorem foldSmall_any (c : Int) (h0 : 0 ≤ c) (h1 : c ≤ 255) (w : World) (hC : Cf w w) :
    Calls Tryd.prog 3 #[.int .u8 c] w fun e w' => e = .returned (.bool true) ∧ Below w.heap.size w w' := by
  have HC := Lib.hid hC
  clear hC
  have hx0 : 0 ≤ c % 128 := by omega
  have hx1 : c % 128 < 128 := by omega
  have hcase : (65 ≤ c % 128 ∧ c % 128 ≤ 90) ∨ c % 128 < 65 ∨ 90 < c % 128 := by omega
  have hf := fun W (hW : Cf w W) => fold_c (c % 128) hW
  have hff := fun W (hW : Cf w W) => fold_c (foldF (c % 128)) hW
  have hid := foldF_idem (c % 128)
  rw [hid] at hff
  clear hid
  rcases hcase with ⟨h2, h3⟩ | h2
  · rw [small_great _ h2 h3] at hf hff
    have HF := Lib.hid hf
    have HFF := Lib.hid hff
    clear hf hff
    go_enter Tryd.func3, Tryd.ntmps3
    go_wp2_with fail
    trace_state
    refine (HF.out _ HC.out).mono ?_
    rintro e w1 ⟨rfl, b1⟩
    have HC1 := Lib.hid (HC.out.step b1)
    go_wp2_with fail
    refine (known_c HC1.out).mono ?_
    rintro e w2 ⟨rfl, b2⟩
    have HC2 := Lib.hid (HC1.out.step b2)
    have hb2 := b1.trans (b2.mono b1.size)
    go_wp2_with fail
    refine (HFF.out _ HC2.out).mono ?_
    rintro e w3 ⟨rfl, b3⟩
    have hb3 := hb2.trans (b3.mono hb2.size)
    go_wp2
    go_ret
    exact ⟨rfl, hb3⟩
  · rw [small_other _ hx0 hx1 h2] at hf hff
    have HF := Lib.hid hf
    have HFF := Lib.hid hff
    clear hf hff
    rcases h2 with h2 | h2
    all_goals
      go_enter Tryd.func3, Tryd.ntmps3
      go_wp2_with fail
      refine (HF.out _ HC.out).mono ?_
      rintro e w1 ⟨rfl, b1⟩
      have HC1 := Lib.hid (HC.out.step b1)
      go_wp2_with fail
      refine (known_c HC1.out).mono ?_
      rintro e w2 ⟨rfl, b2⟩
      have HC2 := Lib.hid (HC1.out.step b2)
      have hb2 := b1.trans (b2.mono b1.size)
      go_wp2_with fail
      refine (HFF.out _ HC2.out).mono ?_
      rintro e w3 ⟨rfl, b3⟩
      have hb3 := hb2.trans (b3.mono hb2.size)
      go_wp2
      go_ret
      exact ⟨rfl, hb3⟩
end Go.Proofs.YtmmghgfkpndokaaDoor
