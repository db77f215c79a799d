/- The law's text: words put together as choices say. -/
import Derived.Test.YtdcnfflleaplnaaGreatDoorRN
import Derived.Test.YtdcnfflleaplnaaGreatDoorKIT
namespace Go.Proofs.YtdcnfflleaplnaaGreatDoor
open Go.RowKit Go.Shelf Go.Maps SetM PropsM RxM

/-- The law's words, and what scalars they are. -/
def wordsL : List ByteArray := [⟨#[97]⟩, ⟨#[98]⟩, ⟨#[99]⟩, ⟨#[75]⟩, ⟨#[107]⟩, ⟨#[46]⟩, ⟨#[124]⟩, ⟨#[42]⟩, ⟨#[43]⟩, ⟨#[63]⟩, ⟨#[40]⟩, ⟨#[41]⟩, ⟨#[40, 63, 105, 58]⟩, ⟨#[91, 97, 45, 99, 93]⟩, ⟨#[91, 94, 97, 93]⟩, ⟨#[91, 93]⟩, ⟨#[123, 50, 125]⟩, ⟨#[123, 49, 44, 125]⟩, ⟨#[123, 48, 44, 51, 125]⟩, ⟨#[123, 68, 125]⟩, ⟨#[92, 112, 123, 100, 105, 103, 105, 116, 125]⟩, ⟨#[92, 120, 123, 51, 98, 49, 125]⟩, ⟨#[92, 110]⟩, ⟨#[92, 46]⟩, ⟨#[91, 92, 112, 123, 104, 101, 120, 125, 122, 93]⟩, ⟨#[195, 169]⟩, ⟨#[91, 206, 177, 45, 207, 137, 93]⟩, ⟨#[40, 41]⟩, ⟨#[40, 97, 124, 98, 41]⟩, ⟨#[120]⟩]
def wordsS : List (List Int) := [[97], [98], [99], [75], [107], [46], [124], [42], [43], [63], [40], [41], [40, 63, 105, 58], [91, 97, 45, 99, 93], [91, 94, 97, 93], [91, 93], [123, 50, 125], [123, 49, 44, 125], [123, 48, 44, 51, 125], [123, 68, 125], [92, 112, 123, 100, 105, 103, 105, 116, 125], [92, 120, 123, 51, 98, 49, 125], [92, 110], [92, 46], [91, 92, 112, 123, 104, 101, 120, 125, 122, 93], [233], [91, 945, 45, 969, 93], [40, 41], [40, 97, 124, 98, 41], [120]]
abbrev wordsV : Array Value := #[.string ⟨#[97]⟩, .string ⟨#[98]⟩, .string ⟨#[99]⟩, .string ⟨#[75]⟩, .string ⟨#[107]⟩, .string ⟨#[46]⟩, .string ⟨#[124]⟩, .string ⟨#[42]⟩, .string ⟨#[43]⟩, .string ⟨#[63]⟩, .string ⟨#[40]⟩, .string ⟨#[41]⟩, .string ⟨#[40, 63, 105, 58]⟩, .string ⟨#[91, 97, 45, 99, 93]⟩, .string ⟨#[91, 94, 97, 93]⟩, .string ⟨#[91, 93]⟩, .string ⟨#[123, 50, 125]⟩, .string ⟨#[123, 49, 44, 125]⟩, .string ⟨#[123, 48, 44, 51, 125]⟩, .string ⟨#[123, 68, 125]⟩, .string ⟨#[92, 112, 123, 100, 105, 103, 105, 116, 125]⟩, .string ⟨#[92, 120, 123, 51, 98, 49, 125]⟩, .string ⟨#[92, 110]⟩, .string ⟨#[92, 46]⟩, .string ⟨#[91, 92, 112, 123, 104, 101, 120, 125, 122, 93]⟩, .string ⟨#[195, 169]⟩, .string ⟨#[91, 206, 177, 45, 207, 137, 93]⟩, .string ⟨#[40, 41]⟩, .string ⟨#[40, 97, 124, 98, 41]⟩, .string ⟨#[120]⟩]
/-- Scalars of which the last is not an i. -/
def TextIs (t : ByteArray) (l : List Int) : Prop := bs t = U.UtfM.wr l ∧ (∀ c ∈ l, U.UtfM.Sc c) ∧ NI l
theorem words_ok : ∀ k : Fin 30, bs (wordsL.getD k ⟨#[]⟩) = U.UtfM.wr (wordsS.getD k []) ∧ ((wordsS.getD k []).all fun c => decide (U.UtfM.Sc c)) = true ∧ (wordsS.getD k []).getLast? ≠ some 105 ∧ wordsS.getD k [] ≠ [] ∧ (wordsL.getD k ⟨#[]⟩).size ≤ 10 := by decide
theorem word_v (k : Nat) (hk : k < 30) : wordsV[k]? = some (.string (wordsL.getD k ⟨#[]⟩)) := by
  have : wordsV = (wordsL.map Value.string).toArray := rfl
  rw [this, List.getElem?_toArray, List.getElem?_map, List.getD_eq_getElem?_getD, List.getElem?_eq_getElem (by exact hk)]
  rfl
theorem TextIs.next {t : ByteArray} {l : List Int} (h : TextIs t l) (k : Nat) (hk : k < 30) : TextIs (t ++ wordsL.getD k ⟨#[]⟩) (l ++ wordsS.getD k []) ∧ (wordsL.getD k ⟨#[]⟩).size ≤ 10 := by
  obtain ⟨h1, h2, h3, h4, h5⟩ := words_ok ⟨k, hk⟩
  dsimp only at h1 h2 h3 h4 h5
  refine ⟨⟨by rw [bs_append, h.1, h1, U.UtfM.wr_append], fun c hc => ?_, ?_⟩, h5⟩
  · rcases List.mem_append.1 hc with hc | hc
    · exact h.2.1 c hc
    · simpa using List.all_eq_true.1 h2 c hc
  · unfold NI
    rw [List.getLast?_append]
    cases hl : (wordsS.getD k []).getLast? with
    | none => exact absurd (List.getLast?_eq_none_iff.1 hl) h4
    | some c => rw [hl] at h3; simpa using h3
set_option maxRecDepth 100000 in
set_option maxHeartbeats 2000000 in
theorem text_c (A : Option Addr) (ca : Nat) (cs : List Int) (w : World) (hU : U8s w.heap.size w A cs) :
    Calls Tryz.prog 16 #[.slice A cs.length ca] w fun e w' => ∃ t, e = .returned (.string t) ∧ (∃ l, TextIs t l) ∧ t.size ≤ 400 ∧ Below w.heap.size w w' := by
  obtain ⟨n, hn⟩ : ∃ n, n = cs.length := ⟨_, rfl⟩
  rw [← hn]
  have HU : Hid (∀ V, Below w.heap.size w V → ∀ i, i < n → ∃ c : Int, ∃ b off, A = some ⟨b, off, none⟩ ∧ (0 ≤ c ∧ c ≤ 255) ∧ V.cell? ⟨b, off + i, none⟩ = some (.int .u8 c)) := Lib.hid (by
    intro V hV i hi
    obtain ⟨b, off, e, hb, hc⟩ := hU.2 (by intro e; subst e; simp at hn; omega)
    refine ⟨cs[i], b, off, e, hU.1 _ (List.getElem_mem (by omega)), ?_⟩
    have := hc i (by omega)
    exact (hV.cell (p := ⟨b, off + i, none⟩) hb).trans this)
  clear hU
  obtain ⟨V, hV⟩ : ∃ V, V = w.alloc (.cells wordsV 9) := ⟨_, rfl⟩
  have HB0 : Hid (Below w.heap.size w V) := Lib.hid (by rw [hV]; exact (Below.refl w.heap.size w).alloc (Nat.le_refl _) _)
  have HW : Hid (∀ k, k < 30 → V.cell? ⟨w.heap.size, k, none⟩ = some (.string (wordsL.getD k ⟨#[]⟩))) := Lib.hid (fun k hk => by
    rw [hV, cell_of_row _ w.heap.size k _ _ _ (heap_alloc_new w _)]
    exact word_v k hk)
  go_enter Tryz.func16, Tryz.ntmps16
  go_wp2_with fail
  rw [← hV]
  clear hV hn
  go_loopg [4, 5] n (fun g s4 s5 wx => ∃ (k : Nat) (t : ByteArray) (l : List Int), k + g = n ∧ k ≤ 40 ∧ s5 = .int .i64 k ∧ s4 = .string t ∧ Hid (TextIs t l) ∧ t.size ≤ 10 * k ∧ V = wx)
  case atStart => exact ⟨0, ⟨#[]⟩, [], by omega, by omega, rfl, rfl, Lib.hid ⟨rfl, ⟨fun c h => (by cases h), NI.nil⟩⟩, by decide, rfl⟩
  case round =>
    obtain ⟨k, t, l, hkg, hk40, rfl, rfl, HT, hts, rfl⟩ := hrel
    rcases (show k = n ∨ (k < n ∧ k = 40) ∨ (k < n ∧ k < 40) by omega) with rfl | ⟨hlt, rfl⟩ | ⟨hlt, h40⟩
    · have hnl : ¬ ((k : Int) < (k : Int)) := by omega
      go_wp2
      go_ret
      exact ⟨t, rfl, ⟨l, HT.out⟩, by omega, HB0.out⟩
    · have h1 : ((40 : Nat) : Int) < (n : Int) := by omega
      have h2 : ¬ (((40 : Nat) : Int) < 40) := by omega
      go_wp2
      go_ret
      exact ⟨t, rfl, ⟨l, HT.out⟩, by omega, HB0.out⟩
    · obtain ⟨c, b, off, rfl, ⟨hc0, hc1⟩, hc⟩ := HU.out V HB0.out k hlt
      have hwc : wrap64 c = c := IntWalk.wrap64_in _ (by omega)
      obtain ⟨m, hm, hm30⟩ : ∃ m : Nat, c.tmod 30 = (m : Int) ∧ m < 30 := ⟨(c.tmod 30).toNat, by rw [Int.tmod_eq_emod_of_nonneg hc0]; omega, by rw [Int.tmod_eq_emod_of_nonneg hc0]; omega⟩
      have hwm : wrap64 (m : Int) = (m : Int) := IntWalk.wrap64_in _ (by omega)
      have hw := HW.out m hm30
      obtain ⟨HN, hwz⟩ := HT.out.next m hm30
      have hsz : (t ++ wordsL.getD m ⟨#[]⟩).size = t.size + (wordsL.getD m ⟨#[]⟩).size := ByteArray.size_append
      have HN' := Lib.hid HN
      clear HN
      generalize wordsL.getD m ⟨#[]⟩ = u at *
      generalize wordsS.getD m [] = lu at *
      have hsx : ¬ 9223372036854775807 < t.size + u.size := by omega
      have h1 : (k : Int) < (n : Int) := by omega
      have h2 : (k : Int) < 40 := by omega
      have h3 : (0 : Int) ≤ (k : Int) := by omega
      have h4 : (0 : Int) ≤ (m : Int) := by omega
      have h5 : (m : Int) < 30 := by omega
      cases gk with
      | zero => exfalso; omega
      | succ gk =>
        go_wp2
        go_roundg gk
        case measure => omega
        case rel => exact ⟨k + 1, t ++ u, l ++ lu, by omega, by omega, rfl, rfl, HN', by omega, rfl⟩
end Go.Proofs.YtdcnfflleaplnaaGreatDoor
