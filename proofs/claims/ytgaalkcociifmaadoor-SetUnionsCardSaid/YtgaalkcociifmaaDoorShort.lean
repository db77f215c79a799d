
/- SetShort: heavy, short and the walk. -/
import Derived.Test.YtgaalkcociifmaaDoorSteps
import Derived.Deep.QuietTactic
import Derived.BigQuiet
namespace Go.Proofs.YtgaalkcociifmaaDoor
open Go.RowKit Go.Shelf SetM

set_option maxRecDepth 100000 in
set_option maxHeartbeats 1000000 in
theorem heavy_any (A : Option Addr) (ca : Nat) (ls : List (List Sp)) (hl : ls.length ≤ 1000000) (ht : total ls ≤ 9223372036854775807) (w : World) (hR : RowsAt w.heap.size w A ls) :
    Calls Tryd.prog 29 #[.slice A ls.length ca] w fun e w' => e = .returned (.bool (decide (80 < total ls))) ∧ w = w' := by
  have HR := Lib.hid hR
  clear hR
  go_enter Tryd.func29, Tryd.ntmps29
  go_wp2
  go_loopg [3, 4] ls.length (fun g s3 s4 wx => ∃ k : Nat, k + g = ls.length ∧ s4 = .int .i64 k ∧ s3 = .int .i64 ((flat (ls.take k)).length : Nat) ∧ w = wx)
  case atStart => exact ⟨0, by omega, rfl, by simp [flat], rfl⟩
  case round =>
    obtain ⟨k, hkg, rfl, rfl, rfl⟩ := hrel
    have hle := total_le ls k
    cases gk with
    | succ g =>
      have hk : k < ls.length := by omega
      have hkz : (k : Int) < (ls.length : Int) := by omega
      have hle2 := total_le ls (k + 1)
      obtain ⟨b, off, rfl, hb, hc⟩ := HR.out (by intro h; rw [h] at hk; simp at hk)
      obtain ⟨P, c, hcell, _, _⟩ := hc k hk
      have htk := total_take ls k hk
      have hlk : (flat (ls.take (k + 1))).length = (flat (ls.take k)).length + ls[k].length := by rw [htk, List.length_append]
      have HLK := Lib.hid hlk
      rw [hlk] at hle2
      clear htk hlk hc
      generalize (flat (ls.take k)).length = n at *
      generalize ls[k].length = m at *
      go_wp2
      go_roundg g
      case measure => omega
      case rel => exact ⟨k + 1, by omega, by go_num, by rw [HLK.out]; go_num, rfl⟩
    | zero =>
      have hkz : ¬ ((k : Int) < (ls.length : Int)) := by omega
      have htk : (flat (ls.take k)).length = total ls := by rw [List.take_of_length_le (by omega)]; rfl
      rw [htk]
      clear hle htk
      go_wp2
      go_ret
      have hd : decide ((80 : Int) < (total ls : Int)) = decide (80 < total ls) := decide_eq_decide.2 (by omega)
      refine ⟨?_, rfl⟩
      rw [← hd]; rfl
/-- What short asks of a list. -/
def ShortL (l : List Sp) : Prop := ∀ i (h : i < l.length), l[i].1 ≤ l[i].2 ∧ ((0 ≤ l[i].1 ∧ l[i].2 < 55296) ∨ (57343 < l[i].1 ∧ l[i].2 ≤ 1114111)) ∧ ∀ j (hj : j < l.length), j + 1 = i → l[j].2 + 1 < l[i].1
theorem nf_step : ∀ {l : List Sp}, Nf l → ∀ j (h : j + 1 < l.length), (l[j]'(by omega)).2 + 1 < l[j + 1].1
  | [], _, j, h => by simp at h
  | s :: t, hn, 0, h => by
    have := hn.2.1 (t[0]'(by simpa using h)) (List.getElem_mem _)
    simpa using this
  | s :: t, hn, j + 1, h => by
    have := nf_step hn.2.2 j (by simpa using h)
    simpa using this
theorem short_of {l : List Sp} {K : Int → Prop} (h : IsSet l K) (hs : ∀ r, K r → Sc r) : ShortL l := fun i hi => by
  have hle := nf_le h.1 l[i] (List.getElem_mem hi)
  have hin : ∀ r, l[i].1 ≤ r → r ≤ l[i].2 → Sc r := fun r h1 h2 => hs r ((h.2 r).1 ⟨l[i], List.getElem_mem hi, h1, h2⟩)
  have ha := hin l[i].1 (Int.le_refl _) hle
  have hb := hin l[i].2 hle (Int.le_refl _)
  have hc : ¬ (l[i].1 ≤ 55296 ∧ 55296 ≤ l[i].2) := fun hh => by have := hin 55296 hh.1 hh.2; unfold Sc at this; omega
  unfold Sc at ha hb
  refine ⟨hle, by omega, fun j hj he => ?_⟩
  subst he
  exact nf_step h.1 j hi

/-- One list, laid alone in a slice of slices. -/
theorem rows_one {W : World} {P : Option Addr} {c : Nat} {l : List Sp} (hs : Sl W P l) (hc : P = none → c = 0) :
    RowsAt (W.alloc (.cells #[.slice P l.length c] 25)).heap.size (W.alloc (.cells #[.slice P l.length c] 25)) (some ⟨W.heap.size, 0, none⟩) [l] := fun _ => by
  have hb : Below W.heap.size W (W.alloc (.cells #[.slice P l.length c] 25)) := (Below.refl _ _).alloc (Nat.le_refl _) _
  have hz : (W.alloc (.cells #[.slice P l.length c] 25)).heap.size = W.heap.size + 1 := World.size_alloc _ _
  refine ⟨_, 0, rfl, by omega, fun j hj => ?_⟩
  match j, hj with
  | 0, _ => exact ⟨P, c, by rw [cell_of_row _ W.heap.size _ _ _ _ (heap_alloc_new W _)]; rfl, hs.step hb, hc⟩
theorem total_one (l : List Sp) : total [l] = l.length := by simp [total, flat]

end Go.Proofs.YtgaalkcociifmaaDoor
