/- The program's isSet: are spans a set in its one form? -/
import Derived.Test.YtioahgklplbinaaDoorNMW
namespace NfaM
open SetM WrM
/-- Spans that go on rising, from a number on. -/
def isSetF : Int → List Sp → Bool
  | _, [] => true
  | f, s :: l => if s.1 < f ∨ s.2 < s.1 ∨ 1114111 < s.2 then false else if s.1 ≤ 57343 ∧ 55296 ≤ s.2 then false else isSetF (s.2 + 2) l
theorem isSetF_iff : ∀ (l : List Sp) (f : Int), 0 ≤ f → (isSetF f l = true ↔ (Norml l ∧ ∀ s ∈ l, f ≤ s.1))
  | [], f, _ => by
    unfold isSetF Norml
    simp [Nf, Mem]
  | s :: l, f, hf => by
    unfold isSetF
    by_cases h1 : s.1 < f ∨ s.2 < s.1 ∨ 1114111 < s.2
    · rw [if_pos h1]
      refine ⟨fun h => (by cases h), fun ⟨hN, hA⟩ => ?_⟩
      exfalso
      have h2 := hA s (by simp)
      have h3 := hN.1.1
      have h4 := hN.2 s.2 ⟨s, by simp, h3, Int.le_refl _⟩
      unfold Sc at h4
      omega
    · rw [if_neg h1]
      by_cases h2 : s.1 ≤ 57343 ∧ 55296 ≤ s.2
      · rw [if_pos h2]
        refine ⟨fun h => (by cases h), fun ⟨hN, _⟩ => ?_⟩
        exfalso
        have h3 := hN.1.1
        have h4 := hN.2 (max s.1 55296) ⟨s, by simp, by omega, by omega⟩
        unfold Sc at h4
        omega
      · rw [if_neg h2, isSetF_iff l (s.2 + 2) (by omega)]
        constructor
        · rintro ⟨hN, hA⟩
          refine ⟨⟨⟨by omega, fun u hu => by have := hA u hu; omega, hN.1⟩, fun r hr => ?_⟩, fun u hu => ?_⟩
          · rw [mem_cons] at hr
            rcases hr with hr | hr
            · unfold Sc; omega
            · exact hN.2 r hr
          · rcases List.mem_cons.1 hu with rfl | hu
            · omega
            · have := hA u hu; omega
        · rintro ⟨hN, hA⟩
          refine ⟨⟨hN.1.2.2, fun r hr => hN.2 r ((mem_cons _ _ _).2 (.inr hr))⟩, fun u hu => ?_⟩
          have h3 := hN.1.2.1 u hu
          omega
theorem isSet_norml (l : List Sp) : isSetF 0 l = true ↔ Norml l := by
  rw [isSetF_iff l 0 (Int.le_refl _)]
  refine ⟨fun h => h.1, fun h => ⟨h, fun s hs => ?_⟩⟩
  have hle : ∀ (m : List Sp), Nf m → ∀ s ∈ m, s.1 ≤ s.2 := fun m => by
    induction m with
    | nil => intro _ s h; cases h
    | cons x m ih => intro hn s hs; rcases List.mem_cons.1 hs with rfl | hs; exact hn.1; exact ih hn.2.2 s hs
  have h1 := h.2 s.1 ⟨s, hs, Int.le_refl _, hle l h.1 s hs⟩
  unfold Sc at h1
  omega
end NfaM
namespace Go.Proofs.YtioahgklplbinaaDoor
open Go.RowKit Go.Shelf Go.Maps SetM PropsM RxM WrM NfaM
theorem drop_cons {l : List Sp} {r : Nat} (h : r < l.length) : l.drop r = l[r] :: l.drop (r + 1) := by simp
set_option maxRecDepth 100000 in
set_option maxHeartbeats 8000000 in
theorem isSet_c {W : World} {P : Option Addr} {n c : Nat} {l : List Sp} (hn : n = l.length) (h8 : n ≤ 1000000) (hs : Sl W P l) : Calls Tryd.prog 36 #[.slice P n c] W fun e W' => e = .returned (.bool (isSetF 0 l)) ∧ Below W.heap.size W W' := by
  have HS := Lib.hid hs
  have HN := Lib.hid hn
  clear hs hn
  go_enter Tryd.func36, Tryd.ntmps36
  go_wp2_with fail
  go_loopg [3, 8] n (fun gk s3 s8 wx => ∃ (r : Nat) (f : Int), r + gk = n ∧ s8 = .int .i64 r ∧ s3 = .int .i64 f ∧ (0 ≤ f ∧ f ≤ 2000000) ∧ Hid (isSetF 0 l = isSetF f (l.drop r)) ∧ Hid (Below W.heap.size W wx))
  case atStart => exact ⟨0, 0, by omega, rfl, rfl, by omega, Lib.hid (by rw [List.drop_zero]), Lib.hid (Below.refl _ _)⟩
  case round =>
    obtain ⟨r, f, hrg, rfl, rfl, hf, HF, HB⟩ := hrel
    cases gk with
    | zero =>
      obtain rfl : r = n := by omega
      have hlt : ¬ (r : Int) < (r : Int) := by omega
      have HE : Hid (isSetF 0 l = true) := Lib.hid (by rw [HF.out, List.drop_of_length_le (by have := HN.out; omega)]; rfl)
      go_wp2
      go_ret
      exact ⟨by rw [HE.out]; rfl, HB.out⟩
    | succ gk =>
      have hlt : (r : Int) < (n : Int) := by omega
      have hrl : r < l.length := by have := HN.out; omega
      have h0 : (0 : Int) ≤ (r : Int) := by omega
      have hwr : wrap64 ((r : Int) + 1) = ((r + 1 : Nat) : Int) := by rw [IntWalk.wrap64_in _ (by omega)]; omega
      obtain ⟨g, o, rfl, hg, hc⟩ := (HS.out.step HB.out) (by intro e; rw [e] at hrl; cases hrl)
      obtain ⟨c1, c2⟩ := hc r hrl
      obtain ⟨s, hs⟩ : ∃ s, s = l[r] := ⟨_, rfl⟩
      rw [← hs] at c1 c2
      have HD : Hid (isSetF 0 l = (if s.1 < f ∨ s.2 < s.1 ∨ 1114111 < s.2 then false else if s.1 ≤ 57343 ∧ 55296 ≤ s.2 then false else isSetF (s.2 + 2) (l.drop (r + 1)))) := Lib.hid (by rw [HF.out, drop_cons hrl, isSetF, ← hs])
      obtain ⟨x, y⟩ := s
      dsimp only at c1 c2 HD
      have hal : Hid (Below W.heap.size W (wr.alloc (.cells #[.int .i64 x, .int .i64 y] 52))) := Lib.hid (HB.out.alloc HB.out.size _)
      obtain ⟨Y, hY⟩ : ∃ Y, Y = wr.alloc (.cells #[.int .i64 x, .int .i64 y] 52) := ⟨_, rfl⟩
      have hyb : Y.heap[wr.heap.size]? = some (.cells #[.int .i64 x, .int .i64 y] 52 (0, 0)) := by rw [hY]; exact heap_alloc_new wr _
      have d1 : Y.cell? ⟨wr.heap.size, 0, none⟩ = some (.int .i64 x) := cell_of_row Y _ 0 _ _ _ hyb
      have d2 : Y.cell? ⟨wr.heap.size, 1, none⟩ = some (.int .i64 y) := cell_of_row Y _ 1 _ _ _ hyb
      rw [← hY] at hal
      clear hs hc hyb
      go_upto_region 5 with fail
      rw [← hY]
      clear hY
      by_cases q1 : x < f ∨ y < x ∨ 1114111 < y
      · have HE : Hid (isSetF 0 l = false) := Lib.hid (by rw [HD.out, if_pos q1])
        rcases (show x < f ∨ (¬ x < f ∧ y < x) ∨ (¬ x < f ∧ ¬ y < x ∧ 1114111 < y) by omega) with a1 | ⟨a1, a2⟩ | ⟨a1, a2, a3⟩
        all_goals
          clear q1
          go_wp2
          go_ret
          exact ⟨by rw [HE.out]; rfl, hal.out⟩
      · have a1 : ¬ x < f := by omega
        have a2 : ¬ y < x := by omega
        have a3 : ¬ 1114111 < y := by omega
        rw [if_neg q1] at HD
        by_cases q2 : x ≤ 57343 ∧ 55296 ≤ y
        · have HE : Hid (isSetF 0 l = false) := Lib.hid (by rw [HD.out, if_pos q2])
          obtain ⟨b1, b2⟩ := q2
          clear q1
          go_wp2
          go_ret
          exact ⟨by rw [HE.out]; rfl, hal.out⟩
        · rw [if_neg q2] at HD
          have hy2 : wrap64 (y + 2) = y + 2 := IntWalk.wrap64_in _ (by omega)
          have hff : 0 ≤ y + 2 ∧ y + 2 ≤ 2000000 := by omega
          have HFF := Lib.hid hff
          rcases (show ¬ x ≤ 57343 ∨ (x ≤ 57343 ∧ ¬ 55296 ≤ y) by omega) with b1 | ⟨b1, b2⟩
          all_goals
            clear q1 q2 hff hf
            go_wp2
            go_roundg gk
            case measure => omega
            case rel => exact ⟨r + 1, y + 2, by omega, by first | rw [hwr] | rfl | simp, rfl, HFF.out, HD, hal⟩
end Go.Proofs.YtioahgklplbinaaDoor
