/- The law's same, at what is the same. -/
import Derived.Test.YtmmghgfkpndokaaDoorFOrbit
namespace Go.Proofs.YtmmghgfkpndokaaDoor
open Go.RowKit Go.Shelf SetM

set_option maxRecDepth 100000 in
set_option maxHeartbeats 1000000 in
theorem samel_c {W : World} {P Q : Option Addr} {c d : Nat} {l : List Int} (hP : IntsW W P l) (hQ : IntsW W Q l) (hl : l.length ≤ 1000000) :
    Calls Tryd.prog 16 #[.slice P l.length c, .slice Q l.length d] W fun e W' => e = .returned (.bool true) ∧ Below W.heap.size W W' := by
  obtain ⟨u, hu⟩ : ∃ u, u = W := ⟨_, rfl⟩
  rw [← hu] at hP hQ ⊢
  clear hu
  have HP := Lib.hid hP
  have HQ := Lib.hid hQ
  clear hP hQ
  go_enter Tryd.func16, Tryd.ntmps16
  go_wp2
  go_loopg [5] l.length (fun g s5 wx => ∃ k : Nat, k + g = l.length ∧ s5 = .int .i64 k ∧ Below u.heap.size u wx)
  case atStart => exact ⟨0, by omega, rfl, Below.refl _ _⟩
  case round =>
    obtain ⟨k, hkg, rfl, hb⟩ := hrel
    cases gk with
    | zero =>
      have hkz : ¬ ((k : Int) < (l.length : Int)) := by omega
      go_wp2
      go_ret
      exact ⟨rfl, hb⟩
    | succ g =>
      have hk : k < l.length := by omega
      have hkz : (k : Int) < (l.length : Int) := by omega
      obtain ⟨b, off, rfl, hbb, hc⟩ := (HP.out.step hb) (by intro h; rw [h] at hk; simp at hk)
      obtain ⟨b', off', rfl, hbb', hc'⟩ := (HQ.out.step hb) (by intro h; rw [h] at hk; simp at hk)
      have c0 := hc k hk
      have c1 := hc' k hk
      clear hc hc'
      generalize l[k] = x at *
      go_wp2
      go_quiet (fail)
      have hb2 := below_drewN hb nq
      generalize wr.drewN nq = w2 at *
      go_wp2
      go_roundg g
      case measure => omega
      case rel => exact ⟨k + 1, by omega, by go_num, hb2⟩
end Go.Proofs.YtmmghgfkpndokaaDoor
