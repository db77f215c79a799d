/- Plain mathematics: a normal list is no longer than the spans whose set it is, but for a few. Nothing of a program stands here. -/
import Derived.Test.YtkphbjppmiefkaaDoorRefMath
namespace SetM
theorem tells_empty (r : Int) : ¬ Tells ([] : List Sp) r := fun h => mem_nil r h.2
theorem nf_len {l out : List Sp} (hn : Nf out) (hm : ∀ r, Mem out r ↔ Tells l r) : out.length ≤ 4 + 2 * l.length := by
  have h := ref_final l [] (fun p q => p && !q)
  have e := nf_unique out _ hn h.1 (fun r => by
    rw [hm, h.2]
    have h0 : Tells l r → Sc r := fun h => h.1
    have h1 := tells_empty r
    simp [h1]
    exact h0)
  rw [e]
  have h1 := refRun_len (fun e => (fun p q => p && !q) (decide (Tells l e)) (decide (Tells [] e))) (bothL l []) []
  have h2 := bothL_len l []
  simp only [List.length_nil, Nat.mul_zero, Nat.add_zero, Nat.zero_add] at h1 h2
  omega
theorem tells_flat (ls : List (List Sp)) (r : Int) : (∃ a ∈ ls, Tells a r) ↔ Tells ls.flatten r := by
  unfold Tells Mem
  simp only [List.mem_flatten]
  constructor
  · rintro ⟨a, ha, hs, s, hm, h⟩; exact ⟨hs, s, ⟨a, ha, hm⟩, h⟩
  · rintro ⟨hs, s, ⟨a, ha, hm⟩, h⟩; exact ⟨a, ha, hs, s, hm, h⟩
end SetM
