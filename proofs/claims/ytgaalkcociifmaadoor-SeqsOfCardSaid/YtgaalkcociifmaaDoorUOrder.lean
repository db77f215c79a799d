/- Bytes are in the order of their scalars. -/
import Derived.Test.YtgaalkcociifmaaDoorUMath
namespace Go.Proofs.YtgaalkcociifmaaDoor.U.UtfM
theorem enc_order {x y : Int} (hx : Sc x) (hy : Sc y) : lexLt (enc x) (enc y) = decide (x < y) := by
  have h1 := hx
  have h2 := hy
  unfold Sc at h1 h2
  rw [Bool.eq_iff_iff]
  rcases sc_cases hx with ⟨a, b⟩ | ⟨a, b⟩ | ⟨a, b⟩ | ⟨a, b⟩ <;> rcases sc_cases hy with ⟨c, d⟩ | ⟨c, d⟩ | ⟨c, d⟩ | ⟨c, d⟩
  all_goals
    first | rw [enc1 hx b] | rw [enc2 hx a b] | rw [enc3 hx a b] | rw [enc4 hx a]
    first | rw [enc1 hy d] | rw [enc2 hy c d] | rw [enc3 hy c d] | rw [enc4 hy c]
    (simp [lexLt]; try omega)
end Go.Proofs.YtgaalkcociifmaaDoor.U.UtfM
