/- NCnt, NCnt4, NWhy, NToRB, NTag, in one text. -/
/- The document's count of states: exact, but no more than 3000 is told. -/
import Derived.Test.YtioahgklplbinaaDoorNMA
import Derived.Test.YtioahgklplbinaaDoorRN
import Derived.Test.YtioahgklplbinaaDoorVM
import Derived.Test.YtioahgklplbinaaDoorNMW
import Derived.Deep.RegionWith
import Derived.Deep.DeepCutAuto
import Derived.Deep.RegionLaw

/- The document's count of states: a repetition; any sound tree. -/

/- The document's Why: why there is no machine. -/

/- A pattern's node with its spans, and the blocks it lies in. -/

/- A machine of nothing; a tag stored. -/
namespace Go.Proofs.YtioahgklplbinaaDoor
open Go.RowKit Go.Shelf Go.Maps SetM PropsM RxM WrM NfaM
/-- The rows of a machine of nothing. -/
def nilR : Nat → Rw
  | 0 => ⟨44, 1, .slice Option.none 0 0, 0, []⟩
  | 1 => ⟨24, 1, .slice Option.none 0 0, 0, []⟩
  | _ => ⟨3, 1, .slice Option.none 0 0, 0, []⟩
theorem nilR_block (i k : Nat) : (nilR i).v.ownBlock ≠ some k := by
  unfold nilR
  split <;> exact fun h => by cases h
theorem mv_none {W : World} {O B : Nat → Prop} (hB : ∀ k, B k → k < W.heap.size) : MV W O B (.agg #[.slice none 0 0, .slice none 0 0, .slice none 0 0]) NfaM.none0 := by
  have hno : ∀ n k, ¬ Has n nilR k := fun n k ⟨i, _, h⟩ => nilR_block i k h
  refine ⟨nilR, ⟨rfl, rfl, ⟨fun i _ => ?_, fun i j _ _ _ k h => absurd h (nilR_block i k)⟩, fun k hk => absurd hk (hno _ k), hB, ⟨rfl, rfl, rfl, rfl⟩, ⟨rfl, rfl, rfl, rfl⟩, ⟨rfl, rfl, rfl, rfl⟩, fun i hi => absurd hi (Nat.not_lt_zero i), fun i hi => absurd hi (Nat.not_lt_zero i)⟩, rfl, fun k hk => absurd hk (hno _ k)⟩
  unfold nilR
  split <;> exact Rw.nil_ok W _ _
theorem MVx.tag {W : World} {B : Nat → Prop} {R : Nat → Rw} {m : Mc} (h : MVx W B R m) {i : Nat} {t : Int} {g c : Nat} (hv : (R 2).v = .slice (some ⟨g, 0, none⟩) m.tg.length c) :
    MVx (W.setCell ⟨g, i, none⟩ (.int .i64 t)) B (upd R 2 { R 2 with xs := (R 2).xs.set i (.int .i64 t) }) (tgF m i t) ∧ (∀ k, Has (3 + 2 * m.tg.length) (upd R 2 { R 2 with xs := (R 2).xs.set i (.int .i64 t) }) k → Has (3 + 2 * m.tg.length) R k) ∧ Has (3 + 2 * m.tg.length) R g := by
  have a := h.fam.store (i := 2) (by omega) hv h.r2.2.2.1 i (.int .i64 t)
  have hg : Has (3 + 2 * m.tg.length) R g := ⟨2, by omega, by rw [hv]; rfl⟩
  have hl : (tgF m i t).tg.length = m.tg.length := by simp [tgF]
  have ho : ∀ k, B k → (W.setCell ⟨g, i, none⟩ (.int .i64 t)).heap[k]? = W.heap[k]? := fun k hk => heap_setCell_other W ⟨g, i, none⟩ k _ (fun e => h.nb g hg (by have e : k = g := e; rw [← e]; exact hk))
  have hs : W.heap.size ≤ (W.setCell ⟨g, i, none⟩ (.int .i64 t)).heap.size := by rw [World.size_setCell]; exact Nat.le_refl _
  have o : ∀ j, j ≠ 2 → upd R 2 { R 2 with xs := (R 2).xs.set i (.int .i64 t) } j = R j := fun j hj => upd_other _ _ hj
  refine ⟨⟨by rw [hl]; exact h.l1, by rw [hl]; exact h.l2, by rw [hl]; exact a.1, fun k hk => h.nb k (a.2 k (by rw [hl] at hk; exact hk)), fun k hk => Nat.lt_of_lt_of_le (h.bl k hk) hs, ?_, ?_, ?_, fun j hj => ?_, fun j hj => ?_⟩, a.2, hg⟩
  · rw [o 0 (by omega), hl]
    refine ⟨h.r0.1, h.r0.2.1, h.r0.2.2.1, ?_⟩
    rw [h.r0.2.2.2]
    exact List.map_congr_left (fun j _ => by rw [o _ (by omega)])
  · rw [o 1 (by omega), hl]
    refine ⟨h.r1.1, h.r1.2.1, h.r1.2.2.1, ?_⟩
    rw [h.r1.2.2.2]
    exact List.map_congr_left (fun j _ => by rw [o _ (by omega)])
  · rw [upd_same, hl]
    refine ⟨h.r2.1, h.r2.2.1, h.r2.2.2.1, ?_⟩
    show (R 2).xs.set i _ = _
    rw [h.r2.2.2.2]
    simp [tgF, List.map_set]
  · rw [hl] at hj
    rw [o _ (by omega)]
    have := h.re j hj
    exact ⟨this.1, this.2.1, this.2.2.1, this.2.2.2.kept hs ho⟩
  · rw [hl] at hj
    rw [o _ (by omega)]
    exact h.rf j hj
end Go.Proofs.YtioahgklplbinaaDoor
