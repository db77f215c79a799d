/- RNz, RBrkM, in one text. -/
import Derived.Test.YtahgljglleeloaaGreatDoorRM
import Derived.Test.YtahgljglleeloaaGreatDoorRTS
/- The reader of patterns does not run out of rounds: no answer is the one that would stand for that. Nothing of a program stands here. -/
namespace RxM
open SetM PropsM

theorem need_0 {c : Int} {r r' : List Int} (h : needF c r = .err 0 r') : False := by
  cases r with
  | nil => simp [needF] at h
  | cons b t => simp only [needF] at h; split at h <;> cases h
theorem num_0 {r r' : List Int} (h : numF r = .err 0 r') : False := by unfold numF at h; split at h <;> cases h
theorem most_0 {a : Int} {r r' : List Int} (h : mostF a r = .err 0 r') : False := by
  unfold mostF at h
  split at h
  · split at h
    · cases h
    · exact num_0 h
  · cases h
theorem bounds_0 {r r' : List Int} (h : boundsF r = .err 0 r') : False := by
  unfold boundsF at h
  split at h
  · rename_i h1; cases h; exact num_0 h1
  · split at h
    · rename_i h1; cases h; exact most_0 h1
    · split at h
      · rename_i h1; cases h; exact need_0 h1
      · split at h <;> cases h
theorem times_0 {r r' : List Int} (h : timesF r = .err 0 r') : False := by
  unfold timesF at h
  split at h
  · cases h
  split at h
  · cases h
  split at h
  · cases h
  split at h
  · split at h
    · rename_i h1; cases h; exact bounds_0 h1
    · cases h
  · cases h
theorem rep_0 : ∀ (f : Nat) (x : Nd) (r r' : List Int), r.length < f → repL f x r = .err 0 r' → False
  | 0, x, r, r', hl, h => by omega
  | f + 1, x, r, r', hl, h => by
    unfold repL at h
    split at h
    · rename_i h1; cases h; exact times_0 h1
    · cases h
    · rename_i h1; have := times_len h1; exact rep_0 f _ _ _ (by omega) h
theorem byNum_0 {r0 r r' : List Int} (h : byNumF r0 r = .err 0 r') : False := by
  unfold byNumF at h
  split at h
  · rename_i h1; cases h; exact need_0 h1
  · split at h
    · cases h
    split at h
    · rename_i h1; cases h; exact need_0 h1
    · split at h <;> cases h
theorem byName_0 {r0 r r' : List Int} (h : byNameF r0 r = .err 0 r') : False := by
  unfold byNameF at h
  split at h
  · rename_i h1; cases h; exact need_0 h1
  · split at h
    · rename_i h1; cases h; exact need_0 h1
    · split at h <;> cases h
theorem esc_0 {r0 r r' : List Int} (h : escF r0 r = .err 0 r') : False := by
  cases r with
  | nil => simp [escF] at h
  | cons c t =>
    simp only [escF] at h
    split at h
    · cases h
    split at h
    · cases h
    split at h
    · cases h
    split at h
    · exact byNum_0 h
    split at h
    · exact byName_0 h
    split at h <;> cases h
theorem piece_0 {r r' : List Int} (h : pieceF r = .err 0 r') : False := by
  cases r with
  | nil => simp [pieceF] at h
  | cons c t =>
    simp only [pieceF] at h
    split at h
    · exact esc_0 h
    split at h <;> cases h
theorem pair_0 {r r3 r' : List Int} {a b : Pc} (h : pairF r a b r3 = .err 0 r') : False := by
  unfold pairF at h
  split at h
  · split at h <;> cases h
  · cases h
theorem item_0 {r r' : List Int} (h : itemF r = .err 0 r') : False := by
  unfold itemF at h
  split at h
  · rename_i h1; cases h; exact piece_0 h1
  · split at h
    · split at h
      · rename_i h1; cases h; exact piece_0 h1
      · exact pair_0 h
    · cases h
theorem classL_0 : ∀ (f : Nat) (acc : List Sp) (r r' : List Int), r.length < f → classL f acc r = .err 0 r' → False
  | 0, acc, r, r', hl, h => by omega
  | f + 1, acc, r, r', hl, h => by
    unfold classL at h
    split at h
    · cases h
    · split at h
      · rename_i h1; cases h; exact item_0 h1
      · rename_i h1; have := item_len h1; exact classL_0 f _ _ _ (by omega) h
theorem class_0 {r r' : List Int} (hl : r.length ≤ 200) (h : classF r = .err 0 r') : False := by
  unfold classF at h
  split at h
  · rename_i hq
    have := tail_lt hq
    split at h
    · rename_i h1; cases h; exact classL_0 _ _ _ _ (by omega) h1
    · cases h
  · split at h
    · rename_i h1; cases h; exact classL_0 _ _ _ _ (by omega) h1
    · cases h
theorem named_0 {D : List Df} {cl : Bool} {r0 r r' : List Int} (h : namedF D cl r0 r = .err 0 r') : False := by
  cases r with
  | nil => simp [namedF] at h
  | cons c t =>
    simp only [namedF] at h
    split at h
    · split at h
      · rename_i h1; cases h; exact need_0 h1
      · split at h <;> cases h
    · cases h

/-- The reader does not run out. -/
def Nz {α : Type} (F : List Int → Out α) : Prop := ∀ r r', r.length ≤ 200 → F r = .err 0 r' → False
theorem inner_0 {f : Bool → List Int → Out Nd} (hf : ∀ cl, Nz (f cl)) (cl : Bool) : Nz (innerF f cl) := by
  intro r r' hl h
  unfold innerF at h
  split at h
  · rename_i h1; cases h; exact hf cl _ _ hl h1
  · split at h
    · rename_i h1; cases h; exact need_0 h1
    · cases h
theorem group_0 {f : Bool → List Int → Out Nd} (hf : ∀ cl, Nz (f cl)) (cl : Bool) : Nz (groupF f cl) := by
  intro r r' hl h
  unfold groupF at h
  split at h
  · split at h
    · exact inner_0 hf true _ _ (by have : r.tail.tail.tail.length ≤ r.length := by simp; omega
                                    omega) h
    · cases h
  · exact inner_0 hf cl _ _ hl h
theorem atom_0 {D : List Df} {f : Option (Bool → List Int → Out Nd)} (hf : ∀ g, f = some g → ∀ cl, Nz (g cl)) (cl : Bool) (r r' : List Int) (hl : r.length ≤ 200) (hne : r ≠ []) (h : atomF D f cl r = .err 0 r') : False := by
  cases r with
  | nil => exact hne rfl
  | cons c t =>
    have hlt : t.length ≤ 200 := by simp at hl; omega
    simp only [atomF] at h
    split at h
    · cases f with
      | none => cases h
      | some g => exact group_0 (hf g rfl) cl _ _ hlt h
    split at h
    · exact named_0 h
    split at h
    · split at h
      · rename_i h1; cases h; exact class_0 hlt h1
      · cases h
    split at h
    · split at h
      · rename_i h1; cases h; exact esc_0 h1
      · cases h
    split at h <;> cases h
theorem catL_0 {atom : List Int → Out Nd} (hL : Lt atom) (ha : ∀ r r', r.length ≤ 200 → r ≠ [] → atom r = .err 0 r' → False) : ∀ (f : Nat) (acc : List Nd) (r r' : List Int), r.length ≤ 200 → r.length < f → catL atom f acc r = .err 0 r' → False
  | 0, acc, r, r', _, hl, h => by omega
  | f + 1, acc, r, r', h200, hl, h => by
    unfold catL at h
    split at h
    · cases h
    · rename_i hb
      split at h
      · rename_i h1; cases h; exact ha _ _ h200 (fun e => hb (.inl e)) h1
      · rename_i h1
        have l1 := hL _ _ _ h1
        split at h
        · rename_i h2; cases h; exact rep_0 _ _ _ _ (by omega) h2
        · rename_i h2
          have l2 := rep_len _ _ _ _ _ h2
          exact catL_0 hL ha f _ _ _ (by omega) (by omega) h
theorem cat_0 {atom : List Int → Out Nd} (hL : Lt atom) (ha : ∀ r r', r.length ≤ 200 → r ≠ [] → atom r = .err 0 r' → False) : Nz (catF atom) := by
  intro r r' hl h
  unfold catF at h
  split at h
  · rename_i h1; cases h; exact catL_0 hL ha _ _ _ _ hl (by omega) h1
  · cases h
theorem altL_0 {cat : List Int → Out Nd} (hL : Le cat) (hc : Nz cat) : ∀ (f : Nat) (acc : List Nd) (r r' : List Int), r.length ≤ 200 → r.length < f → altL cat f acc r = .err 0 r' → False
  | 0, acc, r, r', _, hl, h => by omega
  | f + 1, acc, r, r', h200, hl, h => by
    unfold altL at h
    split at h
    · rename_i hq
      have := tail_lt hq
      split at h
      · rename_i h1; cases h; exact hc _ _ (by omega) h1
      · rename_i h1
        have l1 := hL _ _ _ h1
        exact altL_0 hL hc f _ _ _ (by omega) (by omega) h
    · cases h
theorem altB_0 {cat : List Int → Out Nd} (hL : Le cat) (hc : Nz cat) : Nz (altB cat) := by
  intro r r' hl h
  unfold altB at h
  split at h
  · rename_i h1; cases h; exact hc _ _ hl h1
  · rename_i h1
    have l1 := hL _ _ _ h1
    split at h
    · rename_i h2; cases h; exact altL_0 hL hc _ _ _ _ (by omega) (by omega) h2
    · cases h
theorem alt_0 (D : List Df) : ∀ (n : Nat) (cl : Bool), Nz (altF D n cl)
  | 0, cl => altB_0 (cat_len (atom_len (by simp))) (cat_0 (atom_len (by simp)) (fun r r' hl hne h => atom_0 (by simp) cl r r' hl hne h))
  | n + 1, cl =>
    have hl : Lt (atomF D (some (altF D n)) cl) := atom_len (by rintro g hg c; cases hg; exact alt_len D n c)
    altB_0 (cat_len hl) (cat_0 hl (fun r r' hr hne h => atom_0 (by rintro g hg c; cases hg; exact alt_0 D n c) cl r r' hr hne h))
theorem whole_0 (D : List Df) (r r' : List Int) (hl : r.length ≤ 200) (h : wholeF D r = .err 0 r') : False := by
  unfold wholeF at h
  split at h
  · rename_i h1; cases h; exact alt_0 D 20 false _ _ hl h1
  · split at h <;> cases h
end RxM

/- Patterns in brackets, some times over: plain mathematics. -/
namespace Go.Proofs.YtahgljglleeloaaGreatDoor
open Go.RowKit Go.Shelf Go.Maps SetM PropsM RxM

def brk : Nat → List Int → List Int
  | 0, r => r
  | k + 1, r => 40 :: (brk k r ++ [41])
theorem brk_ok (D : List Df) (r : List Int) (x : Nd) (r' : List Int) (h : wholeF D r = .ok x r') : ∀ k, (∃ r2, wholeF D (brk k r) = .ok x r2) ∨ (1 ≤ k ∧ ∃ y, wholeF D (brk k r) = .err 61 y)
  | 0 => .inl ⟨r', h⟩
  | k + 1 => by
    rcases brk_ok D r x r' h k with ⟨r2, e⟩ | ⟨hk, y, e⟩
    · rcases (whole_brk D (brk k r)).1 _ _ e with e' | ⟨y, e'⟩
      · exact .inl ⟨[], e'⟩
      · exact .inr ⟨by omega, y, e'⟩
    · refine .inr ⟨by omega, (whole_brk D (brk k r)).2 y e ?_⟩
      cases k with
      | zero => omega
      | succ k => simp [brk, at1]
theorem brk_next {t : ByteArray} {l : List Int} (h : bs t = U.UtfM.wr l ∧ ∀ c ∈ l, U.UtfM.Sc c) : bs ((⟨#[40]⟩ ++ t) ++ ⟨#[41]⟩) = U.UtfM.wr (40 :: (l ++ [41])) ∧ ∀ c ∈ 40 :: (l ++ [41]), U.UtfM.Sc c := by
  have h40 : U.UtfM.wr [40] = [40] := wr_low _ (by intro c hc; simp at hc; omega)
  have h41 : U.UtfM.wr [41] = [41] := wr_low _ (by intro c hc; simp at hc; omega)
  refine ⟨?_, ?_⟩
  · rw [bs_append, bs_append, h.1, show (40 :: (l ++ [41]) : List Int) = [40] ++ l ++ [41] by simp, U.UtfM.wr_append, U.UtfM.wr_append, h40, h41]
    rfl
  · intro c hc
    have hs : ∀ d ∈ ([40, 41] : List Int), U.UtfM.Sc d := low_len _ (by intro c hc; simp at hc; omega)
    rcases List.mem_cons.1 hc with rfl | hc
    · exact hs 40 (by simp)
    · rcases List.mem_append.1 hc with hc | hc
      · exact h.2 c hc
      · exact hs c (by simp at hc; subst hc; simp)
end Go.Proofs.YtahgljglleeloaaGreatDoor
