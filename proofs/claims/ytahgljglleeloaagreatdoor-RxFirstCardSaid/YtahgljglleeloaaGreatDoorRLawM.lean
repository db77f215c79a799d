/- Plain mathematics of patterns: what the chapter's examples and the laws' texts come to. Nothing of a program stands here. -/
import Derived.Test.YtahgljglleeloaaGreatDoorRM
namespace RxM
open SetM PropsM

/-- Chars of one scalar. -/
def one1 (c : Int) : Nd := .mk 1 (Tells [(c, c)]) [] 0 0
theorem known1 : wholeF [] [97, 124, 98, 42] = .ok (.mk 3 none0 [one1 97, .mk 4 none0 [one1 98] 0 (-1)] 0 0) [] := by rfl
theorem known2 : wholeF [] [97, 41] = .err 60 [41] := by rfl
theorem known3 : wholeF [] [123, 51, 125] = .err 60 [51, 125] := by rfl
theorem whole_one {D : List Df} {c : Int} {t : List Int} {x : Nd} (hs : inS stopS c = false) (h : atomF D (some (altF D 19)) false (c :: t) = .ok x []) : wholeF D (c :: t) = .ok x [] := by
  unfold wholeF
  rw [show altF D 20 false (c :: t) = .ok x [] from alt_one hs h (.inl rfl)]
  rfl
theorem whole_bad {D : List Df} {c : Int} {t : List Int} {e : Nat} {m : List Int} (hs : inS stopS c = false) (h : atomF D (some (altF D 19)) false (c :: t) = .err e m) : wholeF D (c :: t) = .err e m := by
  unfold wholeF
  rw [show altF D 20 false (c :: t) = .err e m from alt_bad hs h]
theorem atom_esc (D : List Df) (f : Option (Bool → List Int → Out Nd)) (cl : Bool) (t : List Int) : atomF D f cl (92 :: t) = match escF (92 :: t) t with
    | .err e x => .err e x
    | .ok p r1 => .ok (chN cl (Tells (pcS p))) r1 := rfl
/-! A stroke and one sign. -/
def plainP (x : Int) : Option Int := if x = 110 then some 10 else if x = 114 then some 13 else if x = 116 then some 9 else if inS escS x then some x else none
theorem plain_ok {x k : Int} (h : plainP x = some k) : wholeF [] [92, x] = .ok (one1 k) [] := by
  refine whole_one (by decide) ?_
  rw [atom_esc]
  unfold plainP at h
  simp only [escF]
  split at h
  · cases h; rename_i h1; rw [if_pos h1]; rfl
  rename_i h1
  rw [if_neg h1]
  split at h
  · cases h; rename_i h1; rw [if_pos h1]; rfl
  rename_i h1
  rw [if_neg h1]
  split at h
  · cases h; rename_i h1; rw [if_pos h1]; rfl
  rename_i h1
  rw [if_neg h1]
  split at h
  · cases h
    rename_i h2
    have n1 : x ≠ 120 := by intro e; subst e; exact absurd h2 (by decide)
    have n2 : x ≠ 112 := by intro e; subst e; exact absurd h2 (by decide)
    rw [if_neg n1, if_neg n2, if_pos h2]
    rfl
  · cases h
theorem plain_bad {x : Int} (h : plainP x = none) : wholeF [] [92, x] = .err 60 (if x = 120 ∨ x = 112 then [] else [x]) := by
  refine whole_bad (by decide) ?_
  rw [atom_esc]
  unfold plainP at h
  simp only [escF]
  split at h
  · cases h
  rename_i h1
  rw [if_neg h1]
  split at h
  · cases h
  rename_i h1
  rw [if_neg h1]
  split at h
  · cases h
  rename_i h1
  rw [if_neg h1]
  split at h
  · cases h
  rename_i h2
  by_cases n1 : x = 120
  · rw [if_pos n1, if_pos (.inl n1)]; rfl
  by_cases n2 : x = 112
  · rw [if_neg n1, if_pos n2, if_pos (.inr n2)]; rfl
  · rw [if_neg n1, if_neg n2, if_neg h2, if_neg (by rintro (h | h) <;> contradiction)]

/-! Numbers of one digit, or two. -/
theorem run_full (P : Int → Bool) (t : List Int) (ht : sees P t = false) : ∀ (l : List Int) (k : Nat), l.length ≤ k → (∀ c ∈ l, P c = true) → runF P k (l ++ t) = (l, t)
  | [], k, _, _ => by
    cases k with
    | zero => rfl
    | succ k =>
      cases t with
      | nil => rfl
      | cons c t => simp [sees] at ht; simp [runF, ht]
  | c :: l, 0, hk, _ => by simp at hk
  | c :: l, k + 1, hk, h => by
    have ih := run_full P t ht l k (by simpa using hk) (fun x hx => h x (by simp [hx]))
    simp only [List.cons_append, runF, h c (by simp), if_true, ih]
def dig (n : Nat) : List Int := if n < 10 then [48 + (n : Int)] else [48 + ((n / 10 : Nat) : Int), 48 + ((n % 10 : Nat) : Int)]
theorem dig_all {n : Nat} (h : n < 100) : ∀ c ∈ dig n, isD c = true := by
  intro c hc
  unfold dig at hc
  simp only [isD, decide_eq_true_eq]
  split at hc <;> simp at hc
  · omega
  · rcases hc with rfl | rfl <;> omega
theorem dig_low {n : Nat} (h : n < 100) : ∀ c ∈ dig n, 0 ≤ c ∧ c < 128 := by
  intro c hc
  have := dig_all h c hc
  simp only [isD, decide_eq_true_eq] at this
  omega
theorem dig_len (n : Nat) : 1 ≤ (dig n).length ∧ (dig n).length ≤ 2 := by unfold dig; split <;> simp
theorem num_dig {n : Nat} (h : n < 100) {t : List Int} (ht : sees isD t = false) : numF (dig n ++ t) = .ok (n : Int) t := by
  unfold numF
  rw [run_full isD t ht (dig n) 2 (dig_len n).2 (dig_all h)]
  dsimp only
  rw [if_neg (by intro e; have := (dig_len n).1; rw [e] at this; simp at this)]
  congr 1
  unfold dig
  split
  · simp only [List.foldl_cons, List.foldl_nil]; omega
  · simp only [List.foldl_cons, List.foldl_nil]; omega
theorem sees_dig {n : Nat} (h : n < 100) (t : List Int) : sees isL (dig n ++ t) = false := by
  have h1 := dig_len n
  have h2 := dig_all h
  cases hd : dig n with
  | nil => rw [hd] at h1; simp at h1
  | cons c l =>
    have := h2 c (by rw [hd]; simp)
    simp only [isD, decide_eq_true_eq] at this
    simp only [List.cons_append, sees, isL]
    simp
    omega
/-- The second number that is meant. -/
def mostE : Option (Option Nat) → List Int
  | none => []
  | some none => [44]
  | some (some y) => 44 :: dig y
def mostN (x : Nat) : Option (Option Nat) → Int
  | none => x
  | some none => -1
  | some (some y) => y
theorem most_dig (x : Nat) {m : Option (Option Nat)} (hm : ∀ y, m = some (some y) → y < 100) : mostF x (mostE m ++ [125]) = .ok (mostN x m) [125] := by
  match m with
  | none => rfl
  | some none => rfl
  | some (some y) =>
    have hy := hm y rfl
    have h1 := num_dig hy (t := [125]) rfl
    have h2 : at1 125 (dig y ++ [125]) = false := by
      have h3 := dig_len y
      cases hd : dig y with
      | nil => rw [hd] at h3; simp at h3
      | cons c l =>
        have := dig_all hy c (by rw [hd]; simp)
        simp only [isD, decide_eq_true_eq] at this
        simp only [List.cons_append, at1, decide_eq_false_iff_not]
        omega
    rw [show mostE (some (some y)) ++ [125] = 44 :: (dig y ++ [125]) from rfl, mostF, if_pos (by rfl), List.tail_cons, if_neg (by rw [h2]; decide), h1]
    rfl
theorem bounds_dig {x : Nat} (hx : x < 100) {m : Option (Option Nat)} (hm : ∀ y, m = some (some y) → y < 100) :
    boundsF (dig x ++ (mostE m ++ [125])) = if 20 < max (x : Int) (mostN x m) ∨ (mostN x m ≠ -1 ∧ mostN x m < x) then .err 63 (dig x ++ (mostE m ++ [125])) else .ok ((x : Int), mostN x m) [] := by
  have ht : sees isD (mostE m ++ [125]) = false := by
    match m with
    | none => rfl
    | some none => rfl
    | some (some y) => rfl
  unfold boundsF
  rw [num_dig hx ht]
  dsimp only
  rw [most_dig x hm]
  rfl
theorem whole_rep {r : List Int} {p : Int × Int} (hs : sees isL r = false) (h : boundsF r = .ok p []) : wholeF [] (97 :: 123 :: r) = .ok (.mk 4 none0 [one1 97] p.1 p.2) [] := by
  have ht : timesF (123 :: r) = .ok (some p) [] := by
    simp [timesF, at1, hs, h]
  have hr : repL 201 (one1 97) (123 :: r) = .ok (.mk 4 none0 [one1 97] p.1 p.2) [] := by
    rw [repL, ht]; rfl
  have hc : catL (atomF [] (some (altF [] 19)) false) 201 [] (97 :: 123 :: r) = .ok [.mk 4 none0 [one1 97] p.1 p.2] [] := by
    rw [catL, if_neg (by simp [sees]; decide), show atomF [] (some (altF [] 19)) false (97 :: 123 :: r) = .ok (one1 97) (123 :: r) from rfl]
    dsimp only
    rw [hr]
    rfl
  have hcf : catF (atomF [] (some (altF [] 19)) false) (97 :: 123 :: r) = .ok (.mk 4 none0 [one1 97] p.1 p.2) [] := by rw [catF, hc]; rfl
  unfold wholeF
  rw [show altF [] 20 false (97 :: 123 :: r) = .ok (.mk 4 none0 [one1 97] p.1 p.2) [] from by rw [altF, altB, hcf]; rfl]
  rfl
theorem whole_rep_bad {r : List Int} {e : Nat} {m : List Int} (hs : sees isL r = false) (h : boundsF r = .err e m) : wholeF [] (97 :: 123 :: r) = .err e m := by
  have ht : timesF (123 :: r) = .err e m := by
    simp [timesF, at1, hs, h]
  have hr : repL 201 (one1 97) (123 :: r) = .err e m := by
    rw [repL, ht]
  have hc : catL (atomF [] (some (altF [] 19)) false) 201 [] (97 :: 123 :: r) = .err e m := by
    rw [catL, if_neg (by simp [sees]; decide), show atomF [] (some (altF [] 19)) false (97 :: 123 :: r) = .ok (one1 97) (123 :: r) from rfl]
    dsimp only
    rw [hr]
  have hcf : catF (atomF [] (some (altF [] 19)) false) (97 :: 123 :: r) = .err e m := by rw [catF, hc]
  unfold wholeF
  rw [show altF [] 20 false (97 :: 123 :: r) = .err e m from by rw [altF, altB, hcf]]

/-! A scalar's number. -/
theorem byNum_hex {hs : List Int} (h1 : hs ≠ []) (h6 : hs.length ≤ 6) (hh : ∀ c ∈ hs, isH c = true) (r0 m : List Int) :
    byNumF r0 (123 :: (hs ++ 125 :: m)) = if scB (hexN hs) then .ok (.one (hexN hs)) m else .err 60 r0 := by
  have hr := run_full isH (125 :: m) rfl hs 6 h6 hh
  simp only [byNumF, needF, if_true, hr, if_neg h1]
theorem esc_hex {hs : List Int} (h1 : hs ≠ []) (h6 : hs.length ≤ 6) (hh : ∀ c ∈ hs, isH c = true) (r0 m : List Int) :
    escF r0 (120 :: 123 :: (hs ++ 125 :: m)) = if scB (hexN hs) then .ok (.one (hexN hs)) m else .err 60 r0 := by
  rw [← byNum_hex h1 h6 hh r0 m]
  rfl
def hexT (hs m : List Int) : List Int := 92 :: 120 :: 123 :: (hs ++ 125 :: m)
section
variable {hs : List Int} (h1 : hs ≠ []) (h6 : hs.length ≤ 6) (hh : ∀ c ∈ hs, isH c = true)
include h1 h6 hh
theorem atom_hex (D : List Df) (f : Option (Bool → List Int → Out Nd)) (m : List Int) : atomF D f false (hexT hs m) = if scB (hexN hs) then .ok (one1 (hexN hs)) m else .err 60 (hexT hs m) := by
  rw [show hexT hs m = 92 :: 120 :: 123 :: (hs ++ 125 :: m) from rfl, atom_esc, esc_hex h1 h6 hh]
  by_cases hc : scB (hexN hs) = true
  · rw [if_pos hc, if_pos hc]; rfl
  · rw [if_neg hc, if_neg hc]
theorem hex_0 : wholeF [] (hexT hs []) = if scB (hexN hs) then .ok (one1 (hexN hs)) [] else .err 60 (hexT hs []) := by
  have h := atom_hex h1 h6 hh [] (some (altF [] 19)) []
  split
  · rename_i hc; rw [if_pos hc] at h; exact whole_one (by decide) h
  · rename_i hc; rw [if_neg hc] at h; exact whole_bad (by decide) h
theorem hex_1 : wholeF [] (97 :: hexT hs []) = if scB (hexN hs) then .ok (.mk 2 none0 [one1 97, one1 (hexN hs)] 0 0) [] else .err 60 (hexT hs []) := by
  have h := atom_hex h1 h6 hh [] (some (altF [] 19)) []
  have hr : repL 201 (one1 97) (hexT hs []) = .ok (one1 97) (hexT hs []) := rfl
  have g0 : ¬ ((97 :: hexT hs []) = [] ∨ sees (inS stopS) (97 :: hexT hs []) = true) := by simp [sees]; decide
  have g1 : ¬ (hexT hs [] = [] ∨ sees (inS stopS) (hexT hs []) = true) := by simp [hexT, sees]; decide
  have e1 : catL (atomF [] (some (altF [] 19)) false) 201 [] (97 :: hexT hs []) = catL (atomF [] (some (altF [] 19)) false) 200 [one1 97] (hexT hs []) := by
    rw [catL, if_neg g0, show atomF [] (some (altF [] 19)) false (97 :: hexT hs []) = .ok (one1 97) (hexT hs []) from rfl]
    dsimp only
    rw [hr]
    rfl
  split
  · rename_i hc
    rw [if_pos hc] at h
    have e2 : catL (atomF [] (some (altF [] 19)) false) 200 [one1 97] (hexT hs []) = .ok [one1 97, one1 (hexN hs)] [] := by
      rw [catL, if_neg g1, h]; rfl
    have hcf : catF (atomF [] (some (altF [] 19)) false) (97 :: hexT hs []) = .ok (.mk 2 none0 [one1 97, one1 (hexN hs)] 0 0) [] := by rw [catF, e1, e2]; rfl
    unfold wholeF
    rw [show altF [] 20 false (97 :: hexT hs []) = .ok (.mk 2 none0 [one1 97, one1 (hexN hs)] 0 0) [] from by rw [altF, altB, hcf]; rfl]
    rfl
  · rename_i hc
    rw [if_neg hc] at h
    have e2 : catL (atomF [] (some (altF [] 19)) false) 200 [one1 97] (hexT hs []) = .err 60 (hexT hs []) := by
      rw [catL, if_neg g1, h]
    have hcf : catF (atomF [] (some (altF [] 19)) false) (97 :: hexT hs []) = .err 60 (hexT hs []) := by rw [catF, e1, e2]
    unfold wholeF
    rw [show altF [] 20 false (97 :: hexT hs []) = .err 60 (hexT hs []) from by rw [altF, altB, hcf]]
theorem hex_2 : wholeF [] (40 :: hexT hs [41]) = if scB (hexN hs) then .ok (one1 (hexN hs)) [] else .err 60 (hexT hs [41]) := by
  have h := atom_hex h1 h6 hh [] (some (altF [] 18)) [41]
  have hg : atomF [] (some (altF [] 19)) false (40 :: hexT hs [41]) = innerF (altF [] 19) false (hexT hs [41]) := rfl
  split
  · rename_i hc
    rw [if_pos hc] at h
    refine whole_one (by decide) ?_
    rw [hg, innerF, show altF [] 19 false (hexT hs [41]) = .ok (one1 (hexN hs)) [41] from alt_one (by decide) h (.inr ⟨[], rfl⟩)]
    rfl
  · rename_i hc
    rw [if_neg hc] at h
    refine whole_bad (by decide) ?_
    rw [hg, innerF, show altF [] 19 false (hexT hs [41]) = .err 60 (hexT hs [41]) from alt_bad (by decide) h]
theorem hex_3 : wholeF [] (91 :: 98 :: hexT hs [93]) = if scB (hexN hs) then .ok (.mk 1 (Tells [(98, 98), (hexN hs, hexN hs)]) [] 0 0) [] else .err 60 (hexT hs [93]) := by
  have hE := esc_hex h1 h6 hh (hexT hs [93]) [93]
  have hp : pieceF (hexT hs [93]) = if scB (hexN hs) then .ok (.one (hexN hs)) [93] else .err 60 (hexT hs [93]) := by
    rw [← hE]; rfl
  have hi0 : itemF (98 :: hexT hs [93]) = .ok [(98, 98)] (hexT hs [93]) := rfl
  have hcl : classF (98 :: hexT hs [93]) = match classL 200 [(98, 98)] (hexT hs [93]) with
      | .err e x => .err e x
      | .ok l r1 => .ok (Tells l) r1 := by
    rw [classF, if_neg (by simp [at1]), classL, if_neg (by simp [at1]), hi0]
    rfl
  split
  · rename_i hc
    rw [if_pos hc] at hp
    have hi : itemF (hexT hs [93]) = .ok [(hexN hs, hexN hs)] [93] := by
      rw [itemF, hp]; rfl
    have e2 : classL 200 [(98, 98)] (hexT hs [93]) = .ok [(98, 98), (hexN hs, hexN hs)] [] := by
      rw [classL, if_neg (by simp [at1, hexT]), hi]; rfl
    refine whole_one (by decide) ?_
    rw [show atomF [] (some (altF [] 19)) false (91 :: 98 :: hexT hs [93]) = match classF (98 :: hexT hs [93]) with
      | .err e x => .err e x
      | .ok K r1 => .ok (chN false K) r1 from rfl, hcl, e2]
    rfl
  · rename_i hc
    rw [if_neg hc] at hp
    have hi : itemF (hexT hs [93]) = .err 60 (hexT hs [93]) := by rw [itemF, hp]
    have e2 : classL 200 [(98, 98)] (hexT hs [93]) = .err 60 (hexT hs [93]) := by
      rw [classL, if_neg (by simp [at1, hexT]), hi]
    refine whole_bad (by decide) ?_
    rw [show atomF [] (some (altF [] 19)) false (91 :: 98 :: hexT hs [93]) = match classF (98 :: hexT hs [93]) with
      | .err e x => .err e x
      | .ok K r1 => .ok (chN false K) r1 from rfl, hcl, e2]
end
/-! Twenty brackets. -/
theorem deep_20 : wholeF [] (List.replicate 20 40 ++ 97 :: List.replicate 20 41) = .ok (one1 97) [] := by rfl
theorem deep_le {k : Nat} (h : k ≤ 20) : wholeF [] (List.replicate k 40 ++ 97 :: List.replicate k 41) = .ok (one1 97) [] := by
  rcases Nat.lt_or_ge k 20 with h1 | h1
  · have := deep_ok [] k 19 false [] (by omega) (.inl rfl)
    rw [List.append_nil] at this
    unfold wholeF
    rw [this]
    rfl
  · obtain rfl : k = 20 := by omega
    exact deep_20
theorem deep_gt {k : Nat} (h : 20 < k) (t : List Int) : wholeF [] (List.replicate k 40 ++ t) = .err 61 (List.replicate (k - 20) 40 ++ t) := by
  have e : List.replicate k (40 : Int) ++ t = List.replicate 20 40 ++ 40 :: (List.replicate (k - 21) 40 ++ t) := by
    rw [← List.cons_append, ← List.replicate_succ, ← List.append_assoc, List.replicate_append_replicate, show 20 + (k - 21 + 1) = k by omega]
  have e2 : List.replicate (k - 20) (40 : Int) ++ t = 40 :: (List.replicate (k - 21) 40 ++ t) := by
    rw [← List.cons_append, ← List.replicate_succ, show k - 21 + 1 = k - 20 by omega]
  rw [e, e2]
  unfold wholeF
  rw [deep_bad [] 20 false]
end RxM
