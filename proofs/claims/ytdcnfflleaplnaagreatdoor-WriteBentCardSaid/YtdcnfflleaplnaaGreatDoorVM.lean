/- VMath, VTrip, VCnt, VSc, VLow, in one text. -/
import Derived.Test.YtdcnfflleaplnaaGreatDoorPURE
/- Plain mathematics of patterns as texts: a tree with its spans, its text, whether it may be. Nothing of a program stands here. -/
namespace WrM
open SetM RxM

/-- A node with its spans. -/
inductive Ns where
  | mk (kind : Nat) (sl : List Sp) (kids : List Ns) (mn mx : Int)
def Ns.kind : Ns → Nat
  | .mk k _ _ _ _ => k
def Ns.kids : Ns → List Ns
  | .mk _ _ kids _ _ => kids
/-- Digits to a base. -/
def hexd (d : Nat) : Int := if d < 10 then 48 + d else 87 + d
def digF (b n : Nat) : List Int := if _h : n < b ∨ b < 2 then [hexd n] else digF b (n / b) ++ [hexd (n % b)]
termination_by n
decreasing_by
  exact Nat.div_lt_self (by omega) (by omega)
def scT (c : Int) : List Int := [92, 120, 123] ++ (digF 16 c.toNat ++ [125])
def spT (s : Sp) : List Int := scT s.1 ++ 45 :: scT s.2
def noneT : List Int := [91, 94, 92, 120, 123, 48, 125, 45, 92, 120, 123, 49, 48, 102, 102, 102, 102, 125, 93]
def clsT (l : List Sp) : List Int := if l = [] then noneT else 91 :: (l.flatMap spT ++ [93])
def timesT (mn mx : Int) : List Int := 123 :: (digF 10 mn.toNat ++ 44 :: ((if mx = -1 then [] else digF 10 mx.toNat) ++ [125]))
mutual
/-- A node's text. -/
def txt : Ns → List Int
  | .mk k sl kids mn mx =>
    if k = 0 then [40, 41] else if k = 1 then clsT sl else if k = 2 then kidsT [2, 3] [] kids
    else if k = 3 then (kidsT [3] [124] kids).tail else if k = 4 then kidsT [2, 3, 4] [] kids ++ timesT mn mx else []
def kidsT (ks : List Nat) (sep : List Int) : List Ns → List Int
  | [] => []
  | x :: l => sep ++ ((if ks.contains x.kind then 40 :: (txt x ++ [41]) else txt x) ++ kidsT ks sep l)
end
/-- In brackets, if it is of one of some kinds. -/
def inT (ks : List Nat) (x : Ns) : List Int := if ks.contains x.kind then 40 :: (txt x ++ [41]) else txt x
theorem kidsT_nil (ks : List Nat) (sep : List Int) : kidsT ks sep [] = [] := by rw [kidsT]
theorem kidsT_cons (ks : List Nat) (sep : List Int) (x : Ns) (l : List Ns) : kidsT ks sep (x :: l) = sep ++ (inT ks x ++ kidsT ks sep l) := by rw [kidsT, inT]
theorem kidsT_append (ks : List Nat) (sep : List Int) : ∀ (a b : List Ns), kidsT ks sep (a ++ b) = kidsT ks sep a ++ kidsT ks sep b
  | [], b => by rw [kidsT_nil]; rfl
  | x :: a, b => by rw [List.cons_append, kidsT_cons, kidsT_cons, kidsT_append ks sep a b]; simp
theorem txt_mk (k : Nat) (sl : List Sp) (kids : List Ns) (mn mx : Int) : txt (.mk k sl kids mn mx) =
    if k = 0 then [40, 41] else if k = 1 then clsT sl else if k = 2 then kidsT [2, 3] [] kids
    else if k = 3 then (kidsT [3] [124] kids).tail else if k = 4 then kidsT [2, 3, 4] [] kids ++ timesT mn mx else [] := by rw [txt]

/-! What may be. -/
/-- The spans are a set's. -/
def Norml (l : List Sp) : Prop := Nf l ∧ ∀ r, Mem l r → Sc r
def Shape (k : Nat) (sl : List Sp) (n : Nat) (mn mx : Int) : Prop :=
  (k = 0 ∧ sl = [] ∧ n = 0 ∧ mn = 0 ∧ mx = 0) ∨ (k = 1 ∧ n = 0 ∧ mn = 0 ∧ mx = 0 ∧ Norml sl) ∨ ((k = 2 ∨ k = 3) ∧ 2 ≤ n ∧ sl = [] ∧ mn = 0 ∧ mx = 0) ∨
  (k = 4 ∧ n = 1 ∧ sl = [] ∧ (0 ≤ mn ∧ mn ≤ 20) ∧ (mx = -1 ∨ (mn ≤ mx ∧ mx ≤ 20)))
mutual
/-- All nodes are of the shape of their kinds. -/
def Shp : Ns → Prop
  | .mk k sl kids mn mx => Shape k sl kids.length mn mx ∧ ShpL kids
def ShpL : List Ns → Prop
  | [] => True
  | x :: l => Shp x ∧ ShpL l
end
mutual
/-- Levels below. -/
def dep : Ns → Nat
  | .mk _ _ kids _ _ => depL kids
def depL : List Ns → Nat
  | [] => 0
  | x :: l => max (dep x + 1) (depL l)
end
theorem shp_mk (k : Nat) (sl : List Sp) (kids : List Ns) (mn mx : Int) : Shp (.mk k sl kids mn mx) ↔ Shape k sl kids.length mn mx ∧ ShpL kids := by rw [Shp]
theorem shpL_iff : ∀ (l : List Ns), ShpL l ↔ ∀ x ∈ l, Shp x
  | [] => by rw [ShpL]; simp
  | x :: l => by rw [ShpL, shpL_iff l]; simp
theorem dep_mk (k : Nat) (sl : List Sp) (kids : List Ns) (mn mx : Int) : dep (.mk k sl kids mn mx) = depL kids := by rw [dep]
theorem depL_nil : depL [] = 0 := by rw [depL]
theorem depL_cons (x : Ns) (l : List Ns) : depL (x :: l) = max (dep x + 1) (depL l) := by rw [depL]
theorem depL_append : ∀ (a b : List Ns), depL (a ++ b) = max (depL a) (depL b)
  | [], b => by rw [depL_nil]; simp
  | x :: a, b => by rw [List.cons_append, depL_cons, depL_cons, depL_append a b]; omega
theorem depL_mem : ∀ (l : List Ns) (x : Ns), x ∈ l → dep x + 1 ≤ depL l
  | [], _, h => by cases h
  | y :: l, x, h => by
    rw [depL_cons]
    rcases List.mem_cons.1 h with rfl | h
    · omega
    · have := depL_mem l x h; omega
theorem depL_le : ∀ (l : List Ns) (n : Nat), (∀ x ∈ l, dep x + 1 ≤ n) → depL l ≤ n
  | [], _, _ => by rw [depL_nil]; omega
  | y :: l, n, h => by
    rw [depL_cons]
    have := h y (by simp)
    have := depL_le l n (fun x hx => h x (by simp [hx]))
    omega
/-- It may be, so many below others. -/
def SndAt (t : Ns) (d : Nat) : Prop := Shp t ∧ d + dep t ≤ 20
noncomputable def sndB (t : Ns) (d : Nat) : Bool := @decide (SndAt t d) (Classical.propDecidable _)
theorem sndB_true {t : Ns} {d : Nat} : sndB t d = true ↔ SndAt t d := by unfold sndB; exact @decide_eq_true_iff _ (Classical.propDecidable _)
theorem sndB_false {t : Ns} {d : Nat} : sndB t d = false ↔ ¬ SndAt t d := by unfold sndB; exact @decide_eq_false_iff_not _ (Classical.propDecidable _)
/-- What is written: nothing, if it may not be. -/
noncomputable def wrT (t : Ns) : List Int := if sndB t 0 then txt t else []

/-! The tree without its spans. -/
mutual
def nd : Ns → Nd
  | .mk k sl kids mn mx => .mk k (Mem sl) (ndL kids) mn mx
def ndL : List Ns → List Nd
  | [] => []
  | x :: l => nd x :: ndL l
end
theorem nd_mk (k : Nat) (sl : List Sp) (kids : List Ns) (mn mx : Int) : nd (.mk k sl kids mn mx) = .mk k (Mem sl) (ndL kids) mn mx := by rw [nd]
theorem ndL_eq : ∀ (l : List Ns), ndL l = l.map nd
  | [] => by rw [ndL]; rfl
  | x :: l => by rw [ndL, ndL_eq l]; rfl
mutual
/-- All sets are normal lists. -/
def Nfs : Ns → Prop
  | .mk _ sl kids _ _ => Nf sl ∧ NfsL kids
def NfsL : List Ns → Prop
  | [] => True
  | x :: l => Nfs x ∧ NfsL l
end
mutual
theorem nd_inj : ∀ (a b : Ns), Nfs a → Nfs b → nd a = nd b → a = b
  | .mk k sl kids mn mx, .mk k' sl' kids' mn' mx', ha, hb, h => by
    rw [nd_mk, nd_mk] at h
    rw [Nfs] at ha hb
    injection h with h1 h2 h3 h4 h5
    have e2 : sl = sl' := nf_unique _ _ ha.1 hb.1 (fun r => by rw [h2])
    have e3 : kids = kids' := ndL_inj kids kids' ha.2 hb.2 h3
    subst h1 e2 e3 h4 h5
    rfl
theorem ndL_inj : ∀ (a b : List Ns), NfsL a → NfsL b → ndL a = ndL b → a = b
  | [], [], _, _, _ => rfl
  | [], x :: l, _, _, h => by rw [ndL, ndL] at h; cases h
  | x :: l, [], _, _, h => by rw [ndL, ndL] at h; cases h
  | x :: l, y :: m, ha, hb, h => by
    rw [ndL, ndL] at h
    rw [NfsL] at ha hb
    injection h with h1 h2
    rw [nd_inj x y ha.1 hb.1 h1, ndL_inj l m ha.2 hb.2 h2]
end
mutual
theorem shp_nfs : ∀ (a : Ns), Shp a → Nfs a
  | .mk k sl kids mn mx, h => by
    rw [Shp] at h
    rw [Nfs]
    refine ⟨?_, shpL_nfs kids h.2⟩
    rcases h.1 with ⟨_, rfl, _⟩ | ⟨_, _, _, _, h⟩ | ⟨_, _, rfl, _⟩ | ⟨_, _, rfl, _⟩
    · exact trivial
    · exact h.1
    · exact trivial
    · exact trivial
theorem shpL_nfs : ∀ (l : List Ns), ShpL l → NfsL l
  | [], _ => by rw [NfsL]; trivial
  | x :: l, h => by
    rw [ShpL] at h
    rw [NfsL]
    exact ⟨shp_nfs x h.1, shpL_nfs l h.2⟩
end
end WrM

/- What is written is read as it was: the reader of patterns, with as many rounds as are wanted, at a tree's text. Nothing of a program stands here. -/
namespace WrM
open SetM RxM

/-! The reader, with F rounds for each loop. -/
def classG (F : Nat) (r : List Int) : Out (Int → Prop) :=
  if at1 94 r then (match classL F [] r.tail with
    | .err e x => .err e x
    | .ok l r1 => .ok (notK (Tells l)) r1)
  else match classL F [] r with
    | .err e x => .err e x
    | .ok l r1 => .ok (Tells l) r1
def atomG (F : Nat) (D : List Df) (f : Option (Bool → List Int → Out Nd)) (cl : Bool) : List Int → Out Nd
  | [] => .err 0 []
  | c :: t =>
    if c = 40 then (match f with
      | none => .err 61 (c :: t)
      | some f => groupF f cl t)
    else if c = 123 then namedF D cl (c :: t) t
    else if c = 91 then (match classG F t with
      | .err e x => .err e x
      | .ok K r1 => .ok (chN cl K) r1)
    else if c = 92 then (match escF (c :: t) t with
      | .err e x => .err e x
      | .ok p r1 => .ok (chN cl (Tells (pcS p))) r1)
    else if c = 46 then .ok (chN cl (notK (Tells [(10, 10)]))) t
    else .ok (chN cl (Tells [(c, c)])) t
def repU (F : Nat) (atom : List Int → Out Nd) (r : List Int) : Out Nd := match atom r with
  | .err e x => .err e x
  | .ok x r1 => repL F x r1
def catLG (F : Nat) (atom : List Int → Out Nd) : Nat → List Nd → List Int → Out (List Nd)
  | 0, _, r => .err 0 r
  | f + 1, acc, r => if r = [] ∨ sees (inS stopS) r then .ok acc r else match repU F atom r with
    | .err e x => .err e x
    | .ok y r2 => catLG F atom f (acc ++ [y]) r2
def catG (F : Nat) (atom : List Int → Out Nd) (r : List Int) : Out Nd :=
  match catLG F atom F [] r with
  | .err e x => .err e x
  | .ok l r1 => .ok (joinF 2 l) r1
def altBG (F : Nat) (cat : List Int → Out Nd) (r : List Int) : Out Nd :=
  match cat r with
  | .err e x => .err e x
  | .ok x r1 => match altL cat F [x] r1 with
    | .err e x => .err e x
    | .ok l r2 => .ok (joinF 3 l) r2
def altG (F : Nat) (D : List Df) : Nat → Bool → List Int → Out Nd
  | 0, cl, r => altBG F (catG F (atomG F D none cl)) r
  | n + 1, cl, r => altBG F (catG F (atomG F D (some (altG F D n)) cl)) r
def atomN (F : Nat) (D : List Df) : Nat → List Int → Out Nd
  | 0 => atomG F D none false
  | n + 1 => atomG F D (some (altG F D n)) false
theorem altG_eq (F : Nat) (D : List Df) (n : Nat) (r : List Int) : altG F D n false r = altBG F (catG F (atomN F D n)) r := by cases n <;> rfl
theorem atomG_F (D : List Df) (f : Option (Bool → List Int → Out Nd)) (cl : Bool) : atomG 201 D f cl = atomF D f cl := by
  funext r
  cases r <;> rfl
theorem catLG_F (atom : List Int → Out Nd) : ∀ (f : Nat) (acc : List Nd) (r : List Int), catLG 201 atom f acc r = catL atom f acc r
  | 0, _, _ => rfl
  | f + 1, acc, r => by
    rw [catLG, catL]
    split
    · rfl
    · unfold repU
      cases atom r with
      | err e x => rfl
      | ok x r1 =>
        dsimp only
        cases repL 201 x r1 with
        | err e x => rfl
        | ok y r2 => exact catLG_F atom f _ _
theorem catG_F (atom : List Int → Out Nd) : catG 201 atom = catF atom := by
  funext r
  unfold catG catF
  rw [catLG_F]
  rfl
theorem altG_F (D : List Df) : ∀ (n : Nat), altG 201 D n = altF D n
  | 0 => by
    funext cl r
    rw [altG, altF, atomG_F, catG_F]
    rfl
  | n + 1 => by
    funext cl r
    rw [altG, altF, altG_F D n, atomG_F, catG_F]
    rfl

/-! Digits. -/
theorem dig_low {b n : Nat} (h : n < b) : digF b n = [hexd n] := by rw [digF, dif_pos (.inl h)]
theorem dig_step {b n : Nat} (hb : 2 ≤ b) (h : b ≤ n) : digF b n = digF b (n / b) ++ [hexd (n % b)] := by rw [digF, dif_neg (by omega)]
theorem dig_all {b : Nat} (hb : 2 ≤ b) {P : Int → Prop} (hP : ∀ d, d < b → P (hexd d)) : ∀ (m n : Nat), n ≤ m → ∀ c ∈ digF b n, P c
  | m, n, hm, c, hc => by
    rcases Nat.lt_or_ge n b with h | h
    · rw [dig_low h] at hc
      simp at hc; subst hc
      exact hP n h
    · rw [dig_step hb h] at hc
      have hlt : n / b < n := Nat.div_lt_self (by omega) (by omega)
      rcases List.mem_append.1 hc with hc | hc
      · cases m with
        | zero => omega
        | succ m => exact dig_all hb hP m (n / b) (by omega) c hc
      · simp at hc; subst hc
        exact hP _ (Nat.mod_lt _ (by omega))
theorem dig_ne (b n : Nat) : digF b n ≠ [] := by
  rw [digF]
  split <;> simp
theorem dig_len {b : Nat} (hb : 2 ≤ b) : ∀ (k n : Nat), n < b ^ (k + 1) → (digF b n).length ≤ k + 1
  | 0, n, h => by rw [dig_low (by simpa using h)]; simp
  | k + 1, n, h => by
    rcases Nat.lt_or_ge n b with h1 | h1
    · rw [dig_low h1]; simp
    · rw [dig_step hb h1, List.length_append]
      have : n / b < b ^ (k + 1) := Nat.div_lt_of_lt_mul (by rw [Nat.pow_succ] at h; rw [Nat.mul_comm]; exact h)
      have := dig_len hb k (n / b) this
      simp; omega
theorem hexd_ok : ∀ d : Fin 16, isH (hexd d) = true ∧ hexV (hexd d) = (d : Nat) := by decide
theorem hexd_dig : ∀ d : Fin 10, isD (hexd d) = true ∧ hexd d - 48 = (d : Nat) := by decide
theorem hexN_app (l : List Int) (c : Int) : hexN (l ++ [c]) = hexN l * 16 + hexV c := by unfold hexN; rw [List.foldl_append]; rfl
theorem hexN_dig : ∀ (m n : Nat), n ≤ m → hexN (digF 16 n) = n
  | m, n, hm => by
    rcases Nat.lt_or_ge n 16 with h | h
    · rw [dig_low h]
      have := (hexd_ok ⟨n, h⟩).2
      show 0 * 16 + hexV (hexd n) = n
      dsimp only at this
      omega
    · have hlt : n / 16 < n := Nat.div_lt_self (by omega) (by omega)
      rw [dig_step (by omega) h, hexN_app]
      have h1 := (hexd_ok ⟨n % 16, Nat.mod_lt _ (by omega)⟩).2
      dsimp only at h1
      cases m with
      | zero => omega
      | succ m =>
        rw [hexN_dig m (n / 16) (by omega), h1]
        omega
theorem runF_all (P : Int → Bool) : ∀ (l : List Int) (k : Nat) (c : Int) (t : List Int), (∀ x ∈ l, P x = true) → l.length ≤ k → P c = false → runF P k (l ++ c :: t) = (l, c :: t)
  | [], 0, c, t, _, _, _ => rfl
  | [], k + 1, c, t, _, _, hc => by simp [runF, hc]
  | a :: l, 0, c, t, _, h, _ => by simp at h
  | a :: l, k + 1, c, t, hl, h, hc => by
    rw [List.cons_append, runF, if_pos (hl a (by simp)), runF_all P l k c t (fun x hx => hl x (by simp [hx])) (by simpa using h) hc]

/-! A scalar, a span, a set. -/
theorem piece_sc {c : Int} (hc : Sc c) (r : List Int) : pieceF (scT c ++ r) = .ok (.one c) r := by
  have e : scT c ++ r = 92 :: 120 :: 123 :: (digF 16 c.toNat ++ 125 :: r) := by simp [scT]
  rw [e]
  have h6 : (digF 16 c.toNat).length ≤ 6 := dig_len (by omega) 5 _ (by unfold Sc at hc; omega)
  have hH := dig_all (b := 16) (by omega) (P := fun c => isH c = true) (fun d hd => (hexd_ok ⟨d, hd⟩).1) _ c.toNat (Nat.le_refl _)
  have hr := runF_all isH _ 6 125 r hH h6 (by decide)
  have hn : hexN (digF 16 c.toNat) = c := by rw [hexN_dig _ _ (Nat.le_refl _)]; unfold Sc at hc; omega
  have hs : scB c = true := by unfold scB; unfold Sc at hc; exact decide_eq_true (by omega)
  have h1 : pieceF (92 :: 120 :: 123 :: (digF 16 c.toNat ++ 125 :: r)) = byNumF (92 :: 120 :: 123 :: (digF 16 c.toNat ++ 125 :: r)) (123 :: (digF 16 c.toNat ++ 125 :: r)) := rfl
  have h2 : ∀ r0, byNumF r0 (123 :: (digF 16 c.toNat ++ 125 :: r)) = if (runF isH 6 (digF 16 c.toNat ++ 125 :: r)).1 = [] then .err 60 (digF 16 c.toNat ++ 125 :: r) else match needF 125 (runF isH 6 (digF 16 c.toNat ++ 125 :: r)).2 with
    | .err e x => .err e x
    | .ok _ r2 => if scB (hexN (runF isH 6 (digF 16 c.toNat ++ 125 :: r)).1) then .ok (.one (hexN (runF isH 6 (digF 16 c.toNat ++ 125 :: r)).1)) r2 else .err 60 r0 := fun _ => rfl
  rw [h1, h2, hr, if_neg (dig_ne _ _), hn]
  show (if scB c then Out.ok (Pc.one c) r else _) = _
  rw [hs]
  rfl
theorem item_sp {s : Sp} (h1 : Sc s.1) (h2 : Sc s.2) (h : s.1 ≤ s.2) (r : List Int) : itemF (spT s ++ r) = .ok [s] r := by
  have e : spT s ++ r = scT s.1 ++ 45 :: (scT s.2 ++ r) := by simp [spT]
  rw [e]
  unfold itemF
  rw [piece_sc h1]
  show (match pieceF (scT s.2 ++ r) with
      | Out.err e x => Out.err e x
      | Out.ok b r3 => pairF (scT s.1 ++ 45 :: (scT s.2 ++ r)) (.one s.1) b r3) = _
  rw [piece_sc h2]
  show (if s.2 < s.1 then Out.err 60 _ else Out.ok [(s.1, s.2)] r) = _
  rw [if_neg (by omega)]
theorem classL_sp (r : List Int) : ∀ (l : List Sp) (f : Nat) (acc : List Sp), l.length < f → (∀ s ∈ l, Sc s.1 ∧ Sc s.2 ∧ s.1 ≤ s.2) → classL f acc (l.flatMap spT ++ 93 :: r) = .ok (acc ++ l) r
  | [], 0, _, h, _ => by simp at h
  | [], f + 1, acc, _, _ => by simp [classL, at1]
  | s :: l, 0, _, h, _ => by simp at h
  | s :: l, f + 1, acc, h, hs => by
    have e : (s :: l).flatMap spT ++ 93 :: r = spT s ++ (l.flatMap spT ++ 93 :: r) := by simp
    have h9 : at1 93 (spT s ++ (l.flatMap spT ++ 93 :: r)) = false := rfl
    obtain ⟨a, b, c⟩ := hs s (by simp)
    rw [e, classL, if_neg (by rw [h9]; simp), item_sp a b c]
    show classL f (acc ++ [s]) (l.flatMap spT ++ 93 :: r) = _
    rw [classL_sp r l f (acc ++ [s]) (by simpa using h) (fun x hx => hs x (by simp [hx]))]
    simp
theorem norml_ends {l : List Sp} (h : Norml l) : ∀ s ∈ l, Sc s.1 ∧ Sc s.2 ∧ s.1 ≤ s.2 := by
  have hle : ∀ (l : List Sp), Nf l → ∀ s ∈ l, s.1 ≤ s.2 := by
    intro l
    induction l with
    | nil => intro _ s hs; cases hs
    | cons a t ih =>
      intro hn s hs
      rcases List.mem_cons.1 hs with rfl | hs
      · exact hn.1
      · exact ih hn.2.2 s hs
  intro s hs
  have := hle l h.1 s hs
  exact ⟨h.2 _ ⟨s, hs, by omega, by omega⟩, h.2 _ ⟨s, hs, by omega, by omega⟩, this⟩
theorem class_txt {sl : List Sp} (h : Norml sl) (r : List Int) (F : Nat) (hF : sl.length + 1 < F) : ∃ t, clsT sl ++ r = 91 :: t ∧ classG F t = .ok (Mem sl) r := by
  unfold clsT
  by_cases h0 : sl = []
  · subst h0
    rw [if_pos rfl]
    have e : spT (0, 1114111) = [92, 120, 123, 48, 125, 45, 92, 120, 123, 49, 48, 102, 102, 102, 102, 125] := by
      have e1 : digF 16 0 = [48] := by rw [dig_low (by omega)]; rfl
      have e2 : digF 16 1114111 = [49, 48, 102, 102, 102, 102] := by simp [digF, hexd]
      show scT 0 ++ 45 :: scT 1114111 = _
      simp [scT, e1, e2]
    refine ⟨94 :: ([(0, 1114111)].flatMap spT ++ 93 :: r), by simp [noneT, e], ?_⟩
    unfold classG
    rw [if_pos (show at1 94 (94 :: _) = true from rfl)]
    show (match classL F [] ([(0, 1114111)].flatMap spT ++ 93 :: r) with
      | Out.err e x => Out.err e x
      | Out.ok l r1 => Out.ok (notK (Tells l)) r1) = _
    rw [classL_sp r _ F [] (by simpa using hF) (by intro s hs; simp at hs; subst hs; simp [Sc])]
    have hk : notK (Tells ([] ++ [((0 : Int), (1114111 : Int))])) = Mem [] := by
      funext c
      refine propext ⟨fun ⟨h1, h2⟩ => (h2 ⟨h1, (0, 1114111), by simp, ?_⟩).elim, fun h => (mem_nil c h).elim⟩
      unfold Sc at h1
      dsimp only
      omega
    show Out.ok (notK (Tells ([] ++ [((0 : Int), (1114111 : Int))]))) r = _
    rw [hk]
  · rw [if_neg h0]
    refine ⟨sl.flatMap spT ++ 93 :: r, by simp, ?_⟩
    have h94 : at1 94 (sl.flatMap spT ++ 93 :: r) = false := by
      cases sl with
      | nil => exact absurd rfl h0
      | cons s l => rfl
    unfold classG
    rw [if_neg (by rw [h94]; simp), classL_sp r sl F [] (by omega) (norml_ends h)]
    have hk : Tells ([] ++ sl) = Mem sl := by
      funext c
      exact propext ⟨fun h => h.2, fun hm => ⟨h.2 c hm, hm⟩⟩
    show Out.ok (Tells ([] ++ sl)) r = _
    rw [hk]

/-! How often. -/
theorem num_dig {n : Nat} (h : n ≤ 20) {c : Int} (hc : isD c = false) (r : List Int) : numF (digF 10 n ++ c :: r) = .ok (n : Int) (c :: r) := by
  have hD := dig_all (b := 10) (by omega) (P := fun c => isD c = true) (fun d hd => (hexd_dig ⟨d, hd⟩).1) _ n (Nat.le_refl _)
  have h2 : (digF 10 n).length ≤ 2 := dig_len (by omega) 1 _ (by omega)
  have hr := runF_all isD _ 2 c r hD h2 hc
  unfold numF
  rw [hr, if_neg (dig_ne _ _)]
  have hv : (digF 10 n).foldl (fun n c => n * 10 + (c - 48)) 0 = (n : Int) := by
    rcases Nat.lt_or_ge n 10 with h | h
    · rw [dig_low h]
      have := (hexd_dig ⟨n, h⟩).2
      dsimp only at this
      show 0 * 10 + (hexd n - 48) = _
      omega
    · rw [dig_step (by omega) h, dig_low (by omega)]
      have h1 := (hexd_dig ⟨n / 10, by omega⟩).2
      have h2 := (hexd_dig ⟨n % 10, by omega⟩).2
      dsimp only at h1 h2
      show (0 * 10 + (hexd (n / 10) - 48)) * 10 + (hexd (n % 10) - 48) = _
      omega
  show Out.ok ((digF 10 n).foldl (fun n c => n * 10 + (c - 48)) 0) (c :: r) = _
  rw [hv]
theorem dig_head (n : Nat) : ∃ c t, digF 10 n = c :: t ∧ isD c = true := by
  have hD := dig_all (b := 10) (by omega) (P := fun c => isD c = true) (fun d hd => (hexd_dig ⟨d, hd⟩).1) _ n (Nat.le_refl _)
  cases h : digF 10 n with
  | nil => exact absurd h (dig_ne _ _)
  | cons c t => rw [h] at hD; exact ⟨c, t, rfl, hD c (by simp)⟩
theorem isD_low {c : Int} (h : isD c = true) : 48 ≤ c ∧ c ≤ 57 := of_decide_eq_true h
theorem times_txt {mn mx : Int} (h1 : 0 ≤ mn ∧ mn ≤ 20) (h2 : mx = -1 ∨ (mn ≤ mx ∧ mx ≤ 20)) (r : List Int) : timesF (timesT mn mx ++ r) = .ok (some (mn, mx)) r := by
  obtain ⟨c, t, hd, hcd⟩ := dig_head mn.toNat
  have hcl := isD_low hcd
  have hsee : sees isL (digF 10 mn.toNat ++ 44 :: ((if mx = -1 then [] else digF 10 mx.toNat) ++ 125 :: r)) = false := by
    rw [hd]
    show isL c = false
    unfold isL
    simp only [Bool.or_eq_false_iff, decide_eq_false_iff_not]
    omega
  have hmn : ((mn.toNat : Nat) : Int) = mn := by omega
  have hb : boundsF (digF 10 mn.toNat ++ 44 :: ((if mx = -1 then [] else digF 10 mx.toNat) ++ 125 :: r)) = .ok (mn, mx) r := by
    unfold boundsF
    rw [num_dig (by omega) (by decide), hmn]
    have hmost : mostF mn (44 :: ((if mx = -1 then [] else digF 10 mx.toNat) ++ 125 :: r)) = .ok mx (125 :: r) := by
      show (if at1 125 ((if mx = -1 then [] else digF 10 mx.toNat) ++ 125 :: r) then Out.ok (-1) ((if mx = -1 then [] else digF 10 mx.toNat) ++ 125 :: r) else numF ((if mx = -1 then [] else digF 10 mx.toNat) ++ 125 :: r)) = _
      by_cases hx : mx = -1
      · rw [if_pos hx, List.nil_append, hx]
        rfl
      · rw [if_neg hx]
        obtain ⟨c2, t2, hd2, hcd2⟩ := dig_head mx.toNat
        have hcl2 := isD_low hcd2
        have h125 : at1 125 (digF 10 mx.toNat ++ 125 :: r) = false := by
          rw [hd2]
          exact decide_eq_false (by omega)
        rw [if_neg (by rw [h125]; simp), num_dig (by omega) (by decide)]
        congr 1
        omega
    show (match mostF mn (44 :: ((if mx = -1 then [] else digF 10 mx.toNat) ++ 125 :: r)) with
      | Out.err e x => Out.err e x
      | Out.ok b r2 => match needF 125 r2 with
        | Out.err e x => Out.err e x
        | Out.ok _ r3 => if 20 < max mn b ∨ (b ≠ -1 ∧ b < mn) then Out.err 63 (digF 10 mn.toNat ++ 44 :: ((if mx = -1 then [] else digF 10 mx.toNat) ++ 125 :: r)) else Out.ok (mn, b) r3) = _
    rw [hmost]
    show (if 20 < max mn mx ∨ (mx ≠ -1 ∧ mx < mn) then Out.err 63 _ else Out.ok (mn, mx) r) = _
    rw [if_neg (by omega)]
  have e : timesT mn mx ++ r = 123 :: (digF 10 mn.toNat ++ 44 :: ((if mx = -1 then [] else digF 10 mx.toNat) ++ 125 :: r)) := by simp [timesT]
  rw [e]
  unfold timesF
  rw [if_neg (by simp [at1]), if_neg (by simp [at1]), if_neg (by simp [at1]), if_pos ⟨by simp [at1], hsee⟩]
  show (match boundsF (digF 10 mn.toNat ++ 44 :: ((if mx = -1 then [] else digF 10 mx.toNat) ++ 125 :: r)) with
    | Out.err e x => Out.err e x
    | Out.ok p r1 => Out.ok (some p) r1) = _
  rw [hb]

/-! What stands where. -/
def Beg (l : List Int) : Prop := ∃ c t, l = c :: t ∧ (c = 40 ∨ c = 91)
def Stp (l : List Int) : Prop := l = [] ∨ ∃ t, l = 41 :: t ∨ l = 124 :: t
def End (l : List Int) : Prop := l = [] ∨ ∃ t, l = 41 :: t
theorem Beg.app {l : List Int} (h : Beg l) (r : List Int) : Beg (l ++ r) := by
  obtain ⟨c, t, rfl, h⟩ := h
  exact ⟨c, t ++ r, rfl, h⟩
theorem End.stp {l : List Int} (h : End l) : Stp l := h.imp id (fun ⟨t, e⟩ => ⟨t, .inl e⟩)
theorem quiet_of {l : List Int} (h : Stp l ∨ Beg l) : timesF l = .ok none l := by
  have : l = [] ∨ ∃ c t, l = c :: t ∧ c ≠ 42 ∧ c ≠ 43 ∧ c ≠ 63 ∧ c ≠ 123 := by
    rcases h with (h | ⟨t, rfl | rfl⟩) | ⟨c, t, rfl, rfl | rfl⟩
    · exact .inl h
    all_goals exact .inr ⟨_, _, rfl, by omega, by omega, by omega, by omega⟩
  rcases this with rfl | ⟨c, t, rfl, h1, h2, h3, h4⟩
  · rfl
  · unfold timesF
    simp [at1, h1, h2, h3, h4]
theorem beg_in {ks : List Nat} {x : Ns} (h : Beg (txt x)) : Beg (inT ks x) := by
  unfold inT
  split
  · exact ⟨40, _, rfl, .inl rfl⟩
  · exact h
theorem beg_cls (sl : List Sp) : Beg (clsT sl) := by
  unfold clsT
  split
  · exact ⟨91, _, rfl, .inr rfl⟩
  · exact ⟨91, _, rfl, .inr rfl⟩
theorem beg_txt : ∀ (u : Ns), Shp u → Beg (txt u)
  | .mk k sl kids mn mx, h => by
    rw [shp_mk, shpL_iff] at h
    obtain ⟨hs, hk⟩ := h
    rw [txt_mk]
    have hfirst : 0 < kids.length → ∃ x l, kids = x :: l ∧ Beg (txt x) := by
      intro hl
      cases kids with
      | nil => simp at hl
      | cons x l => exact ⟨x, l, rfl, beg_txt x (hk x (by simp))⟩
    rcases hs with ⟨rfl, _⟩ | ⟨rfl, _⟩ | ⟨rfl | rfl, h2, _⟩ | ⟨rfl, h1, _⟩
    · exact ⟨40, _, rfl, .inl rfl⟩
    · rw [if_neg (by omega), if_pos rfl]; exact beg_cls sl
    · obtain ⟨x, l, rfl, hb⟩ := hfirst (by omega)
      rw [if_neg (by omega), if_neg (by omega), if_pos rfl, kidsT_cons]
      exact (beg_in hb).app _
    · obtain ⟨x, l, rfl, hb⟩ := hfirst (by omega)
      rw [if_neg (by omega), if_neg (by omega), if_neg (by omega), if_pos rfl, kidsT_cons]
      exact (beg_in hb).app _
    · obtain ⟨x, l, rfl, hb⟩ := hfirst (by omega)
      rw [if_neg (by omega), if_neg (by omega), if_neg (by omega), if_neg (by omega), if_pos rfl, kidsT_cons]
      exact ((beg_in hb).app _).app _
theorem in_len {ks : List Nat} {x : Ns} (h : Shp x) : 0 < (inT ks x).length := by
  obtain ⟨c, t, e, _⟩ := beg_in (ks := ks) (beg_txt x h)
  rw [e]; simp
theorem kids_len {ks : List Nat} {sep : List Int} : ∀ (l : List Ns), (∀ x ∈ l, Shp x) → l.length ≤ (kidsT ks sep l).length
  | [], _ => by simp
  | x :: l, h => by
    rw [kidsT_cons]
    have := in_len (ks := ks) (h x (by simp))
    have := kids_len (ks := ks) (sep := sep) l (fun y hy => h y (by simp [hy]))
    simp; omega

/-! Together. -/
section
variable {F : Nat} {D : List Df}
theorem cat_one {atom : List Int → Out Nd} {s r : List Int} {x : Nd} (hb : Beg s) (hr : Stp r) (h : repU F atom (s ++ r) = .ok x r) (hF : 2 ≤ F) : catG F atom (s ++ r) = .ok x r := by
  obtain ⟨f, rfl⟩ : ∃ f, F = f + 2 := ⟨F - 2, by omega⟩
  have hstop : r = [] ∨ sees (inS stopS) r = true := by
    rcases hr with h | ⟨t, rfl | rfl⟩
    · exact .inl h
    · exact .inr (by show inS stopS 41 = true; decide)
    · exact .inr (by show inS stopS 124 = true; decide)
  have hgo : ¬ (s ++ r = [] ∨ sees (inS stopS) (s ++ r) = true) := by
    obtain ⟨c, t, rfl, rfl | rfl⟩ := hb
    · rintro (h | h)
      · cases h
      · exact absurd (show inS stopS 40 = true from h) (by decide)
    · rintro (h | h)
      · cases h
      · exact absurd (show inS stopS 91 = true from h) (by decide)
  unfold catG
  rw [catLG, if_neg hgo, h]
  dsimp only
  rw [catLG, if_pos hstop]
  rfl
theorem cat_many {atom : List Int → Out Nd} {r : List Int} (hr : Stp r) : ∀ (l : List Ns) (f : Nat) (acc : List Nd), l.length < f → (∀ x ∈ l, Beg (txt x)) → (∀ x ∈ l, ∀ r', timesF r' = .ok none r' → (inT [2, 3] x ++ r').length ≤ (kidsT [2, 3] [] l ++ r).length → repU F atom (inT [2, 3] x ++ r') = .ok (nd x) r') →
    catLG F atom f acc (kidsT [2, 3] [] l ++ r) = .ok (acc ++ ndL l) r
  | [], 0, _, h, _, _ => by simp at h
  | [], f + 1, acc, _, _, _ => by
    have hstop : r = [] ∨ sees (inS stopS) r = true := by
      rcases hr with h | ⟨t, rfl | rfl⟩
      · exact .inl h
      · exact .inr (by show inS stopS 41 = true; decide)
      · exact .inr (by show inS stopS 124 = true; decide)
    rw [kidsT_nil, List.nil_append, catLG, if_pos hstop, ndL]; simp
  | x :: l, 0, _, h, _, _ => by simp at h
  | x :: l, f + 1, acc, h, hb, hx => by
    have e : kidsT [2, 3] [] (x :: l) ++ r = inT [2, 3] x ++ (kidsT [2, 3] [] l ++ r) := by rw [kidsT_cons]; simp
    have hbx : Beg (inT [2, 3] x ++ (kidsT [2, 3] [] l ++ r)) := (beg_in (hb x (by simp))).app _
    have hgo : ¬ (inT [2, 3] x ++ (kidsT [2, 3] [] l ++ r) = [] ∨ sees (inS stopS) (inT [2, 3] x ++ (kidsT [2, 3] [] l ++ r)) = true) := by
      obtain ⟨c, t, e, hc⟩ := hbx
      rw [e]
      rcases hc with rfl | rfl
      · rintro (h | h)
        · cases h
        · exact absurd (show inS stopS 40 = true from h) (by decide)
      · rintro (h | h)
        · cases h
        · exact absurd (show inS stopS 91 = true from h) (by decide)
    have hq : timesF (kidsT [2, 3] [] l ++ r) = .ok none (kidsT [2, 3] [] l ++ r) := by
      refine quiet_of ?_
      cases l with
      | nil => rw [kidsT_nil]; exact .inl hr
      | cons y l =>
        rw [kidsT_cons]
        exact .inr (((beg_in (hb y (by simp))).app _).app _)
    have h1 := hx x (by simp) _ hq (by rw [e]; exact Nat.le_refl _)
    rw [e, catLG, if_neg hgo, h1]
    dsimp only
    rw [cat_many hr l f _ (by simpa using h) (fun y hy => hb y (by simp [hy])) (fun y hy r' hr' hl => hx y (by simp [hy]) r' hr' (Nat.le_trans hl (by rw [e]; simp))), ndL]
    simp
theorem alt_many {cat : List Int → Out Nd} {r : List Int} (hr : End r) : ∀ (l : List Ns) (f : Nat) (acc : List Nd), l.length < f → (∀ x ∈ l, ∀ r', Stp r' → (inT [3] x ++ r').length ≤ (kidsT [3] [124] l ++ r).length → cat (inT [3] x ++ r') = .ok (nd x) r') →
    altL cat f acc (kidsT [3] [124] l ++ r) = .ok (acc ++ ndL l) r
  | [], 0, _, h, _ => by simp at h
  | [], f + 1, acc, _, _ => by
    have hno : at1 124 r = false := by
      rcases hr with rfl | ⟨t, rfl⟩ <;> rfl
    rw [kidsT_nil, List.nil_append, altL, if_neg (by rw [hno]; simp), ndL]; simp
  | x :: l, 0, _, h, _ => by simp at h
  | x :: l, f + 1, acc, h, hx => by
    have e : kidsT [3] [124] (x :: l) ++ r = 124 :: (inT [3] x ++ (kidsT [3] [124] l ++ r)) := by rw [kidsT_cons]; simp
    have hst : Stp (kidsT [3] [124] l ++ r) := by
      cases l with
      | nil => rw [kidsT_nil]; exact hr.stp
      | cons y l => rw [kidsT_cons]; exact .inr ⟨_, .inr rfl⟩
    have h1 := hx x (by simp) _ hst (by rw [e]; simp)
    rw [e, altL, if_pos (show at1 124 (124 :: _) = true from rfl)]
    show (match cat (inT [3] x ++ (kidsT [3] [124] l ++ r)) with
      | Out.err e x => Out.err e x
      | Out.ok x r1 => altL cat f (acc ++ [x]) r1) = _
    rw [h1]
    dsimp only
    rw [alt_many hr l f _ (by simpa using h) (fun y hy r' hr' hl => hx y (by simp [hy]) r' hr' (Nat.le_trans hl (by rw [e]; simp; omega))), ndL]
    simp
theorem rep_quiet {x : Nd} {r : List Int} (hF : 0 < F) (h : timesF r = .ok none r) : repL F x r = .ok x r := by
  obtain ⟨f, rfl⟩ : ∃ f, F = f + 1 := ⟨F - 1, by omega⟩
  rw [repL, h]
theorem memNil : Mem [] = none0 := funext fun c => propext ⟨fun h => mem_nil c h, fun h => h.elim⟩
/-- In brackets where that is wanted, as an atom. -/
def BaseAt (u : Ns) : Prop := ∀ (F n : Nat) (r : List Int), dep u + 1 ≤ n → (inT [2, 3, 4] u ++ r).length + 1 ≤ F → atomN F [] n (inT [2, 3, 4] u ++ r) = .ok (nd u) r
/-- One of some behind one another. -/
def UnitAt (u : Ns) : Prop := ∀ (F n : Nat) (r : List Int), dep u + 1 ≤ n → timesF r = .ok none r → (inT [2, 3] u ++ r).length + 1 ≤ F → repU F (atomN F [] n) (inT [2, 3] u ++ r) = .ok (nd u) r
/-- One of some. -/
def PartAt (u : Ns) : Prop := ∀ (F n : Nat) (r : List Int), dep u + 1 ≤ n → Stp r → (inT [3] u ++ r).length + 1 ≤ F → catG F (atomN F [] n) (inT [3] u ++ r) = .ok (nd u) r
/-- The whole. -/
def WholeAt (u : Ns) : Prop := ∀ (F n : Nat) (r : List Int), max 1 (dep u) ≤ n → End r → (txt u ++ r).length + 1 ≤ F → altG F [] n false (txt u ++ r) = .ok (nd u) r
theorem base_bracket {u : Ns} (hu : Shp u) (hin : inT [2, 3, 4] u = 40 :: (txt u ++ [41])) (hd : 1 ≤ dep u) (hw : WholeAt u) : BaseAt u := by
  intro F n r hn hF
  rw [hin] at hF ⊢
  obtain ⟨n, rfl⟩ : ∃ m, n = m + 1 := ⟨n - 1, by omega⟩
  have e : (40 :: (txt u ++ [41])) ++ r = 40 :: (txt u ++ 41 :: r) := by simp
  have hb := (beg_txt u hu).app (41 :: r)
  have h63 : at1 63 (txt u ++ 41 :: r) = false := by
    obtain ⟨c, t, e, hc⟩ := hb
    rw [e]
    exact decide_eq_false (by omega)
  have h1 := hw F n (41 :: r) (by omega) (.inr ⟨r, rfl⟩) (by rw [e] at hF; simp at hF ⊢; omega)
  rw [e]
  show groupF (altG F [] n) false (txt u ++ 41 :: r) = _
  unfold groupF
  rw [if_neg (by rw [h63]; simp)]
  unfold innerF
  rw [h1]
  rfl
theorem base_empty : BaseAt (.mk 0 [] [] 0 0) := by
  intro F n r hn hF
  have hin : inT [2, 3, 4] (.mk 0 [] [] 0 0) = [40, 41] := by
    unfold inT
    rw [txt_mk]
    rfl
  rw [hin] at hF ⊢
  obtain ⟨n, rfl⟩ : ∃ m, n = m + 1 := ⟨n - 1, by omega⟩
  obtain ⟨f, rfl⟩ : ∃ f, F = f + 1 := ⟨F - 1, by simp at hF; omega⟩
  have hnd : nd (.mk 0 [] [] 0 0) = .mk 0 none0 [] 0 0 := by rw [nd_mk, ndL, memNil]
  have hal : altG (f + 1) [] n false (41 :: r) = .ok (.mk 0 none0 [] 0 0) (41 :: r) := by
    rw [altG_eq]
    unfold altBG catG
    rw [catLG, if_pos (.inr (by show inS stopS 41 = true; decide))]
    rfl
  show groupF (altG (f + 1) [] n) false (41 :: r) = _
  unfold groupF
  rw [if_neg (by simp [at1])]
  unfold innerF
  rw [hal, hnd]
  rfl
theorem base_chars {sl : List Sp} (h : Norml sl) : BaseAt (.mk 1 sl [] 0 0) := by
  intro F n r hn hF
  have hin : inT [2, 3, 4] (.mk 1 sl [] 0 0) = clsT sl := by
    unfold inT
    rw [txt_mk]
    rfl
  rw [hin] at hF ⊢
  have hl : sl.length + 1 ≤ (clsT sl).length := by
    unfold clsT
    split
    · rename_i h; subst h; simp [noneT]
    · have : ∀ l : List Sp, l.length ≤ (l.flatMap spT).length := fun l => by
        induction l with
        | nil => simp
        | cons s l ih => rw [List.flatMap_cons, List.length_append, List.length_cons]; have : 1 ≤ (spT s).length := by simp [spT, scT]
                         omega
      have := this sl
      rw [List.length_cons, List.length_append]; omega
  obtain ⟨t, e, hc⟩ := class_txt h r F (by simp at hF; omega)
  rw [e]
  have hnd : nd (.mk 1 sl [] 0 0) = chN false (Mem sl) := by rw [nd_mk, ndL]; rfl
  have hat : ∀ f, atomG F [] f false (91 :: t) = .ok (chN false (Mem sl)) r := by
    intro f
    show (match classG F t with
      | Out.err e x => Out.err e x
      | Out.ok K r1 => Out.ok (chN false K) r1) = _
    rw [hc]
  rw [hnd]
  cases n with
  | zero => exact hat none
  | succ n => exact hat (some (altG F [] n))
theorem in_same {ks ls : List Nat} {x : Ns} (h : ks.contains x.kind = ls.contains x.kind) : inT ks x = inT ls x := by unfold inT; rw [h]
theorem in_no {ks : List Nat} {x : Ns} (h : ks.contains x.kind = false) : inT ks x = txt x := by unfold inT; rw [h]; rfl
theorem in_yes {ks : List Nat} {x : Ns} (h : ks.contains x.kind = true) : inT ks x = 40 :: (txt x ++ [41]) := by unfold inT; rw [h]; rfl
theorem unit_base {u : Ns} (h : BaseAt u) (hk : ([2, 3] : List Nat).contains u.kind = ([2, 3, 4] : List Nat).contains u.kind) : UnitAt u := by
  intro F n r hn hq hF
  rw [in_same hk] at hF ⊢
  unfold repU
  rw [h F n r hn hF]
  exact rep_quiet (by omega) hq
theorem part_unit {u : Ns} (hu : Shp u) (h : UnitAt u) (hk : ([3] : List Nat).contains u.kind = ([2, 3] : List Nat).contains u.kind) : PartAt u := by
  intro F n r hn hr hF
  rw [in_same hk] at hF ⊢
  exact cat_one (beg_in (beg_txt u hu)) hr (h F n r hn (quiet_of (.inl hr)) hF) (by have := in_len (ks := [2, 3]) hu; rw [List.length_append] at hF; omega)
theorem whole_part {u : Ns} {F n : Nat} {r : List Int} (hr : End r) (hF : 1 ≤ F) (h : catG F (atomN F [] n) (txt u ++ r) = .ok (nd u) r) : altG F [] n false (txt u ++ r) = .ok (nd u) r := by
  obtain ⟨f, rfl⟩ : ∃ f, F = f + 1 := ⟨F - 1, by omega⟩
  have hno : at1 124 r = false := by
    rcases hr with rfl | ⟨t, rfl⟩ <;> rfl
  rw [altG_eq]
  unfold altBG
  rw [h]
  dsimp only
  rw [altL, if_neg (by rw [hno]; simp)]
  rfl
theorem trip_all : ∀ (u : Ns), Shp u → BaseAt u ∧ UnitAt u ∧ PartAt u ∧ WholeAt u
  | .mk k sl kids mn mx, hu => by
    have hu' := hu
    rw [shp_mk, shpL_iff] at hu
    obtain ⟨hs, hk⟩ := hu
    have ih : ∀ x ∈ kids, BaseAt x ∧ UnitAt x ∧ PartAt x ∧ WholeAt x := fun x hx => trip_all x (hk x hx)
    have hdep : ∀ x ∈ kids, dep x + 1 ≤ dep (.mk k sl kids mn mx) := fun x hx => by rw [dep_mk]; exact depL_mem _ _ hx
    rcases hs with ⟨rfl, rfl, h0, rfl, rfl⟩ | ⟨rfl, h0, rfl, rfl, hnl⟩ | ⟨h23, h2, rfl, rfl, rfl⟩ | ⟨rfl, h1, rfl, hmn, hmx⟩
    · obtain rfl := List.length_eq_zero_iff.1 h0
      have hb := base_empty
      have hun := unit_base hb rfl
      refine ⟨hb, hun, part_unit hu' hun rfl, fun F n r hn hr hF => ?_⟩
      have hp := part_unit hu' hun rfl F n r (by rw [dep_mk, depL_nil] at hn ⊢; omega) hr.stp (by rw [in_no rfl]; exact hF)
      rw [in_no rfl] at hp
      exact whole_part hr (by omega) hp
    · obtain rfl := List.length_eq_zero_iff.1 h0
      have hb := base_chars hnl
      have hun := unit_base hb rfl
      refine ⟨hb, hun, part_unit hu' hun rfl, fun F n r hn hr hF => ?_⟩
      have hp := part_unit hu' hun rfl F n r (by rw [dep_mk, depL_nil] at hn ⊢; omega) hr.stp (by rw [in_no rfl]; exact hF)
      rw [in_no rfl] at hp
      exact whole_part hr (by omega) hp
    · obtain ⟨x, y, l, rfl⟩ : ∃ x y l, kids = x :: y :: l := by
        match kids, h2 with
        | x :: y :: l, _ => exact ⟨x, y, l, rfl⟩
        | [x], h => simp at h
      have hd1 : 1 ≤ dep (.mk k [] (x :: y :: l) 0 0) := by have := hdep x (by simp); omega
      rcases h23 with rfl | rfl
      · have hcat : ∀ (F n : Nat) (r : List Int), dep (.mk 2 [] (x :: y :: l) 0 0) ≤ n → Stp r → (txt (.mk 2 [] (x :: y :: l) 0 0) ++ r).length + 1 ≤ F → catG F (atomN F [] n) (txt (.mk 2 [] (x :: y :: l) 0 0) ++ r) = .ok (nd (.mk 2 [] (x :: y :: l) 0 0)) r := by
          intro F n r hn hr hF
          have et : txt (.mk 2 [] (x :: y :: l) 0 0) = kidsT [2, 3] [] (x :: y :: l) := by rw [txt_mk]; rfl
          rw [et] at hF ⊢
          have hlen := kids_len (ks := [2, 3]) (sep := []) (x :: y :: l) hk
          unfold catG
          rw [cat_many hr (x :: y :: l) F [] (by rw [List.length_append] at hF; omega) (fun z hz => beg_txt z (hk z hz)) (fun z hz r' hq hl => (ih z hz).2.1 F n r' (by have := hdep z hz; omega) hq (by omega))]
          rw [nd_mk, memNil, ndL, ndL]
          rfl
        have hw : WholeAt (.mk 2 [] (x :: y :: l) 0 0) := fun F n r hn hr hF => whole_part hr (by omega) (hcat F n r (by omega) hr.stp hF)
        have hb := base_bracket hu' (in_yes rfl) hd1 hw
        refine ⟨hb, unit_base hb rfl, fun F n r hn hr hF => ?_, hw⟩
        rw [in_no rfl] at hF ⊢
        exact hcat F n r (by omega) hr hF
      · have hw : WholeAt (.mk 3 [] (x :: y :: l) 0 0) := by
          intro F n r hn hr hF
          have et : txt (.mk 3 [] (x :: y :: l) 0 0) ++ r = inT [3] x ++ (kidsT [3] [124] (y :: l) ++ r) := by
            have e1 : txt (.mk 3 [] (x :: y :: l) 0 0) = (kidsT [3] [124] (x :: y :: l)).tail := by rw [txt_mk]; rfl
            rw [e1, kidsT_cons [3] [124] x (y :: l)]; simp
          have hlen := kids_len (ks := [3]) (sep := [124]) (y :: l) (fun z hz => hk z (by simp at hz ⊢; exact .inr hz))
          rw [et] at hF ⊢
          have h1 := (ih x (by simp)).2.2.1 F n (kidsT [3] [124] (y :: l) ++ r) (by have := hdep x (by simp); omega) (by rw [kidsT_cons]; exact .inr ⟨_, .inr rfl⟩) hF
          rw [altG_eq]
          unfold altBG
          rw [h1]
          dsimp only
          rw [alt_many hr (y :: l) F [nd x] (by simp only [List.length_append] at hF; omega) (fun z hz r' hr' hl => (ih z (by simp at hz ⊢; exact .inr hz)).2.2.1 F n r' (by have := hdep z (by simp at hz ⊢; exact .inr hz); omega) hr' (by simp only [List.length_append] at hl hF ⊢; omega))]
          rw [nd_mk, memNil, ndL, ndL]
          rfl
        have hb := base_bracket hu' (in_yes rfl) hd1 hw
        have hun := unit_base hb rfl
        exact ⟨hb, hun, part_unit hu' hun rfl, hw⟩
    · obtain ⟨x, rfl⟩ := List.length_eq_one_iff.1 h1
      have hd1 : 1 ≤ dep (.mk 4 [] [x] mn mx) := by have := hdep x (by simp); omega
      have et : ∀ r, txt (.mk 4 [] [x] mn mx) ++ r = inT [2, 3, 4] x ++ (timesT mn mx ++ r) := fun r => by
        have e1 : txt (.mk 4 [] [x] mn mx) = kidsT [2, 3, 4] [] [x] ++ timesT mn mx := by rw [txt_mk]; rfl
        rw [e1, kidsT_cons [2, 3, 4] [] x [], kidsT_nil]; simp
      have hrep : ∀ (F n : Nat) (r : List Int), dep (.mk 4 [] [x] mn mx) ≤ n → timesF r = .ok none r → (txt (.mk 4 [] [x] mn mx) ++ r).length + 1 ≤ F → repU F (atomN F [] n) (txt (.mk 4 [] [x] mn mx) ++ r) = .ok (nd (.mk 4 [] [x] mn mx)) r := by
        intro F n r hn hq hF
        rw [et] at hF ⊢
        unfold repU
        rw [(ih x (by simp)).1 F n (timesT mn mx ++ r) (by have := hdep x (by simp); omega) hF]
        dsimp only
        obtain ⟨f, rfl⟩ : ∃ f, F = f + 2 := ⟨F - 2, by have := in_len (ks := [2, 3, 4]) (hk x (by simp)); rw [List.length_append] at hF; omega⟩
        rw [repL, times_txt hmn hmx]
        dsimp only
        rw [repL, hq]
        rw [nd_mk, memNil, ndL, ndL]
      have hcat : ∀ (F n : Nat) (r : List Int), dep (.mk 4 [] [x] mn mx) ≤ n → Stp r → (txt (.mk 4 [] [x] mn mx) ++ r).length + 1 ≤ F → catG F (atomN F [] n) (txt (.mk 4 [] [x] mn mx) ++ r) = .ok (nd (.mk 4 [] [x] mn mx)) r := fun F n r hn hr hF =>
        cat_one (beg_txt _ hu') hr (hrep F n r hn (quiet_of (.inl hr)) hF) (by obtain ⟨c, t, e, _⟩ := beg_txt _ hu'; rw [e] at hF; simp at hF; omega)
      have hw : WholeAt (.mk 4 [] [x] mn mx) := fun F n r hn hr hF => whole_part hr (by omega) (hcat F n r (by omega) hr.stp hF)
      have hb := base_bracket hu' (in_yes rfl) hd1 hw
      refine ⟨hb, fun F n r hn hq hF => ?_, fun F n r hn hr hF => ?_, hw⟩
      · rw [in_no rfl] at hF ⊢
        exact hrep F n r (by omega) hq hF
      · rw [in_no rfl] at hF ⊢
        exact hcat F n r (by omega) hr hF
end
def wholeF (D : List Df) (r : List Int) : Out Nd :=
  match altF D 20 false r with
  | .err e x => .err e x
  | .ok x r1 => if r1 = [] then .ok x [] else .err 60 r1
/-- What is written is read as it was. -/
theorem trip {u : Ns} (h : SndAt u 0) (hl : (txt u).length ≤ 200) : wholeF [] (txt u) = .ok (nd u) [] := by
  have hw := (trip_all u h.1).2.2.2 201 20 [] (by have := h.2; omega) (.inl rfl) (by simp; omega)
  rw [List.append_nil, altG_F] at hw
  unfold wholeF
  rw [hw]
  rfl
/-- No two trees have one text. -/
theorem txt_inj {u v : Ns} (hu : Shp u) (hv : Shp v) (h : txt u = txt v) : u = v := by
  have h1 := (trip_all u hu).2.2.2 ((txt v).length + 2) (max 1 (max (dep u) (dep v))) [] (by omega) (.inl rfl) (by rw [h]; simp)
  have h2 := (trip_all v hv).2.2.2 ((txt v).length + 2) (max 1 (max (dep u) (dep v))) [] (by omega) (.inl rfl) (by simp)
  rw [h, h2] at h1
  injection h1 with h1
  exact (nd_inj _ _ (shp_nfs v hv) (shp_nfs u hu) h1).symm
end WrM

/- How many nodes a pattern of so many signs has; how long its text is. Nothing of a program stands here. -/
namespace WrM
open SetM RxM

mutual
def cntN : Nd → Nat
  | .mk _ _ kids _ _ => 1 + cntL kids
def cntL : List Nd → Nat
  | [] => 0
  | x :: l => cntN x + cntL l
end
theorem cntN_mk (k : Nat) (K : Int → Prop) (kids : List Nd) (mn mx : Int) : cntN (.mk k K kids mn mx) = 1 + cntL kids := by rw [cntN]
theorem cntL_nil : cntL [] = 0 := by rw [cntL]
theorem cntL_cons (x : Nd) (l : List Nd) : cntL (x :: l) = cntN x + cntL l := by rw [cntL]
theorem cntL_app : ∀ (a b : List Nd), cntL (a ++ b) = cntL a + cntL b
  | [], b => by rw [cntL_nil]; simp
  | x :: a, b => by rw [List.cons_append, cntL_cons, cntL_cons, cntL_app a b]; omega
theorem cnt_join (k : Nat) (l : List Nd) : cntN (joinF k l) ≤ 1 + cntL l ∧ (l.length = 1 → cntN (joinF k l) = cntL l) := by
  match l with
  | [] => exact ⟨by show cntN (.mk 0 none0 [] 0 0) ≤ _; rw [cntN_mk]; omega, fun h => by simp at h⟩
  | [x] => exact ⟨by show cntN x ≤ _; rw [cntL_cons]; omega, fun _ => by show cntN x = _; rw [cntL_cons, cntL_nil]; omega⟩
  | x :: y :: l => exact ⟨by show cntN (.mk k none0 (x :: y :: l) 0 0) ≤ _; rw [cntN_mk]; omega, fun h => by simp at h⟩
/-- Seven nodes for a sign, and one. -/
def Bd1 (f : List Int → Out Nd) : Prop := ∀ r x r', f r = .ok x r' → cntN x + 7 * r'.length ≤ 7 * r.length + 1
/-- .. and one less. -/
def Bd0 (f : List Int → Out Nd) : Prop := ∀ r x r', f r = .ok x r' → cntN x + 7 * r'.length + 1 ≤ 7 * r.length
theorem bd_rep : ∀ (f : Nat) (x y : Nd) (r r' : List Int), repL f x r = .ok y r' → cntN y + 7 * r'.length ≤ cntN x + 7 * r.length
  | 0, _, _, _, _, h => by simp [repL] at h
  | f + 1, x, y, r, r', h => by
    unfold repL at h
    split at h
    · cases h
    · rename_i h1; cases h; rw [times_none h1]; omega
    · rename_i h1
      have h2 := times_len h1
      have h3 := bd_rep f _ _ _ _ h
      rw [cntN_mk, cntL_cons, cntL_nil] at h3
      omega
theorem bd_inner {f : Bool → List Int → Out Nd} (hf : ∀ cl, Bd1 (f cl)) {cl : Bool} {r r' : List Int} {x : Nd} (h : innerF f cl r = .ok x r') : cntN x + 7 * r'.length + 6 ≤ 7 * r.length := by
  unfold innerF at h
  split at h
  · cases h
  · rename_i y r1 h1
    split at h
    · cases h
    · rename_i r2 h2
      cases h
      have := hf cl _ _ _ h1
      have e2 := congrArg List.length (need_ok h2)
      simp at e2; omega
theorem bd_group {f : Bool → List Int → Out Nd} (hf : ∀ cl, Bd1 (f cl)) {cl : Bool} {r r' : List Int} {x : Nd} (h : groupF f cl r = .ok x r') : cntN x + 7 * r'.length + 6 ≤ 7 * r.length := by
  unfold groupF at h
  split at h
  · split at h
    · rename_i h1 h2
      have := tail_lt h1
      have := tail_lt h2.1
      have := tail_lt h2.2
      have := bd_inner hf h
      omega
    · cases h
  · exact bd_inner hf h
theorem bd_atom {D : List Df} (hD : ∀ d ∈ D, cntN d.2.1 ≤ 5 ∧ cntN d.2.2 ≤ 5) {f : Option (Bool → List Int → Out Nd)} (hf : ∀ g, f = some g → ∀ cl, Bd1 (g cl)) {cl : Bool} : Bd0 (atomF D f cl) := by
  have hch : ∀ (cl : Bool) (K : Int → Prop), cntN (chN cl K) = 1 := fun cl K => by unfold chN; rw [cntN_mk, cntL_nil]
  intro r x r' h
  cases r with
  | nil => simp [atomF] at h
  | cons c t =>
    simp only [atomF] at h
    split at h
    · split at h
      · cases h
      · rename_i g; have := bd_group (hf g rfl) h; simp; omega
    split at h
    · have hl := named_len h
      have hc : cntN x ≤ 5 := by
        cases t with
        | nil => simp [namedF] at h
        | cons c' t =>
          simp only [namedF] at h
          split at h
          · split at h
            · cases h
            · split at h
              · cases h
              · rename_i h3
                cases h
                unfold findF at h3
                split at h3
                · cases h3
                · rename_i d h4
                  have := hD d (List.mem_of_find?_eq_some h4)
                  cases h3
                  split
                  · exact this.2
                  · exact this.1
          · cases h
      simp; omega
    split at h
    · split at h
      · cases h
      · rename_i h1; cases h; have := class_len h1; rw [hch]; simp; omega
    split at h
    · split at h
      · cases h
      · rename_i h1; cases h; have := esc_len h1; rw [hch]; simp; omega
    split at h
    · cases h; rw [hch]; simp; omega
    · cases h; rw [hch]; simp; omega
theorem bd_catL {atom : List Int → Out Nd} (ha : Bd0 atom) : ∀ (f : Nat) (acc l : List Nd) (r r' : List Int), catL atom f acc r = .ok l r' → cntL l + l.length + 7 * r'.length ≤ cntL acc + acc.length + 7 * r.length
  | 0, _, _, _, _, h => by simp [catL] at h
  | f + 1, acc, l, r, r', h => by
    unfold catL at h
    split at h
    · cases h; omega
    · split at h
      · cases h
      · rename_i h1
        split at h
        · cases h
        · rename_i h2
          have h3 := ha _ _ _ h1
          have h4 := bd_rep _ _ _ _ _ h2
          have h5 := bd_catL ha f _ _ _ _ h
          rw [cntL_app, cntL_cons, cntL_nil, List.length_append] at h5
          simp at h5
          omega
theorem bd_cat {atom : List Int → Out Nd} (ha : Bd0 atom) : Bd1 (catF atom) := by
  intro r x r' h
  unfold catF at h
  split at h
  · cases h
  · rename_i l r1 h1
    cases h
    have h2 := bd_catL ha _ _ _ _ _ h1
    have h3 := cnt_join 2 l
    rw [cntL_nil] at h2
    simp at h2
    omega
theorem bd_altL {cat : List Int → Out Nd} (hc : Bd1 cat) : ∀ (f : Nat) (acc l : List Nd) (r r' : List Int), altL cat f acc r = .ok l r' → cntL l + l.length + 7 * r'.length ≤ cntL acc + acc.length + 7 * r.length ∧ acc.length ≤ l.length
  | 0, _, _, _, _, h => by simp [altL] at h
  | f + 1, acc, l, r, r', h => by
    unfold altL at h
    split at h
    · rename_i h0
      have := tail_lt h0
      split at h
      · cases h
      · rename_i h1
        have h3 := hc _ _ _ h1
        have h5 := bd_altL hc f _ _ _ _ h
        rw [cntL_app, cntL_cons, cntL_nil, List.length_append] at h5
        simp at h5
        omega
    · cases h; omega
theorem bd_altB {cat : List Int → Out Nd} (hc : Bd1 cat) : Bd1 (altB cat) := by
  intro r x r' h
  unfold altB at h
  split at h
  · cases h
  · rename_i h1
    split at h
    · cases h
    · rename_i l r2 h2
      cases h
      have h3 := hc _ _ _ h1
      have h4 := bd_altL hc _ _ _ _ _ h2
      rw [cntL_cons, cntL_nil] at h4
      have h5 := cnt_join 3 l
      simp at h4
      by_cases e : l.length = 1
      · rw [h5.2 e]; omega
      · omega
theorem bd_alt {D : List Df} (hD : ∀ d ∈ D, cntN d.2.1 ≤ 5 ∧ cntN d.2.2 ≤ 5) : ∀ (n : Nat) (cl : Bool), Bd1 (altF D n cl)
  | 0, cl => bd_altB (bd_cat (bd_atom hD (by simp)))
  | n + 1, cl => bd_altB (bd_cat (bd_atom hD (by rintro g hg c; cases hg; exact bd_alt hD n c)))
theorem bd_whole {D : List Df} (hD : ∀ d ∈ D, cntN d.2.1 ≤ 5 ∧ cntN d.2.2 ≤ 5) {r r' : List Int} {x : Nd} (h : wholeF D r = .ok x r') : cntN x ≤ 7 * r.length + 1 := by
  unfold wholeF at h
  split at h
  · cases h
  · rename_i h1
    split at h
    · cases h
      have := bd_alt hD _ _ _ _ _ h1
      omega
    · cases h

/-! How long a text is. -/
def wid (M : Nat) : Nat := 21 * M + 30
mutual
/-- Sets of no more spans than so many. -/
def Lim (M : Nat) : Ns → Prop
  | .mk _ sl kids _ _ => sl.length ≤ M ∧ LimL M kids
def LimL (M : Nat) : List Ns → Prop
  | [] => True
  | x :: l => Lim M x ∧ LimL M l
end
theorem lim_mk (M k : Nat) (sl : List Sp) (kids : List Ns) (mn mx : Int) : Lim M (.mk k sl kids mn mx) ↔ sl.length ≤ M ∧ LimL M kids := by rw [Lim]
theorem limL_iff (M : Nat) : ∀ (l : List Ns), LimL M l ↔ ∀ x ∈ l, Lim M x
  | [] => by rw [LimL]; simp
  | x :: l => by rw [LimL, limL_iff M l]; simp
theorem sc_len {c : Int} (h : Sc c) : (scT c).length ≤ 10 := by
  have := dig_len (b := 16) (by omega) 5 c.toNat (by unfold Sc at h; omega)
  simp [scT]; omega
theorem sp_len {l : List Sp} (h : ∀ s ∈ l, Sc s.1 ∧ Sc s.2 ∧ s.1 ≤ s.2) : (l.flatMap spT).length ≤ 21 * l.length := by
  induction l with
  | nil => simp
  | cons s l ih =>
    have h1 := sc_len (h s (by simp)).1
    have h2 := sc_len (h s (by simp)).2.1
    have h3 := ih (fun x hx => h x (by simp [hx]))
    rw [List.flatMap_cons, List.length_append, List.length_cons]
    have : (spT s).length = (scT s.1).length + ((scT s.2).length + 1) := by simp [spT]
    omega
theorem cls_len {l : List Sp} (h : Norml l) : (clsT l).length ≤ 21 * l.length + 19 := by
  unfold clsT
  split
  · simp [noneT]
  · have := sp_len (norml_ends h)
    rw [List.length_cons, List.length_append]
    simp only [List.length_cons, List.length_nil]
    omega
theorem times_len {mn mx : Int} (h1 : 0 ≤ mn ∧ mn ≤ 20) (h2 : mx = -1 ∨ (mn ≤ mx ∧ mx ≤ 20)) : (timesT mn mx).length ≤ 7 := by
  have a := dig_len (b := 10) (by omega) 1 mn.toNat (by omega)
  unfold timesT
  split
  · simp; omega
  · have b := dig_len (b := 10) (by omega) 1 mx.toNat (by omega)
    simp; omega
theorem in_le (ks : List Nat) (x : Ns) : (inT ks x).length ≤ (txt x).length + 2 := by
  unfold inT
  split <;> simp
mutual
theorem txt_len (M : Nat) : ∀ (u : Ns), Shp u → Lim M u → (txt u).length + 4 ≤ cntN (nd u) * wid M
  | .mk k sl kids mn mx, hu, hl => by
    rw [shp_mk] at hu
    rw [lim_mk] at hl
    obtain ⟨hs, hk⟩ := hu
    rw [nd_mk, cntN_mk, txt_mk]
    have h2 := kids_txt M [2, 3] [] (by simp) kids hk hl.2
    have h3 := kids_txt M [3] [124] (by simp) kids hk hl.2
    have h4 := kids_txt M [2, 3, 4] [] (by simp) kids hk hl.2
    have hw : (1 + cntL (ndL kids)) * wid M = wid M + cntL (ndL kids) * wid M := by rw [Nat.add_mul, Nat.one_mul]
    have hwid : wid M = 21 * M + 30 := rfl
    have hsl := hl.1
    rw [hw]
    generalize cntL (ndL kids) * wid M = z at *
    rcases hs with ⟨rfl, _⟩ | ⟨rfl, _, _, _, hn⟩ | ⟨rfl | rfl, _⟩ | ⟨rfl, _, _, hmn, hmx⟩
    · rw [if_pos rfl]; simp; omega
    · have := cls_len hn
      rw [if_neg (by omega), if_pos rfl]; omega
    · rw [if_neg (by omega), if_neg (by omega), if_pos rfl]; omega
    · rw [if_neg (by omega), if_neg (by omega), if_neg (by omega), if_pos rfl, List.length_tail]; omega
    · have := times_len hmn hmx
      rw [if_neg (by omega), if_neg (by omega), if_neg (by omega), if_neg (by omega), if_pos rfl, List.length_append]; omega
theorem kids_txt (M : Nat) (ks : List Nat) (sep : List Int) (hsep : sep.length ≤ 1) : ∀ (l : List Ns), ShpL l → LimL M l → (kidsT ks sep l).length ≤ cntL (ndL l) * wid M
  | [], _, _ => by rw [kidsT_nil]; simp
  | x :: l, hs, hl => by
    rw [ShpL] at hs
    rw [LimL] at hl
    rw [kidsT_cons, ndL, cntL_cons, Nat.add_mul, List.length_append, List.length_append]
    have h1 := txt_len M x hs.1 hl.1
    have h2 := kids_txt M ks sep hsep l hs.2 hl.2
    have h3 := in_le ks x
    omega
end
end WrM

/- Sets of a parsed tree tell scalars alone. Nothing of a program stands here. -/
namespace WrM
open SetM RxM

mutual
/-- All sets tell scalars alone. -/
def ScN : Nd → Prop
  | .mk _ K kids _ _ => (∀ r, K r → Sc r) ∧ ScL kids
def ScL : List Nd → Prop
  | [] => True
  | x :: l => ScN x ∧ ScL l
end
theorem scN_mk (k : Nat) (K : Int → Prop) (kids : List Nd) (mn mx : Int) : ScN (.mk k K kids mn mx) ↔ (∀ r, K r → Sc r) ∧ ScL kids := by rw [ScN]
theorem scL_nil : ScL [] := by rw [ScL]; trivial
theorem scL_cons (x : Nd) (l : List Nd) : ScL (x :: l) ↔ ScN x ∧ ScL l := by rw [ScL]
theorem scL_app : ∀ (a b : List Nd), ScL a → ScL b → ScL (a ++ b)
  | [], _, _, hb => hb
  | x :: a, b, ha, hb => by
    rw [scL_cons] at ha
    rw [List.cons_append, scL_cons]
    exact ⟨ha.1, scL_app a b ha.2 hb⟩
theorem sc_none : ∀ r, none0 r → Sc r := fun _ h => h.elim
theorem sc_empty : ScN (.mk 0 none0 [] 0 0) := by rw [scN_mk]; exact ⟨sc_none, scL_nil⟩
theorem sc_join (k : Nat) (l : List Nd) (h : ScL l) : ScN (joinF k l) := by
  match l, h with
  | [], _ => exact sc_empty
  | [x], h => rw [scL_cons] at h; exact h.1
  | x :: y :: l, h => show ScN (.mk k none0 (x :: y :: l) 0 0); rw [scN_mk]; exact ⟨sc_none, h⟩
theorem sc_chN (cl : Bool) {K : Int → Prop} (h : ∀ r, K r → Sc r) : ScN (chN cl K) := by
  unfold chN
  rw [scN_mk]
  refine ⟨fun r hr => ?_, scL_nil⟩
  cases cl with
  | true => exact hr.1
  | false => exact h r hr
def Sf (f : List Int → Out Nd) : Prop := ∀ r x r', f r = .ok x r' → ScN x
theorem sc_rep : ∀ (f : Nat) (x y : Nd) (r r' : List Int), ScN x → repL f x r = .ok y r' → ScN y
  | 0, _, _, _, _, _, h => by simp [repL] at h
  | f + 1, x, y, r, r', hx, h => by
    unfold repL at h
    split at h
    · cases h
    · cases h; exact hx
    · exact sc_rep f _ _ _ _ (by rw [scN_mk]; exact ⟨sc_none, (scL_cons _ _).2 ⟨hx, scL_nil⟩⟩) h
theorem sc_inner {f : Bool → List Int → Out Nd} (hf : ∀ cl, Sf (f cl)) {cl : Bool} {r r' : List Int} {x : Nd} (h : innerF f cl r = .ok x r') : ScN x := by
  unfold innerF at h
  split at h
  · cases h
  · rename_i y r1 h1
    split at h
    · cases h
    · cases h
      exact hf cl _ _ _ h1
theorem sc_group {f : Bool → List Int → Out Nd} (hf : ∀ cl, Sf (f cl)) {cl : Bool} {r r' : List Int} {x : Nd} (h : groupF f cl r = .ok x r') : ScN x := by
  unfold groupF at h
  split at h
  · split at h
    · exact sc_inner hf h
    · cases h
  · exact sc_inner hf h
theorem sc_tells (l : List Sp) : ∀ r, Tells l r → Sc r := fun _ h => h.1
theorem sc_class {r r' : List Int} {K : Int → Prop} (h : classF r = .ok K r') : ∀ c, K c → Sc c := by
  unfold classF at h
  split at h
  · split at h
    · cases h
    · cases h; exact fun c hc => hc.1
  · split at h
    · cases h
    · cases h; exact fun c hc => hc.1
theorem sc_atom {D : List Df} (hD : ∀ d ∈ D, ScN d.2.1 ∧ ScN d.2.2) {f : Option (Bool → List Int → Out Nd)} (hf : ∀ g, f = some g → ∀ cl, Sf (g cl)) {cl : Bool} : Sf (atomF D f cl) := by
  intro r x r' h
  cases r with
  | nil => simp [atomF] at h
  | cons c t =>
    simp only [atomF] at h
    split at h
    · split at h
      · cases h
      · rename_i g; exact sc_group (hf g rfl) h
    split at h
    · cases t with
      | nil => simp [namedF] at h
      | cons c' t =>
        simp only [namedF] at h
        split at h
        · split at h
          · cases h
          · split at h
            · cases h
            · rename_i h3
              cases h
              unfold findF at h3
              split at h3
              · cases h3
              · rename_i d h4
                have := hD d (List.mem_of_find?_eq_some h4)
                cases h3
                split
                · exact this.2
                · exact this.1
        · cases h
    split at h
    · split at h
      · cases h
      · rename_i h1; cases h; exact sc_chN _ (sc_class h1)
    split at h
    · split at h
      · cases h
      · cases h; exact sc_chN _ (sc_tells _)
    split at h
    · cases h; exact sc_chN _ (fun c hc => hc.1)
    · cases h; exact sc_chN _ (sc_tells _)
theorem sc_catL {atom : List Int → Out Nd} (ha : Sf atom) : ∀ (f : Nat) (acc l : List Nd) (r r' : List Int), ScL acc → catL atom f acc r = .ok l r' → ScL l
  | 0, _, _, _, _, _, h => by simp [catL] at h
  | f + 1, acc, l, r, r', hacc, h => by
    unfold catL at h
    split at h
    · cases h; exact hacc
    · split at h
      · cases h
      · rename_i h1
        split at h
        · cases h
        · rename_i h2
          exact sc_catL ha f _ _ _ _ (scL_app _ _ hacc ((scL_cons _ _).2 ⟨sc_rep _ _ _ _ _ (ha _ _ _ h1) h2, scL_nil⟩)) h
theorem sc_cat {atom : List Int → Out Nd} (ha : Sf atom) : Sf (catF atom) := by
  intro r x r' h
  unfold catF at h
  split at h
  · cases h
  · rename_i l r1 h1
    cases h
    exact sc_join 2 l (sc_catL ha _ _ _ _ _ scL_nil h1)
theorem sc_altL {cat : List Int → Out Nd} (hc : Sf cat) : ∀ (f : Nat) (acc l : List Nd) (r r' : List Int), ScL acc → altL cat f acc r = .ok l r' → ScL l
  | 0, _, _, _, _, _, h => by simp [altL] at h
  | f + 1, acc, l, r, r', hacc, h => by
    unfold altL at h
    split at h
    · split at h
      · cases h
      · rename_i h1
        exact sc_altL hc f _ _ _ _ (scL_app _ _ hacc ((scL_cons _ _).2 ⟨hc _ _ _ h1, scL_nil⟩)) h
    · cases h; exact hacc
theorem sc_altB {cat : List Int → Out Nd} (hc : Sf cat) : Sf (altB cat) := by
  intro r x r' h
  unfold altB at h
  split at h
  · cases h
  · rename_i h1
    split at h
    · cases h
    · rename_i l r2 h2
      cases h
      exact sc_join 3 l (sc_altL hc _ _ _ _ _ ((scL_cons _ _).2 ⟨hc _ _ _ h1, scL_nil⟩) h2)
theorem sc_alt {D : List Df} (hD : ∀ d ∈ D, ScN d.2.1 ∧ ScN d.2.2) : ∀ (n : Nat) (cl : Bool), Sf (altF D n cl)
  | 0, cl => sc_altB (sc_cat (sc_atom hD (by simp)))
  | n + 1, cl => sc_altB (sc_cat (sc_atom hD (by rintro g hg c; cases hg; exact sc_alt hD n c)))
theorem sc_whole {D : List Df} (hD : ∀ d ∈ D, ScN d.2.1 ∧ ScN d.2.2) {r r' : List Int} {x : Nd} (h : wholeF D r = .ok x r') : ScN x := by
  unfold wholeF at h
  split at h
  · cases h
  · rename_i h1
    split at h
    · cases h
      exact sc_alt hD _ _ _ _ _ h1
    · cases h
mutual
def EndsN : Ns → Prop
  | .mk _ sl kids _ _ => (∀ s ∈ sl, Sc s.1 ∧ Sc s.2 ∧ s.1 ≤ s.2) ∧ EndsL kids
def EndsL : List Ns → Prop
  | [] => True
  | x :: l => EndsN x ∧ EndsL l
end
mutual
/-- Spans of a tree whose sets tell scalars alone have scalars at their ends. -/
theorem sc_ends : ∀ (u : Ns), Nfs u → ScN (nd u) → EndsN u
  | .mk k sl kids mn mx, hu, hs => by
    rw [Nfs] at hu
    rw [nd_mk, scN_mk] at hs
    rw [EndsN]
    exact ⟨norml_ends ⟨hu.1, hs.1⟩, sc_endsL kids hu.2 hs.2⟩
theorem sc_endsL : ∀ (l : List Ns), NfsL l → ScL (ndL l) → EndsL l
  | [], _, _ => by rw [EndsL]; trivial
  | x :: l, hu, hs => by
    rw [NfsL] at hu
    rw [ndL, scL_cons] at hs
    rw [EndsL]
    exact ⟨sc_ends x hu.1 hs.1, sc_endsL l hu.2 hs.2⟩
end
end WrM

/- What is written is of ascii alone. Nothing of a program stands here. -/
namespace WrM
open SetM RxM
def LowL (l : List Int) : Prop := ∀ c ∈ l, 0 ≤ c ∧ c < 128
theorem low_nil : LowL [] := fun c h => by cases h
theorem low_cons {a : Int} {l : List Int} (h : 0 ≤ a ∧ a < 128) (hl : LowL l) : LowL (a :: l) := fun c hc => by
  rcases List.mem_cons.1 hc with rfl | hc
  · exact h
  · exact hl c hc
theorem low_app {a b : List Int} (ha : LowL a) (hb : LowL b) : LowL (a ++ b) := fun c hc => by
  rcases List.mem_append.1 hc with hc | hc
  · exact ha c hc
  · exact hb c hc
theorem hexd_low {d : Nat} (h : d < 16) : 0 ≤ hexd d ∧ hexd d < 128 := by unfold hexd; split <;> omega
theorem dig16_low (n : Nat) : LowL (digF 16 n) := fun c hc => dig_all (b := 16) (by omega) (P := fun c => 0 ≤ c ∧ c < 128) (fun _ h => hexd_low h) n n (Nat.le_refl _) c hc
theorem dig10_low (n : Nat) : LowL (digF 10 n) := fun c hc => dig_all (b := 10) (by omega) (P := fun c => 0 ≤ c ∧ c < 128) (fun _ h => hexd_low (by omega)) n n (Nat.le_refl _) c hc
theorem one_low {a : Int} (h : 0 ≤ a ∧ a < 128) : LowL [a] := low_cons h low_nil
theorem scT_low (c : Int) : LowL (scT c) := by
  unfold scT
  exact low_app (fun c hc => by simp at hc; omega) (low_app (dig16_low _) (one_low (by omega)))
theorem spT_low (s : Sp) : LowL (spT s) := by
  unfold spT
  exact low_app (scT_low _) (low_cons (by omega) (scT_low _))
theorem flat_low : ∀ (l : List Sp), LowL (l.flatMap spT)
  | [] => low_nil
  | s :: l => by rw [List.flatMap_cons]; exact low_app (spT_low s) (flat_low l)
theorem clsT_low (l : List Sp) : LowL (clsT l) := by
  unfold clsT
  split
  · intro c hc; simp [noneT] at hc; omega
  · exact low_cons (by omega) (low_app (flat_low l) (one_low (by omega)))
theorem timesT_low (mn mx : Int) : LowL (timesT mn mx) := by
  unfold timesT
  refine low_cons (by omega) (low_app (dig10_low _) (low_cons (by omega) (low_app ?_ (one_low (by omega)))))
  split
  · exact low_nil
  · exact dig10_low _
mutual
theorem txt_low : ∀ (u : Ns), LowL (txt u)
  | .mk k sl kids mn mx => by
    rw [txt_mk]
    split
    · exact low_cons (by omega) (one_low (by omega))
    split
    · exact clsT_low sl
    split
    · exact kids_low _ _ low_nil kids
    split
    · exact fun c hc => kids_low [3] [124] (one_low (by omega)) kids c (List.mem_of_mem_tail hc)
    split
    · exact low_app (kids_low _ _ low_nil kids) (timesT_low mn mx)
    · exact low_nil
theorem kids_low (ks : List Nat) (sep : List Int) (hs : LowL sep) : ∀ (l : List Ns), LowL (kidsT ks sep l)
  | [] => by rw [kidsT_nil]; exact low_nil
  | x :: l => by
    rw [kidsT_cons]
    refine low_app hs (low_app ?_ (kids_low ks sep hs l))
    unfold inT
    split
    · exact low_cons (by omega) (low_app (txt_low x) (one_low (by omega)))
    · exact txt_low x
end
end WrM
