/- RMath, RStab, RBrk, RClassM, in one text. -/
import Derived.Test.YtahgljglleeloaaGreatDoorMathA
import Derived.Test.YtahgljglleeloaaGreatDoorUA
/- Plain mathematics of patterns: what a text's scalars are as a tree, or what is wrong and what is left there. Nothing of a program stands here. -/
namespace RxM
open SetM PropsM

/-- A node: its kind, what is in its set, its kids, how often. -/
inductive Nd where
  | mk (kind : Nat) (set : Int → Prop) (kids : List Nd) (mn mx : Int)
/-- What is read, and what is left; or what is wrong, and what is left from there on. -/
inductive Out (α : Type) where
  | ok (a : α) (r : List Int)
  | err (e : Nat) (r : List Int)
/-- One scalar, or a class by its number. -/
inductive Pc where
  | one (c : Int)
  | cls (i : Nat)
abbrev Df := List Int × Nd × Nd
def none0 : Int → Prop := fun _ => False

def isL (c : Int) : Bool := decide (97 ≤ c ∧ c ≤ 122) || decide (65 ≤ c ∧ c ≤ 90)
def isD (c : Int) : Bool := decide (48 ≤ c ∧ c ≤ 57)
def isH (c : Int) : Bool := isD c || (decide (97 ≤ c ∧ c ≤ 102) || decide (65 ≤ c ∧ c ≤ 70))
def isLD (c : Int) : Bool := isL c || isD c
def inS (l : List Int) (c : Int) : Bool := l.contains c
def stopS : List Int := [124, 41, 93, 125, 42, 43, 63]
def escS : List Int := [124, 40, 41, 91, 93, 123, 125, 42, 43, 63, 46, 92, 94, 45]
def clsS : List Int := [91, 93, 94, 45]
def at1 (c : Int) : List Int → Bool
  | [] => false
  | b :: _ => decide (b = c)
def sees (P : Int → Bool) : List Int → Bool
  | [] => false
  | b :: _ => P b
def needF (c : Int) : List Int → Out Unit
  | [] => .err 60 []
  | b :: t => if b = c then .ok () t else .err 60 (b :: t)
def runF (P : Int → Bool) : Nat → List Int → List Int × List Int
  | 0, r => ([], r)
  | _ + 1, [] => ([], [])
  | k + 1, c :: r => if P c then (c :: (runF P k r).1, (runF P k r).2) else ([], c :: r)
def numF (r : List Int) : Out Int :=
  if (runF isD 2 r).1 = [] then .err 60 r else .ok ((runF isD 2 r).1.foldl (fun n c => n * 10 + (c - 48)) 0) (runF isD 2 r).2
def mostF (a : Int) (r : List Int) : Out Int :=
  if at1 44 r then (if at1 125 r.tail then .ok (-1) r.tail else numF r.tail) else .ok a r
def boundsF (r : List Int) : Out (Int × Int) :=
  match numF r with
  | .err e x => .err e x
  | .ok a r1 => match mostF a r1 with
    | .err e x => .err e x
    | .ok b r2 => match needF 125 r2 with
      | .err e x => .err e x
      | .ok _ r3 => if 20 < max a b ∨ (b ≠ -1 ∧ b < a) then .err 63 r else .ok (a, b) r3
def timesF (r : List Int) : Out (Option (Int × Int)) :=
  if at1 42 r then .ok (some (0, -1)) r.tail
  else if at1 43 r then .ok (some (1, -1)) r.tail
  else if at1 63 r then .ok (some (0, 1)) r.tail
  else if at1 123 r ∧ sees isL r.tail = false then (match boundsF r.tail with
    | .err e x => .err e x
    | .ok p r1 => .ok (some p) r1)
  else .ok none r
def repL : Nat → Nd → List Int → Out Nd
  | 0, _, r => .err 0 r
  | f + 1, x, r => match timesF r with
    | .err e y => .err e y
    | .ok none r1 => .ok x r1
    | .ok (some p) r1 => repL f (.mk 4 none0 [x] p.1 p.2) r1

def hexV (c : Int) : Int := if c ≤ 57 then c - 48 else if c ≤ 70 then c - 55 else c - 87
def hexN (l : List Int) : Int := l.foldl (fun n c => n * 16 + hexV c) 0
def scB (n : Int) : Bool := decide (0 ≤ n ∧ n ≤ 1114111 ∧ ¬ (55296 ≤ n ∧ n ≤ 57343))
def byNumF (r0 r : List Int) : Out Pc :=
  match needF 123 r with
  | .err e x => .err e x
  | .ok _ r1 => if (runF isH 6 r1).1 = [] then .err 60 r1 else match needF 125 (runF isH 6 r1).2 with
    | .err e x => .err e x
    | .ok _ r2 => if scB (hexN (runF isH 6 r1).1) then .ok (.one (hexN (runF isH 6 r1).1)) r2 else .err 60 r0
def bytesOf (l : List Int) : Bs := (Go.Proofs.YtahgljglleeloaaGreatDoor.U.UtfM.wr l).map fun n => UInt8.ofNat n.toNat
def not125 (c : Int) : Bool := decide (c ≠ 125)
def byNameF (r0 r : List Int) : Out Pc :=
  match needF 123 r with
  | .err e x => .err e x
  | .ok _ r1 => match needF 125 (r1.dropWhile not125) with
    | .err e x => .err e x
    | .ok _ r2 => match whichF (looseL (bytesOf (r1.takeWhile not125))) with
      | none => .err 62 r0
      | some i => .ok (.cls i) r2
def escF (r0 : List Int) : List Int → Out Pc
  | [] => .err 60 []
  | c :: t => if c = 110 then .ok (.one 10) t
    else if c = 114 then .ok (.one 13) t
    else if c = 116 then .ok (.one 9) t
    else if c = 120 then byNumF r0 t
    else if c = 112 then byNameF r0 t
    else if inS escS c then .ok (.one c) t else .err 60 (c :: t)
def pieceF : List Int → Out Pc
  | [] => .err 60 []
  | c :: t => if c = 92 then escF (c :: t) t else if inS clsS c then .err 60 (c :: t) else .ok (.one c) t
def pcS : Pc → List Sp
  | .one c => [(c, c)]
  | .cls i => gathOf i
def pairF (r : List Int) (a b : Pc) (r3 : List Int) : Out (List Sp) :=
  match a, b with
  | .one x, .one y => if y < x then .err 60 r else .ok [(x, y)] r3
  | _, _ => .err 60 r
def itemF (r : List Int) : Out (List Sp) :=
  match pieceF r with
  | .err e x => .err e x
  | .ok a r1 => if at1 45 r1 then (match pieceF r1.tail with
      | .err e x => .err e x
      | .ok b r3 => pairF r a b r3)
    else .ok (pcS a) r1
def classL : Nat → List Sp → List Int → Out (List Sp)
  | 0, _, r => .err 0 r
  | f + 1, acc, r => if at1 93 r then .ok acc r.tail else match itemF r with
    | .err e x => .err e x
    | .ok l r1 => classL f (acc ++ l) r1
def notK (K : Int → Prop) : Int → Prop := fun c => SetM.Sc c ∧ ¬ K c
def classF (r : List Int) : Out (Int → Prop) :=
  if at1 94 r then (match classL 201 [] r.tail with
    | .err e x => .err e x
    | .ok l r1 => .ok (notK (Tells l)) r1)
  else match classL 201 [] r with
    | .err e x => .err e x
    | .ok l r1 => .ok (Tells l) r1
def chN (cl : Bool) (K : Int → Prop) : Nd := .mk 1 (if cl then ClosedK K else K) [] 0 0
def joinF (k : Nat) : List Nd → Nd
  | [] => .mk 0 none0 [] 0 0
  | [x] => x
  | x :: y :: l => .mk k none0 (x :: y :: l) 0 0
def findF (D : List Df) (cl : Bool) (nm : List Int) : Option Nd :=
  match D.find? (fun d => d.1 == nm) with
  | none => none
  | some d => some (if cl then d.2.2 else d.2.1)
def namedF (D : List Df) (cl : Bool) (r0 : List Int) : List Int → Out Nd
  | [] => .err 60 []
  | c :: t => if isL c then (match needF 125 (t.dropWhile isLD) with
      | .err e x => .err e x
      | .ok _ r2 => match findF D cl (c :: t.takeWhile isLD) with
        | none => .err 62 r0
        | some x => .ok x r2)
    else .err 60 (c :: t)
def innerF (f : Bool → List Int → Out Nd) (cl : Bool) (r : List Int) : Out Nd :=
  match f cl r with
  | .err e x => .err e x
  | .ok x r1 => match needF 41 r1 with
    | .err e x => .err e x
    | .ok _ r2 => .ok x r2
def groupF (f : Bool → List Int → Out Nd) (cl : Bool) (r : List Int) : Out Nd :=
  if at1 63 r then (if at1 105 r.tail ∧ at1 58 r.tail.tail then innerF f true r.tail.tail.tail else .err 60 r.tail)
  else innerF f cl r
def atomF (D : List Df) (f : Option (Bool → List Int → Out Nd)) (cl : Bool) : List Int → Out Nd
  | [] => .err 0 []
  | c :: t =>
    if c = 40 then (match f with
      | none => .err 61 (c :: t)
      | some f => groupF f cl t)
    else if c = 123 then namedF D cl (c :: t) t
    else if c = 91 then (match classF t with
      | .err e x => .err e x
      | .ok K r1 => .ok (chN cl K) r1)
    else if c = 92 then (match escF (c :: t) t with
      | .err e x => .err e x
      | .ok p r1 => .ok (chN cl (Tells (pcS p))) r1)
    else if c = 46 then .ok (chN cl (notK (Tells [(10, 10)]))) t
    else .ok (chN cl (Tells [(c, c)])) t
def catL (atom : List Int → Out Nd) : Nat → List Nd → List Int → Out (List Nd)
  | 0, _, r => .err 0 r
  | f + 1, acc, r => if r = [] ∨ sees (inS stopS) r then .ok acc r else match atom r with
    | .err e x => .err e x
    | .ok x r1 => match repL 201 x r1 with
      | .err e x => .err e x
      | .ok y r2 => catL atom f (acc ++ [y]) r2
def catF (atom : List Int → Out Nd) (r : List Int) : Out Nd :=
  match catL atom 201 [] r with
  | .err e x => .err e x
  | .ok l r1 => .ok (joinF 2 l) r1
def altL (cat : List Int → Out Nd) : Nat → List Nd → List Int → Out (List Nd)
  | 0, _, r => .err 0 r
  | f + 1, acc, r => if at1 124 r then (match cat r.tail with
      | .err e x => .err e x
      | .ok x r1 => altL cat f (acc ++ [x]) r1)
    else .ok acc r
def altB (cat : List Int → Out Nd) (r : List Int) : Out Nd :=
  match cat r with
  | .err e x => .err e x
  | .ok x r1 => match altL cat 201 [x] r1 with
    | .err e x => .err e x
    | .ok l r2 => .ok (joinF 3 l) r2
def altF (D : List Df) : Nat → Bool → List Int → Out Nd
  | 0, cl, r => altB (catF (atomF D none cl)) r
  | n + 1, cl, r => altB (catF (atomF D (some (altF D n)) cl)) r
def wholeF (D : List Df) (r : List Int) : Out Nd :=
  match altF D 20 false r with
  | .err e x => .err e x
  | .ok x r1 => if r1 = [] then .ok x [] else .err 60 r1

/-! What is left is shorter. -/
theorem run_len (P : Int → Bool) : ∀ (k : Nat) (r : List Int), (runF P k r).2.length + (runF P k r).1.length = r.length
  | 0, r => by simp [runF]
  | k + 1, [] => by simp [runF]
  | k + 1, c :: r => by
    unfold runF
    split
    · have := run_len P k r
      simp only [List.length_cons]; omega
    · simp
theorem need_ok {c : Int} {r r' : List Int} {u : Unit} (h : needF c r = .ok u r') : r = c :: r' := by
  cases r with
  | nil => simp [needF] at h
  | cons b t =>
    simp only [needF] at h
    split at h
    · cases h; simp_all
    · cases h
theorem at1_true {c : Int} {r : List Int} (h : at1 c r = true) : r = c :: r.tail := by
  cases r with
  | nil => simp [at1] at h
  | cons b t => simp [at1] at h; simp [h]
theorem tail_lt {c : Int} {r : List Int} (h : at1 c r = true) : r.tail.length + 1 = r.length := by
  conv => rhs; rw [at1_true h]
  simp
theorem num_len {r r' : List Int} {n : Int} (h : numF r = .ok n r') : r'.length < r.length := by
  unfold numF at h
  split at h
  · cases h
  · rename_i hne
    cases h
    have := run_len isD 2 r
    have : 0 < (runF isD 2 r).1.length := List.length_pos_iff.2 hne
    omega
theorem most_len {a b : Int} {r r' : List Int} (h : mostF a r = .ok b r') : r'.length ≤ r.length := by
  unfold mostF at h
  split at h
  · rename_i h1
    have := tail_lt h1
    split at h
    · cases h; omega
    · have := num_len h; omega
  · cases h; omega
theorem bounds_len {p : Int × Int} {r r' : List Int} (h : boundsF r = .ok p r') : r'.length < r.length := by
  unfold boundsF at h
  split at h
  · cases h
  · rename_i a r1 h1
    split at h
    · cases h
    · rename_i b r2 h2
      split at h
      · cases h
      · rename_i r3 h3
        split at h
        · cases h
        · cases h
          have := num_len h1
          have := most_len h2
          have := congrArg List.length (need_ok h3)
          simp at this; omega
theorem times_len {p : Int × Int} {r r' : List Int} (h : timesF r = .ok (some p) r') : r'.length < r.length := by
  unfold timesF at h
  split at h
  · rename_i h1; cases h; have := tail_lt h1; omega
  split at h
  · rename_i h1; cases h; have := tail_lt h1; omega
  split at h
  · rename_i h1; cases h; have := tail_lt h1; omega
  split at h
  · rename_i h1
    split at h
    · cases h
    · rename_i h2; cases h; have := tail_lt h1.1; have := bounds_len h2; omega
  · cases h
theorem times_none {r r' : List Int} (h : timesF r = .ok none r') : r' = r := by
  unfold timesF at h
  split at h
  · cases h
  split at h
  · cases h
  split at h
  · cases h
  split at h
  · split at h
    · cases h
    · cases h
  · cases h; rfl
theorem rep_len : ∀ (f : Nat) (x y : Nd) (r r' : List Int), repL f x r = .ok y r' → r'.length ≤ r.length
  | 0, _, _, _, _, h => by simp [repL] at h
  | f + 1, x, y, r, r', h => by
    unfold repL at h
    split at h
    · cases h
    · rename_i h1; cases h; rw [times_none h1]; omega
    · rename_i h1; have := times_len h1; have := rep_len f _ _ _ _ h; omega
theorem drop_le (P : Int → Bool) (r : List Int) : (r.dropWhile P).length ≤ r.length := (List.dropWhile_sublist P).length_le
theorem byNum_len {r0 r r' : List Int} {p : Pc} (h : byNumF r0 r = .ok p r') : r'.length < r.length := by
  unfold byNumF at h
  split at h
  · cases h
  · rename_i r1 h1
    split at h
    · cases h
    split at h
    · cases h
    · rename_i r2 h2
      split at h
      · cases h
        have e1 := congrArg List.length (need_ok h1)
        have e2 := congrArg List.length (need_ok h2)
        have := run_len isH 6 r1
        simp at e1 e2; omega
      · cases h
theorem byName_len {r0 r r' : List Int} {p : Pc} (h : byNameF r0 r = .ok p r') : r'.length < r.length := by
  unfold byNameF at h
  split at h
  · cases h
  · rename_i r1 h1
    split at h
    · cases h
    · rename_i r2 h2
      split at h
      · cases h
      · cases h
        have e1 := congrArg List.length (need_ok h1)
        have e2 := congrArg List.length (need_ok h2)
        have := drop_le not125 r1
        simp at e1 e2; omega
theorem esc_len {r0 r r' : List Int} {p : Pc} (h : escF r0 r = .ok p r') : r'.length < r.length := by
  cases r with
  | nil => simp [escF] at h
  | cons c t =>
    simp only [escF] at h
    repeat' split at h
    all_goals first | (cases h; simp; done) | (cases h; done) | (have := byNum_len h; simp; omega) | (have := byName_len h; simp; omega)
theorem piece_len {r r' : List Int} {p : Pc} (h : pieceF r = .ok p r') : r'.length < r.length := by
  cases r with
  | nil => simp [pieceF] at h
  | cons c t =>
    simp only [pieceF] at h
    repeat' split at h
    all_goals first | (cases h; simp; done) | (cases h; done) | (have := esc_len h; simp; omega)
theorem pair_ok {r r3 r' : List Int} {a b : Pc} {l : List Sp} (h : pairF r a b r3 = .ok l r') : r' = r3 := by
  unfold pairF at h
  split at h
  · split at h
    · cases h
    · cases h; rfl
  · cases h
theorem item_len {r r' : List Int} {l : List Sp} (h : itemF r = .ok l r') : r'.length < r.length := by
  unfold itemF at h
  split at h
  · cases h
  · rename_i a r1 h1
    have := piece_len h1
    split at h
    · rename_i h2
      have := tail_lt h2
      split at h
      · cases h
      · rename_i b r3 h3
        have := piece_len h3
        rw [pair_ok h]; omega
    · cases h; omega
theorem classL_len : ∀ (f : Nat) (acc l : List Sp) (r r' : List Int), classL f acc r = .ok l r' → r'.length < r.length
  | 0, _, _, _, _, h => by simp [classL] at h
  | f + 1, acc, l, r, r', h => by
    unfold classL at h
    split at h
    · rename_i h1; cases h; have := tail_lt h1; omega
    · split at h
      · cases h
      · rename_i h1; have := item_len h1; have := classL_len f _ _ _ _ h; omega
theorem class_len {K : Int → Prop} {r r' : List Int} (h : classF r = .ok K r') : r'.length < r.length := by
  unfold classF at h
  split at h
  · rename_i h1
    have := tail_lt h1
    split at h
    · cases h
    · rename_i h2; cases h; have := classL_len _ _ _ _ _ h2; omega
  · split at h
    · cases h
    · rename_i h2; cases h; have := classL_len _ _ _ _ _ h2; omega
theorem named_len {D : List Df} {cl : Bool} {r0 r r' : List Int} {x : Nd} (h : namedF D cl r0 r = .ok x r') : r'.length < r.length := by
  cases r with
  | nil => simp [namedF] at h
  | cons c t =>
    simp only [namedF] at h
    split at h
    · split at h
      · cases h
      · rename_i r2 h2
        split at h
        · cases h
        · cases h
          have e2 := congrArg List.length (need_ok h2)
          have := drop_le isLD t
          simp at e2 ⊢; omega
    · cases h
/-- A reader that leaves no more than there is. -/
def Le {α : Type} (f : List Int → Out α) : Prop := ∀ r x r', f r = .ok x r' → r'.length ≤ r.length
def Lt {α : Type} (f : List Int → Out α) : Prop := ∀ r x r', f r = .ok x r' → r'.length < r.length
theorem inner_len {f : Bool → List Int → Out Nd} (hf : ∀ cl, Le (f cl)) {cl : Bool} : Lt (innerF f cl) := by
  intro r x r' h
  unfold innerF at h
  split at h
  · cases h
  · rename_i y r1 h1
    split at h
    · cases h
    · rename_i r2 h2
      cases h
      have := hf cl _ _ _ h1
      have e2 := congrArg List.length (need_ok h2)
      simp at e2; omega
theorem group_len {f : Bool → List Int → Out Nd} (hf : ∀ cl, Le (f cl)) {cl : Bool} : Lt (groupF f cl) := by
  intro r x r' h
  unfold groupF at h
  split at h
  · split at h
    · rename_i h1 h2
      have := tail_lt h1
      have := tail_lt h2.1
      have := tail_lt h2.2
      have := inner_len hf _ _ _ h
      omega
    · cases h
  · exact inner_len hf _ _ _ h
theorem atom_len {D : List Df} {f : Option (Bool → List Int → Out Nd)} (hf : ∀ g, f = some g → ∀ cl, Le (g cl)) {cl : Bool} : Lt (atomF D f cl) := by
  intro r x r' h
  cases r with
  | nil => simp [atomF] at h
  | cons c t =>
    simp only [atomF] at h
    split at h
    · split at h
      · cases h
      · rename_i g; have := group_len (hf g rfl) _ _ _ h; simp; omega
    split at h
    · have := named_len h; simp; omega
    split at h
    · split at h
      · cases h
      · rename_i h1; cases h; have := class_len h1; simp; omega
    split at h
    · split at h
      · cases h
      · rename_i h1; cases h; have := esc_len h1; simp; omega
    split at h
    · cases h; simp
    · cases h; simp
theorem catL_len {atom : List Int → Out Nd} (ha : Lt atom) : ∀ (f : Nat) (acc l : List Nd) (r r' : List Int), catL atom f acc r = .ok l r' → r'.length ≤ r.length
  | 0, _, _, _, _, h => by simp [catL] at h
  | f + 1, acc, l, r, r', h => by
    unfold catL at h
    split at h
    · cases h; omega
    · split at h
      · cases h
      · rename_i h1
        split at h
        · cases h
        · rename_i h2
          have := ha _ _ _ h1
          have := rep_len _ _ _ _ _ h2
          have := catL_len ha f _ _ _ _ h
          omega
theorem cat_len {atom : List Int → Out Nd} (ha : Lt atom) : Le (catF atom) := by
  intro r x r' h
  unfold catF at h
  split at h
  · cases h
  · rename_i h1; cases h; exact catL_len ha _ _ _ _ _ h1
theorem altL_len {cat : List Int → Out Nd} (hc : Le cat) : ∀ (f : Nat) (acc l : List Nd) (r r' : List Int), altL cat f acc r = .ok l r' → r'.length ≤ r.length
  | 0, _, _, _, _, h => by simp [altL] at h
  | f + 1, acc, l, r, r', h => by
    unfold altL at h
    split at h
    · rename_i h0
      have := tail_lt h0
      split at h
      · cases h
      · rename_i h1
        have := hc _ _ _ h1
        have := altL_len hc f _ _ _ _ h
        omega
    · cases h; omega
theorem altB_len {cat : List Int → Out Nd} (hc : Le cat) : Le (altB cat) := by
  intro r x r' h
  unfold altB at h
  split at h
  · cases h
  · rename_i h1
    split at h
    · cases h
    · rename_i h2
      cases h
      have := hc _ _ _ h1
      have := altL_len hc _ _ _ _ _ h2
      omega
theorem alt_len (D : List Df) : ∀ (n : Nat) (cl : Bool), Le (altF D n cl)
  | 0, cl => altB_len (cat_len (atom_len (by simp)))
  | n + 1, cl => altB_len (cat_len (atom_len (by rintro g hg c; cases hg; exact alt_len D n c)))
end RxM

/- Plain mathematics of patterns: what is wrong is wrong whatever stands behind. Nothing of a program stands here. -/
namespace RxM
open SetM PropsM

/-- The last one is no small i. -/
def NI (r : List Int) : Prop := r.getLast? ≠ some 105
theorem NI.nil : NI [] := by simp [NI]
theorem NI.tail {c : Int} {t : List Int} (h : NI (c :: t)) : NI t := by
  cases t with
  | nil => exact NI.nil
  | cons d t => simpa [NI, List.getLast?_cons_cons] using h
theorem NI.tl {r : List Int} (h : NI r) : NI r.tail := by
  cases r with
  | nil => exact NI.nil
  | cons c t => exact h.tail
/-- What stands behind does not matter, if something is left. -/
def Stab {α : Type} (F : List Int → Out α) : Prop := ∀ r, NI r → ∀ m,
  (∀ a r', F r = .ok a r' → NI r' ∧ (r' ≠ [] → F (r ++ m) = .ok a (r' ++ m))) ∧
  (∀ e r', F r = .err e r' → r' ≠ [] → F (r ++ m) = .err e (r' ++ m))
/-- The same, also if nothing is left. -/
def Strong {α : Type} (F : List Int → Out α) : Prop := ∀ r, NI r → ∀ m,
  (∀ a r', F r = .ok a r' → NI r' ∧ F (r ++ m) = .ok a (r' ++ m)) ∧
  (∀ e r', F r = .err e r' → r' ≠ [] → F (r ++ m) = .err e (r' ++ m))
theorem Strong.stab {α : Type} {F : List Int → Out α} (h : Strong F) : Stab F := fun r hr m =>
  ⟨fun a r' e => ⟨((h r hr m).1 a r' e).1, fun _ => ((h r hr m).1 a r' e).2⟩, (h r hr m).2⟩
theorem at1_app {c : Int} {r m : List Int} (h : r ≠ []) : at1 c (r ++ m) = at1 c r := by
  cases r with
  | nil => exact absurd rfl h
  | cons b t => rfl
theorem tail_app {r m : List Int} (h : r ≠ []) : (r ++ m).tail = r.tail ++ m := by
  cases r with
  | nil => exact absurd rfl h
  | cons b t => rfl
theorem sees_app {P : Int → Bool} {r m : List Int} (h : r ≠ []) : sees P (r ++ m) = sees P r := by
  cases r with
  | nil => exact absurd rfl h
  | cons b t => rfl
theorem app_ne {r m : List Int} (h : r ≠ []) : r ++ m ≠ [] := by simp [h]
theorem at1_ne {c : Int} {r : List Int} (h : at1 c r = true) : r ≠ [] := by intro e; subst e; simp [at1] at h
theorem need_st (c : Int) : Strong (needF c) := by
  intro r hr m
  cases r with
  | nil => exact ⟨fun a r' h => (by simp [needF] at h), fun e r' h hne => by simp only [needF] at h; cases h; exact absurd rfl hne⟩
  | cons b t =>
    refine ⟨fun a r' h => ?_, fun e r' h hne => ?_⟩
    · have := need_ok h
      cases this
      exact ⟨hr.tail, by simp [needF]⟩
    · simp only [needF] at h
      split at h
      · cases h
      · rename_i hb; cases h; simp [needF, hb]
theorem run_ni (P : Int → Bool) : ∀ (k : Nat) (r : List Int), NI r → NI (runF P k r).2
  | 0, r, h => by simpa [runF] using h
  | k + 1, [], h => by simpa [runF] using h
  | k + 1, c :: r, h => by
    simp only [runF]
    split
    · exact run_ni P k r h.tail
    · exact h
theorem run_st (P : Int → Bool) (m : List Int) : ∀ (k : Nat) (r : List Int), (runF P k r).2 ≠ [] → runF P k (r ++ m) = ((runF P k r).1, (runF P k r).2 ++ m)
  | 0, r, h => by simp [runF]
  | k + 1, [], h => by simp [runF] at h
  | k + 1, c :: r, h => by
    simp only [runF, List.cons_append] at h ⊢
    split
    · rename_i hc
      rw [if_pos hc] at h
      rw [run_st P m k r h]
    · rfl
theorem run_none {P : Int → Bool} {k : Nat} {r : List Int} (h : (runF P k r).1 = []) : (runF P k r).2 = r := by
  cases k with
  | zero => rfl
  | succ k =>
    cases r with
    | nil => rfl
    | cons c t =>
      simp only [runF] at h ⊢
      split
      · rename_i hc; rw [if_pos hc] at h; simp at h
      · rfl
theorem num_st : Stab numF := by
  intro r hr m
  refine ⟨fun a r' h => ?_, fun e r' h hne => ?_⟩
  · unfold numF at h
    split at h
    · cases h
    · rename_i h1
      cases h
      refine ⟨run_ni _ _ _ hr, fun hne => ?_⟩
      unfold numF
      rw [run_st isD m 2 r hne, if_neg h1]
  · unfold numF at h
    split at h
    · rename_i h1
      cases h
      have h2 : (runF isD 2 r).2 ≠ [] := by rw [run_none h1]; exact hne
      unfold numF
      rw [run_st isD m 2 r h2, if_pos h1]
    · cases h
theorem most_st (a : Int) : Stab (mostF a) := by
  intro r hr m
  have hn := num_st r.tail hr.tl m
  refine ⟨fun b r' h => ?_, fun e r' h hne => ?_⟩
  · unfold mostF at h ⊢
    split at h
    · rename_i h1
      have n1 := at1_ne h1
      rw [at1_app n1, tail_app n1, if_pos h1]
      split at h
      · rename_i h2
        cases h
        have n2 := at1_ne h2
        rw [at1_app n2, if_pos h2]
        exact ⟨hr.tl, fun _ => rfl⟩
      · rename_i h2
        refine ⟨(hn.1 _ _ h).1, fun hne => ?_⟩
        have n2 : r.tail ≠ [] := by intro e; rw [e] at h; simp [numF, runF] at h
        rw [at1_app n2, if_neg h2]
        exact (hn.1 _ _ h).2 hne
    · rename_i h1
      cases h
      refine ⟨hr, fun hne => ?_⟩
      rw [at1_app hne, if_neg h1]
  · unfold mostF at h ⊢
    split at h
    · rename_i h1
      have n1 := at1_ne h1
      rw [at1_app n1, tail_app n1, if_pos h1]
      split at h
      · cases h
      · rename_i h2
        have n2 : r.tail ≠ [] := by intro e; rw [e] at h; simp [numF, runF] at h; exact hne h.2
        rw [at1_app n2, if_neg h2]
        exact hn.2 _ _ h hne
    · cases h
theorem bounds_st : Strong boundsF := by
  intro r hr m
  cases h1 : numF r with
  | err e x =>
    refine ⟨fun a r' h => (by simp [boundsF, h1] at h), fun e' r' h hne => ?_⟩
    simp only [boundsF, h1] at h
    cases h
    simp only [boundsF, (num_st r hr m).2 _ _ h1 hne]
  | ok a r1 =>
    obtain ⟨q1, p1⟩ := (num_st r hr m).1 _ _ h1
    by_cases n1 : r1 = []
    · subst n1
      have : boundsF r = .err 60 [] := by simp [boundsF, h1, mostF, at1, needF]
      exact ⟨fun a r' h => (by rw [this] at h; cases h), fun e r' h hne => by rw [this] at h; cases h; exact absurd rfl hne⟩
    have p1 := p1 n1
    cases h2 : mostF a r1 with
    | err e x =>
      refine ⟨fun a r' h => (by simp [boundsF, h1, h2] at h), fun e' r' h hne => ?_⟩
      simp only [boundsF, h1, h2] at h
      cases h
      simp only [boundsF, p1, (most_st a r1 q1 m).2 _ _ h2 hne]
    | ok b r2 =>
      obtain ⟨q2, p2⟩ := (most_st a r1 q1 m).1 _ _ h2
      by_cases n2 : r2 = []
      · subst n2
        have : boundsF r = .err 60 [] := by simp [boundsF, h1, h2, needF]
        exact ⟨fun a r' h => (by rw [this] at h; cases h), fun e r' h hne => by rw [this] at h; cases h; exact absurd rfl hne⟩
      have p2 := p2 n2
      cases h3 : needF 125 r2 with
      | err e x =>
        refine ⟨fun a r' h => (by simp [boundsF, h1, h2, h3] at h), fun e' r' h hne => ?_⟩
        simp only [boundsF, h1, h2, h3] at h
        cases h
        simp only [boundsF, p1, p2, (need_st 125 r2 q2 m).2 _ _ h3 hne]
      | ok u r3 =>
        obtain ⟨q3, p3⟩ := (need_st 125 r2 q2 m).1 _ _ h3
        simp only [boundsF, h1, h2, h3, p1, p2, p3]
        split
        · exact ⟨fun a r' h => (by cases h), fun e r' h hne => by cases h; rfl⟩
        · exact ⟨fun a r' h => (by cases h; exact ⟨q3, rfl⟩), fun e r' h hne => by cases h⟩
theorem times_st : Stab timesF := by
  intro r hr m
  by_cases h0 : r = []
  · subst h0
    have : timesF [] = .ok none [] := by simp [timesF, at1]
    exact ⟨fun a r' h => by rw [this] at h; cases h; exact ⟨NI.nil, fun h => absurd rfl h⟩, fun e r' h hne => by rw [this] at h; cases h⟩
  have hb := bounds_st r.tail hr.tl m
  by_cases c1 : at1 42 r = true
  · simp only [timesF, at1_app h0, tail_app h0, c1, if_true]
    exact ⟨fun a r' h => by cases h; exact ⟨hr.tl, fun _ => rfl⟩, fun e r' h hne => by cases h⟩
  by_cases c2 : at1 43 r = true
  · simp only [timesF, at1_app h0, tail_app h0, c1, c2, if_true]
    exact ⟨fun a r' h => by cases h; exact ⟨hr.tl, fun _ => rfl⟩, fun e r' h hne => by cases h⟩
  by_cases c3 : at1 63 r = true
  · simp only [timesF, at1_app h0, tail_app h0, c1, c2, c3, if_true]
    exact ⟨fun a r' h => by cases h; exact ⟨hr.tl, fun _ => rfl⟩, fun e r' h hne => by cases h⟩
  by_cases c4 : at1 123 r = true ∧ sees isL r.tail = false
  · by_cases n1 : r.tail = []
    · have : timesF r = .err 60 [] := by simp [timesF, c1, c2, c3, c4.1, n1, sees, boundsF, numF, runF]
      exact ⟨fun a r' h => (by rw [this] at h; cases h), fun e r' h hne => by rw [this] at h; cases h; exact absurd rfl hne⟩
    have c4' : at1 123 (r ++ m) = true ∧ sees isL (r ++ m).tail = false := by rw [at1_app h0, tail_app h0, sees_app n1]; exact c4
    rw [timesF, if_neg c1, if_neg c2, if_neg c3, if_pos c4]
    rw [timesF, if_neg (by rw [at1_app h0]; exact c1), if_neg (by rw [at1_app h0]; exact c2), if_neg (by rw [at1_app h0]; exact c3), if_pos c4', tail_app h0]
    cases h1 : boundsF r.tail with
    | err e x => exact ⟨fun a r' h => (by cases h), fun e' r' h hne => (by cases h; rw [hb.2 _ _ h1 hne])⟩
    | ok p r1 =>
      have := hb.1 _ _ h1
      exact ⟨fun a r' h => (by cases h; exact ⟨this.1, fun _ => by rw [this.2]⟩), fun e' r' h hne => (by cases h)⟩
  · have c4' : ¬ (at1 123 (r ++ m) = true ∧ sees isL (r ++ m).tail = false) := by
      rw [at1_app h0, tail_app h0]
      intro h
      by_cases n1 : r.tail = []
      · exact c4 ⟨h.1, by rw [n1]; rfl⟩
      · rw [sees_app n1] at h; exact c4 h
    have e1 : timesF r = .ok none r := by rw [timesF, if_neg c1, if_neg c2, if_neg c3, if_neg c4]
    have e2 : timesF (r ++ m) = .ok none (r ++ m) := by rw [timesF, if_neg (by rw [at1_app h0]; exact c1), if_neg (by rw [at1_app h0]; exact c2), if_neg (by rw [at1_app h0]; exact c3), if_neg c4']
    rw [e1, e2]
    exact ⟨fun a r' h => (by cases h; exact ⟨hr, fun _ => rfl⟩), fun e r' h hne => (by cases h)⟩
theorem rep_nil : ∀ (f : Nat) (x : Nd), (∃ y, repL f x [] = .ok y []) ∨ repL f x [] = .err 0 []
  | 0, x => .inr rfl
  | f + 1, x => .inl ⟨x, by simp [repL, timesF, at1]⟩
theorem rep_st : ∀ (f : Nat) (x : Nd), Stab (repL f x)
  | 0, x => fun r hr m => ⟨fun a r' h => (by simp [repL] at h), fun e r' h hne => by simp only [repL] at h; cases h; rfl⟩
  | f + 1, x => by
    intro r hr m
    cases h1 : timesF r with
    | err e y =>
      refine ⟨fun a r' h => (by simp [repL, h1] at h), fun e' r' h hne => ?_⟩
      simp only [repL, h1] at h
      cases h
      simp only [repL, (times_st r hr m).2 _ _ h1 hne]
    | ok o r1 =>
      obtain ⟨q1, p1⟩ := (times_st r hr m).1 _ _ h1
      cases o with
      | none =>
        refine ⟨fun a r' h => ?_, fun e' r' h hne => by simp [repL, h1] at h⟩
        simp only [repL, h1] at h
        cases h
        exact ⟨q1, fun hne => by simp only [repL, p1 hne]⟩
      | some p =>
        have e1 : repL (f + 1) x r = repL f (.mk 4 none0 [x] p.1 p.2) r1 := by simp only [repL, h1]
        by_cases n1 : r1 = []
        · subst n1
          rcases rep_nil f (.mk 4 none0 [x] p.1 p.2) with ⟨y, h2⟩ | h2
          · rw [e1, h2]; exact ⟨fun a r' h => by cases h; exact ⟨NI.nil, fun h => absurd rfl h⟩, fun e r' h hne => by cases h⟩
          · rw [e1, h2]; exact ⟨fun a r' h => (by cases h), fun e r' h hne => by cases h; exact absurd rfl hne⟩
        · have e2 : repL (f + 1) x (r ++ m) = repL f (.mk 4 none0 [x] p.1 p.2) (r1 ++ m) := by simp only [repL, p1 n1]
          rw [e1, e2]
          exact rep_st f _ r1 q1 m
theorem byNum_st (r0 r : List Int) (hr : NI r) (m : List Int) :
    (∀ a r', byNumF r0 r = .ok a r' → NI r' ∧ byNumF (r0 ++ m) (r ++ m) = .ok a (r' ++ m)) ∧
    (∀ e r', byNumF r0 r = .err e r' → r' ≠ [] → byNumF (r0 ++ m) (r ++ m) = .err e (r' ++ m)) := by
  cases h1 : needF 123 r with
  | err e x =>
    refine ⟨fun a r' h => (by simp [byNumF, h1] at h), fun e' r' h hne => ?_⟩
    simp only [byNumF, h1] at h
    cases h
    simp only [byNumF, (need_st 123 r hr m).2 _ _ h1 hne]
  | ok u r1 =>
    obtain ⟨q1, p1⟩ := (need_st 123 r hr m).1 _ _ h1
    by_cases n1 : (runF isH 6 r1).2 = []
    · have : byNumF r0 r = .err 60 [] := by
        simp only [byNumF, h1]
        split
        · rename_i h2; rw [← run_none h2, n1]
        · rw [n1]; rfl
      exact ⟨fun a r' h => (by rw [this] at h; cases h), fun e r' h hne => by rw [this] at h; cases h; exact absurd rfl hne⟩
    have p2 := run_st isH m 6 r1 n1
    by_cases c2 : (runF isH 6 r1).1 = []
    · simp only [byNumF, h1, p1, p2, if_pos c2]
      exact ⟨fun a r' h => (by cases h), fun e r' h hne => by cases h; rfl⟩
    cases h3 : needF 125 (runF isH 6 r1).2 with
    | err e x =>
      refine ⟨fun a r' h => (by simp [byNumF, h1, h3, c2] at h), fun e' r' h hne => ?_⟩
      simp only [byNumF, h1, h3, if_neg c2] at h
      cases h
      simp only [byNumF, p1, p2, if_neg c2, (need_st 125 _ (run_ni _ _ _ q1) m).2 _ _ h3 hne]
    | ok v r2 =>
      obtain ⟨q3, p3⟩ := (need_st 125 _ (run_ni _ _ _ q1) m).1 _ _ h3
      simp only [byNumF, h1, h3, p1, p2, p3, if_neg c2]
      split
      · exact ⟨fun a r' h => (by cases h; exact ⟨q3, rfl⟩), fun e r' h hne => by cases h⟩
      · exact ⟨fun a r' h => (by cases h), fun e r' h hne => by cases h; rfl⟩
theorem drop_ni (P : Int → Bool) : ∀ (r : List Int), NI r → NI (r.dropWhile P)
  | [], h => h
  | c :: r, h => by
    rw [List.dropWhile_cons]
    split
    · exact drop_ni P r h.tail
    · exact h
theorem while_st (P : Int → Bool) (m : List Int) : ∀ (r : List Int), r.dropWhile P ≠ [] → (r ++ m).dropWhile P = r.dropWhile P ++ m ∧ (r ++ m).takeWhile P = r.takeWhile P
  | [], h => absurd rfl h
  | c :: r, h => by
    rw [List.dropWhile_cons] at h
    rw [List.cons_append, List.dropWhile_cons, List.dropWhile_cons, List.takeWhile_cons, List.takeWhile_cons]
    by_cases hc : P c = true
    · rw [if_pos hc] at h
      rw [if_pos hc, if_pos hc, if_pos hc, if_pos hc, (while_st P m r h).1, (while_st P m r h).2]; exact ⟨rfl, rfl⟩
    · rw [if_neg hc, if_neg hc, if_neg hc, if_neg hc]; exact ⟨rfl, rfl⟩
theorem byName_st (r0 r : List Int) (hr : NI r) (m : List Int) :
    (∀ a r', byNameF r0 r = .ok a r' → NI r' ∧ byNameF (r0 ++ m) (r ++ m) = .ok a (r' ++ m)) ∧
    (∀ e r', byNameF r0 r = .err e r' → r' ≠ [] → byNameF (r0 ++ m) (r ++ m) = .err e (r' ++ m)) := by
  cases h1 : needF 123 r with
  | err e x =>
    refine ⟨fun a r' h => (by simp [byNameF, h1] at h), fun e' r' h hne => ?_⟩
    simp only [byNameF, h1] at h
    cases h
    simp only [byNameF, (need_st 123 r hr m).2 _ _ h1 hne]
  | ok u r1 =>
    obtain ⟨q1, p1⟩ := (need_st 123 r hr m).1 _ _ h1
    by_cases n1 : r1.dropWhile not125 = []
    · have : byNameF r0 r = .err 60 [] := by
        rw [byNameF, h1]
        dsimp only
        rw [n1]
        rfl
      exact ⟨fun a r' h => (by rw [this] at h; cases h), fun e r' h hne => by rw [this] at h; cases h; exact absurd rfl hne⟩
    obtain ⟨p2, p2'⟩ := while_st not125 m r1 n1
    cases h3 : needF 125 (r1.dropWhile not125) with
    | err e x =>
      refine ⟨fun a r' h => (by simp [byNameF, h1, h3] at h), fun e' r' h hne => ?_⟩
      simp only [byNameF, h1, h3] at h
      cases h
      simp only [byNameF, p1, p2, (need_st 125 _ (drop_ni _ _ q1) m).2 _ _ h3 hne]
    | ok v r2 =>
      obtain ⟨q3, p3⟩ := (need_st 125 _ (drop_ni _ _ q1) m).1 _ _ h3
      simp only [byNameF, h1, h3, p1, p2, p2', p3]
      split
      · exact ⟨fun a r' h => (by cases h), fun e r' h hne => by cases h; rfl⟩
      · exact ⟨fun a r' h => (by cases h; exact ⟨q3, rfl⟩), fun e r' h hne => by cases h⟩
theorem esc_st (r0 r : List Int) (hr : NI r) (m : List Int) :
    (∀ a r', escF r0 r = .ok a r' → NI r' ∧ escF (r0 ++ m) (r ++ m) = .ok a (r' ++ m)) ∧
    (∀ e r', escF r0 r = .err e r' → r' ≠ [] → escF (r0 ++ m) (r ++ m) = .err e (r' ++ m)) := by
  cases r with
  | nil => exact ⟨fun a r' h => (by simp [escF] at h), fun e r' h hne => by simp only [escF] at h; cases h; exact absurd rfl hne⟩
  | cons c t =>
    have hb := byNum_st r0 t hr.tail m
    have hp := byName_st r0 t hr.tail m
    simp only [escF, List.cons_append]
    split
    · exact ⟨fun a r' h => (by cases h; exact ⟨hr.tail, rfl⟩), fun e r' h hne => by cases h⟩
    split
    · exact ⟨fun a r' h => (by cases h; exact ⟨hr.tail, rfl⟩), fun e r' h hne => by cases h⟩
    split
    · exact ⟨fun a r' h => (by cases h; exact ⟨hr.tail, rfl⟩), fun e r' h hne => by cases h⟩
    split
    · exact hb
    split
    · exact hp
    split
    · exact ⟨fun a r' h => (by cases h; exact ⟨hr.tail, rfl⟩), fun e r' h hne => by cases h⟩
    · exact ⟨fun a r' h => (by cases h), fun e r' h hne => by cases h; rfl⟩
theorem piece_st : Strong pieceF := by
  intro r hr m
  cases r with
  | nil => exact ⟨fun a r' h => (by simp [pieceF] at h), fun e r' h hne => by simp only [pieceF] at h; cases h; exact absurd rfl hne⟩
  | cons c t =>
    have hb := esc_st (c :: t) t hr.tail m
    simp only [pieceF, List.cons_append] at hb ⊢
    split
    · exact hb
    split
    · exact ⟨fun a r' h => (by cases h), fun e r' h hne => by cases h; rfl⟩
    · exact ⟨fun a r' h => (by cases h; exact ⟨hr.tail, rfl⟩), fun e r' h hne => by cases h⟩
theorem pair_st (r r3 m : List Int) (a b : Pc) :
    (∀ l r', pairF r a b r3 = .ok l r' → pairF (r ++ m) a b (r3 ++ m) = .ok l (r' ++ m)) ∧
    (∀ e r', pairF r a b r3 = .err e r' → pairF (r ++ m) a b (r3 ++ m) = .err e (r' ++ m)) := by
  unfold pairF
  cases a with
  | cls i => exact ⟨fun l r' h => (by cases h), fun e r' h => by cases h; rfl⟩
  | one x =>
    cases b with
    | cls i => exact ⟨fun l r' h => (by cases h), fun e r' h => by cases h; rfl⟩
    | one y =>
      dsimp only
      split
      · exact ⟨fun l r' h => (by cases h), fun e r' h => by cases h; rfl⟩
      · exact ⟨fun l r' h => (by cases h; rfl), fun e r' h => by cases h⟩
theorem item_st : Stab itemF := by
  intro r hr m
  cases h1 : pieceF r with
  | err e x =>
    refine ⟨fun a r' h => (by simp [itemF, h1] at h), fun e' r' h hne => ?_⟩
    simp only [itemF, h1] at h
    cases h
    simp only [itemF, (piece_st r hr m).2 _ _ h1 hne]
  | ok a r1 =>
    obtain ⟨q1, p1⟩ := (piece_st r hr m).1 _ _ h1
    by_cases n1 : r1 = []
    · subst n1
      have : itemF r = .ok (pcS a) [] := by simp [itemF, h1, at1]
      exact ⟨fun a r' h => by rw [this] at h; cases h; exact ⟨NI.nil, fun h => absurd rfl h⟩, fun e r' h hne => by rw [this] at h; cases h⟩
    by_cases c2 : at1 45 r1 = true
    · cases h3 : pieceF r1.tail with
      | err e x =>
        refine ⟨fun a r' h => (by simp [itemF, h1, c2, h3] at h), fun e' r' h hne => ?_⟩
        simp only [itemF, h1, c2, h3, if_true] at h
        cases h
        simp only [itemF, p1, at1_app n1, tail_app n1, c2, if_true, (piece_st _ q1.tl m).2 _ _ h3 hne]
      | ok b r3 =>
        obtain ⟨q3, p3⟩ := (piece_st _ q1.tl m).1 _ _ h3
        simp only [itemF, h1, p1, at1_app n1, tail_app n1, c2, if_true, h3, p3]
        have := pair_st r r3 m a b
        exact ⟨fun l r' h => ⟨by rw [pair_ok h]; exact q3, fun _ => this.1 _ _ h⟩, fun e r' h _ => this.2 _ _ h⟩
    · simp only [itemF, h1, p1, at1_app n1, if_neg c2]
      exact ⟨fun l r' h => by cases h; exact ⟨q1, fun _ => rfl⟩, fun e r' h _ => by cases h⟩
theorem classL_nil (f : Nat) (acc : List Sp) : ∃ e, classL f acc [] = .err e [] := by
  cases f with
  | zero => exact ⟨0, rfl⟩
  | succ f => exact ⟨60, by simp [classL, at1, itemF, pieceF]⟩
theorem classL_st : ∀ (f : Nat) (acc : List Sp), Strong (classL f acc)
  | 0, acc => fun r hr m => ⟨fun a r' h => (by simp [classL] at h), fun e r' h hne => by simp only [classL] at h; cases h; rfl⟩
  | f + 1, acc => by
    intro r hr m
    by_cases n0 : r = []
    · subst n0
      obtain ⟨e0, h0⟩ := classL_nil (f + 1) acc
      rw [h0]
      exact ⟨fun a r' h => (by cases h), fun e r' h hne => by cases h; exact absurd rfl hne⟩
    by_cases c1 : at1 93 r = true
    · simp only [classL, at1_app n0, tail_app n0, c1, if_true]
      exact ⟨fun a r' h => (by cases h; exact ⟨hr.tl, rfl⟩), fun e r' h hne => by cases h⟩
    cases h1 : itemF r with
    | err e x =>
      refine ⟨fun a r' h => (by simp [classL, h1, c1] at h), fun e' r' h hne => ?_⟩
      simp only [classL, h1, if_neg c1] at h
      cases h
      simp only [classL, at1_app n0, if_neg c1, (item_st r hr m).2 _ _ h1 hne]
    | ok l r1 =>
      obtain ⟨q1, p1⟩ := (item_st r hr m).1 _ _ h1
      have e1 : classL (f + 1) acc r = classL f (acc ++ l) r1 := by simp only [classL, h1, if_neg c1]
      rw [e1]
      by_cases n1 : r1 = []
      · subst n1
        obtain ⟨e0, h0⟩ := classL_nil f (acc ++ l)
        rw [h0]
        exact ⟨fun a r' h => (by cases h), fun e r' h hne => by cases h; exact absurd rfl hne⟩
      · have e2 : classL (f + 1) acc (r ++ m) = classL f (acc ++ l) (r1 ++ m) := by simp only [classL, at1_app n0, if_neg c1, p1 n1]
        rw [e2]
        exact classL_st f _ r1 q1 m
theorem class_st : Strong classF := by
  intro r hr m
  by_cases n0 : r = []
  · subst n0
    obtain ⟨e0, h0⟩ := classL_nil 201 []
    have : classF [] = .err e0 [] := by simp only [classF, at1, h0]; rfl
    rw [this]
    exact ⟨fun a r' h => (by cases h), fun e r' h hne => by cases h; exact absurd rfl hne⟩
  by_cases c1 : at1 94 r = true
  · simp only [classF, at1_app n0, tail_app n0, c1, if_true]
    cases h1 : classL 201 [] r.tail with
    | err e x => exact ⟨fun a r' h => (by cases h), fun e' r' h hne => (by cases h; rw [(classL_st 201 [] _ hr.tl m).2 _ _ h1 hne])⟩
    | ok l r1 =>
      have := (classL_st 201 [] _ hr.tl m).1 _ _ h1
      exact ⟨fun a r' h => (by cases h; exact ⟨this.1, by rw [this.2]⟩), fun e' r' h hne => (by cases h)⟩
  · simp only [classF, at1_app n0, if_neg c1]
    cases h1 : classL 201 [] r with
    | err e x => exact ⟨fun a r' h => (by cases h), fun e' r' h hne => (by cases h; rw [(classL_st 201 [] _ hr m).2 _ _ h1 hne])⟩
    | ok l r1 =>
      have := (classL_st 201 [] _ hr m).1 _ _ h1
      exact ⟨fun a r' h => (by cases h; exact ⟨this.1, by rw [this.2]⟩), fun e' r' h hne => (by cases h)⟩
theorem named_st (D : List Df) (cl : Bool) (r0 r : List Int) (hr : NI r) (m : List Int) :
    (∀ a r', namedF D cl r0 r = .ok a r' → NI r' ∧ namedF D cl (r0 ++ m) (r ++ m) = .ok a (r' ++ m)) ∧
    (∀ e r', namedF D cl r0 r = .err e r' → r' ≠ [] → namedF D cl (r0 ++ m) (r ++ m) = .err e (r' ++ m)) := by
  cases r with
  | nil => exact ⟨fun a r' h => (by simp [namedF] at h), fun e r' h hne => by simp only [namedF] at h; cases h; exact absurd rfl hne⟩
  | cons c t =>
    simp only [namedF, List.cons_append]
    split
    · by_cases n1 : t.dropWhile isLD = []
      · rw [n1]
        simp only [needF]
        exact ⟨fun a r' h => (by cases h), fun e r' h hne => by cases h; exact absurd rfl hne⟩
      obtain ⟨p2, p2'⟩ := while_st isLD m t n1
      rw [p2, p2']
      cases h3 : needF 125 (t.dropWhile isLD) with
      | err e x =>
        exact ⟨fun a r' h => (by cases h), fun e' r' h hne => (by cases h; rw [(need_st 125 _ (drop_ni _ _ hr.tail) m).2 _ _ h3 hne])⟩
      | ok v r2 =>
        obtain ⟨q3, p3⟩ := (need_st 125 _ (drop_ni _ _ hr.tail) m).1 _ _ h3
        rw [p3]
        dsimp only
        split
        · exact ⟨fun a r' h => (by cases h), fun e r' h hne => by cases h; rfl⟩
        · exact ⟨fun a r' h => (by cases h; exact ⟨q3, rfl⟩), fun e r' h hne => by cases h⟩
    · exact ⟨fun a r' h => (by cases h), fun e r' h hne => by cases h; rfl⟩
/-- At the end there is something. -/
def Ends {α : Type} (F : List Int → Out α) : Prop := ∃ x, F [] = .ok x []
theorem inner_st {f : Bool → List Int → Out Nd} (hf : ∀ cl, Stab (f cl)) (cl : Bool) : Strong (innerF f cl) := by
  intro r hr m
  cases h1 : f cl r with
  | err e x =>
    refine ⟨fun a r' h => (by simp [innerF, h1] at h), fun e' r' h hne => ?_⟩
    simp only [innerF, h1] at h
    cases h
    simp only [innerF, (hf cl r hr m).2 _ _ h1 hne]
  | ok x r1 =>
    obtain ⟨q1, p1⟩ := (hf cl r hr m).1 _ _ h1
    by_cases n1 : r1 = []
    · subst n1
      have : innerF f cl r = .err 60 [] := by simp [innerF, h1, needF]
      exact ⟨fun a r' h => (by rw [this] at h; cases h), fun e r' h hne => by rw [this] at h; cases h; exact absurd rfl hne⟩
    cases h3 : needF 41 r1 with
    | err e y =>
      refine ⟨fun a r' h => (by simp [innerF, h1, h3] at h), fun e' r' h hne => ?_⟩
      simp only [innerF, h1, h3] at h
      cases h
      simp only [innerF, p1 n1, (need_st 41 _ q1 m).2 _ _ h3 hne]
    | ok v r2 =>
      obtain ⟨q3, p3⟩ := (need_st 41 _ q1 m).1 _ _ h3
      simp only [innerF, h1, h3, p1 n1, p3]
      exact ⟨fun a r' h => (by cases h; exact ⟨q3, rfl⟩), fun e r' h hne => by cases h⟩
theorem group_st {f : Bool → List Int → Out Nd} (hf : ∀ cl, Stab (f cl)) (he : ∀ cl, Ends (f cl)) (cl : Bool) : Strong (groupF f cl) := by
  intro r hr m
  by_cases n0 : r = []
  · subst n0
    obtain ⟨x, hx⟩ := he cl
    have : groupF f cl [] = .err 60 [] := by simp only [groupF, at1, innerF, hx, needF]; rfl
    rw [this]
    exact ⟨fun a r' h => (by cases h), fun e r' h hne => by cases h; exact absurd rfl hne⟩
  by_cases c1 : at1 63 r = true
  · by_cases c2 : at1 105 r.tail = true ∧ at1 58 r.tail.tail = true
    · have n1 := at1_ne c2.1
      have n2 := at1_ne c2.2
      have c2' : at1 105 (r ++ m).tail = true ∧ at1 58 (r ++ m).tail.tail = true := by rw [tail_app n0, tail_app n1, at1_app n1, at1_app n2]; exact c2
      have e1 : groupF f cl r = innerF f true r.tail.tail.tail := by simp only [groupF, if_pos c1, if_pos c2]
      have e2 : groupF f cl (r ++ m) = innerF f true (r.tail.tail.tail ++ m) := by
        simp only [groupF, at1_app n0, if_pos c1, if_pos c2']
        rw [tail_app n0, tail_app n1, tail_app n2]
      rw [e1, e2]
      exact inner_st hf true _ hr.tl.tl.tl m
    · have e1 : groupF f cl r = .err 60 r.tail := by simp only [groupF, if_pos c1, if_neg c2]
      rw [e1]
      refine ⟨fun a r' h => (by cases h), fun e r' h hne => ?_⟩
      cases h
      have c2' : ¬ (at1 105 (r ++ m).tail = true ∧ at1 58 (r ++ m).tail.tail = true) := by
        rw [tail_app n0, tail_app hne, at1_app hne]
        intro h
        by_cases n2 : r.tail.tail = []
        · have e105 := at1_true h.1
          rw [n2] at e105
          have := hr.tl
          rw [e105] at this
          exact this rfl
        · rw [at1_app n2] at h; exact c2 h
      rw [groupF, if_pos (by rw [at1_app n0]; exact c1), if_neg c2', tail_app n0]
  · have e1 : groupF f cl r = innerF f cl r := by simp only [groupF, if_neg c1]
    have e2 : groupF f cl (r ++ m) = innerF f cl (r ++ m) := by simp only [groupF, at1_app n0, if_neg c1]
    rw [e1, e2]
    exact inner_st hf cl _ hr m
theorem atom_st {D : List Df} {f : Option (Bool → List Int → Out Nd)} (hf : ∀ g, f = some g → ∀ cl, Stab (g cl)) (he : ∀ g, f = some g → ∀ cl, Ends (g cl)) (cl : Bool) : Strong (atomF D f cl) := by
  intro r hr m
  cases r with
  | nil => exact ⟨fun a r' h => (by simp [atomF] at h), fun e r' h hne => by simp only [atomF] at h; cases h; exact absurd rfl hne⟩
  | cons c t =>
    have hn := named_st D cl (c :: t) t hr.tail m
    have hk := class_st t hr.tail m
    have hE := esc_st (c :: t) t hr.tail m
    simp only [atomF, List.cons_append] at hn hE ⊢
    split
    · cases f with
      | none => exact ⟨fun a r' h => (by cases h), fun e r' h hne => by cases h; rfl⟩
      | some g => exact group_st (hf g rfl) (he g rfl) cl t hr.tail m
    split
    · exact hn
    split
    · cases h1 : classF t with
      | err e x => exact ⟨fun a r' h => (by cases h), fun e' r' h hne => (by cases h; rw [hk.2 _ _ h1 hne])⟩
      | ok l r1 =>
        have := hk.1 _ _ h1
        exact ⟨fun a r' h => (by cases h; exact ⟨this.1, by rw [this.2]⟩), fun e' r' h hne => (by cases h)⟩
    split
    · cases h1 : escF (c :: t) t with
      | err e x => exact ⟨fun a r' h => (by cases h), fun e' r' h hne => (by cases h; rw [hE.2 _ _ h1 hne])⟩
      | ok l r1 =>
        have := hE.1 _ _ h1
        exact ⟨fun a r' h => (by cases h; exact ⟨this.1, by rw [this.2]⟩), fun e' r' h hne => (by cases h)⟩
    split
    · exact ⟨fun a r' h => (by cases h; exact ⟨hr.tail, rfl⟩), fun e r' h hne => by cases h⟩
    · exact ⟨fun a r' h => (by cases h; exact ⟨hr.tail, rfl⟩), fun e r' h hne => by cases h⟩
theorem altL_nil (cat : List Int → Out Nd) (f : Nat) (acc : List Nd) : altL cat (f + 1) acc [] = .ok acc [] := by simp [altL, at1]
theorem catL_nil (atom : List Int → Out Nd) (f : Nat) (acc : List Nd) : catL atom (f + 1) acc [] = .ok acc [] := by simp [catL]
theorem catL_st {atom : List Int → Out Nd} (ha : Strong atom) : ∀ (f : Nat) (acc : List Nd), Stab (catL atom f acc)
  | 0, acc => fun r hr m => ⟨fun a r' h => (by simp [catL] at h), fun e r' h hne => by simp only [catL] at h; cases h; rfl⟩
  | f + 1, acc => by
    intro r hr m
    by_cases n0 : r = []
    · subst n0
      rw [catL_nil]
      exact ⟨fun a r' h => by cases h; exact ⟨NI.nil, fun h => absurd rfl h⟩, fun e r' h hne => by cases h⟩
    by_cases c1 : sees (inS stopS) r = true
    · have e1 : catL atom (f + 1) acc r = .ok acc r := by simp [catL, c1]
      have e2 : catL atom (f + 1) acc (r ++ m) = .ok acc (r ++ m) := by simp [catL, sees_app n0, c1]
      rw [e1, e2]
      exact ⟨fun a r' h => by cases h; exact ⟨hr, fun _ => rfl⟩, fun e r' h hne => by cases h⟩
    have g1 : ¬ (r = [] ∨ sees (inS stopS) r = true) := by simp [n0, c1]
    have g2 : ¬ (r ++ m = [] ∨ sees (inS stopS) (r ++ m) = true) := by rw [sees_app n0]; simp [n0, c1]
    cases h1 : atom r with
    | err e x =>
      refine ⟨fun a r' h => (by simp only [catL, h1, if_neg g1] at h; cases h), fun e' r' h hne => ?_⟩
      simp only [catL, h1, if_neg g1] at h
      cases h
      simp only [catL, if_neg g2, (ha r hr m).2 _ _ h1 hne]
    | ok x r1 =>
      obtain ⟨q1, p1⟩ := (ha r hr m).1 _ _ h1
      cases h2 : repL 201 x r1 with
      | err e y =>
        refine ⟨fun a r' h => (by simp only [catL, h1, h2, if_neg g1] at h; cases h), fun e' r' h hne => ?_⟩
        simp only [catL, h1, h2, if_neg g1] at h
        cases h
        simp only [catL, if_neg g2, p1, (rep_st 201 x r1 q1 m).2 _ _ h2 hne]
      | ok y r2 =>
        obtain ⟨q2, p2⟩ := (rep_st 201 x r1 q1 m).1 _ _ h2
        have e1 : catL atom (f + 1) acc r = catL atom f (acc ++ [y]) r2 := by simp only [catL, h1, h2, if_neg g1]
        rw [e1]
        by_cases n2 : r2 = []
        · subst n2
          cases f with
          | zero => exact ⟨fun a r' h => (by simp [catL] at h), fun e r' h hne => by simp only [catL] at h; cases h; exact absurd rfl hne⟩
          | succ f =>
            rw [catL_nil]
            exact ⟨fun a r' h => by cases h; exact ⟨NI.nil, fun h => absurd rfl h⟩, fun e r' h hne => by cases h⟩
        · have e2 : catL atom (f + 1) acc (r ++ m) = catL atom f (acc ++ [y]) (r2 ++ m) := by simp only [catL, if_neg g2, p1, p2 n2]
          rw [e2]
          exact catL_st ha f _ r2 q2 m
theorem cat_st {atom : List Int → Out Nd} (ha : Strong atom) : Stab (catF atom) := by
  intro r hr m
  have hc := catL_st ha 201 [] r hr m
  unfold catF
  cases h1 : catL atom 201 [] r with
  | err e x => exact ⟨fun a r' h => (by cases h), fun e' r' h hne => (by cases h; rw [hc.2 _ _ h1 hne])⟩
  | ok l r1 =>
    have := hc.1 _ _ h1
    exact ⟨fun a r' h => (by cases h; exact ⟨this.1, fun hne => (by rw [this.2 hne])⟩), fun e' r' h hne => (by cases h)⟩
theorem cat_nil (atom : List Int → Out Nd) : catF atom [] = .ok (.mk 0 none0 [] 0 0) [] := by unfold catF; rw [catL_nil]; rfl
theorem altL_st {cat : List Int → Out Nd} (hc : Stab cat) (he : Ends cat) : ∀ (f : Nat) (acc : List Nd), Stab (altL cat f acc)
  | 0, acc => fun r hr m => ⟨fun a r' h => (by simp [altL] at h), fun e r' h hne => by simp only [altL] at h; cases h; rfl⟩
  | f + 1, acc => by
    intro r hr m
    by_cases n0 : r = []
    · subst n0
      have : altL cat (f + 1) acc [] = .ok acc [] := by simp [altL, at1]
      rw [this]
      exact ⟨fun a r' h => by cases h; exact ⟨NI.nil, fun h => absurd rfl h⟩, fun e r' h hne => by cases h⟩
    by_cases c1 : at1 124 r = true
    · by_cases nt : r.tail = []
      · obtain ⟨x0, hx0⟩ := he
        have e1 : altL cat (f + 1) acc r = altL cat f (acc ++ [x0]) [] := by simp only [altL, if_pos c1, nt, hx0]
        rw [e1]
        cases f with
        | zero => exact ⟨fun a r' h => (by simp [altL] at h), fun e r' h hne => by simp only [altL] at h; cases h; exact absurd rfl hne⟩
        | succ f =>
          have : altL cat (f + 1) (acc ++ [x0]) [] = .ok (acc ++ [x0]) [] := by simp [altL, at1]
          rw [this]
          exact ⟨fun a r' h => by cases h; exact ⟨NI.nil, fun h => absurd rfl h⟩, fun e r' h hne => by cases h⟩
      cases h1 : cat r.tail with
      | err e x =>
        refine ⟨fun a r' h => (by simp only [altL, h1, if_pos c1] at h; cases h), fun e' r' h hne => ?_⟩
        simp only [altL, h1, if_pos c1] at h
        cases h
        simp only [altL, at1_app n0, tail_app n0, if_pos c1, (hc _ hr.tl m).2 _ _ h1 hne]
      | ok x r1 =>
        obtain ⟨q1, p1⟩ := (hc _ hr.tl m).1 _ _ h1
        have e1 : altL cat (f + 1) acc r = altL cat f (acc ++ [x]) r1 := by simp only [altL, h1, if_pos c1]
        rw [e1]
        by_cases n1 : r1 = []
        · subst n1
          cases f with
          | zero => exact ⟨fun a r' h => (by simp [altL] at h), fun e r' h hne => by simp only [altL] at h; cases h; exact absurd rfl hne⟩
          | succ f =>
            have : altL cat (f + 1) (acc ++ [x]) [] = .ok (acc ++ [x]) [] := by simp [altL, at1]
            rw [this]
            exact ⟨fun a r' h => by cases h; exact ⟨NI.nil, fun h => absurd rfl h⟩, fun e r' h hne => by cases h⟩
        · have e2 : altL cat (f + 1) acc (r ++ m) = altL cat f (acc ++ [x]) (r1 ++ m) := by simp only [altL, at1_app n0, tail_app n0, if_pos c1, p1 n1]
          rw [e2]
          exact altL_st hc he f _ r1 q1 m
    · simp only [altL, at1_app n0, if_neg c1]
      exact ⟨fun a r' h => by cases h; exact ⟨hr, fun _ => rfl⟩, fun e r' h hne => by cases h⟩
theorem altB_nil {cat : List Int → Out Nd} (he : Ends cat) : Ends (altB cat) := by
  obtain ⟨x, hx⟩ := he
  exact ⟨_, by rw [altB, hx]; dsimp only; rw [altL_nil]⟩
theorem altB_st {cat : List Int → Out Nd} (hc : Stab cat) (he : Ends cat) : Stab (altB cat) := by
  intro r hr m
  cases h1 : cat r with
  | err e x =>
    refine ⟨fun a r' h => (by simp only [altB, h1] at h; cases h), fun e' r' h hne => ?_⟩
    simp only [altB, h1] at h
    cases h
    simp only [altB, (hc _ hr m).2 _ _ h1 hne]
  | ok x r1 =>
    obtain ⟨q1, p1⟩ := (hc _ hr m).1 _ _ h1
    by_cases n1 : r1 = []
    · subst n1
      have : altB cat r = .ok (joinF 3 [x]) [] := by rw [altB, h1]; dsimp only; rw [altL_nil]
      rw [this]
      exact ⟨fun a r' h => by cases h; exact ⟨NI.nil, fun h => absurd rfl h⟩, fun e r' h hne => by cases h⟩
    have ht := altL_st hc he 201 [x] r1 q1 m
    simp only [altB, h1, p1 n1]
    cases h2 : altL cat 201 [x] r1 with
    | err e y => exact ⟨fun a r' h => (by cases h), fun e' r' h hne => (by cases h; rw [ht.2 _ _ h2 hne])⟩
    | ok l r2 =>
      have := ht.1 _ _ h2
      exact ⟨fun a r' h => (by cases h; exact ⟨this.1, fun hne => (by rw [this.2 hne])⟩), fun e' r' h hne => (by cases h)⟩
theorem alt_nil (D : List Df) : ∀ (n : Nat) (cl : Bool), Ends (altF D n cl)
  | 0, _ => altB_nil ⟨_, cat_nil _⟩
  | _ + 1, _ => altB_nil ⟨_, cat_nil _⟩
theorem alt_st (D : List Df) : ∀ (n : Nat) (cl : Bool), Stab (altF D n cl)
  | 0, cl => altB_st (cat_st (atom_st (by simp) (by simp) cl)) ⟨_, cat_nil _⟩
  | n + 1, cl => altB_st (cat_st (atom_st (by rintro g hg c; cases hg; exact alt_st D n c) (by rintro g hg c; cases hg; exact alt_nil D n c) cl)) ⟨_, cat_nil _⟩
/-- What is wrong ahead of the end is wrong there whatever stands behind. -/
theorem whole_st (D : List Df) (r : List Int) (hr : NI r) (m : List Int) (e : Nat) (r' : List Int) (h : wholeF D r = .err e r') (hne : r' ≠ []) : wholeF D (r ++ m) = .err e (r' ++ m) := by
  unfold wholeF at h ⊢
  have ht := alt_st D 20 false r hr m
  cases h1 : altF D 20 false r with
  | err e0 x => rw [h1] at h; cases h; rw [ht.2 _ _ h1 hne]
  | ok x r1 =>
    rw [h1] at h
    dsimp only at h
    split at h
    · cases h
    · rename_i n1
      cases h
      rw [(ht.1 _ _ h1).2 n1]
      dsimp only
      rw [if_neg (app_ne n1)]
end RxM

/- Plain mathematics of patterns: a pattern in brackets is that pattern, or too deep; brackets within one another. Nothing of a program stands here. -/
namespace RxM
open SetM PropsM

/-- What is read up to the end is read up to a bracket that closes. -/
def Clo {α : Type} (F : List Int → Out α) : Prop := ∀ r a r', F r = .ok a r' → ∀ m, F (r ++ 41 :: m) = .ok a (r' ++ 41 :: m)
theorem at1_clo (c : Int) (hc : c ≠ 41) (r m : List Int) : at1 c (r ++ 41 :: m) = at1 c r := by
  cases r with
  | nil => simp [at1]; omega
  | cons b t => rfl
theorem run_clo (P : Int → Bool) (hP : P 41 = false) (m : List Int) : ∀ (k : Nat) (r : List Int), runF P k (r ++ 41 :: m) = ((runF P k r).1, (runF P k r).2 ++ 41 :: m)
  | 0, r => by simp [runF]
  | k + 1, [] => by simp [runF, hP]
  | k + 1, c :: r => by
    simp only [runF, List.cons_append]
    split
    · rw [run_clo P hP m k r]
    · rfl
theorem need_clo (c : Int) : Clo (needF c) := by
  intro r a r' h m
  have := need_ok h
  subst this
  simp [needF]
theorem num_clo : Clo numF := by
  intro r a r' h m
  unfold numF at h ⊢
  rw [run_clo isD (by decide) m 2 r]
  split at h
  · cases h
  · rename_i h1; cases h; rw [if_neg h1]
theorem most_clo (b : Int) : Clo (mostF b) := by
  intro r a r' h m
  unfold mostF at h ⊢
  rw [at1_clo 44 (by decide)]
  split at h
  · rename_i h1
    rw [if_pos h1, tail_app (at1_ne h1), at1_clo 125 (by decide)]
    split at h
    · rename_i h2; cases h; rw [if_pos h2]
    · rename_i h2; rw [if_neg h2]; exact num_clo _ _ _ h m
  · rename_i h1; cases h; rw [if_neg h1]
theorem bounds_clo : Clo boundsF := by
  intro r a r' h m
  unfold boundsF at h ⊢
  split at h
  · cases h
  · rename_i a1 r1 h1
    split at h
    · cases h
    · rename_i b1 r2 h2
      split at h
      · cases h
      · rename_i u r3 h3
        split at h
        · cases h
        · rename_i h4
          cases h
          simp only [num_clo _ _ _ h1 m, most_clo _ _ _ _ h2 m, need_clo _ _ _ _ h3 m, if_neg h4]
theorem times_clo : Clo timesF := by
  intro r a r' h m
  unfold timesF at h ⊢
  simp only [at1_clo 42 (by decide), at1_clo 43 (by decide), at1_clo 63 (by decide), at1_clo 123 (by decide)]
  split at h
  · rename_i h1; cases h; rw [if_pos h1, tail_app (at1_ne h1)]
  rename_i h1
  rw [if_neg h1]
  split at h
  · rename_i h2; cases h; rw [if_pos h2, tail_app (at1_ne h2)]
  rename_i h2
  rw [if_neg h2]
  split at h
  · rename_i h3; cases h; rw [if_pos h3, tail_app (at1_ne h3)]
  rename_i h3
  rw [if_neg h3]
  split at h
  · rename_i h4
    have n0 := at1_ne h4.1
    rw [tail_app n0]
    split at h
    · cases h
    · rename_i p r1 h5
      cases h
      have n1 : r.tail ≠ [] := by intro e; rw [e] at h5; simp [boundsF, numF, runF] at h5
      rw [if_pos ⟨h4.1, by rw [sees_app n1]; exact h4.2⟩, bounds_clo _ _ _ h5 m]
  · rename_i h4
    cases h
    rw [if_neg]
    intro h5
    have n0 := at1_ne h5.1
    rw [tail_app n0] at h5
    by_cases n1 : r.tail = []
    · exact h4 ⟨h5.1, by rw [n1]; rfl⟩
    · rw [sees_app n1] at h5; exact h4 h5
theorem rep_clo : ∀ (f : Nat) (x : Nd), Clo (repL f x)
  | 0, x => by intro r a r' h; simp [repL] at h
  | f + 1, x => by
    intro r a r' h m
    unfold repL at h ⊢
    split at h
    · cases h
    · rename_i h1; cases h; rw [times_clo _ _ _ h1 m]
    · rename_i h1; rw [times_clo _ _ _ h1 m]; exact rep_clo f _ _ _ _ h m
theorem byNum_clo (r0 r : List Int) (a : Pc) (r' : List Int) (h : byNumF r0 r = .ok a r') (r0' m : List Int) : byNumF r0' (r ++ 41 :: m) = .ok a (r' ++ 41 :: m) := by
  unfold byNumF at h ⊢
  split at h
  · cases h
  · rename_i r1 h1
    simp only [need_clo _ _ _ _ h1 m, run_clo isH (by decide) m 6 r1]
    split at h
    · cases h
    rename_i h2
    rw [if_neg h2]
    split at h
    · cases h
    · rename_i r2 h3
      rw [need_clo _ _ _ _ h3 m]
      dsimp only
      split at h
      · rename_i h4; cases h; rw [if_pos h4]
      · cases h
theorem byName_clo (r0 r : List Int) (a : Pc) (r' : List Int) (h : byNameF r0 r = .ok a r') (r0' m : List Int) : byNameF r0' (r ++ 41 :: m) = .ok a (r' ++ 41 :: m) := by
  unfold byNameF at h ⊢
  split at h
  · cases h
  · rename_i r1 h1
    simp only [need_clo _ _ _ _ h1 m]
    split at h
    · cases h
    · rename_i r2 h3
      have n1 : r1.dropWhile not125 ≠ [] := by intro e; rw [e] at h3; simp [needF] at h3
      rw [(while_st not125 (41 :: m) r1 n1).1, (while_st not125 (41 :: m) r1 n1).2, need_clo _ _ _ _ h3 m]
      dsimp only
      split at h
      · cases h
      · cases h; rfl
theorem esc_clo (r0 r : List Int) (a : Pc) (r' : List Int) (h : escF r0 r = .ok a r') (r0' m : List Int) : escF r0' (r ++ 41 :: m) = .ok a (r' ++ 41 :: m) := by
  cases r with
  | nil => simp [escF] at h
  | cons c t =>
    simp only [escF, List.cons_append] at h ⊢
    split at h
    · rename_i h1; cases h; rw [if_pos h1]
    rename_i h1
    rw [if_neg h1]
    split at h
    · rename_i h2; cases h; rw [if_pos h2]
    rename_i h2
    rw [if_neg h2]
    split at h
    · rename_i h3; cases h; rw [if_pos h3]
    rename_i h3
    rw [if_neg h3]
    split at h
    · rename_i h4; rw [if_pos h4]; exact byNum_clo _ _ _ _ h _ m
    rename_i h4
    rw [if_neg h4]
    split at h
    · rename_i h5; rw [if_pos h5]; exact byName_clo _ _ _ _ h _ m
    rename_i h5
    rw [if_neg h5]
    split at h
    · rename_i h6; cases h; rw [if_pos h6]
    · cases h
theorem piece_clo : Clo pieceF := by
  intro r a r' h m
  cases r with
  | nil => simp [pieceF] at h
  | cons c t =>
    simp only [pieceF, List.cons_append] at h ⊢
    split at h
    · rename_i h1; rw [if_pos h1]; exact esc_clo _ _ _ _ h _ m
    rename_i h1
    rw [if_neg h1]
    split at h
    · cases h
    · rename_i h2; cases h; rw [if_neg h2]
theorem item_clo : Clo itemF := by
  intro r a r' h m
  unfold itemF at h ⊢
  split at h
  · cases h
  · rename_i p r1 h1
    rw [piece_clo _ _ _ h1 m]
    dsimp only
    rw [at1_clo 45 (by decide)]
    split at h
    · rename_i h2
      rw [if_pos h2, tail_app (at1_ne h2)]
      split at h
      · cases h
      · rename_i q r3 h3
        rw [piece_clo _ _ _ h3 m]
        exact (pair_st r r3 (41 :: m) p q).1 _ _ h
    · rename_i h2; cases h; rw [if_neg h2]
theorem classL_clo : ∀ (f : Nat) (acc : List Sp), Clo (classL f acc)
  | 0, acc => by intro r a r' h; simp [classL] at h
  | f + 1, acc => by
    intro r a r' h m
    unfold classL at h ⊢
    rw [at1_clo 93 (by decide)]
    split at h
    · rename_i h1; cases h; rw [if_pos h1, tail_app (at1_ne h1)]
    · rename_i h1
      rw [if_neg h1]
      split at h
      · cases h
      · rename_i h2; rw [item_clo _ _ _ h2 m]; exact classL_clo f _ _ _ _ h m
theorem class_clo : Clo classF := by
  intro r a r' h m
  unfold classF at h ⊢
  rw [at1_clo 94 (by decide)]
  split at h
  · rename_i h1
    rw [if_pos h1, tail_app (at1_ne h1)]
    split at h
    · cases h
    · rename_i h2; cases h; rw [classL_clo _ _ _ _ _ h2 m]
  · rename_i h1
    rw [if_neg h1]
    split at h
    · cases h
    · rename_i h2; cases h; rw [classL_clo _ _ _ _ _ h2 m]
theorem named_clo (D : List Df) (cl : Bool) (r0 r : List Int) (a : Nd) (r' : List Int) (h : namedF D cl r0 r = .ok a r') (r0' m : List Int) : namedF D cl r0' (r ++ 41 :: m) = .ok a (r' ++ 41 :: m) := by
  cases r with
  | nil => simp [namedF] at h
  | cons c t =>
    simp only [namedF, List.cons_append] at h ⊢
    split at h
    · rename_i h1
      rw [if_pos h1]
      split at h
      · cases h
      · rename_i r2 h3
        have n1 : t.dropWhile isLD ≠ [] := by intro e; rw [e] at h3; simp [needF] at h3
        rw [(while_st isLD (41 :: m) t n1).1, (while_st isLD (41 :: m) t n1).2, need_clo _ _ _ _ h3 m]
        dsimp only
        split at h
        · cases h
        · cases h; rfl
    · cases h

/-! Error 61 is the brackets' alone. -/
theorem need_61 {c : Int} {r r' : List Int} (h : needF c r = .err 61 r') : False := by
  cases r with
  | nil => simp [needF] at h
  | cons b t => simp only [needF] at h; split at h <;> cases h
theorem num_61 {r r' : List Int} (h : numF r = .err 61 r') : False := by unfold numF at h; split at h <;> cases h
theorem most_61 {a : Int} {r r' : List Int} (h : mostF a r = .err 61 r') : False := by
  unfold mostF at h
  split at h
  · split at h
    · cases h
    · exact num_61 h
  · cases h
theorem bounds_61 {r r' : List Int} (h : boundsF r = .err 61 r') : False := by
  unfold boundsF at h
  split at h
  · rename_i h1; cases h; exact num_61 h1
  · split at h
    · rename_i h1; cases h; exact most_61 h1
    · split at h
      · rename_i h1; cases h; exact need_61 h1
      · split at h <;> cases h
theorem times_61 {r r' : List Int} (h : timesF r = .err 61 r') : False := by
  unfold timesF at h
  split at h
  · cases h
  split at h
  · cases h
  split at h
  · cases h
  split at h
  · split at h
    · rename_i h1; cases h; exact bounds_61 h1
    · cases h
  · cases h
theorem rep_61 : ∀ (f : Nat) (x : Nd) (r r' : List Int), repL f x r = .err 61 r' → False
  | 0, x, r, r', h => by simp [repL] at h
  | f + 1, x, r, r', h => by
    unfold repL at h
    split at h
    · rename_i h1; cases h; exact times_61 h1
    · cases h
    · exact rep_61 f _ _ _ h
theorem byNum_61 {r0 r r' : List Int} (h : byNumF r0 r = .err 61 r') : False := by
  unfold byNumF at h
  split at h
  · rename_i h1; cases h; exact need_61 h1
  · split at h
    · cases h
    split at h
    · rename_i h1; cases h; exact need_61 h1
    · split at h <;> cases h
theorem byName_61 {r0 r r' : List Int} (h : byNameF r0 r = .err 61 r') : False := by
  unfold byNameF at h
  split at h
  · rename_i h1; cases h; exact need_61 h1
  · split at h
    · rename_i h1; cases h; exact need_61 h1
    · split at h <;> cases h
theorem esc_61 {r0 r r' : List Int} (h : escF r0 r = .err 61 r') : False := by
  cases r with
  | nil => simp [escF] at h
  | cons c t =>
    simp only [escF] at h
    split at h
    · cases h
    split at h
    · cases h
    split at h
    · cases h
    split at h
    · exact byNum_61 h
    split at h
    · exact byName_61 h
    split at h <;> cases h
theorem piece_61 {r r' : List Int} (h : pieceF r = .err 61 r') : False := by
  cases r with
  | nil => simp [pieceF] at h
  | cons c t =>
    simp only [pieceF] at h
    split at h
    · exact esc_61 h
    split at h <;> cases h
theorem pair_61 {r r3 r' : List Int} {a b : Pc} (h : pairF r a b r3 = .err 61 r') : False := by
  unfold pairF at h
  split at h
  · split at h <;> cases h
  · cases h
theorem item_61 {r r' : List Int} (h : itemF r = .err 61 r') : False := by
  unfold itemF at h
  split at h
  · rename_i h1; cases h; exact piece_61 h1
  · split at h
    · split at h
      · rename_i h1; cases h; exact piece_61 h1
      · exact pair_61 h
    · cases h
theorem classL_61 : ∀ (f : Nat) (acc : List Sp) (r r' : List Int), classL f acc r = .err 61 r' → False
  | 0, acc, r, r', h => by simp [classL] at h
  | f + 1, acc, r, r', h => by
    unfold classL at h
    split at h
    · cases h
    · split at h
      · rename_i h1; cases h; exact item_61 h1
      · exact classL_61 f _ _ _ h
theorem class_61 {r r' : List Int} (h : classF r = .err 61 r') : False := by
  unfold classF at h
  split at h
  · split at h
    · rename_i h1; cases h; exact classL_61 _ _ _ _ h1
    · cases h
  · split at h
    · rename_i h1; cases h; exact classL_61 _ _ _ _ h1
    · cases h
theorem named_61 {D : List Df} {cl : Bool} {r0 r r' : List Int} (h : namedF D cl r0 r = .err 61 r') : False := by
  cases r with
  | nil => simp [namedF] at h
  | cons c t =>
    simp only [namedF] at h
    split at h
    · split at h
      · rename_i h1; cases h; exact need_61 h1
      · split at h <;> cases h
    · cases h

/-- The second reads what the first reads, up to a bracket that closes; or it is too deep. -/
def Under {α : Type} (F G : List Int → Out α) : Prop := ∀ r m,
  (∀ a r', F r = .ok a r' → G (r ++ 41 :: m) = .ok a (r' ++ 41 :: m) ∨ ∃ x, G (r ++ 41 :: m) = .err 61 x) ∧
  (∀ r', F r = .err 61 r' → ∃ x, G (r ++ 41 :: m) = .err 61 x)
theorem inner_un {f g : Bool → List Int → Out Nd} (h : ∀ cl, Under (f cl) (g cl)) (cl : Bool) : Under (innerF f cl) (innerF g cl) := by
  intro r m
  refine ⟨fun a r' e => ?_, fun r' e => ?_⟩
  · unfold innerF at e ⊢
    split at e
    · cases e
    · rename_i x r1 h1
      split at e
      · cases e
      · rename_i r2 h2
        cases e
        rcases (h cl r m).1 _ _ h1 with g1 | ⟨y, g1⟩
        · left; rw [g1]; dsimp only; rw [need_clo _ _ _ _ h2 m]
        · right; exact ⟨y, by rw [g1]⟩
  · unfold innerF at e ⊢
    split at e
    · rename_i h1
      cases e
      obtain ⟨y, g1⟩ := (h cl r m).2 _ h1
      exact ⟨y, by rw [g1]⟩
    · split at e
      · rename_i h2; cases e; exact (need_61 h2).elim
      · cases e
theorem group_un {f g : Bool → List Int → Out Nd} (h : ∀ cl, Under (f cl) (g cl)) (cl : Bool) : Under (groupF f cl) (groupF g cl) := by
  intro r m
  by_cases c1 : at1 63 r = true
  · have n0 := at1_ne c1
    by_cases c2 : at1 105 r.tail = true ∧ at1 58 r.tail.tail = true
    · have n1 := at1_ne c2.1
      have n2 := at1_ne c2.2
      have c2' : at1 105 (r ++ 41 :: m).tail = true ∧ at1 58 (r ++ 41 :: m).tail.tail = true := by rw [tail_app n0, tail_app n1, at1_app n1, at1_app n2]; exact c2
      have e1 : groupF f cl r = innerF f true r.tail.tail.tail := by simp only [groupF, if_pos c1, if_pos c2]
      have e2 : groupF g cl (r ++ 41 :: m) = innerF g true (r.tail.tail.tail ++ 41 :: m) := by
        rw [groupF, if_pos (by rw [at1_app n0]; exact c1), if_pos c2', tail_app n0, tail_app n1, tail_app n2]
      rw [e1, e2]
      exact inner_un h true _ m
    · have e1 : groupF f cl r = .err 60 r.tail := by simp only [groupF, if_pos c1, if_neg c2]
      rw [e1]
      exact ⟨fun a r' h => (by cases h), fun r' h => (by cases h)⟩
  · have e1 : groupF f cl r = innerF f cl r := by simp only [groupF, if_neg c1]
    have e2 : groupF g cl (r ++ 41 :: m) = innerF g cl (r ++ 41 :: m) := by simp only [groupF, at1_clo 63 (by decide), if_neg c1]
    rw [e1, e2]
    exact inner_un h cl r m
theorem atom_un {D : List Df} {f : Bool → List Int → Out Nd} {g : Option (Bool → List Int → Out Nd)} (h : ∀ g', g = some g' → ∀ cl, Under (f cl) (g' cl)) (cl : Bool) : Under (atomF D (some f) cl) (atomF D g cl) := by
  intro r m
  cases r with
  | nil => exact ⟨fun a r' h => (by simp [atomF] at h), fun r' h => (by simp [atomF] at h)⟩
  | cons c t =>
    simp only [atomF, List.cons_append]
    split
    · cases g with
      | none => exact ⟨fun a r' _ => .inr ⟨_, rfl⟩, fun r' _ => ⟨_, rfl⟩⟩
      | some g' => exact group_un (h g' rfl) cl t m
    split
    · exact ⟨fun a r' e => .inl (named_clo _ _ _ _ _ _ e _ m), fun r' e => (named_61 e).elim⟩
    split
    · cases h1 : classF t with
      | err e x => exact ⟨fun a r' h => (by cases h), fun r' h => (by cases h; exact (class_61 h1).elim)⟩
      | ok l r1 => exact ⟨fun a r' h => (by cases h; left; rw [class_clo _ _ _ h1 m]), fun r' h => (by cases h)⟩
    split
    · cases h1 : escF (c :: t) t with
      | err e x => exact ⟨fun a r' h => (by cases h), fun r' h => (by cases h; exact (esc_61 h1).elim)⟩
      | ok l r1 => exact ⟨fun a r' h => (by cases h; left; rw [esc_clo _ _ _ _ h1 _ m]), fun r' h => (by cases h)⟩
    split
    · exact ⟨fun a r' h => (by cases h; exact .inl rfl), fun r' h => (by cases h)⟩
    · exact ⟨fun a r' h => (by cases h; exact .inl rfl), fun r' h => (by cases h)⟩
theorem catL_un {a1 a2 : List Int → Out Nd} (ha : Under a1 a2) : ∀ (f : Nat) (acc : List Nd), Under (catL a1 f acc) (catL a2 f acc)
  | 0, acc => fun r m => ⟨fun a r' h => (by simp [catL] at h), fun r' h => (by simp [catL] at h)⟩
  | f + 1, acc => by
    intro r m
    by_cases c1 : r = [] ∨ sees (inS stopS) r = true
    · have e1 : catL a1 (f + 1) acc r = .ok acc r := by simp only [catL, if_pos c1]
      have c2 : r ++ 41 :: m = [] ∨ sees (inS stopS) (r ++ 41 :: m) = true := by
        by_cases n0 : r = []
        · subst n0; right; rfl
        · right; rw [sees_app n0]; rcases c1 with c1 | c1
          · exact absurd c1 n0
          · exact c1
      have e2 : catL a2 (f + 1) acc (r ++ 41 :: m) = .ok acc (r ++ 41 :: m) := by simp only [catL, if_pos c2]
      rw [e1, e2]
      exact ⟨fun a r' h => (by cases h; exact .inl rfl), fun r' h => (by cases h)⟩
    have n0 : r ≠ [] := fun e => c1 (.inl e)
    have c2 : ¬ (r ++ 41 :: m = [] ∨ sees (inS stopS) (r ++ 41 :: m) = true) := by
      rw [sees_app n0]
      rintro (h | h)
      · exact app_ne n0 h
      · exact c1 (.inr h)
    cases h1 : a1 r with
    | err e x =>
      have e1 : catL a1 (f + 1) acc r = .err e x := by simp only [catL, if_neg c1, h1]
      rw [e1]
      refine ⟨fun a r' h => (by cases h), fun r' h => ?_⟩
      cases h
      obtain ⟨y, hy⟩ := (ha r m).2 _ h1
      exact ⟨y, by simp only [catL, if_neg c2, hy]⟩
    | ok x r1 =>
      rcases (ha r m).1 _ _ h1 with g1 | ⟨y, g1⟩
      · cases h2 : repL 201 x r1 with
        | err e y =>
          have e1 : catL a1 (f + 1) acc r = .err e y := by simp only [catL, if_neg c1, h1, h2]
          rw [e1]
          exact ⟨fun a r' h => (by cases h), fun r' h => (by cases h; exact (rep_61 _ _ _ _ h2).elim)⟩
        | ok y r2 =>
          have e1 : catL a1 (f + 1) acc r = catL a1 f (acc ++ [y]) r2 := by simp only [catL, if_neg c1, h1, h2]
          have e2 : catL a2 (f + 1) acc (r ++ 41 :: m) = catL a2 f (acc ++ [y]) (r2 ++ 41 :: m) := by simp only [catL, if_neg c2, g1, rep_clo _ _ _ _ _ h2 m]
          rw [e1, e2]
          exact catL_un ha f _ r2 m
      · have e2 : catL a2 (f + 1) acc (r ++ 41 :: m) = .err 61 y := by simp only [catL, if_neg c2, g1]
        rw [e2]
        exact ⟨fun a r' _ => .inr ⟨_, rfl⟩, fun r' _ => ⟨_, rfl⟩⟩
theorem cat_un {a1 a2 : List Int → Out Nd} (ha : Under a1 a2) : Under (catF a1) (catF a2) := by
  intro r m
  have hc := catL_un ha 201 [] r m
  unfold catF
  cases h1 : catL a1 201 [] r with
  | err e x =>
    refine ⟨fun a r' h => (by cases h), fun r' h => ?_⟩
    cases h
    obtain ⟨y, hy⟩ := hc.2 _ h1
    exact ⟨y, by rw [hy]⟩
  | ok l r1 =>
    refine ⟨fun a r' h => ?_, fun r' h => (by cases h)⟩
    cases h
    rcases hc.1 _ _ h1 with g | ⟨y, g⟩
    · left; rw [g]
    · right; exact ⟨y, by rw [g]⟩
theorem altL_un {c1 c2 : List Int → Out Nd} (hc : Under c1 c2) : ∀ (f : Nat) (acc : List Nd), Under (altL c1 f acc) (altL c2 f acc)
  | 0, acc => fun r m => ⟨fun a r' h => (by simp [altL] at h), fun r' h => (by simp [altL] at h)⟩
  | f + 1, acc => by
    intro r m
    by_cases k1 : at1 124 r = true
    · have n0 := at1_ne k1
      have k2 : at1 124 (r ++ 41 :: m) = true := by rw [at1_app n0]; exact k1
      cases h1 : c1 r.tail with
      | err e x =>
        have e1 : altL c1 (f + 1) acc r = .err e x := by simp only [altL, if_pos k1, h1]
        rw [e1]
        refine ⟨fun a r' h => (by cases h), fun r' h => ?_⟩
        cases h
        obtain ⟨y, hy⟩ := (hc r.tail m).2 _ h1
        exact ⟨y, by rw [altL, if_pos k2, tail_app n0, hy]⟩
      | ok x r1 =>
        have e1 : altL c1 (f + 1) acc r = altL c1 f (acc ++ [x]) r1 := by simp only [altL, if_pos k1, h1]
        rcases (hc r.tail m).1 _ _ h1 with g1 | ⟨y, g1⟩
        · have e2 : altL c2 (f + 1) acc (r ++ 41 :: m) = altL c2 f (acc ++ [x]) (r1 ++ 41 :: m) := by rw [altL, if_pos k2, tail_app n0, g1]
          rw [e1, e2]
          exact altL_un hc f _ r1 m
        · have e2 : altL c2 (f + 1) acc (r ++ 41 :: m) = .err 61 y := by rw [altL, if_pos k2, tail_app n0, g1]
          rw [e2]
          exact ⟨fun a r' _ => .inr ⟨_, rfl⟩, fun r' _ => ⟨_, rfl⟩⟩
    · have e1 : altL c1 (f + 1) acc r = .ok acc r := by simp only [altL, if_neg k1]
      have e2 : altL c2 (f + 1) acc (r ++ 41 :: m) = .ok acc (r ++ 41 :: m) := by simp only [altL, at1_clo 124 (by decide), if_neg k1]
      rw [e1, e2]
      exact ⟨fun a r' h => (by cases h; exact .inl rfl), fun r' h => (by cases h)⟩
theorem altB_un {c1 c2 : List Int → Out Nd} (hc : Under c1 c2) : Under (altB c1) (altB c2) := by
  intro r m
  cases h1 : c1 r with
  | err e x =>
    have e1 : altB c1 r = .err e x := by simp only [altB, h1]
    rw [e1]
    refine ⟨fun a r' h => (by cases h), fun r' h => ?_⟩
    cases h
    obtain ⟨y, hy⟩ := (hc r m).2 _ h1
    exact ⟨y, by simp only [altB, hy]⟩
  | ok x r1 =>
    rcases (hc r m).1 _ _ h1 with g1 | ⟨y, g1⟩
    · have ht := altL_un hc 201 [x] r1 m
      simp only [altB, h1, g1]
      cases h2 : altL c1 201 [x] r1 with
      | err e y =>
        refine ⟨fun a r' h => (by cases h), fun r' h => ?_⟩
        cases h
        obtain ⟨z, hz⟩ := ht.2 _ h2
        exact ⟨z, by rw [hz]⟩
      | ok l r2 =>
        refine ⟨fun a r' h => ?_, fun r' h => (by cases h)⟩
        cases h
        rcases ht.1 _ _ h2 with g | ⟨y, g⟩
        · left; rw [g]
        · right; exact ⟨y, by rw [g]⟩
    · have e2 : altB c2 (r ++ 41 :: m) = .err 61 y := by simp only [altB, g1]
      rw [e2]
      exact ⟨fun a r' _ => .inr ⟨_, rfl⟩, fun r' _ => ⟨_, rfl⟩⟩
theorem alt_un (D : List Df) : ∀ (n : Nat) (cl : Bool), Under (altF D (n + 1) cl) (altF D n cl)
  | 0, cl => altB_un (cat_un (atom_un (by simp) cl))
  | n + 1, cl => altB_un (cat_un (atom_un (by rintro g hg c; cases hg; exact alt_un D n c) cl))

/-- One atom that is all there is. -/
theorem alt_one {D : List Df} {n : Nat} {cl : Bool} {c : Int} {t : List Int} {x : Nd} {m : List Int} (hs : inS stopS c = false) (h : atomF D (some (altF D n)) cl (c :: t) = .ok x m) (hm : m = [] ∨ ∃ m', m = 41 :: m') :
    altF D (n + 1) cl (c :: t) = .ok x m := by
  have hr : repL 201 x m = .ok x m := by
    have : timesF m = .ok none m := by rcases hm with rfl | ⟨m', rfl⟩ <;> rfl
    simp only [repL, this]
  have hc1 : ∀ (atom : List Int → Out Nd) (acc : List Nd), catL atom 200 acc m = .ok acc m := by
    intro atom acc
    rcases hm with rfl | ⟨m', rfl⟩ <;> rfl
  have g : ¬ ((c :: t) = [] ∨ sees (inS stopS) (c :: t) = true) := by simp [sees, hs]
  have hc : catL (atomF D (some (altF D n)) cl) 201 [] (c :: t) = .ok [x] m := by
    rw [catL, if_neg g, h]
    dsimp only
    rw [hr]
    exact hc1 _ _
  have ha : altL (catF (atomF D (some (altF D n)) cl)) 201 [x] m = .ok [x] m := by
    rcases hm with rfl | ⟨m', rfl⟩ <;> rfl
  have hcf : catF (atomF D (some (altF D n)) cl) (c :: t) = .ok x m := by rw [catF, hc]; rfl
  rw [altF, altB, hcf]
  dsimp only
  rw [ha]
  rfl
theorem alt_bad {D : List Df} {f : Option (Bool → List Int → Out Nd)} {cl : Bool} {c : Int} {t : List Int} {e : Nat} {m : List Int} (hs : inS stopS c = false) (h : atomF D f cl (c :: t) = .err e m) :
    altB (catF (atomF D f cl)) (c :: t) = .err e m := by
  have g : ¬ ((c :: t) = [] ∨ sees (inS stopS) (c :: t) = true) := by simp [sees, hs]
  have hc : catL (atomF D f cl) 201 [] (c :: t) = .err e m := by
    rw [catL, if_neg g, h]
  have hcf : catF (atomF D f cl) (c :: t) = .err e m := by rw [catF, hc]
  rw [altB, hcf]
/-- A pattern in brackets. -/
theorem whole_brk (D : List Df) (r : List Int) :
    (∀ x r', wholeF D r = .ok x r' → wholeF D (40 :: (r ++ [41])) = .ok x [] ∨ ∃ y, wholeF D (40 :: (r ++ [41])) = .err 61 y) ∧
    (∀ r', wholeF D r = .err 61 r' → at1 63 r = false → ∃ y, wholeF D (40 :: (r ++ [41])) = .err 61 y) := by
  have hu := alt_un D 19 false r []
  have bad : ∀ y, at1 63 r = false → altF D 19 false (r ++ [41]) = .err 61 y → ∃ z, wholeF D (40 :: (r ++ [41])) = .err 61 z := by
    intro y hq hy
    refine ⟨y, ?_⟩
    have ha : atomF D (some (altF D 19)) false (40 :: (r ++ [41])) = .err 61 y := by
      simp only [atomF, if_true, groupF, at1_clo 63 (by decide), hq, innerF, hy]
      rfl
    unfold wholeF
    rw [show altF D 20 false (40 :: (r ++ [41])) = .err 61 y from alt_bad (by decide) ha]
  refine ⟨fun x r' h => ?_, fun r' h hq => ?_⟩
  · unfold wholeF at h
    cases h1 : altF D 20 false r with
    | err e z => rw [h1] at h; cases h
    | ok x1 r1 =>
      rw [h1] at h
      dsimp only at h
      split at h
      · rename_i n1
        cases h
        subst n1
        have hq : at1 63 r = false := by
          cases hq : at1 63 r with
          | false => rfl
          | true =>
            have e := at1_true hq
            rw [e] at h1
            have : altF D 20 false (63 :: r.tail) = .ok (.mk 0 none0 [] 0 0) (63 :: r.tail) := by
              have hc : catF (atomF D (some (altF D 19)) false) (63 :: r.tail) = .ok (.mk 0 none0 [] 0 0) (63 :: r.tail) := rfl
              rw [altF, altB, hc]
              rfl
            rw [this] at h1
            cases h1
        rcases hu.1 _ _ h1 with g | ⟨y, g⟩
        · left
          have ha : atomF D (some (altF D 19)) false (40 :: (r ++ [41])) = .ok x [] := by
            simp only [atomF, if_true, groupF, at1_clo 63 (by decide), hq, innerF, g]
            rfl
          unfold wholeF
          rw [show altF D 20 false (40 :: (r ++ [41])) = .ok x [] from alt_one (by decide) ha (.inl rfl)]
          rfl
        · right; exact bad y hq g
      · cases h
  · unfold wholeF at h
    cases h1 : altF D 20 false r with
    | err e z =>
      rw [h1] at h
      cases h
      obtain ⟨y, g⟩ := hu.2 _ h1
      exact bad y hq g
    | ok x1 r1 =>
      rw [h1] at h
      dsimp only at h
      split at h <;> cases h
/-- Brackets within one another round a sign. -/
theorem deep_ok (D : List Df) : ∀ (k n : Nat) (cl : Bool) (m : List Int), k ≤ n → (m = [] ∨ ∃ m', m = 41 :: m') →
    altF D (n + 1) cl (List.replicate k 40 ++ 97 :: (List.replicate k 41 ++ m)) = .ok (chN cl (Tells [(97, 97)])) m
  | 0, n, cl, m, _, hm => by
    refine alt_one (by decide) ?_ hm
    rfl
  | k + 1, n, cl, m, hk, hm => by
    obtain ⟨n, rfl⟩ : ∃ n', n = n' + 1 := ⟨n - 1, by omega⟩
    have ih := deep_ok D k n cl (41 :: m) (by omega) (.inr ⟨m, rfl⟩)
    have e : List.replicate (k + 1) (41 : Int) ++ m = List.replicate k 41 ++ 41 :: m := by
      rw [List.replicate_succ', List.append_assoc]; rfl
    rw [List.replicate_succ, e, List.cons_append]
    refine alt_one (by decide) ?_ hm
    have hq : at1 63 (List.replicate k 40 ++ 97 :: (List.replicate k 41 ++ 41 :: m)) = false := by
      cases k with
      | zero => rfl
      | succ k => rfl
    simp only [atomF, if_true, groupF, hq, innerF, ih]
    rfl
theorem deep_bad (D : List Df) : ∀ (n : Nat) (cl : Bool) (t : List Int), altF D n cl (List.replicate n 40 ++ 40 :: t) = .err 61 (40 :: t)
  | 0, cl, t => by
    have : atomF D none cl (40 :: t) = .err 61 (40 :: t) := rfl
    exact alt_bad (by decide) this
  | n + 1, cl, t => by
    have ih := deep_bad D n cl t
    rw [List.replicate_succ, List.cons_append]
    refine alt_bad (by decide) ?_
    have hq : at1 63 (List.replicate n 40 ++ 40 :: t) = false := by
      cases n with
      | zero => rfl
      | succ k => rfl
    simp only [atomF, if_true, groupF, hq, innerF, ih]
    rfl
end RxM

/- Plain mathematics of a class's items: how much of the text each takes. -/
namespace RxM
open SetM PropsM

theorem drop_len (P : Int → Bool) (r : List Int) : (r.dropWhile P).length ≤ r.length := (List.dropWhile_sublist P).length_le
theorem byName_cls {r0 r r' : List Int} {p : Pc} (h : byNameF r0 r = .ok p r') : r'.length + 2 ≤ r.length := by
  unfold byNameF at h
  cases h1 : needF 123 r with
  | err e x => rw [h1] at h; cases h
  | ok u r1 =>
    rw [h1] at h
    dsimp only at h
    have e1 := need_ok h1
    cases h2 : needF 125 (r1.dropWhile not125) with
    | err e x => rw [h2] at h; cases h
    | ok u r2 =>
      rw [h2] at h
      dsimp only at h
      have e2 := need_ok h2
      have := drop_len not125 r1
      rw [e2, List.length_cons] at this
      rw [e1, List.length_cons]
      split at h
      · cases h
      · cases h; omega
theorem esc_cls {r0 r r' : List Int} {i : Nat} (h : escF r0 r = .ok (.cls i) r') : r'.length + 3 ≤ r.length := by
  cases r with
  | nil => cases h
  | cons c t =>
    simp only [escF] at h
    split at h
    · cases h
    split at h
    · cases h
    split at h
    · cases h
    split at h
    · unfold byNumF at h
      split at h
      · cases h
      · split at h
        · cases h
        · split at h
          · cases h
          · split at h <;> cases h
    split at h
    · have := byName_cls h
      rw [List.length_cons]; omega
    split at h <;> cases h
theorem piece_cls {r r' : List Int} {i : Nat} (h : pieceF r = .ok (.cls i) r') : r'.length + 4 ≤ r.length := by
  cases r with
  | nil => cases h
  | cons c t =>
    simp only [pieceF] at h
    split at h
    · have := esc_cls h
      rw [List.length_cons]; omega
    split at h <;> cases h
theorem item_cls {r r1 r' : List Int} {i : Nat} {a : List Sp} (h1 : pieceF r = .ok (.cls i) r1) (h2 : at1 45 r1 = false) (h : itemF r = .ok a r') : r'.length + 4 ≤ r.length := by
  unfold itemF at h
  rw [h1] at h
  dsimp only at h
  rw [h2] at h
  simp only [Bool.false_eq_true, if_false] at h
  cases h
  exact piece_cls h1
theorem tells_app {a b a' b' : List Sp} (h1 : ∀ r, Tells a r ↔ Tells a' r) (h2 : ∀ r, Tells b r ↔ Tells b' r) (r : Int) : Tells (a ++ b) r ↔ Tells (a' ++ b') r := by
  have e1 := h1 r
  have e2 := h2 r
  unfold Tells at *
  rw [mem_append, mem_append]
  constructor
  · rintro ⟨hs, h | h⟩
    · exact ⟨hs, .inl (e1.1 ⟨hs, h⟩).2⟩
    · exact ⟨hs, .inr (e2.1 ⟨hs, h⟩).2⟩
  · rintro ⟨hs, h | h⟩
    · exact ⟨hs, .inl (e1.2 ⟨hs, h⟩).2⟩
    · exact ⟨hs, .inr (e2.2 ⟨hs, h⟩).2⟩
end RxM
