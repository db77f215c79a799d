/- What the map of classes holds at a name. -/
import Derived.Test.YtjhbjgpkpcfdmaaDoorPMap
namespace Go.Proofs.YtjhbjgpkpcfdmaaDoor
open Go.RowKit Go.Shelf Go.Maps SetM PropsM

def pairC (p : Bs × Value) : Lit × DataW Value := (.string p.1, .held p.2)
theorem key_same (a b : Bs) : (Lit.string a).sameKey (.string b) = (a == b) := rfl
theorem find_zip : ∀ (ns : List Bs) (vs : List Value) (_ : ns.length = vs.length) (i : Nat) (hi : i < ns.length) (hv : i < vs.length) (_ : ∀ j (hj : j < i), ns[j]'(by omega) ≠ ns[i]),
    ((ns.zip vs).map pairC).find? (fun p => p.1.sameKey (.string ns[i])) = some (.string ns[i], .held vs[i])
  | [], _, _, i, hi, _, _ => by simp at hi
  | n :: ns, [], h, _, _, hv, _ => by simp at hv
  | n :: ns, v :: vs, h, 0, hi, hv, hd => by
    rw [List.zip_cons_cons, List.map_cons, List.find?_cons]
    simp [pairC, key_same]
  | n :: ns, v :: vs, h, i + 1, hi, hv, hd => by
    rw [List.zip_cons_cons, List.map_cons, List.find?_cons]
    have h0 : n ≠ ns[i]'(by simpa using hi) := hd 0 (by omega)
    have h1 : ((pairC (n, v)).1.sameKey (.string ((n :: ns)[i + 1]))) = false := by
      show (n == ns[i]'(by simpa using hi)) = false
      simpa using h0
    rw [h1]
    exact find_zip ns vs (by simpa using h) i (by simpa using hi) (by simpa using hv) (fun j hj => hd (j + 1) (by omega))
theorem any_zip : ∀ (ns : List Bs) (vs : List Value) (_ : ns.length = vs.length) (l : Bs), ((ns.zip vs).map pairC).any (fun p => p.1.sameKey (.string l)) = ns.any (fun n => n == l)
  | [], _, _, _ => by simp
  | n :: ns, [], h, _ => by simp at h
  | n :: ns, v :: vs, h, l => by
    rw [List.zip_cons_cons, List.map_cons, List.any_cons, List.any_cons, any_zip ns vs (by simpa using h) l]
    rfl
theorem names_ne : ∀ i : Fin 13, ∀ j : Fin 13, j < i → nameOf j ≠ nameOf i := by decide
theorem names_at (i : Nat) (h : i < namesL.length) : namesL[i] = nameOf i := by unfold nameOf; rw [List.getD_eq_getElem?_getD, List.getElem?_eq_getElem h]; rfl
theorem at_mkD {vs : List Value} (h : vs.length = 13) (i : Nat) (hi : i < 13) (z : DataW Value) : (mkD vs).atKey (.string (nameOf i)) z = .held (vs[i]'(by omega)) := by
  have hn : namesL.length = vs.length := h.symm
  have hi' : i < namesL.length := hi
  have := find_zip namesL vs hn i hi' (by omega) (fun j hj => by
    rw [names_at i hi', names_at j (by omega)]
    exact names_ne ⟨i, hi⟩ ⟨j, by omega⟩ hj)
  rw [names_at i hi'] at this
  unfold mkD DataW.atKey
  dsimp only
  rw [show (fun p : Bs × Value => ((Lit.string p.1, DataW.held p.2) : Lit × DataW Value)) = pairC from rfl, this]
theorem has_mkD {vs : List Value} (h : vs.length = 13) (l : Bs) : Maps.has (mkD vs) (.string l) = (whichF l).isSome := by
  have hn : namesL.length = vs.length := h.symm
  unfold mkD
  rw [Maps.has_eq, show (fun p : Bs × Value => ((Lit.string p.1, DataW.held p.2) : Lit × DataW Value)) = pairC from rfl, any_zip namesL vs hn l]
  unfold whichF
  rw [List.isSome_find?, show namesL = (List.range 13).map nameOf from by decide, List.any_map]
  rfl
theorem zero_cls : ∀ w, (zeroValue 48).run Tryd.prog w = .ok (.agg #[.slice none 0 0, .slice none 0 0]) w := fun w => Tryd.zeroValue48 w
theorem key_ok (l : Bs) (hl : l.length ≤ 1000000) : keyOf Tryd.prog 9 (.string ⟨l.toArray⟩) = some (.string l) :=
  WideMaps.keyOf_string_mk Tryd.underlying9 (by show l.toArray.size ≤ maxLen; rw [List.size_toArray]; unfold maxLen; omega)
/-- A class's value by its name. -/
theorem look_c {W : World} {B : Nat} {vs : List Value} (hv : vs.length = 13) (hown : W.ownsMap Tryd.prog 9 Rv B 13 (mkD vs)) (i : Nat) (hi : i < 13) :
    (Instr.lookup 45 (.map (some B)) (.string ⟨(nameOf i).toArray⟩) false).run Tryd.prog W = .ok (vs[i]'(by omega)) W := by
  obtain ⟨v, ps, h1, h2⟩ := hown.lookup lawS Tryd.underlying45 (zero_cls W) (zd := .held (.agg #[.slice none 0 0, .slice none 0 0])) (zp := []) rfl (key_ok (nameOf i) (by have := (name_len i hi).2; omega))
  rw [at_mkD hv i hi] at h2
  unfold Rv at h2
  simp only [Option.some.injEq, Prod.mk.injEq, DataW.held.injEq] at h2
  rw [h1, h2.1]
/-- Is there a class of a name? -/
theorem look_ok {W : World} {B : Nat} {vs : List Value} (hv : vs.length = 13) (ha : Acc W vs) (hown : W.ownsMap Tryd.prog 9 Rv B 13 (mkD vs)) (l : Bs) (hl : l.length ≤ 1000000) :
    ∃ P n c Q m d, (Instr.lookup 45 (.map (some B)) (.string ⟨l.toArray⟩) true).run Tryd.prog W = .ok (.tuple #[.agg #[.slice P n c, .slice Q m d], .bool (whichF l).isSome]) W := by
  obtain ⟨v, ps, h1, h2⟩ := hown.look_ok lawS Tryd.underlying45 (zero_cls W) (zd := .held (.agg #[.slice none 0 0, .slice none 0 0])) (zp := []) rfl (key_ok l hl)
  have hh := has_mkD hv l
  rw [hh] at h1
  unfold Rv at h2
  cases hw : whichF l with
  | none =>
    rw [hw] at hh h1
    rw [Maps.atKey_of_not_has hh] at h2
    simp only [Option.some.injEq, Prod.mk.injEq, DataW.held.injEq] at h2
    rw [h2.1] at h1
    exact ⟨_, _, _, _, _, _, h1⟩
  | some i =>
    obtain ⟨hi, hn⟩ := which_some hw
    rw [← hn, at_mkD hv i hi] at h2
    simp only [Option.some.injEq, Prod.mk.injEq, DataW.held.injEq] at h2
    obtain ⟨P, c, Q, d, e, _⟩ := ha i (by omega)
    rw [h2.1, e, hw] at h1
    exact ⟨_, _, _, _, _, _, h1⟩
end Go.Proofs.YtjhbjgpkpcfdmaaDoor
