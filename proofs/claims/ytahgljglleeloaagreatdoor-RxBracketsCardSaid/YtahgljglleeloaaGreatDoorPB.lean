/- PLook, PApp, PGath, POf, in one text. -/
import Derived.Test.YtahgljglleeloaaGreatDoorPMap
import Derived.Test.YtahgljglleeloaaGreatDoorFB
import Derived.Laws.AppendOwnNone
import Derived.WalkSmall
import Derived.Test.YtahgljglleeloaaGreatDoorPA
/- What the map of classes holds at a name. -/
namespace Go.Proofs.YtahgljglleeloaaGreatDoor
open Go.RowKit Go.Shelf Go.Maps SetM PropsM

def pairC (p : Bs × Value) : Lit × DataW Value := (.string p.1, .held p.2)
theorem key_same (a b : Bs) : (Lit.string a).sameKey (.string b) = (a == b) := rfl
theorem find_zip : ∀ (ns : List Bs) (vs : List Value) (_ : ns.length = vs.length) (i : Nat) (hi : i < ns.length) (hv : i < vs.length) (_ : ∀ j (hj : j < i), ns[j]'(by omega) ≠ ns[i]),
    ((ns.zip vs).map pairC).find? (fun p => p.1.sameKey (.string ns[i])) = some (.string ns[i], .held vs[i])
  | [], _, _, i, hi, _, _ => by simp at hi
  | n :: ns, [], h, _, _, hv, _ => by simp at hv
  | n :: ns, v :: vs, h, 0, hi, hv, hd => by
    rw [List.zip_cons_cons, List.map_cons, List.find?_cons]
    simp [pairC, key_same]
  | n :: ns, v :: vs, h, i + 1, hi, hv, hd => by
    rw [List.zip_cons_cons, List.map_cons, List.find?_cons]
    have h0 : n ≠ ns[i]'(by simpa using hi) := hd 0 (by omega)
    have h1 : ((pairC (n, v)).1.sameKey (.string ((n :: ns)[i + 1]))) = false := by
      show (n == ns[i]'(by simpa using hi)) = false
      simpa using h0
    rw [h1]
    exact find_zip ns vs (by simpa using h) i (by simpa using hi) (by simpa using hv) (fun j hj => hd (j + 1) (by omega))
theorem any_zip : ∀ (ns : List Bs) (vs : List Value) (_ : ns.length = vs.length) (l : Bs), ((ns.zip vs).map pairC).any (fun p => p.1.sameKey (.string l)) = ns.any (fun n => n == l)
  | [], _, _, _ => by simp
  | n :: ns, [], h, _ => by simp at h
  | n :: ns, v :: vs, h, l => by
    rw [List.zip_cons_cons, List.map_cons, List.any_cons, List.any_cons, any_zip ns vs (by simpa using h) l]
    rfl
theorem names_ne : ∀ i : Fin 13, ∀ j : Fin 13, j < i → nameOf j ≠ nameOf i := by decide
theorem names_at (i : Nat) (h : i < namesL.length) : namesL[i] = nameOf i := by unfold nameOf; rw [List.getD_eq_getElem?_getD, List.getElem?_eq_getElem h]; rfl
theorem at_mkD {vs : List Value} (h : vs.length = 13) (i : Nat) (hi : i < 13) (z : DataW Value) : (mkD vs).atKey (.string (nameOf i)) z = .held (vs[i]'(by omega)) := by
  have hn : namesL.length = vs.length := h.symm
  have hi' : i < namesL.length := hi
  have := find_zip namesL vs hn i hi' (by omega) (fun j hj => by
    rw [names_at i hi', names_at j (by omega)]
    exact names_ne ⟨i, hi⟩ ⟨j, by omega⟩ hj)
  rw [names_at i hi'] at this
  unfold mkD DataW.atKey
  dsimp only
  rw [show (fun p : Bs × Value => ((Lit.string p.1, DataW.held p.2) : Lit × DataW Value)) = pairC from rfl, this]
theorem has_mkD {vs : List Value} (h : vs.length = 13) (l : Bs) : Maps.has (mkD vs) (.string l) = (whichF l).isSome := by
  have hn : namesL.length = vs.length := h.symm
  unfold mkD
  rw [Maps.has_eq, show (fun p : Bs × Value => ((Lit.string p.1, DataW.held p.2) : Lit × DataW Value)) = pairC from rfl, any_zip namesL vs hn l]
  unfold whichF
  rw [List.isSome_find?, show namesL = (List.range 13).map nameOf from by decide, List.any_map]
  rfl
theorem zero_cls : ∀ w, (zeroValue 164).run Tryz.prog w = .ok (.agg #[.slice none 0 0, .slice none 0 0]) w := fun w => Tryz.zeroValue164 w
theorem key_ok (l : Bs) (hl : l.length ≤ 1000000) : keyOf Tryz.prog 9 (.string ⟨l.toArray⟩) = some (.string l) :=
  WideMaps.keyOf_string_mk Tryz.underlying9 (by show l.toArray.size ≤ maxLen; rw [List.size_toArray]; unfold maxLen; omega)
/-- A class's value by its name. -/
theorem look_c {W : World} {B : Nat} {vs : List Value} (hv : vs.length = 13) (hown : W.ownsMap Tryz.prog 9 Rv B 13 (mkD vs)) (i : Nat) (hi : i < 13) :
    (Instr.lookup 159 (.map (some B)) (.string ⟨(nameOf i).toArray⟩) false).run Tryz.prog W = .ok (vs[i]'(by omega)) W := by
  obtain ⟨v, ps, h1, h2⟩ := hown.lookup lawS Tryz.underlying159 (zero_cls W) (zd := .held (.agg #[.slice none 0 0, .slice none 0 0])) (zp := []) rfl (key_ok (nameOf i) (by have := (name_len i hi).2; omega))
  rw [at_mkD hv i hi] at h2
  unfold Rv at h2
  simp only [Option.some.injEq, Prod.mk.injEq, DataW.held.injEq] at h2
  rw [h1, h2.1]
/-- Is there a class of a name? -/
theorem look_ok {W : World} {B : Nat} {vs : List Value} (hv : vs.length = 13) (ha : Acc W vs) (hown : W.ownsMap Tryz.prog 9 Rv B 13 (mkD vs)) (l : Bs) (hl : l.length ≤ 1000000) :
    ∃ P n c Q m d, (Instr.lookup 159 (.map (some B)) (.string ⟨l.toArray⟩) true).run Tryz.prog W = .ok (.tuple #[.agg #[.slice P n c, .slice Q m d], .bool (whichF l).isSome]) W := by
  obtain ⟨v, ps, h1, h2⟩ := hown.look_ok lawS Tryz.underlying159 (zero_cls W) (zd := .held (.agg #[.slice none 0 0, .slice none 0 0])) (zp := []) rfl (key_ok l hl)
  have hh := has_mkD hv l
  rw [hh] at h1
  unfold Rv at h2
  cases hw : whichF l with
  | none =>
    rw [hw] at hh h1
    rw [Maps.atKey_of_not_has hh] at h2
    simp only [Option.some.injEq, Prod.mk.injEq, DataW.held.injEq] at h2
    rw [h2.1] at h1
    exact ⟨_, _, _, _, _, _, h1⟩
  | some i =>
    obtain ⟨hi, hn⟩ := which_some hw
    rw [← hn, at_mkD hv i hi] at h2
    simp only [Option.some.injEq, Prod.mk.injEq, DataW.held.injEq] at h2
    obtain ⟨P, c, Q, d, e, _⟩ := ha i (by omega)
    rw [h2.1, e, hw] at h1
    exact ⟨_, _, _, _, _, _, h1⟩
end Go.Proofs.YtahgljglleeloaaGreatDoor

/- Appends of spans to a slice of the call's own: fold's text holds them, where the seat holds fold (this text stands in the place of props' own there). -/
namespace Go.Proofs.YtahgljglleeloaaGreatDoor
end Go.Proofs.YtahgljglleeloaaGreatDoor

/- props.gather: a class's spans, with its parts'. -/
namespace Go.Proofs.YtahgljglleeloaaGreatDoor
open Go.RowKit Go.Shelf Go.Maps SetM PropsM

theorem field_runs (a b : Value) : ∀ w, (Instr.field 164 (.agg #[a, b]) 0).run Tryz.prog w = .ok a w := by
  intro w
  simp [Instr.field, run_underlying Tryz.underlying164, go_sem, asAgg]
theorem field_parts (a b : Value) : ∀ w, (Instr.field 164 (.agg #[a, b]) 1).run Tryz.prog w = .ok b w := by
  intro w
  simp [Instr.field, run_underlying Tryz.underlying164, go_sem, asAgg]
/-- What gather hands back for a class. -/
def GathOk (i : Nat) : Prop := ∀ (w : World) (B : Nat), Cls w B → Calls Tryz.prog 137 #[.map (some B), .string ⟨(nameOf i).toArray⟩] w fun e w' => ∃ v, e = .returned v ∧ w'.ownsRow w.heap.size 53 2 v (gathOf i).length (cellsS (gathOf i)) ∧ Below w.heap.size w w'

set_option maxRecDepth 100000 in
set_option maxHeartbeats 4000000 in
theorem gather_step (i : Nat) (hi : i < 13) (hp : ∀ j ∈ partsOf i, j < 13 ∧ GathOk j) : GathOk i := by
  intro w B hcls
  obtain ⟨i0, hi0, hz0, hz1, hz2⟩ := info_parts infoS
  have HCLS := Lib.hid hcls
  obtain ⟨vs, hv, hacc, hown⟩ := hcls
  obtain ⟨P, c, Q, d, hval, hSp, hSt⟩ := hacc i (by omega)
  have hlk0 := look_c hv hown i hi
  have HLK : Hid (∀ U, Below w.heap.size w U → (Instr.lookup 159 (.map (some B)) (.string ⟨(nameOf i).toArray⟩) false).run Tryz.prog U = .ok (.agg #[.slice P (runsOf i).length c, .slice Q (partsOf i).length d]) U) := Lib.hid (fun U hU => by
    have h1 : U.ownsMap Tryz.prog 9 Rv B 13 (mkD vs) := by
      have hlt := hown.lt
      obtain ⟨es, clock, hh, rest⟩ := hown
      exact ⟨es, clock, (hU.block B hlt).trans hh, rest⟩
    rw [look_c hv h1 i hi, hval])
  have HSP : Hid (Sl w P (runsOf i)) := Lib.hid hSp
  have HST := Lib.hid hSt
  have HP := Lib.hid hp
  have HG := Lib.hid (gath_eq i hi)
  have HPL := (runs_len i hi).2
  have HRL := (runs_len i hi).1
  have HGL := Lib.hid (gath_len i hi)
  clear hp hSp hSt hacc hlk0 hown hval
  have hlk := HLK.out w (Below.refl _ _)
  generalize hrs : runsOf i = rs at *
  generalize hps : partsOf i = ps at *
  clear hrs hps
  have hf0 := field_runs
  have hf1 := field_parts
  go_enter Tryz.func137, Tryz.ntmps137
  go_wp2
  go_loopg [5, 15] rs.length (fun g s5 s15 wx => ∃ k : Nat, k + g = rs.length ∧ s15 = .int .i64 k ∧ wx.ownsRow w.heap.size 53 2 s5 (rs.take k).length (cellsS (rs.take k)) ∧ Below w.heap.size w wx)
  case atStart => exact ⟨0, by omega, rfl, World.ownsRow_nil _ _ _ _, Below.refl _ _⟩
  case round =>
    obtain ⟨k, hkg, rfl, hown, hb⟩ := hrel
    clear hlk
    cases gk with
    | zero =>
      have hkz : ¬ ((k : Int) < (rs.length : Int)) := by omega
      rw [List.take_of_length_le (by omega)] at hown
      have hlk := HLK.out _ hb
      go_wp2
      go_loopg [5, 33] ps.length (fun g s5 s33 wy => ∃ k : Nat, k + g = ps.length ∧ s33 = .int .i64 k ∧ wy.ownsRow w.heap.size 53 2 s5 (rs ++ (ps.take k).flatMap gathOf).length (cellsS (rs ++ (ps.take k).flatMap gathOf)) ∧ Below w.heap.size w wy)
      case atStart => exact ⟨0, by omega, rfl, by simpa using hown, hb⟩
      case round =>
        clear hown hb hlk
        obtain ⟨k2, hkg2, rfl, hown, hb⟩ := hrel
        cases gk with
        | zero =>
          have hkz2 : ¬ ((k2 : Int) < (ps.length : Int)) := by omega
          rw [List.take_of_length_le (by omega), ← HG.out] at hown
          go_wp2
          go_ret
          exact ⟨_, rfl, hown, hb⟩
        | succ g2 =>
          have hk2 : k2 < ps.length := by omega
          have hkz2 : (k2 : Int) < (ps.length : Int) := by omega
          have hsz := hb.size
          obtain ⟨bb, off, rfl, hbb, hc⟩ := (Strs.below hb HST.out) (by intro h; rw [List.map_eq_nil_iff] at h; rw [h] at hk2; simp at hk2)
          have c0 := hc k2 (by rw [List.length_map]; omega)
          rw [List.getElem_map] at c0
          obtain ⟨hj, hgo⟩ := HP.out ps[k2] (List.getElem_mem hk2)
          have HT := Lib.hid (show (ps.take (k2 + 1)).flatMap gathOf = (ps.take k2).flatMap gathOf ++ gathOf ps[k2] by rw [List.take_succ_eq_append_getElem hk2, List.flatMap_append]; simp)
          have HLE : (rs ++ (ps.take k2).flatMap gathOf).length ≤ 26 := by
            have h1 := HGL.out
            rw [HG.out, ← List.take_append_drop k2 ps, List.flatMap_append, ← List.append_assoc, List.length_append] at h1
            omega
          have HGJ := Lib.hid (gath_len ps[k2] hj)
          have HC := Lib.hid (hgo wr B (HCLS.out.below hb))
          clear hc hgo
          generalize ps[k2] = j at *
          generalize hL : (rs ++ (ps.take k2).flatMap gathOf) = L at *
          have HL := Lib.hid hL
          clear hL
          go_wp2_with (first | (go_at_call 137; refine HC.out.mono ?_; rintro e w5 ⟨v5, rfl, ho5, hb5⟩; obtain ⟨P5, c5, rfl, hs5, hp5⟩ := spans_of0 ho5; have hown5 := own_belowF hown hb5; have hz5 := hb5.size) | (at_builtin; refine wpList_append_spans rfl _ _ rfl w.heap.size _ _ _ rfl hown5 P5 c5 _ rfl hs5 hp5 (by have := HGJ.out; omega) (by omega) ?_; intro v' w6 hown6 hgrow))
          go_roundg g2
          case measure => omega
          case rel =>
            refine ⟨k2 + 1, by omega, by go_num, ?_, (hb.trans (hb5.mono hsz)).grown hgrow (by omega) (fun j hj => (hown5.lt j hj).1)⟩
            rw [HT.out, ← List.append_assoc, HL.out, cellsS_append, List.length_append]; exact hown6
    | succ g =>
      have hk : k < rs.length := by omega
      have hkz : (k : Int) < (rs.length : Int) := by omega
      obtain ⟨bb, off, rfl, hbb, hc⟩ := (HSP.out.step hb) (by intro h; rw [h] at hk; simp at hk)
      obtain ⟨c0, c1⟩ := hc k hk
      have HT := Lib.hid (List.take_succ_eq_append_getElem hk)
      have HTL : (rs.take k).length ≤ 10 := by rw [List.length_take]; omega
      have hsz := hb.size
      clear hc
      generalize rs[k] = s at *
      generalize rs.take k = Lk at *
      obtain ⟨x, y⟩ := s
      dsimp only at c0 c1
      go_wp2_with (at_builtin; refine wpList_append_own _ rfl _ _ 24 rfl w.heap.size 53 i0 (.agg #[.int .i64 0, .int .i64 0]) 2 16 Tryz.underlying24 hi0 hz0 hz1 hz2 rfl (by decide) _ _ _ rfl ((hown.alloc _).alloc _) ⟨wr.heap.size + 1, 0, none⟩ 1 1 [.int .i64 x, .int .i64 y] rfl rfl (news_after wr _ _ _) (by simp [Value.oneCell']) (by unfold maxLen; omega) (by omega) (by rw [World.size_alloc, World.size_alloc]; omega) ?_; intro v' w6 hown' hgrow _)
      go_roundg g
      case measure => omega
      case rel =>
        have hb6 : Below w.heap.size w ((wr.alloc (.cells #[.int .i64 x, .int .i64 y] 192)).alloc (.cells #[.int .i64 x, .int .i64 y] 53)) := (hb.alloc hsz _).alloc (by rw [World.size_alloc]; omega) _
        refine ⟨k + 1, by omega, by go_num, ?_, hb6.grown hgrow hb6.size (fun j hj => (hown.lt j hj).1)⟩
        rw [HT.out, cellsS_append, List.length_append]; exact hown'
theorem gather_c (i : Nat) (hi : i < 13) : GathOk i := by
  have hleaf : ∀ j, j < 13 → partsOf j = [] → GathOk j := fun j hj h => gather_step j hj (fun k hk => by rw [h] at hk; simp at hk)
  have h9 : GathOk 9 := gather_step 9 (by omega) (fun k hk => by
    have : k = 8 ∨ k = 5 ∨ k = 3 ∨ k = 6 := by simpa [partsOf, partsL] using hk
    rcases this with rfl | rfl | rfl | rfl <;> exact ⟨by omega, hleaf _ (by omega) rfl⟩)
  have h12 : GathOk 12 := gather_step 12 (by omega) (fun k hk => by
    have : k = 9 ∨ k = 4 := by simpa [partsOf, partsL] using hk
    rcases this with rfl | rfl
    · exact ⟨by omega, h9⟩
    · exact ⟨by omega, hleaf _ (by omega) rfl⟩)
  rcases (show i = 0 ∨ i = 1 ∨ i = 2 ∨ i = 3 ∨ i = 4 ∨ i = 5 ∨ i = 6 ∨ i = 7 ∨ i = 8 ∨ i = 9 ∨ i = 10 ∨ i = 11 ∨ i = 12 by omega) with rfl | rfl | rfl | rfl | rfl | rfl | rfl | rfl | rfl | rfl | rfl | rfl | rfl
  all_goals first | exact h9 | exact h12 | exact hleaf _ (by omega) rfl
end Go.Proofs.YtahgljglleeloaaGreatDoor

/- props.Of: the set of a class by its name. -/
namespace Go.Proofs.YtahgljglleeloaaGreatDoor
open Go.RowKit Go.Shelf Go.Maps SetM PropsM

/-- What Of hands back of class i. -/
def OfIs (W : World) (i : Nat) (e : Ending) (W' : World) : Prop :=
  ∃ P c out, e = .returned (.tuple #[.slice P (List.length out) c, .bool true]) ∧ IsSet out (fun r => Tells (gathOf i) r) ∧ out.length ≤ 104 ∧ Sl W' P out ∧ (P = none → c = 0) ∧ Below W.heap.size W W'
variable {w W : World}

set_option maxRecDepth 100000 in
set_option maxHeartbeats 2000000 in
theorem of_some (s : ByteArray) (hs : s.data.toList.length ≤ 1000000) (i : Nat) (hi : whichF (looseL s.data.toList) = some i) (hC : Ctx w W) :
    Calls Tryz.prog 120 #[.string s] W (OfIs W i) := by
  obtain ⟨hi13, hnm⟩ := which_some hi
  have HL := Lib.hid (loose_any s hs)
  rw [← hnm] at HL
  have HW := Lib.hid (which_name i hi13)
  have HC := Lib.hid hC
  clear hnm hi hC
  go_enter Tryz.func120, Tryz.ntmps120
  go_wp2_with fail
  refine (classes_any _).mono ?_
  rintro e w1 ⟨B, rfl, hcls, b1⟩
  have HC1 := Lib.hid (HC.out.step b1)
  have HCL1 := Lib.hid hcls
  clear hcls HC
  go_wp2_with fail
  refine (HL.out _).mono ?_
  rintro e w2 ⟨rfl, b2'⟩
  have HC2 := Lib.hid (HC1.out.step b2')
  have HCL2 := Lib.hid (HCL1.out.below b2')
  have b2 := b1.trans (b2'.mono b1.size)
  clear b2' b1 HC1 HCL1 HL
  obtain ⟨vs, hv, hacc, hown⟩ := HCL2.out
  obtain ⟨P, n, c, Q, m, d, hlk⟩ := look_ok hv hacc hown (nameOf i) (by have := (name_len i hi13).2; omega)
  rw [HW.out] at hlk
  have hlk : (Instr.lookup 159 (.map (some B)) (.string ⟨(nameOf i).toArray⟩) true).run Tryz.prog w2 = .ok (.tuple #[.agg #[.slice P n c, .slice Q m d], .bool true]) w2 := hlk
  clear hv hacc hown
  have HB2 := Lib.hid b2
  have b3 := (Below.refl w2.heap.size w2).alloc (Nat.le_refl _) (.cells #[.slice P n c, .slice Q m d] 164)
  have HC3 := Lib.hid (HC2.out.step b3)
  have HG := Lib.hid (gather_c i hi13 _ B (HCL2.out.below b3))
  have HB3 := Lib.hid b3
  clear b2 b3 HC2 HCL2
  go_wp2_with fail
  refine HG.out.mono ?_
  rintro e w4 ⟨v4, rfl, ho4, b4⟩
  obtain ⟨P4, c4, rfl, s4, p4⟩ := spans_of0 ho4
  have HC4 := Lib.hid (HC3.out.step b4)
  have HS4 := Lib.hid s4
  have HB4 := Lib.hid b4
  clear ho4 p4 s4 b4 HC3 hlk HG
  go_wp2_with fail
  refine (norm_c HC4.out HS4.out (by have := gath_len i hi13; omega)).mono ?_
  rintro e w5 ⟨P5, c5, o5, rfl, is5, l5, s5, p5, b5⟩
  go_wp2
  go_ret2
  have hz2 := HB2.out.size
  have hz3 := HB3.out.size
  have hz4 := HB4.out.size
  exact ⟨P5, c5, o5, rfl, is5, by have := gath_len i hi13; omega, s5, p5, ((HB2.out.trans (HB3.out.mono hz2)).trans (HB4.out.mono (by omega))).trans (b5.mono (by omega))⟩

set_option maxRecDepth 100000 in
set_option maxHeartbeats 2000000 in
theorem of_none (s : ByteArray) (hs : s.data.toList.length ≤ 1000000) (hi : whichF (looseL s.data.toList) = none) (W : World) :
    Calls Tryz.prog 120 #[.string s] W fun e W' => e = .returned (.tuple #[.slice none 0 0, .bool false]) ∧ Below W.heap.size W W' := by
  have HL := Lib.hid (loose_any s hs)
  have HLL : (looseL s.data.toList).length ≤ 1000000 := by
    unfold looseL cutIs
    have := sq_len s.data.toList
    split
    · rw [List.length_drop]; omega
    · omega
  have HW := Lib.hid hi
  clear hi
  generalize looseL s.data.toList = l at *
  go_enter Tryz.func120, Tryz.ntmps120
  go_wp2_with fail
  refine (classes_any _).mono ?_
  rintro e w1 ⟨B, rfl, hcls, b1⟩
  have HCL1 := Lib.hid hcls
  clear hcls
  go_wp2_with fail
  refine (HL.out _).mono ?_
  rintro e w2 ⟨rfl, b2'⟩
  have HCL2 := Lib.hid (HCL1.out.below b2')
  have b2 := b1.trans (b2'.mono b1.size)
  clear b2' b1 HCL1 HL
  obtain ⟨vs, hv, hacc, hown⟩ := HCL2.out
  obtain ⟨P, n, c, Q, m, d, hlk⟩ := look_ok hv hacc hown l HLL
  rw [HW.out] at hlk
  have hlk : (Instr.lookup 159 (.map (some B)) (.string ⟨l.toArray⟩) true).run Tryz.prog w2 = .ok (.tuple #[.agg #[.slice P n c, .slice Q m d], .bool false]) w2 := hlk
  clear hv hacc hown
  have HB2 := Lib.hid b2
  clear b2
  go_wp2
  go_ret2
  exact ⟨rfl, HB2.out.alloc HB2.out.size _⟩
end Go.Proofs.YtahgljglleeloaaGreatDoor
