/- The reader reads an item of a class. -/
import Derived.Test.YtahgljglleeloaaGreatDoorREsc
import Derived.Test.YtahgljglleeloaaGreatDoorRM
namespace Go.Proofs.YtahgljglleeloaaGreatDoor
open Go.RowKit Go.Shelf Go.Maps SetM PropsM RxM
variable {R : Nat} {W : World} {s : ByteArray} {dv : Value} {rest : List Int} {d : Nat} {cl : Bool}

/-- The value is the item's spans, in memory from n on; rest: where the item began. -/
def itemV (n : Nat) (rest : List Int) (a : List Sp) (v : Value) (W : World) : Prop :=
  ∃ P c l, v = .slice P (List.length l) c ∧ Sl W P l ∧ (P = none → c = 0) ∧ (∀ x, P = some x → n ≤ x.block) ∧ (∀ r, Tells l r ↔ Tells a r) ∧ (l.length ≤ 1 ∨ (l.length ≤ 104 ∧ ∃ i r1, pieceF rest = .ok (.cls i) r1 ∧ at1 45 r1 = false))
theorem pc_one {n : Nat} {x : Int} {v : Value} (h : pcV n (.one x) v W) : ∃ b off c, v = .agg #[.slice (some ⟨b, off, none⟩) 1 c, .bool false] ∧ n ≤ b ∧ b < W.heap.size ∧ W.cell? ⟨b, off, none⟩ = some (.int .i64 x) ∧ W.cell? ⟨b, off + 1, none⟩ = some (.int .i64 x) := by
  obtain ⟨P, c, l, e, hs, hz, ha, hk⟩ := h
  rw [show l = [(x, x)] from hk] at e hs
  obtain ⟨b, off, rfl, hb, hc⟩ := hs (by simp)
  have h0 := hc 0 (by simp)
  exact ⟨b, off, c, e, ha _ rfl, hb, by simpa using h0.1, by simpa using h0.2⟩
/-- Two cells laid anew, under what changes the reader alone. -/
theorem new2 {R : Nat} {W W' : World} {x0 x1 : Value} {t : TypeId} (hg : Gr R (W.alloc (.cells #[x0, x1] t)) W') (hne : W.heap.size ≠ R) : W'.cell? ⟨W.heap.size, 0, none⟩ = some x0 ∧ W'.cell? ⟨W.heap.size, 1, none⟩ = some x1 := by
  have hb := (hg.block W.heap.size (by rw [World.size_alloc]; omega) (fun e => hne (by cases e; rfl))).trans (heap_alloc_new W (.cells #[x0, x1] t))
  exact ⟨by rw [cell_of_row W' W.heap.size _ _ _ _ hb]; rfl, by rw [cell_of_row W' W.heap.size _ _ _ _ hb]; rfl⟩
set_option maxRecDepth 100000 in
set_option maxHeartbeats 1000000 in
theorem item_c (hC : Cx R W) (h : Rd R W s dv rest d cl) :
    Calls Tryz.prog 93 #[.pointer (some ⟨R, 0, none⟩)] W (Post R s dv d cl W (itemV W.heap.size rest) (itemF rest)) := by
  obtain ⟨o, ho⟩ : ∃ o, o = itemF rest := ⟨_, rfl⟩
  rw [← ho]
  have HO := Lib.hid ho
  unfold itemF at HO
  have hRl := h.lt
  have c1 := h.c1
  have HP := Lib.hid (piece_c hC h)
  have HC0 := Lib.hid hC
  clear h ho hC
  go_enter Tryz.func93, Tryz.ntmps93
  go_wp2_with fail
  refine HP.out.mono ?_
  rintro e w1 ⟨g1, h1⟩
  have G := Lib.hid g1
  clear g1
  obtain ⟨o1, ho1⟩ : ∃ o1, o1 = pieceF rest := ⟨_, rfl⟩
  rw [← ho1] at h1 HO
  have HO1 := Lib.hid ho1
  clear ho1
  cases o1 with
  | err e x =>
    dsimp only at HO
    obtain rfl := h1
    go_wp2
    exact ⟨rfl, Post.bad HO.out G.out⟩
  | ok a r1 =>
    dsimp only at HO
    obtain ⟨v, rfl, hv, hr⟩ := h1
    have HV := Lib.hid hv
    obtain ⟨P1, c1', l1, rfl, hs1, hz1, ha1, hk1⟩ := hv
    have h1R : R < w1.heap.size := hr.lt
    obtain ⟨V, hV⟩ : ∃ V, V = w1.alloc (.cells #[.slice P1 l1.length c1', .bool (isC a)] 101) := ⟨_, rfl⟩
    have hb0 : Below w1.heap.size w1 V := by rw [hV]; exact (Below.refl _ _).alloc (Nat.le_refl _) _
    have HN1 : Hid (∀ U, Gr R V U → U.cell? ⟨w1.heap.size, 0, none⟩ = some (.slice P1 l1.length c1') ∧ U.cell? ⟨w1.heap.size, 1, none⟩ = some (.bool (isC a))) := Lib.hid (by rw [hV]; exact fun U hg => new2 hg (by omega))
    have HS1 := Lib.hid (And.intro hs1 (And.intro hz1 (And.intro ha1 hk1)))
    have HR := Lib.hid (hr.kept hb0)
    have HG0 := Lib.hid (Gr.of (R := R) hb0)
    have HT := Lib.hid (take1_c 45 45 rfl (by decide) HR.out _ rfl)
    clear hs1 hz1 ha1 hk1 hr hb0
    go_wp2_with fail
    rw [← hV]
    refine HT.out.mono ?_
    rintro e w2 ⟨rfl, hr, g2⟩
    have HR2 := Lib.hid hr
    have G2 := Lib.hid g2
    have GG := Lib.hid (G.out.trans (HG0.out.trans g2))
    obtain ⟨k0, k1⟩ := HN1.out _ g2
    clear hr g2 hV HT
    cases hq : at1 45 r1 with
    | false =>
      simp only [hq, Bool.false_eq_true, if_false] at HO HR2
      have HQ := Lib.hid hq
      clear hq
      go_wp2
      go_ret
      have hg := HG0.out.trans G2.out
      refine Post.good HO.out GG.out ⟨P1, c1', l1, rfl, HS1.out.1.gr hg (fun x hx => Nat.lt_of_lt_of_le hRl (HS1.out.2.2.1 x hx)), HS1.out.2.1, HS1.out.2.2.1, HS1.out.2.2.2.tells, ?_⟩ HR2.out
      cases a with
      | one x => left; rw [show l1 = [(x, x)] from HS1.out.2.2.2]; simp
      | cls i => right; exact ⟨HS1.out.2.2.2.2, i, r1, HO1.out.symm, HQ.out⟩
    | true =>
      simp only [hq, if_true] at HO HR2
      clear hq
      obtain ⟨r2, hr2⟩ : ∃ r2, r2 = r1.tail := ⟨_, rfl⟩
      rw [← hr2] at HO HR2
      clear hr2
      have HP := Lib.hid (piece_c (HC0.out.gr GG.out) HR2.out)
      have h2z : w1.heap.size < w2.heap.size := by
        have h1 := HG0.out.size
        have h2 := G2.out.size
        have h3 := World.size_alloc w1 (.cells #[.slice P1 l1.length c1', .bool (isC a)] 101)
        have h4 : w2.cell? ⟨w1.heap.size, 0, none⟩ = some (.slice P1 l1.length c1') := k0
        exact cell_lt h4
      go_wp2_with fail
      refine HP.out.mono ?_
      rintro e w3 ⟨g3, h3⟩
      have G3 := Lib.hid (G2.out.trans g3)
      have GG := Lib.hid (GG.out.trans g3)
      obtain ⟨k0, k1⟩ := HN1.out _ G3.out
      have h3z := g3.size
      clear g3
      cases hp : pieceF r2 with
      | err e x =>
        rw [hp] at h3 HO
        dsimp only at HO
        obtain rfl := h3
        clear hp
        go_wp2
        exact ⟨rfl, Post.bad HO.out GG.out⟩
      | ok b r3 =>
        rw [hp] at h3 HO
        dsimp only at HO
        obtain ⟨v, rfl, hv, hr⟩ := h3
        clear hp
        have h3R : R < w3.heap.size := hr.lt
        have HB1 : Hid (∀ x, a = .one x → ∃ bb off, P1 = some ⟨bb, off, none⟩ ∧ l1.length = 1 ∧ ∀ U, Gr R w1 U → U.cell? ⟨bb, off, none⟩ = some (.int .i64 x)) := Lib.hid (fun x hx => by
          subst hx
          obtain ⟨bb, off, cc, e1, e2, e3, e4, e5⟩ := pc_one HV.out
          have : l1 = [(x, x)] := HS1.out.2.2.2
          subst this
          cases e1
          exact ⟨bb, off, rfl, rfl, fun U hg => hg.cell e4 (fun e => by have e' : bb = R := Option.some.inj e; omega)⟩)
        have HV2 := Lib.hid hv
        obtain ⟨P2, c2', l2, rfl, hs2, hz2, ha2, hk2⟩ := hv
        have HB2 : Hid (∀ x, b = .one x → ∃ bb off, P2 = some ⟨bb, off, none⟩ ∧ l2.length = 1 ∧ bb < w3.heap.size ∧ w3.cell? ⟨bb, off, none⟩ = some (.int .i64 x)) := Lib.hid (fun x hx => by
          subst hx
          obtain ⟨bb, off, cc, e1, e2, e3, e4, e5⟩ := pc_one HV2.out
          have : l2 = [(x, x)] := hk2
          subst this
          cases e1
          exact ⟨bb, off, rfl, rfl, e3, e4⟩)
        clear hs2 hz2 ha2 hk2
        have HR3 := Lib.hid hr
        clear hr
        cases a with
        | cls i =>
          have HO : Hid (o = .err 60 rest) := HO
          have hb5 := (Below.refl w3.heap.size w3).alloc (Nat.le_refl _) (.cells #[.slice P2 l2.length c2', .bool (isC b)] 101)
          have k0 := (World.cell?_alloc_past (w := w3) (.cells #[.slice P2 l2.length c2', .bool (isC b)] 101) w1.heap.size 0 (by omega)).trans k0
          have k1 := (World.cell?_alloc_past (w := w3) (.cells #[.slice P2 l2.length c2', .bool (isC b)] 101) w1.heap.size 1 (by omega)).trans k1
          obtain ⟨q0, q1⟩ := new2 (R := R) (Gr.refl R (w3.alloc (.cells #[.slice P2 l2.length c2', .bool (isC b)] 101))) (by omega)
          have k1 : (w3.alloc (.cells #[.slice P2 l2.length c2', .bool (isC b)] 101)).cell? ⟨w1.heap.size, 1, none⟩ = some (.bool true) := k1
          have GB := Lib.hid (GG.out.trans (Gr.of hb5))
          clear hb5 HB1 HB2 HV HV2 HS1 HN1
          go_wp2_with fail
          generalize w3.alloc (.cells #[.slice P2 l2.length c2', .bool (isC b)] 101) = U at *
          refine wp_region_held_drew (S := (fun V => V.cell? ⟨w1.heap.size, 0, none⟩ = some (.slice P1 l1.length c1') ∧ V.cell? ⟨w1.heap.size, 1, none⟩ = some (.bool true) ∧ V.cell? ⟨w3.heap.size, 0, none⟩ = some (.slice P2 l2.length c2') ∧ V.cell? ⟨w3.heap.size, 1, none⟩ = some (.bool (isC b)))) (by kernel_rfl) (⟨k0, k1, q0, q1⟩) (fun hHeld => ?_)
          refine wpAnyH_take (i := 0) (oi := { dst := some 19, op := Op.fieldAddr 101 (Operand.tmp 4) 1, type := 0, pos := "class.go:46", after := #[], guard := none }) (v := ?_) rfl (by kernel_rfl) (by kernel_rfl) (by kernel_rfl) (fun _ _ _ h => h) (Or.inl ⟨by rfl, ?hya0⟩) (by assumption) ?_
          case hya0 => (intro ww hSw; (try dsimp only at hSw); first | (go_simp; done) | (go_simp; with_reducible rfl))
          try simp only [Act.put, List.setIfInBounds_toArray, List.set_cons_zero, List.set_cons_succ]
          refine wpAnyH_take (i := 1) (oi := { dst := some 20, op := Op.load 4 (Operand.tmp 19), type := 4, pos := "class.go:46", after := #[{ on := 0, ground := Ground.data }], guard := none }) (v := ?_) rfl (by kernel_rfl) (by kernel_rfl) (by kernel_rfl) (fun _ _ _ h => h) (Or.inl ⟨by rfl, ?hya1⟩) (by assumption) ?_
          case hya1 => (intro ww hSw; (try dsimp only at hSw); first | (go_simp; done) | (go_simp; with_reducible rfl))
          try simp only [Act.put, List.setIfInBounds_toArray, List.set_cons_zero, List.set_cons_succ]
          refine wpAnyH_take (i := 2) (oi := { dst := some 21, op := Op.move (Operand.tmp 20), type := 4, pos := "class.go:46", after := #[{ on := 1, ground := Ground.data }], guard := none }) (v := ?_) rfl (by kernel_rfl) (by kernel_rfl) (by kernel_rfl) (fun _ _ _ h => h) (Or.inl ⟨by rfl, ?hya2⟩) (by assumption) ?_
          case hya2 => (intro ww hSw; (try dsimp only at hSw); first | (go_simp; done) | (go_simp; with_reducible rfl))
          try simp only [Act.put, List.setIfInBounds_toArray, List.set_cons_zero, List.set_cons_succ]
          refine wpAnyH_take (i := 3) (oi := { dst := some 22, op := Op.fieldAddr 101 (Operand.tmp 5) 1, type := 0, pos := "class.go:46", after := #[{ on := 2, ground := Ground.guard }], guard := some (2, false) }) (v := undef) rfl (by kernel_rfl) (by kernel_rfl) (by kernel_rfl) (fun _ _ _ h => h) (Or.inr ⟨by rfl, rfl⟩) (by assumption) ?_
          try simp only [Act.put, List.setIfInBounds_toArray, List.set_cons_zero, List.set_cons_succ]
          refine wpAnyH_take (i := 4) (oi := { dst := some 23, op := Op.load 4 (Operand.tmp 22), type := 4, pos := "class.go:46", after := #[{ on := 3, ground := Ground.data }, { on := 2, ground := Ground.guard }], guard := some (2, false) }) (v := undef) rfl (by kernel_rfl) (by kernel_rfl) (by kernel_rfl) (fun _ _ _ h => h) (Or.inr ⟨by rfl, rfl⟩) (by assumption) ?_
          try simp only [Act.put, List.setIfInBounds_toArray, List.set_cons_zero, List.set_cons_succ]
          refine wpAnyH_take (i := 5) (oi := { dst := some 24, op := Op.pick (Operand.tmp 21) (Operand.const (Value.bool true)) (Operand.tmp 23), type := 4, pos := "class.go:46", after := #[{ on := 2, ground := Ground.data }, { on := 4, ground := Ground.data }], guard := none }) (v := ?_) rfl (by kernel_rfl) (by kernel_rfl) (by kernel_rfl) (fun _ _ _ h => h) (Or.inl ⟨by rfl, ?hya5⟩) (by assumption) ?_
          case hya5 => (intro ww hSw; (try dsimp only at hSw); first | (go_simp; done) | (go_simp; with_reducible rfl))
          try simp only [Act.put, List.setIfInBounds_toArray, List.set_cons_zero, List.set_cons_succ]
          refine wpAnyH_take (i := 6) (oi := { dst := some 25, op := Op.move (Operand.tmp 24), type := 4, pos := "class.go:46", after := #[{ on := 5, ground := Ground.data }, { on := 2, ground := Ground.chain }], guard := none }) (v := ?_) rfl (by kernel_rfl) (by kernel_rfl) (by kernel_rfl) (fun _ _ _ h => h) (Or.inl ⟨by rfl, ?hya6⟩) (by assumption) ?_
          case hya6 => (intro ww hSw; (try dsimp only at hSw); first | (go_simp; done) | (go_simp; with_reducible rfl))
          try simp only [Act.put, List.setIfInBounds_toArray, List.set_cons_zero, List.set_cons_succ]
          refine wpAnyH_take (i := 7) (oi := { dst := some 26, op := Op.fieldAddr 101 (Operand.tmp 5) 0, type := 0, pos := "class.go:46", after := #[{ on := 6, ground := Ground.guard }], guard := some (6, false) }) (v := undef) rfl (by kernel_rfl) (by kernel_rfl) (by kernel_rfl) (fun _ _ _ h => h) (Or.inr ⟨by rfl, rfl⟩) (by assumption) ?_
          try simp only [Act.put, List.setIfInBounds_toArray, List.set_cons_zero, List.set_cons_succ]
          refine wpAnyH_take (i := 8) (oi := { dst := some 27, op := Op.load 24 (Operand.tmp 26), type := 24, pos := "class.go:46", after := #[{ on := 7, ground := Ground.data }, { on := 6, ground := Ground.guard }], guard := some (6, false) }) (v := undef) rfl (by kernel_rfl) (by kernel_rfl) (by kernel_rfl) (fun _ _ _ h => h) (Or.inr ⟨by rfl, rfl⟩) (by assumption) ?_
          try simp only [Act.put, List.setIfInBounds_toArray, List.set_cons_zero, List.set_cons_succ]
          refine wpAnyH_take (i := 9) (oi := { dst := some 28, op := Op.indexAddr 24 (Operand.tmp 27) (Operand.const (Value.int IntKind.i64 0)), type := 0, pos := "class.go:46", after := #[{ on := 8, ground := Ground.data }, { on := 6, ground := Ground.guard }], guard := some (6, false) }) (v := undef) rfl (by kernel_rfl) (by kernel_rfl) (by kernel_rfl) (fun _ _ _ h => h) (Or.inr ⟨by rfl, rfl⟩) (by assumption) ?_
          try simp only [Act.put, List.setIfInBounds_toArray, List.set_cons_zero, List.set_cons_succ]
          refine wpAnyH_take (i := 10) (oi := { dst := some 29, op := Op.fieldAddr 53 (Operand.tmp 28) 0, type := 0, pos := "class.go:46", after := #[{ on := 9, ground := Ground.data }, { on := 6, ground := Ground.guard }], guard := some (6, false) }) (v := undef) rfl (by kernel_rfl) (by kernel_rfl) (by kernel_rfl) (fun _ _ _ h => h) (Or.inr ⟨by rfl, rfl⟩) (by assumption) ?_
          try simp only [Act.put, List.setIfInBounds_toArray, List.set_cons_zero, List.set_cons_succ]
          refine wpAnyH_take (i := 11) (oi := { dst := some 30, op := Op.load 3 (Operand.tmp 29), type := 3, pos := "class.go:46", after := #[{ on := 10, ground := Ground.data }, { on := 6, ground := Ground.guard }], guard := some (6, false) }) (v := undef) rfl (by kernel_rfl) (by kernel_rfl) (by kernel_rfl) (fun _ _ _ h => h) (Or.inr ⟨by rfl, rfl⟩) (by assumption) ?_
          try simp only [Act.put, List.setIfInBounds_toArray, List.set_cons_zero, List.set_cons_succ]
          refine wpAnyH_take (i := 12) (oi := { dst := some 31, op := Op.fieldAddr 101 (Operand.tmp 4) 0, type := 0, pos := "class.go:46", after := #[{ on := 6, ground := Ground.guard }], guard := some (6, false) }) (v := undef) rfl (by kernel_rfl) (by kernel_rfl) (by kernel_rfl) (fun _ _ _ h => h) (Or.inr ⟨by rfl, rfl⟩) (by assumption) ?_
          try simp only [Act.put, List.setIfInBounds_toArray, List.set_cons_zero, List.set_cons_succ]
          refine wpAnyH_take (i := 13) (oi := { dst := some 32, op := Op.load 24 (Operand.tmp 31), type := 24, pos := "class.go:46", after := #[{ on := 12, ground := Ground.data }, { on := 6, ground := Ground.guard }], guard := some (6, false) }) (v := undef) rfl (by kernel_rfl) (by kernel_rfl) (by kernel_rfl) (fun _ _ _ h => h) (Or.inr ⟨by rfl, rfl⟩) (by assumption) ?_
          try simp only [Act.put, List.setIfInBounds_toArray, List.set_cons_zero, List.set_cons_succ]
          refine wpAnyH_take (i := 14) (oi := { dst := some 33, op := Op.indexAddr 24 (Operand.tmp 32) (Operand.const (Value.int IntKind.i64 0)), type := 0, pos := "class.go:46", after := #[{ on := 13, ground := Ground.data }, { on := 6, ground := Ground.guard }], guard := some (6, false) }) (v := undef) rfl (by kernel_rfl) (by kernel_rfl) (by kernel_rfl) (fun _ _ _ h => h) (Or.inr ⟨by rfl, rfl⟩) (by assumption) ?_
          try simp only [Act.put, List.setIfInBounds_toArray, List.set_cons_zero, List.set_cons_succ]
          refine wpAnyH_take (i := 15) (oi := { dst := some 34, op := Op.fieldAddr 53 (Operand.tmp 33) 0, type := 0, pos := "class.go:46", after := #[{ on := 14, ground := Ground.data }, { on := 6, ground := Ground.guard }], guard := some (6, false) }) (v := undef) rfl (by kernel_rfl) (by kernel_rfl) (by kernel_rfl) (fun _ _ _ h => h) (Or.inr ⟨by rfl, rfl⟩) (by assumption) ?_
          try simp only [Act.put, List.setIfInBounds_toArray, List.set_cons_zero, List.set_cons_succ]
          refine wpAnyH_take (i := 16) (oi := { dst := some 35, op := Op.load 3 (Operand.tmp 34), type := 3, pos := "class.go:46", after := #[{ on := 15, ground := Ground.data }, { on := 6, ground := Ground.guard }], guard := some (6, false) }) (v := undef) rfl (by kernel_rfl) (by kernel_rfl) (by kernel_rfl) (fun _ _ _ h => h) (Or.inr ⟨by rfl, rfl⟩) (by assumption) ?_
          try simp only [Act.put, List.setIfInBounds_toArray, List.set_cons_zero, List.set_cons_succ]
          refine wpAnyH_take (i := 17) (oi := { dst := some 36, op := Op.binOp BinOp.lss 3 (Operand.tmp 30) (Operand.tmp 35) 3, type := 4, pos := "class.go:46", after := #[{ on := 11, ground := Ground.data }, { on := 16, ground := Ground.data }, { on := 6, ground := Ground.guard }], guard := some (6, false) }) (v := undef) rfl (by kernel_rfl) (by kernel_rfl) (by kernel_rfl) (fun _ _ _ h => h) (Or.inr ⟨by rfl, rfl⟩) (by assumption) ?_
          try simp only [Act.put, List.setIfInBounds_toArray, List.set_cons_zero, List.set_cons_succ]
          refine wpAnyH_take (i := 18) (oi := { dst := some 37, op := Op.pick (Operand.tmp 25) (Operand.const (Value.bool true)) (Operand.tmp 36), type := 4, pos := "class.go:46", after := #[{ on := 6, ground := Ground.data }, { on := 17, ground := Ground.data }], guard := none }) (v := ?_) rfl (by kernel_rfl) (by kernel_rfl) (by kernel_rfl) (fun _ _ _ h => h) (Or.inl ⟨by rfl, ?hya18⟩) (by assumption) ?_
          case hya18 => (intro ww hSw; (try dsimp only at hSw); first | (go_simp; done) | (go_simp; with_reducible rfl))
          try simp only [Act.put, List.setIfInBounds_toArray, List.set_cons_zero, List.set_cons_succ]
          refine wpAnyH_done (by kernel_rfl) ?_ _
          go_wp2
          exact ⟨rfl, Post.bad HO.out (GB.out.trans (Gr.of (Below.refl _ _).drew))⟩
        | one x =>
          obtain ⟨bb, off, rfl, e1, hcell⟩ := HB1.out x rfl
          rw [e1] at k0
          cases b with
          | cls i =>
            have HO : Hid (o = .err 60 rest) := HO
            have hb5 := (Below.refl w3.heap.size w3).alloc (Nat.le_refl _) (.cells #[.slice P2 l2.length c2', .bool (isC (.cls i))] 101)
            have k0 := (World.cell?_alloc_past (w := w3) (.cells #[.slice P2 l2.length c2', .bool (isC (.cls i))] 101) w1.heap.size 0 (by omega)).trans k0
            have k1 := (World.cell?_alloc_past (w := w3) (.cells #[.slice P2 l2.length c2', .bool (isC (.cls i))] 101) w1.heap.size 1 (by omega)).trans k1
            obtain ⟨q0, q1⟩ := new2 (R := R) (Gr.refl R (w3.alloc (.cells #[.slice P2 l2.length c2', .bool (isC (.cls i))] 101))) (by omega)
            have k1 : (w3.alloc (.cells #[.slice P2 l2.length c2', .bool (isC (.cls i))] 101)).cell? ⟨w1.heap.size, 1, none⟩ = some (.bool false) := k1
            have q1 : (w3.alloc (.cells #[.slice P2 l2.length c2', .bool (isC (.cls i))] 101)).cell? ⟨w3.heap.size, 1, none⟩ = some (.bool true) := q1
            have GB := Lib.hid (GG.out.trans (Gr.of hb5))
            clear hb5 HB1 HB2 HV HV2 HS1 HN1 hcell
            go_wp2_with fail
            generalize w3.alloc (.cells #[.slice P2 l2.length c2', .bool (isC (.cls i))] 101) = U at *
            refine wp_region_held_drew (S := (fun V => V.cell? ⟨w1.heap.size, 0, none⟩ = some (.slice (some ⟨bb, off, none⟩) 1 c1') ∧ V.cell? ⟨w1.heap.size, 1, none⟩ = some (.bool false) ∧ V.cell? ⟨w3.heap.size, 0, none⟩ = some (.slice P2 l2.length c2') ∧ V.cell? ⟨w3.heap.size, 1, none⟩ = some (.bool true))) (by kernel_rfl) (⟨k0, k1, q0, q1⟩) (fun hHeld => ?_)
            refine wpAnyH_take (i := 0) (oi := { dst := some 19, op := Op.fieldAddr 101 (Operand.tmp 4) 1, type := 0, pos := "class.go:46", after := #[], guard := none }) (v := ?_) rfl (by kernel_rfl) (by kernel_rfl) (by kernel_rfl) (fun _ _ _ h => h) (Or.inl ⟨by rfl, ?hyb0⟩) (by assumption) ?_
            case hyb0 => (intro ww hSw; (try dsimp only at hSw); first | (go_simp; done) | (go_simp; with_reducible rfl))
            try simp only [Act.put, List.setIfInBounds_toArray, List.set_cons_zero, List.set_cons_succ]
            refine wpAnyH_take (i := 1) (oi := { dst := some 20, op := Op.load 4 (Operand.tmp 19), type := 4, pos := "class.go:46", after := #[{ on := 0, ground := Ground.data }], guard := none }) (v := ?_) rfl (by kernel_rfl) (by kernel_rfl) (by kernel_rfl) (fun _ _ _ h => h) (Or.inl ⟨by rfl, ?hyb1⟩) (by assumption) ?_
            case hyb1 => (intro ww hSw; (try dsimp only at hSw); first | (go_simp; done) | (go_simp; with_reducible rfl))
            try simp only [Act.put, List.setIfInBounds_toArray, List.set_cons_zero, List.set_cons_succ]
            refine wpAnyH_take (i := 2) (oi := { dst := some 21, op := Op.move (Operand.tmp 20), type := 4, pos := "class.go:46", after := #[{ on := 1, ground := Ground.data }], guard := none }) (v := ?_) rfl (by kernel_rfl) (by kernel_rfl) (by kernel_rfl) (fun _ _ _ h => h) (Or.inl ⟨by rfl, ?hyb2⟩) (by assumption) ?_
            case hyb2 => (intro ww hSw; (try dsimp only at hSw); first | (go_simp; done) | (go_simp; with_reducible rfl))
            try simp only [Act.put, List.setIfInBounds_toArray, List.set_cons_zero, List.set_cons_succ]
            refine wpAnyH_take (i := 3) (oi := { dst := some 22, op := Op.fieldAddr 101 (Operand.tmp 5) 1, type := 0, pos := "class.go:46", after := #[{ on := 2, ground := Ground.guard }], guard := some (2, false) }) (v := ?_) rfl (by kernel_rfl) (by kernel_rfl) (by kernel_rfl) (fun _ _ _ h => h) (Or.inl ⟨by rfl, ?hyb3⟩) (by assumption) ?_
            case hyb3 => (intro ww hSw; (try dsimp only at hSw); first | (go_simp; done) | (go_simp; with_reducible rfl))
            try simp only [Act.put, List.setIfInBounds_toArray, List.set_cons_zero, List.set_cons_succ]
            refine wpAnyH_take (i := 4) (oi := { dst := some 23, op := Op.load 4 (Operand.tmp 22), type := 4, pos := "class.go:46", after := #[{ on := 3, ground := Ground.data }, { on := 2, ground := Ground.guard }], guard := some (2, false) }) (v := ?_) rfl (by kernel_rfl) (by kernel_rfl) (by kernel_rfl) (fun _ _ _ h => h) (Or.inl ⟨by rfl, ?hyb4⟩) (by assumption) ?_
            case hyb4 => (intro ww hSw; (try dsimp only at hSw); first | (go_simp; done) | (go_simp; with_reducible rfl))
            try simp only [Act.put, List.setIfInBounds_toArray, List.set_cons_zero, List.set_cons_succ]
            refine wpAnyH_take (i := 5) (oi := { dst := some 24, op := Op.pick (Operand.tmp 21) (Operand.const (Value.bool true)) (Operand.tmp 23), type := 4, pos := "class.go:46", after := #[{ on := 2, ground := Ground.data }, { on := 4, ground := Ground.data }], guard := none }) (v := ?_) rfl (by kernel_rfl) (by kernel_rfl) (by kernel_rfl) (fun _ _ _ h => h) (Or.inl ⟨by rfl, ?hyb5⟩) (by assumption) ?_
            case hyb5 => (intro ww hSw; (try dsimp only at hSw); first | (go_simp; done) | (go_simp; with_reducible rfl))
            try simp only [Act.put, List.setIfInBounds_toArray, List.set_cons_zero, List.set_cons_succ]
            refine wpAnyH_take (i := 6) (oi := { dst := some 25, op := Op.move (Operand.tmp 24), type := 4, pos := "class.go:46", after := #[{ on := 5, ground := Ground.data }, { on := 2, ground := Ground.chain }], guard := none }) (v := ?_) rfl (by kernel_rfl) (by kernel_rfl) (by kernel_rfl) (fun _ _ _ h => h) (Or.inl ⟨by rfl, ?hyb6⟩) (by assumption) ?_
            case hyb6 => (intro ww hSw; (try dsimp only at hSw); first | (go_simp; done) | (go_simp; with_reducible rfl))
            try simp only [Act.put, List.setIfInBounds_toArray, List.set_cons_zero, List.set_cons_succ]
            refine wpAnyH_take (i := 7) (oi := { dst := some 26, op := Op.fieldAddr 101 (Operand.tmp 5) 0, type := 0, pos := "class.go:46", after := #[{ on := 6, ground := Ground.guard }], guard := some (6, false) }) (v := undef) rfl (by kernel_rfl) (by kernel_rfl) (by kernel_rfl) (fun _ _ _ h => h) (Or.inr ⟨by rfl, rfl⟩) (by assumption) ?_
            try simp only [Act.put, List.setIfInBounds_toArray, List.set_cons_zero, List.set_cons_succ]
            refine wpAnyH_take (i := 8) (oi := { dst := some 27, op := Op.load 24 (Operand.tmp 26), type := 24, pos := "class.go:46", after := #[{ on := 7, ground := Ground.data }, { on := 6, ground := Ground.guard }], guard := some (6, false) }) (v := undef) rfl (by kernel_rfl) (by kernel_rfl) (by kernel_rfl) (fun _ _ _ h => h) (Or.inr ⟨by rfl, rfl⟩) (by assumption) ?_
            try simp only [Act.put, List.setIfInBounds_toArray, List.set_cons_zero, List.set_cons_succ]
            refine wpAnyH_take (i := 9) (oi := { dst := some 28, op := Op.indexAddr 24 (Operand.tmp 27) (Operand.const (Value.int IntKind.i64 0)), type := 0, pos := "class.go:46", after := #[{ on := 8, ground := Ground.data }, { on := 6, ground := Ground.guard }], guard := some (6, false) }) (v := undef) rfl (by kernel_rfl) (by kernel_rfl) (by kernel_rfl) (fun _ _ _ h => h) (Or.inr ⟨by rfl, rfl⟩) (by assumption) ?_
            try simp only [Act.put, List.setIfInBounds_toArray, List.set_cons_zero, List.set_cons_succ]
            refine wpAnyH_take (i := 10) (oi := { dst := some 29, op := Op.fieldAddr 53 (Operand.tmp 28) 0, type := 0, pos := "class.go:46", after := #[{ on := 9, ground := Ground.data }, { on := 6, ground := Ground.guard }], guard := some (6, false) }) (v := undef) rfl (by kernel_rfl) (by kernel_rfl) (by kernel_rfl) (fun _ _ _ h => h) (Or.inr ⟨by rfl, rfl⟩) (by assumption) ?_
            try simp only [Act.put, List.setIfInBounds_toArray, List.set_cons_zero, List.set_cons_succ]
            refine wpAnyH_take (i := 11) (oi := { dst := some 30, op := Op.load 3 (Operand.tmp 29), type := 3, pos := "class.go:46", after := #[{ on := 10, ground := Ground.data }, { on := 6, ground := Ground.guard }], guard := some (6, false) }) (v := undef) rfl (by kernel_rfl) (by kernel_rfl) (by kernel_rfl) (fun _ _ _ h => h) (Or.inr ⟨by rfl, rfl⟩) (by assumption) ?_
            try simp only [Act.put, List.setIfInBounds_toArray, List.set_cons_zero, List.set_cons_succ]
            refine wpAnyH_take (i := 12) (oi := { dst := some 31, op := Op.fieldAddr 101 (Operand.tmp 4) 0, type := 0, pos := "class.go:46", after := #[{ on := 6, ground := Ground.guard }], guard := some (6, false) }) (v := undef) rfl (by kernel_rfl) (by kernel_rfl) (by kernel_rfl) (fun _ _ _ h => h) (Or.inr ⟨by rfl, rfl⟩) (by assumption) ?_
            try simp only [Act.put, List.setIfInBounds_toArray, List.set_cons_zero, List.set_cons_succ]
            refine wpAnyH_take (i := 13) (oi := { dst := some 32, op := Op.load 24 (Operand.tmp 31), type := 24, pos := "class.go:46", after := #[{ on := 12, ground := Ground.data }, { on := 6, ground := Ground.guard }], guard := some (6, false) }) (v := undef) rfl (by kernel_rfl) (by kernel_rfl) (by kernel_rfl) (fun _ _ _ h => h) (Or.inr ⟨by rfl, rfl⟩) (by assumption) ?_
            try simp only [Act.put, List.setIfInBounds_toArray, List.set_cons_zero, List.set_cons_succ]
            refine wpAnyH_take (i := 14) (oi := { dst := some 33, op := Op.indexAddr 24 (Operand.tmp 32) (Operand.const (Value.int IntKind.i64 0)), type := 0, pos := "class.go:46", after := #[{ on := 13, ground := Ground.data }, { on := 6, ground := Ground.guard }], guard := some (6, false) }) (v := undef) rfl (by kernel_rfl) (by kernel_rfl) (by kernel_rfl) (fun _ _ _ h => h) (Or.inr ⟨by rfl, rfl⟩) (by assumption) ?_
            try simp only [Act.put, List.setIfInBounds_toArray, List.set_cons_zero, List.set_cons_succ]
            refine wpAnyH_take (i := 15) (oi := { dst := some 34, op := Op.fieldAddr 53 (Operand.tmp 33) 0, type := 0, pos := "class.go:46", after := #[{ on := 14, ground := Ground.data }, { on := 6, ground := Ground.guard }], guard := some (6, false) }) (v := undef) rfl (by kernel_rfl) (by kernel_rfl) (by kernel_rfl) (fun _ _ _ h => h) (Or.inr ⟨by rfl, rfl⟩) (by assumption) ?_
            try simp only [Act.put, List.setIfInBounds_toArray, List.set_cons_zero, List.set_cons_succ]
            refine wpAnyH_take (i := 16) (oi := { dst := some 35, op := Op.load 3 (Operand.tmp 34), type := 3, pos := "class.go:46", after := #[{ on := 15, ground := Ground.data }, { on := 6, ground := Ground.guard }], guard := some (6, false) }) (v := undef) rfl (by kernel_rfl) (by kernel_rfl) (by kernel_rfl) (fun _ _ _ h => h) (Or.inr ⟨by rfl, rfl⟩) (by assumption) ?_
            try simp only [Act.put, List.setIfInBounds_toArray, List.set_cons_zero, List.set_cons_succ]
            refine wpAnyH_take (i := 17) (oi := { dst := some 36, op := Op.binOp BinOp.lss 3 (Operand.tmp 30) (Operand.tmp 35) 3, type := 4, pos := "class.go:46", after := #[{ on := 11, ground := Ground.data }, { on := 16, ground := Ground.data }, { on := 6, ground := Ground.guard }], guard := some (6, false) }) (v := undef) rfl (by kernel_rfl) (by kernel_rfl) (by kernel_rfl) (fun _ _ _ h => h) (Or.inr ⟨by rfl, rfl⟩) (by assumption) ?_
            try simp only [Act.put, List.setIfInBounds_toArray, List.set_cons_zero, List.set_cons_succ]
            refine wpAnyH_take (i := 18) (oi := { dst := some 37, op := Op.pick (Operand.tmp 25) (Operand.const (Value.bool true)) (Operand.tmp 36), type := 4, pos := "class.go:46", after := #[{ on := 6, ground := Ground.data }, { on := 17, ground := Ground.data }], guard := none }) (v := ?_) rfl (by kernel_rfl) (by kernel_rfl) (by kernel_rfl) (fun _ _ _ h => h) (Or.inl ⟨by rfl, ?hyb18⟩) (by assumption) ?_
            case hyb18 => (intro ww hSw; (try dsimp only at hSw); first | (go_simp; done) | (go_simp; with_reducible rfl))
            try simp only [Act.put, List.setIfInBounds_toArray, List.set_cons_zero, List.set_cons_succ]
            refine wpAnyH_done (by kernel_rfl) ?_ _
            go_wp2
            exact ⟨rfl, Post.bad HO.out (GB.out.trans (Gr.of (Below.refl _ _).drew))⟩
          | one y =>
            obtain ⟨b2, off2, rfl, e2, hlt, hcell2⟩ := HB2.out y rfl
            have HO : Hid (o = if y < x then .err 60 rest else .ok [(x, y)] r3) := HO
            rw [e2]
            have hb5 := (Below.refl w3.heap.size w3).alloc (Nat.le_refl _) (.cells #[.slice (some ⟨b2, off2, none⟩) 1 c2', .bool (isC (.one y))] 101)
            have k0 := (World.cell?_alloc_past (w := w3) (.cells #[.slice (some ⟨b2, off2, none⟩) 1 c2', .bool (isC (.one y))] 101) w1.heap.size 0 (by omega)).trans k0
            have k1 := (World.cell?_alloc_past (w := w3) (.cells #[.slice (some ⟨b2, off2, none⟩) 1 c2', .bool (isC (.one y))] 101) w1.heap.size 1 (by omega)).trans k1
            obtain ⟨q0, q1⟩ := new2 (R := R) (Gr.refl R (w3.alloc (.cells #[.slice (some ⟨b2, off2, none⟩) 1 c2', .bool (isC (.one y))] 101))) (by omega)
            have k1 : (w3.alloc (.cells #[.slice (some ⟨b2, off2, none⟩) 1 c2', .bool (isC (.one y))] 101)).cell? ⟨w1.heap.size, 1, none⟩ = some (.bool false) := k1
            have q1 : (w3.alloc (.cells #[.slice (some ⟨b2, off2, none⟩) 1 c2', .bool (isC (.one y))] 101)).cell? ⟨w3.heap.size, 1, none⟩ = some (.bool false) := q1
            have GB := Lib.hid (GG.out.trans (Gr.of hb5))
            have HRB := Lib.hid (HR3.out.kept hb5)
            have s0 := hcell _ ((HG0.out.trans G3.out).trans (Gr.of hb5))
            have s1 := (World.cell?_alloc_past (w := w3) (.cells #[.slice (some ⟨b2, off2, none⟩) 1 c2', .bool (isC (.one y))] 101) b2 off2 hlt).trans hcell2
            have HWZ : Hid (W.heap.size ≤ w3.heap.size + 1) := Lib.hid (by have := GG.out.size; omega)
            clear hb5 HB1 HB2 HV HV2 HS1 HN1 hcell hcell2 e2 e1
            have hUz := World.size_alloc w3 (.cells #[.slice (some ⟨b2, off2, none⟩) 1 c2', .bool (isC (.one y))] 101)
            go_wp2_with fail
            generalize w3.alloc (.cells #[.slice (some ⟨b2, off2, none⟩) 1 c2', .bool (isC (.one y))] 101) = U at *
            by_cases hyx : y < x
            · have hd : decide (y < x) = true := decide_eq_true hyx
              rw [if_pos hyx] at HO
              clear hyx
              refine wp_region_held_drew (S := (fun V => V.cell? ⟨w1.heap.size, 0, none⟩ = some (.slice (some ⟨bb, off, none⟩) 1 c1') ∧ V.cell? ⟨w1.heap.size, 1, none⟩ = some (.bool false) ∧ V.cell? ⟨w3.heap.size, 0, none⟩ = some (.slice (some ⟨b2, off2, none⟩) 1 c2') ∧ V.cell? ⟨w3.heap.size, 1, none⟩ = some (.bool false) ∧ V.cell? ⟨bb, off, none⟩ = some (.int .i64 x) ∧ V.cell? ⟨b2, off2, none⟩ = some (.int .i64 y))) (by kernel_rfl) (⟨k0, k1, q0, q1, s0, s1⟩) (fun hHeld => ?_)
              refine wpAnyH_take (i := 0) (oi := { dst := some 19, op := Op.fieldAddr 101 (Operand.tmp 4) 1, type := 0, pos := "class.go:46", after := #[], guard := none }) (v := ?_) rfl (by kernel_rfl) (by kernel_rfl) (by kernel_rfl) (fun _ _ _ h => h) (Or.inl ⟨by rfl, ?hyc0⟩) (by assumption) ?_
              case hyc0 => (intro ww hSw; (try dsimp only at hSw); first | (go_simp; done) | (go_simp; with_reducible rfl))
              try simp only [Act.put, List.setIfInBounds_toArray, List.set_cons_zero, List.set_cons_succ]
              refine wpAnyH_take (i := 1) (oi := { dst := some 20, op := Op.load 4 (Operand.tmp 19), type := 4, pos := "class.go:46", after := #[{ on := 0, ground := Ground.data }], guard := none }) (v := ?_) rfl (by kernel_rfl) (by kernel_rfl) (by kernel_rfl) (fun _ _ _ h => h) (Or.inl ⟨by rfl, ?hyc1⟩) (by assumption) ?_
              case hyc1 => (intro ww hSw; (try dsimp only at hSw); first | (go_simp; done) | (go_simp; with_reducible rfl))
              try simp only [Act.put, List.setIfInBounds_toArray, List.set_cons_zero, List.set_cons_succ]
              refine wpAnyH_take (i := 2) (oi := { dst := some 21, op := Op.move (Operand.tmp 20), type := 4, pos := "class.go:46", after := #[{ on := 1, ground := Ground.data }], guard := none }) (v := ?_) rfl (by kernel_rfl) (by kernel_rfl) (by kernel_rfl) (fun _ _ _ h => h) (Or.inl ⟨by rfl, ?hyc2⟩) (by assumption) ?_
              case hyc2 => (intro ww hSw; (try dsimp only at hSw); first | (go_simp; done) | (go_simp; with_reducible rfl))
              try simp only [Act.put, List.setIfInBounds_toArray, List.set_cons_zero, List.set_cons_succ]
              refine wpAnyH_take (i := 3) (oi := { dst := some 22, op := Op.fieldAddr 101 (Operand.tmp 5) 1, type := 0, pos := "class.go:46", after := #[{ on := 2, ground := Ground.guard }], guard := some (2, false) }) (v := ?_) rfl (by kernel_rfl) (by kernel_rfl) (by kernel_rfl) (fun _ _ _ h => h) (Or.inl ⟨by rfl, ?hyc3⟩) (by assumption) ?_
              case hyc3 => (intro ww hSw; (try dsimp only at hSw); first | (go_simp; done) | (go_simp; with_reducible rfl))
              try simp only [Act.put, List.setIfInBounds_toArray, List.set_cons_zero, List.set_cons_succ]
              refine wpAnyH_take (i := 4) (oi := { dst := some 23, op := Op.load 4 (Operand.tmp 22), type := 4, pos := "class.go:46", after := #[{ on := 3, ground := Ground.data }, { on := 2, ground := Ground.guard }], guard := some (2, false) }) (v := ?_) rfl (by kernel_rfl) (by kernel_rfl) (by kernel_rfl) (fun _ _ _ h => h) (Or.inl ⟨by rfl, ?hyc4⟩) (by assumption) ?_
              case hyc4 => (intro ww hSw; (try dsimp only at hSw); first | (go_simp; done) | (go_simp; with_reducible rfl))
              try simp only [Act.put, List.setIfInBounds_toArray, List.set_cons_zero, List.set_cons_succ]
              refine wpAnyH_take (i := 5) (oi := { dst := some 24, op := Op.pick (Operand.tmp 21) (Operand.const (Value.bool true)) (Operand.tmp 23), type := 4, pos := "class.go:46", after := #[{ on := 2, ground := Ground.data }, { on := 4, ground := Ground.data }], guard := none }) (v := ?_) rfl (by kernel_rfl) (by kernel_rfl) (by kernel_rfl) (fun _ _ _ h => h) (Or.inl ⟨by rfl, ?hyc5⟩) (by assumption) ?_
              case hyc5 => (intro ww hSw; (try dsimp only at hSw); first | (go_simp; done) | (go_simp; with_reducible rfl))
              try simp only [Act.put, List.setIfInBounds_toArray, List.set_cons_zero, List.set_cons_succ]
              refine wpAnyH_take (i := 6) (oi := { dst := some 25, op := Op.move (Operand.tmp 24), type := 4, pos := "class.go:46", after := #[{ on := 5, ground := Ground.data }, { on := 2, ground := Ground.chain }], guard := none }) (v := ?_) rfl (by kernel_rfl) (by kernel_rfl) (by kernel_rfl) (fun _ _ _ h => h) (Or.inl ⟨by rfl, ?hyc6⟩) (by assumption) ?_
              case hyc6 => (intro ww hSw; (try dsimp only at hSw); first | (go_simp; done) | (go_simp; with_reducible rfl))
              try simp only [Act.put, List.setIfInBounds_toArray, List.set_cons_zero, List.set_cons_succ]
              refine wpAnyH_take (i := 7) (oi := { dst := some 26, op := Op.fieldAddr 101 (Operand.tmp 5) 0, type := 0, pos := "class.go:46", after := #[{ on := 6, ground := Ground.guard }], guard := some (6, false) }) (v := ?_) rfl (by kernel_rfl) (by kernel_rfl) (by kernel_rfl) (fun _ _ _ h => h) (Or.inl ⟨by rfl, ?hyc7⟩) (by assumption) ?_
              case hyc7 => (intro ww hSw; (try dsimp only at hSw); first | (go_simp; done) | (go_simp; with_reducible rfl))
              try simp only [Act.put, List.setIfInBounds_toArray, List.set_cons_zero, List.set_cons_succ]
              refine wpAnyH_take (i := 8) (oi := { dst := some 27, op := Op.load 24 (Operand.tmp 26), type := 24, pos := "class.go:46", after := #[{ on := 7, ground := Ground.data }, { on := 6, ground := Ground.guard }], guard := some (6, false) }) (v := ?_) rfl (by kernel_rfl) (by kernel_rfl) (by kernel_rfl) (fun _ _ _ h => h) (Or.inl ⟨by rfl, ?hyc8⟩) (by assumption) ?_
              case hyc8 => (intro ww hSw; (try dsimp only at hSw); first | (go_simp; done) | (go_simp; with_reducible rfl))
              try simp only [Act.put, List.setIfInBounds_toArray, List.set_cons_zero, List.set_cons_succ]
              refine wpAnyH_take (i := 9) (oi := { dst := some 28, op := Op.indexAddr 24 (Operand.tmp 27) (Operand.const (Value.int IntKind.i64 0)), type := 0, pos := "class.go:46", after := #[{ on := 8, ground := Ground.data }, { on := 6, ground := Ground.guard }], guard := some (6, false) }) (v := ?_) rfl (by kernel_rfl) (by kernel_rfl) (by kernel_rfl) (fun _ _ _ h => h) (Or.inl ⟨by rfl, ?hyc9⟩) (by assumption) ?_
              case hyc9 => (intro ww hSw; (try dsimp only at hSw); first | (go_simp; done) | (go_simp; with_reducible rfl))
              try simp only [Act.put, List.setIfInBounds_toArray, List.set_cons_zero, List.set_cons_succ]
              refine wpAnyH_take (i := 10) (oi := { dst := some 29, op := Op.fieldAddr 53 (Operand.tmp 28) 0, type := 0, pos := "class.go:46", after := #[{ on := 9, ground := Ground.data }, { on := 6, ground := Ground.guard }], guard := some (6, false) }) (v := ?_) rfl (by kernel_rfl) (by kernel_rfl) (by kernel_rfl) (fun _ _ _ h => h) (Or.inl ⟨by rfl, ?hyc10⟩) (by assumption) ?_
              case hyc10 => (intro ww hSw; (try dsimp only at hSw); first | (go_simp; done) | (go_simp; with_reducible rfl))
              try simp only [Act.put, List.setIfInBounds_toArray, List.set_cons_zero, List.set_cons_succ]
              refine wpAnyH_take (i := 11) (oi := { dst := some 30, op := Op.load 3 (Operand.tmp 29), type := 3, pos := "class.go:46", after := #[{ on := 10, ground := Ground.data }, { on := 6, ground := Ground.guard }], guard := some (6, false) }) (v := ?_) rfl (by kernel_rfl) (by kernel_rfl) (by kernel_rfl) (fun _ _ _ h => h) (Or.inl ⟨by rfl, ?hyc11⟩) (by assumption) ?_
              case hyc11 => (intro ww hSw; (try dsimp only at hSw); first | (go_simp; done) | (go_simp; with_reducible rfl))
              try simp only [Act.put, List.setIfInBounds_toArray, List.set_cons_zero, List.set_cons_succ]
              refine wpAnyH_take (i := 12) (oi := { dst := some 31, op := Op.fieldAddr 101 (Operand.tmp 4) 0, type := 0, pos := "class.go:46", after := #[{ on := 6, ground := Ground.guard }], guard := some (6, false) }) (v := ?_) rfl (by kernel_rfl) (by kernel_rfl) (by kernel_rfl) (fun _ _ _ h => h) (Or.inl ⟨by rfl, ?hyc12⟩) (by assumption) ?_
              case hyc12 => (intro ww hSw; (try dsimp only at hSw); first | (go_simp; done) | (go_simp; with_reducible rfl))
              try simp only [Act.put, List.setIfInBounds_toArray, List.set_cons_zero, List.set_cons_succ]
              refine wpAnyH_take (i := 13) (oi := { dst := some 32, op := Op.load 24 (Operand.tmp 31), type := 24, pos := "class.go:46", after := #[{ on := 12, ground := Ground.data }, { on := 6, ground := Ground.guard }], guard := some (6, false) }) (v := ?_) rfl (by kernel_rfl) (by kernel_rfl) (by kernel_rfl) (fun _ _ _ h => h) (Or.inl ⟨by rfl, ?hyc13⟩) (by assumption) ?_
              case hyc13 => (intro ww hSw; (try dsimp only at hSw); first | (go_simp; done) | (go_simp; with_reducible rfl))
              try simp only [Act.put, List.setIfInBounds_toArray, List.set_cons_zero, List.set_cons_succ]
              refine wpAnyH_take (i := 14) (oi := { dst := some 33, op := Op.indexAddr 24 (Operand.tmp 32) (Operand.const (Value.int IntKind.i64 0)), type := 0, pos := "class.go:46", after := #[{ on := 13, ground := Ground.data }, { on := 6, ground := Ground.guard }], guard := some (6, false) }) (v := ?_) rfl (by kernel_rfl) (by kernel_rfl) (by kernel_rfl) (fun _ _ _ h => h) (Or.inl ⟨by rfl, ?hyc14⟩) (by assumption) ?_
              case hyc14 => (intro ww hSw; (try dsimp only at hSw); first | (go_simp; done) | (go_simp; with_reducible rfl))
              try simp only [Act.put, List.setIfInBounds_toArray, List.set_cons_zero, List.set_cons_succ]
              refine wpAnyH_take (i := 15) (oi := { dst := some 34, op := Op.fieldAddr 53 (Operand.tmp 33) 0, type := 0, pos := "class.go:46", after := #[{ on := 14, ground := Ground.data }, { on := 6, ground := Ground.guard }], guard := some (6, false) }) (v := ?_) rfl (by kernel_rfl) (by kernel_rfl) (by kernel_rfl) (fun _ _ _ h => h) (Or.inl ⟨by rfl, ?hyc15⟩) (by assumption) ?_
              case hyc15 => (intro ww hSw; (try dsimp only at hSw); first | (go_simp; done) | (go_simp; with_reducible rfl))
              try simp only [Act.put, List.setIfInBounds_toArray, List.set_cons_zero, List.set_cons_succ]
              refine wpAnyH_take (i := 16) (oi := { dst := some 35, op := Op.load 3 (Operand.tmp 34), type := 3, pos := "class.go:46", after := #[{ on := 15, ground := Ground.data }, { on := 6, ground := Ground.guard }], guard := some (6, false) }) (v := ?_) rfl (by kernel_rfl) (by kernel_rfl) (by kernel_rfl) (fun _ _ _ h => h) (Or.inl ⟨by rfl, ?hyc16⟩) (by assumption) ?_
              case hyc16 => (intro ww hSw; (try dsimp only at hSw); first | (go_simp; done) | (go_simp; with_reducible rfl))
              try simp only [Act.put, List.setIfInBounds_toArray, List.set_cons_zero, List.set_cons_succ]
              refine wpAnyH_take (i := 17) (oi := { dst := some 36, op := Op.binOp BinOp.lss 3 (Operand.tmp 30) (Operand.tmp 35) 3, type := 4, pos := "class.go:46", after := #[{ on := 11, ground := Ground.data }, { on := 16, ground := Ground.data }, { on := 6, ground := Ground.guard }], guard := some (6, false) }) (v := ?_) rfl (by kernel_rfl) (by kernel_rfl) (by kernel_rfl) (fun _ _ _ h => h) (Or.inl ⟨by rfl, ?hyc17⟩) (by assumption) ?_
              case hyc17 => (intro ww hSw; (try dsimp only at hSw); first | (go_simp; done) | (go_simp; with_reducible rfl))
              try simp only [Act.put, List.setIfInBounds_toArray, List.set_cons_zero, List.set_cons_succ]
              refine wpAnyH_take (i := 18) (oi := { dst := some 37, op := Op.pick (Operand.tmp 25) (Operand.const (Value.bool true)) (Operand.tmp 36), type := 4, pos := "class.go:46", after := #[{ on := 6, ground := Ground.data }, { on := 17, ground := Ground.data }], guard := none }) (v := ?_) rfl (by kernel_rfl) (by kernel_rfl) (by kernel_rfl) (fun _ _ _ h => h) (Or.inl ⟨by rfl, ?hyc18⟩) (by assumption) ?_
              case hyc18 => (intro ww hSw; (try dsimp only at hSw); first | (go_simp; done) | (go_simp; with_reducible rfl))
              try simp only [Act.put, List.setIfInBounds_toArray, List.set_cons_zero, List.set_cons_succ]
              refine wpAnyH_done (by kernel_rfl) ?_ _
              go_wp2
              exact ⟨rfl, Post.bad HO.out (GB.out.trans (Gr.of (Below.refl _ _).drew))⟩
            · have hd : decide (y < x) = false := decide_eq_false hyx
              rw [if_neg hyx] at HO
              have HYX := Lib.hid hyx
              clear hyx
              refine wp_region_held_drew (S := (fun V => V.cell? ⟨w1.heap.size, 0, none⟩ = some (.slice (some ⟨bb, off, none⟩) 1 c1') ∧ V.cell? ⟨w1.heap.size, 1, none⟩ = some (.bool false) ∧ V.cell? ⟨w3.heap.size, 0, none⟩ = some (.slice (some ⟨b2, off2, none⟩) 1 c2') ∧ V.cell? ⟨w3.heap.size, 1, none⟩ = some (.bool false) ∧ V.cell? ⟨bb, off, none⟩ = some (.int .i64 x) ∧ V.cell? ⟨b2, off2, none⟩ = some (.int .i64 y))) (by kernel_rfl) (⟨k0, k1, q0, q1, s0, s1⟩) (fun hHeld => ?_)
              refine wpAnyH_take (i := 0) (oi := { dst := some 19, op := Op.fieldAddr 101 (Operand.tmp 4) 1, type := 0, pos := "class.go:46", after := #[], guard := none }) (v := ?_) rfl (by kernel_rfl) (by kernel_rfl) (by kernel_rfl) (fun _ _ _ h => h) (Or.inl ⟨by rfl, ?hyd0⟩) (by assumption) ?_
              case hyd0 => (intro ww hSw; (try dsimp only at hSw); first | (go_simp; done) | (go_simp; with_reducible rfl))
              try simp only [Act.put, List.setIfInBounds_toArray, List.set_cons_zero, List.set_cons_succ]
              refine wpAnyH_take (i := 1) (oi := { dst := some 20, op := Op.load 4 (Operand.tmp 19), type := 4, pos := "class.go:46", after := #[{ on := 0, ground := Ground.data }], guard := none }) (v := ?_) rfl (by kernel_rfl) (by kernel_rfl) (by kernel_rfl) (fun _ _ _ h => h) (Or.inl ⟨by rfl, ?hyd1⟩) (by assumption) ?_
              case hyd1 => (intro ww hSw; (try dsimp only at hSw); first | (go_simp; done) | (go_simp; with_reducible rfl))
              try simp only [Act.put, List.setIfInBounds_toArray, List.set_cons_zero, List.set_cons_succ]
              refine wpAnyH_take (i := 2) (oi := { dst := some 21, op := Op.move (Operand.tmp 20), type := 4, pos := "class.go:46", after := #[{ on := 1, ground := Ground.data }], guard := none }) (v := ?_) rfl (by kernel_rfl) (by kernel_rfl) (by kernel_rfl) (fun _ _ _ h => h) (Or.inl ⟨by rfl, ?hyd2⟩) (by assumption) ?_
              case hyd2 => (intro ww hSw; (try dsimp only at hSw); first | (go_simp; done) | (go_simp; with_reducible rfl))
              try simp only [Act.put, List.setIfInBounds_toArray, List.set_cons_zero, List.set_cons_succ]
              refine wpAnyH_take (i := 3) (oi := { dst := some 22, op := Op.fieldAddr 101 (Operand.tmp 5) 1, type := 0, pos := "class.go:46", after := #[{ on := 2, ground := Ground.guard }], guard := some (2, false) }) (v := ?_) rfl (by kernel_rfl) (by kernel_rfl) (by kernel_rfl) (fun _ _ _ h => h) (Or.inl ⟨by rfl, ?hyd3⟩) (by assumption) ?_
              case hyd3 => (intro ww hSw; (try dsimp only at hSw); first | (go_simp; done) | (go_simp; with_reducible rfl))
              try simp only [Act.put, List.setIfInBounds_toArray, List.set_cons_zero, List.set_cons_succ]
              refine wpAnyH_take (i := 4) (oi := { dst := some 23, op := Op.load 4 (Operand.tmp 22), type := 4, pos := "class.go:46", after := #[{ on := 3, ground := Ground.data }, { on := 2, ground := Ground.guard }], guard := some (2, false) }) (v := ?_) rfl (by kernel_rfl) (by kernel_rfl) (by kernel_rfl) (fun _ _ _ h => h) (Or.inl ⟨by rfl, ?hyd4⟩) (by assumption) ?_
              case hyd4 => (intro ww hSw; (try dsimp only at hSw); first | (go_simp; done) | (go_simp; with_reducible rfl))
              try simp only [Act.put, List.setIfInBounds_toArray, List.set_cons_zero, List.set_cons_succ]
              refine wpAnyH_take (i := 5) (oi := { dst := some 24, op := Op.pick (Operand.tmp 21) (Operand.const (Value.bool true)) (Operand.tmp 23), type := 4, pos := "class.go:46", after := #[{ on := 2, ground := Ground.data }, { on := 4, ground := Ground.data }], guard := none }) (v := ?_) rfl (by kernel_rfl) (by kernel_rfl) (by kernel_rfl) (fun _ _ _ h => h) (Or.inl ⟨by rfl, ?hyd5⟩) (by assumption) ?_
              case hyd5 => (intro ww hSw; (try dsimp only at hSw); first | (go_simp; done) | (go_simp; with_reducible rfl))
              try simp only [Act.put, List.setIfInBounds_toArray, List.set_cons_zero, List.set_cons_succ]
              refine wpAnyH_take (i := 6) (oi := { dst := some 25, op := Op.move (Operand.tmp 24), type := 4, pos := "class.go:46", after := #[{ on := 5, ground := Ground.data }, { on := 2, ground := Ground.chain }], guard := none }) (v := ?_) rfl (by kernel_rfl) (by kernel_rfl) (by kernel_rfl) (fun _ _ _ h => h) (Or.inl ⟨by rfl, ?hyd6⟩) (by assumption) ?_
              case hyd6 => (intro ww hSw; (try dsimp only at hSw); first | (go_simp; done) | (go_simp; with_reducible rfl))
              try simp only [Act.put, List.setIfInBounds_toArray, List.set_cons_zero, List.set_cons_succ]
              refine wpAnyH_take (i := 7) (oi := { dst := some 26, op := Op.fieldAddr 101 (Operand.tmp 5) 0, type := 0, pos := "class.go:46", after := #[{ on := 6, ground := Ground.guard }], guard := some (6, false) }) (v := ?_) rfl (by kernel_rfl) (by kernel_rfl) (by kernel_rfl) (fun _ _ _ h => h) (Or.inl ⟨by rfl, ?hyd7⟩) (by assumption) ?_
              case hyd7 => (intro ww hSw; (try dsimp only at hSw); first | (go_simp; done) | (go_simp; with_reducible rfl))
              try simp only [Act.put, List.setIfInBounds_toArray, List.set_cons_zero, List.set_cons_succ]
              refine wpAnyH_take (i := 8) (oi := { dst := some 27, op := Op.load 24 (Operand.tmp 26), type := 24, pos := "class.go:46", after := #[{ on := 7, ground := Ground.data }, { on := 6, ground := Ground.guard }], guard := some (6, false) }) (v := ?_) rfl (by kernel_rfl) (by kernel_rfl) (by kernel_rfl) (fun _ _ _ h => h) (Or.inl ⟨by rfl, ?hyd8⟩) (by assumption) ?_
              case hyd8 => (intro ww hSw; (try dsimp only at hSw); first | (go_simp; done) | (go_simp; with_reducible rfl))
              try simp only [Act.put, List.setIfInBounds_toArray, List.set_cons_zero, List.set_cons_succ]
              refine wpAnyH_take (i := 9) (oi := { dst := some 28, op := Op.indexAddr 24 (Operand.tmp 27) (Operand.const (Value.int IntKind.i64 0)), type := 0, pos := "class.go:46", after := #[{ on := 8, ground := Ground.data }, { on := 6, ground := Ground.guard }], guard := some (6, false) }) (v := ?_) rfl (by kernel_rfl) (by kernel_rfl) (by kernel_rfl) (fun _ _ _ h => h) (Or.inl ⟨by rfl, ?hyd9⟩) (by assumption) ?_
              case hyd9 => (intro ww hSw; (try dsimp only at hSw); first | (go_simp; done) | (go_simp; with_reducible rfl))
              try simp only [Act.put, List.setIfInBounds_toArray, List.set_cons_zero, List.set_cons_succ]
              refine wpAnyH_take (i := 10) (oi := { dst := some 29, op := Op.fieldAddr 53 (Operand.tmp 28) 0, type := 0, pos := "class.go:46", after := #[{ on := 9, ground := Ground.data }, { on := 6, ground := Ground.guard }], guard := some (6, false) }) (v := ?_) rfl (by kernel_rfl) (by kernel_rfl) (by kernel_rfl) (fun _ _ _ h => h) (Or.inl ⟨by rfl, ?hyd10⟩) (by assumption) ?_
              case hyd10 => (intro ww hSw; (try dsimp only at hSw); first | (go_simp; done) | (go_simp; with_reducible rfl))
              try simp only [Act.put, List.setIfInBounds_toArray, List.set_cons_zero, List.set_cons_succ]
              refine wpAnyH_take (i := 11) (oi := { dst := some 30, op := Op.load 3 (Operand.tmp 29), type := 3, pos := "class.go:46", after := #[{ on := 10, ground := Ground.data }, { on := 6, ground := Ground.guard }], guard := some (6, false) }) (v := ?_) rfl (by kernel_rfl) (by kernel_rfl) (by kernel_rfl) (fun _ _ _ h => h) (Or.inl ⟨by rfl, ?hyd11⟩) (by assumption) ?_
              case hyd11 => (intro ww hSw; (try dsimp only at hSw); first | (go_simp; done) | (go_simp; with_reducible rfl))
              try simp only [Act.put, List.setIfInBounds_toArray, List.set_cons_zero, List.set_cons_succ]
              refine wpAnyH_take (i := 12) (oi := { dst := some 31, op := Op.fieldAddr 101 (Operand.tmp 4) 0, type := 0, pos := "class.go:46", after := #[{ on := 6, ground := Ground.guard }], guard := some (6, false) }) (v := ?_) rfl (by kernel_rfl) (by kernel_rfl) (by kernel_rfl) (fun _ _ _ h => h) (Or.inl ⟨by rfl, ?hyd12⟩) (by assumption) ?_
              case hyd12 => (intro ww hSw; (try dsimp only at hSw); first | (go_simp; done) | (go_simp; with_reducible rfl))
              try simp only [Act.put, List.setIfInBounds_toArray, List.set_cons_zero, List.set_cons_succ]
              refine wpAnyH_take (i := 13) (oi := { dst := some 32, op := Op.load 24 (Operand.tmp 31), type := 24, pos := "class.go:46", after := #[{ on := 12, ground := Ground.data }, { on := 6, ground := Ground.guard }], guard := some (6, false) }) (v := ?_) rfl (by kernel_rfl) (by kernel_rfl) (by kernel_rfl) (fun _ _ _ h => h) (Or.inl ⟨by rfl, ?hyd13⟩) (by assumption) ?_
              case hyd13 => (intro ww hSw; (try dsimp only at hSw); first | (go_simp; done) | (go_simp; with_reducible rfl))
              try simp only [Act.put, List.setIfInBounds_toArray, List.set_cons_zero, List.set_cons_succ]
              refine wpAnyH_take (i := 14) (oi := { dst := some 33, op := Op.indexAddr 24 (Operand.tmp 32) (Operand.const (Value.int IntKind.i64 0)), type := 0, pos := "class.go:46", after := #[{ on := 13, ground := Ground.data }, { on := 6, ground := Ground.guard }], guard := some (6, false) }) (v := ?_) rfl (by kernel_rfl) (by kernel_rfl) (by kernel_rfl) (fun _ _ _ h => h) (Or.inl ⟨by rfl, ?hyd14⟩) (by assumption) ?_
              case hyd14 => (intro ww hSw; (try dsimp only at hSw); first | (go_simp; done) | (go_simp; with_reducible rfl))
              try simp only [Act.put, List.setIfInBounds_toArray, List.set_cons_zero, List.set_cons_succ]
              refine wpAnyH_take (i := 15) (oi := { dst := some 34, op := Op.fieldAddr 53 (Operand.tmp 33) 0, type := 0, pos := "class.go:46", after := #[{ on := 14, ground := Ground.data }, { on := 6, ground := Ground.guard }], guard := some (6, false) }) (v := ?_) rfl (by kernel_rfl) (by kernel_rfl) (by kernel_rfl) (fun _ _ _ h => h) (Or.inl ⟨by rfl, ?hyd15⟩) (by assumption) ?_
              case hyd15 => (intro ww hSw; (try dsimp only at hSw); first | (go_simp; done) | (go_simp; with_reducible rfl))
              try simp only [Act.put, List.setIfInBounds_toArray, List.set_cons_zero, List.set_cons_succ]
              refine wpAnyH_take (i := 16) (oi := { dst := some 35, op := Op.load 3 (Operand.tmp 34), type := 3, pos := "class.go:46", after := #[{ on := 15, ground := Ground.data }, { on := 6, ground := Ground.guard }], guard := some (6, false) }) (v := ?_) rfl (by kernel_rfl) (by kernel_rfl) (by kernel_rfl) (fun _ _ _ h => h) (Or.inl ⟨by rfl, ?hyd16⟩) (by assumption) ?_
              case hyd16 => (intro ww hSw; (try dsimp only at hSw); first | (go_simp; done) | (go_simp; with_reducible rfl))
              try simp only [Act.put, List.setIfInBounds_toArray, List.set_cons_zero, List.set_cons_succ]
              refine wpAnyH_take (i := 17) (oi := { dst := some 36, op := Op.binOp BinOp.lss 3 (Operand.tmp 30) (Operand.tmp 35) 3, type := 4, pos := "class.go:46", after := #[{ on := 11, ground := Ground.data }, { on := 16, ground := Ground.data }, { on := 6, ground := Ground.guard }], guard := some (6, false) }) (v := ?_) rfl (by kernel_rfl) (by kernel_rfl) (by kernel_rfl) (fun _ _ _ h => h) (Or.inl ⟨by rfl, ?hyd17⟩) (by assumption) ?_
              case hyd17 => (intro ww hSw; (try dsimp only at hSw); first | (go_simp; done) | (go_simp; with_reducible rfl))
              try simp only [Act.put, List.setIfInBounds_toArray, List.set_cons_zero, List.set_cons_succ]
              refine wpAnyH_take (i := 18) (oi := { dst := some 37, op := Op.pick (Operand.tmp 25) (Operand.const (Value.bool true)) (Operand.tmp 36), type := 4, pos := "class.go:46", after := #[{ on := 6, ground := Ground.data }, { on := 17, ground := Ground.data }], guard := none }) (v := ?_) rfl (by kernel_rfl) (by kernel_rfl) (by kernel_rfl) (fun _ _ _ h => h) (Or.inl ⟨by rfl, ?hyd18⟩) (by assumption) ?_
              case hyd18 => (intro ww hSw; (try dsimp only at hSw); first | (go_simp; done) | (go_simp; with_reducible rfl))
              try simp only [Act.put, List.setIfInBounds_toArray, List.set_cons_zero, List.set_cons_succ]
              refine wpAnyH_done (by kernel_rfl) ?_ _
              have hbq : Below U.heap.size U U.drew := (Below.refl _ _).drew
              have k0 : U.drew.cell? ⟨w1.heap.size, 0, none⟩ = _ := k0
              have q0 : U.drew.cell? ⟨w3.heap.size, 0, none⟩ = _ := q0
              have k1 : U.drew.cell? ⟨w1.heap.size, 1, none⟩ = _ := k1
              have q1 : U.drew.cell? ⟨w3.heap.size, 1, none⟩ = _ := q1
              have s0 : U.drew.cell? ⟨bb, off, none⟩ = _ := s0
              have s1 : U.drew.cell? ⟨b2, off2, none⟩ = _ := s1
              have hUz : U.drew.heap.size = w3.heap.size + 1 := hUz
              have GB := Lib.hid (GB.out.trans (Gr.of hbq))
              have HRB := Lib.hid (HRB.out.kept hbq)
              clear hHeld hbq
              generalize U.drew = U2 at *
              go_wp2_with fail
              refine wp_region_held_drew (S := (fun V => V.cell? ⟨w1.heap.size, 0, none⟩ = some (.slice (some ⟨bb, off, none⟩) 1 c1') ∧ V.cell? ⟨w1.heap.size, 1, none⟩ = some (.bool false) ∧ V.cell? ⟨w3.heap.size, 0, none⟩ = some (.slice (some ⟨b2, off2, none⟩) 1 c2') ∧ V.cell? ⟨w3.heap.size, 1, none⟩ = some (.bool false) ∧ V.cell? ⟨bb, off, none⟩ = some (.int .i64 x) ∧ V.cell? ⟨b2, off2, none⟩ = some (.int .i64 y))) (by kernel_rfl) (⟨k0, k1, q0, q1, s0, s1⟩) (fun hHeld => ?_)
              refine wpAnyH_take (i := 0) (oi := { dst := some 41, op := Op.fieldAddr 101 (Operand.tmp 4) 0, type := 0, pos := "class.go:49", after := #[], guard := none }) (v := ?_) rfl (by kernel_rfl) (by kernel_rfl) (by kernel_rfl) (fun _ _ _ h => h) (Or.inl ⟨by rfl, ?hye0⟩) (by assumption) ?_
              case hye0 => (intro ww hSw; (try dsimp only at hSw); first | (go_simp; done) | (go_simp; with_reducible rfl))
              try simp only [Act.put, List.setIfInBounds_toArray, List.set_cons_zero, List.set_cons_succ]
              refine wpAnyH_take (i := 1) (oi := { dst := some 42, op := Op.load 24 (Operand.tmp 41), type := 24, pos := "class.go:49", after := #[{ on := 0, ground := Ground.data }], guard := none }) (v := ?_) rfl (by kernel_rfl) (by kernel_rfl) (by kernel_rfl) (fun _ _ _ h => h) (Or.inl ⟨by rfl, ?hye1⟩) (by assumption) ?_
              case hye1 => (intro ww hSw; (try dsimp only at hSw); first | (go_simp; done) | (go_simp; with_reducible rfl))
              try simp only [Act.put, List.setIfInBounds_toArray, List.set_cons_zero, List.set_cons_succ]
              refine wpAnyH_take (i := 2) (oi := { dst := some 43, op := Op.indexAddr 24 (Operand.tmp 42) (Operand.const (Value.int IntKind.i64 0)), type := 0, pos := "class.go:49", after := #[{ on := 1, ground := Ground.data }], guard := none }) (v := ?_) rfl (by kernel_rfl) (by kernel_rfl) (by kernel_rfl) (fun _ _ _ h => h) (Or.inl ⟨by rfl, ?hye2⟩) (by assumption) ?_
              case hye2 => (intro ww hSw; (try dsimp only at hSw); first | (go_simp; done) | (go_simp; with_reducible rfl))
              try simp only [Act.put, List.setIfInBounds_toArray, List.set_cons_zero, List.set_cons_succ]
              refine wpAnyH_take (i := 3) (oi := { dst := some 44, op := Op.fieldAddr 53 (Operand.tmp 43) 0, type := 0, pos := "class.go:49", after := #[{ on := 2, ground := Ground.data }], guard := none }) (v := ?_) rfl (by kernel_rfl) (by kernel_rfl) (by kernel_rfl) (fun _ _ _ h => h) (Or.inl ⟨by rfl, ?hye3⟩) (by assumption) ?_
              case hye3 => (intro ww hSw; (try dsimp only at hSw); first | (go_simp; done) | (go_simp; with_reducible rfl))
              try simp only [Act.put, List.setIfInBounds_toArray, List.set_cons_zero, List.set_cons_succ]
              refine wpAnyH_take (i := 4) (oi := { dst := some 45, op := Op.load 3 (Operand.tmp 44), type := 3, pos := "class.go:49", after := #[{ on := 3, ground := Ground.data }], guard := none }) (v := ?_) rfl (by kernel_rfl) (by kernel_rfl) (by kernel_rfl) (fun _ _ _ h => h) (Or.inl ⟨by rfl, ?hye4⟩) (by assumption) ?_
              case hye4 => (intro ww hSw; (try dsimp only at hSw); first | (go_simp; done) | (go_simp; with_reducible rfl))
              try simp only [Act.put, List.setIfInBounds_toArray, List.set_cons_zero, List.set_cons_succ]
              refine wpAnyH_take (i := 5) (oi := { dst := some 46, op := Op.fieldAddr 101 (Operand.tmp 5) 0, type := 0, pos := "class.go:49", after := #[], guard := none }) (v := ?_) rfl (by kernel_rfl) (by kernel_rfl) (by kernel_rfl) (fun _ _ _ h => h) (Or.inl ⟨by rfl, ?hye5⟩) (by assumption) ?_
              case hye5 => (intro ww hSw; (try dsimp only at hSw); first | (go_simp; done) | (go_simp; with_reducible rfl))
              try simp only [Act.put, List.setIfInBounds_toArray, List.set_cons_zero, List.set_cons_succ]
              refine wpAnyH_take (i := 6) (oi := { dst := some 47, op := Op.load 24 (Operand.tmp 46), type := 24, pos := "class.go:49", after := #[{ on := 5, ground := Ground.data }], guard := none }) (v := ?_) rfl (by kernel_rfl) (by kernel_rfl) (by kernel_rfl) (fun _ _ _ h => h) (Or.inl ⟨by rfl, ?hye6⟩) (by assumption) ?_
              case hye6 => (intro ww hSw; (try dsimp only at hSw); first | (go_simp; done) | (go_simp; with_reducible rfl))
              try simp only [Act.put, List.setIfInBounds_toArray, List.set_cons_zero, List.set_cons_succ]
              refine wpAnyH_take (i := 7) (oi := { dst := some 48, op := Op.indexAddr 24 (Operand.tmp 47) (Operand.const (Value.int IntKind.i64 0)), type := 0, pos := "class.go:49", after := #[{ on := 6, ground := Ground.data }], guard := none }) (v := ?_) rfl (by kernel_rfl) (by kernel_rfl) (by kernel_rfl) (fun _ _ _ h => h) (Or.inl ⟨by rfl, ?hye7⟩) (by assumption) ?_
              case hye7 => (intro ww hSw; (try dsimp only at hSw); first | (go_simp; done) | (go_simp; with_reducible rfl))
              try simp only [Act.put, List.setIfInBounds_toArray, List.set_cons_zero, List.set_cons_succ]
              refine wpAnyH_take (i := 8) (oi := { dst := some 49, op := Op.fieldAddr 53 (Operand.tmp 48) 0, type := 0, pos := "class.go:49", after := #[{ on := 7, ground := Ground.data }], guard := none }) (v := ?_) rfl (by kernel_rfl) (by kernel_rfl) (by kernel_rfl) (fun _ _ _ h => h) (Or.inl ⟨by rfl, ?hye8⟩) (by assumption) ?_
              case hye8 => (intro ww hSw; (try dsimp only at hSw); first | (go_simp; done) | (go_simp; with_reducible rfl))
              try simp only [Act.put, List.setIfInBounds_toArray, List.set_cons_zero, List.set_cons_succ]
              refine wpAnyH_take (i := 9) (oi := { dst := some 50, op := Op.load 3 (Operand.tmp 49), type := 3, pos := "class.go:49", after := #[{ on := 8, ground := Ground.data }], guard := none }) (v := ?_) rfl (by kernel_rfl) (by kernel_rfl) (by kernel_rfl) (fun _ _ _ h => h) (Or.inl ⟨by rfl, ?hye9⟩) (by assumption) ?_
              case hye9 => (intro ww hSw; (try dsimp only at hSw); first | (go_simp; done) | (go_simp; with_reducible rfl))
              try simp only [Act.put, List.setIfInBounds_toArray, List.set_cons_zero, List.set_cons_succ]
              refine wpAnyH_take (i := 10) (oi := { dst := some 51, op := Op.build 53 #[(0, Operand.tmp 45), (1, Operand.tmp 50)], type := 53, pos := "class.go:49", after := #[{ on := 4, ground := Ground.data }, { on := 9, ground := Ground.data }], guard := none }) (v := ?_) rfl (by kernel_rfl) (by kernel_rfl) (by kernel_rfl) (fun _ _ _ h => h) (Or.inl ⟨by rfl, ?hye10⟩) (by assumption) ?_
              case hye10 => (intro ww hSw; (try dsimp only at hSw); first | (go_simp; done) | (go_simp; with_reducible rfl))
              try simp only [Act.put, List.setIfInBounds_toArray, List.set_cons_zero, List.set_cons_succ]
              refine wpAnyH_ready (rs := [11]) (by kernel_rfl) (by simp) ?_
              refine AllReadyH.cons (o := { dst := some 52, op := Op.buildSlice 24 1 #[(0, Operand.tmp 51)], type := 24, pos := "class.go:49", after := #[{ on := 10, ground := Ground.data }], guard := none }) rfl (fun K hK => ?_) ?moree11
              case moree11 => exact AllReadyH.nil
              go_simp
              have k0 := (World.cell?_alloc_past (w := U2.drew) (.cells #[.int .i64 x, .int .i64 y] 53) w1.heap.size 0 (by show w1.heap.size < U2.heap.size; omega)).trans k0; have k1 := (World.cell?_alloc_past (w := U2.drew) (.cells #[.int .i64 x, .int .i64 y] 53) w1.heap.size 1 (by show w1.heap.size < U2.heap.size; omega)).trans k1; have q0 := (World.cell?_alloc_past (w := U2.drew) (.cells #[.int .i64 x, .int .i64 y] 53) w3.heap.size 0 (by show w3.heap.size < U2.heap.size; omega)).trans q0; have q1 := (World.cell?_alloc_past (w := U2.drew) (.cells #[.int .i64 x, .int .i64 y] 53) w3.heap.size 1 (by show w3.heap.size < U2.heap.size; omega)).trans q1; have s0 := (World.cell?_alloc_past (w := U2.drew) (.cells #[.int .i64 x, .int .i64 y] 53) bb off (cell_lt s0)).trans s0; have s1 := (World.cell?_alloc_past (w := U2.drew) (.cells #[.int .i64 x, .int .i64 y] 53) b2 off2 (cell_lt s1)).trans s1
              refine hK.out _ _ (⟨k0, k1, q0, q1, s0, s1⟩) (fun hHeld => ?_)
              clear hK K
              try simp only [Act.put, List.setIfInBounds_toArray, List.set_cons_zero, List.set_cons_succ]
              refine wpAnyH_take (i := 12) (oi := { dst := some 2, op := Op.assign (Operand.tmp 52), type := 24, pos := "class.go:49", after := #[{ on := 11, ground := Ground.data }, { on := 0, ground := Ground.phase }, { on := 1, ground := Ground.phase }, { on := 2, ground := Ground.phase }, { on := 3, ground := Ground.phase }, { on := 4, ground := Ground.phase }, { on := 5, ground := Ground.phase }, { on := 6, ground := Ground.phase }, { on := 7, ground := Ground.phase }, { on := 8, ground := Ground.phase }, { on := 9, ground := Ground.phase }, { on := 10, ground := Ground.phase }, { on := 11, ground := Ground.phase }], guard := none }) (v := ?_) rfl (by kernel_rfl) (by kernel_rfl) (by kernel_rfl) (fun _ _ _ h => h) (Or.inl ⟨by rfl, ?hye12⟩) (by assumption) ?_
              case hye12 => (intro ww hSw; (try dsimp only at hSw); first | (go_simp; done) | (go_simp; with_reducible rfl))
              try simp only [Act.put, List.setIfInBounds_toArray, List.set_cons_zero, List.set_cons_succ]
              refine wpAnyH_done (by kernel_rfl) ?_ _
              have hbe : Below U2.heap.size U2 (U2.alloc (.cells #[.int .i64 x, .int .i64 y] 53)).drew := ((Below.refl _ _).alloc (Nat.le_refl _) _).drew
              have hsp : Sl (U2.alloc (.cells #[.int .i64 x, .int .i64 y] 53)).drew (some ⟨U2.heap.size, 0, none⟩) [(x, y)] := fun _ => ⟨U2.heap.size, 0, rfl, by show U2.heap.size < (U2.alloc _).heap.size; rw [World.size_alloc]; omega, fun j hj => by
                have hj0 : j = 0 := by simpa using hj
                subst hj0
                have hb := heap_alloc_new U2 (Obj.cells #[Value.int IntKind.i64 x, Value.int IntKind.i64 y] 53)
                exact ⟨by rw [show (U2.alloc (.cells #[.int .i64 x, .int .i64 y] 53)).drew.cell? ⟨U2.heap.size, 0 + 0 * 2, none⟩ = (U2.alloc (.cells #[.int .i64 x, .int .i64 y] 53)).cell? ⟨U2.heap.size, 0 + 0 * 2, none⟩ from rfl, cell_of_row _ U2.heap.size _ _ _ _ hb]; rfl, by rw [show (U2.alloc (.cells #[.int .i64 x, .int .i64 y] 53)).drew.cell? ⟨U2.heap.size, 0 + 0 * 2 + 1, none⟩ = (U2.alloc (.cells #[.int .i64 x, .int .i64 y] 53)).cell? ⟨U2.heap.size, 0 + 0 * 2 + 1, none⟩ from rfl, cell_of_row _ U2.heap.size _ _ _ _ hb]; rfl⟩⟩
              have HSP := Lib.hid hsp
              have HBE := Lib.hid hbe
              clear hsp hbe hHeld k0 k1 q0 q1 s0 s1
              go_wp2
              go_ret
              exact Post.good HO.out (GB.out.trans (Gr.of HBE.out)) ⟨some ⟨U2.heap.size, 0, none⟩, 1, [(x, y)], (by rw [hUz]; rfl), HSP.out, fun h => (by cases h), fun a ha => (by cases ha; show W.heap.size ≤ U2.heap.size; have := HWZ.out; omega), fun _ => Iff.rfl, .inl (by simp)⟩ (HRB.out.kept HBE.out)
end Go.Proofs.YtahgljglleeloaaGreatDoor
