/- The reader reads a definition's name. -/
import Derived.Test.YtahgljglleeloaaGreatDoorRClip
import Derived.Test.YtahgljglleeloaaGreatDoorRI
import Derived.Deep.DeepCutAuto
namespace Go.Proofs.YtahgljglleeloaaGreatDoor
open Go.RowKit Go.Shelf Go.Maps SetM PropsM RxM
variable {R : Nat} {W W0 : World} {s : ByteArray} {dv : Value} {rest : List Int} {d : Nat} {cl : Bool}

/-- A definition's node: a row of six cells, the node read as a tree; closed it is another tree. -/
def DefAt (W : World) (g o : Nat) (d : Df) : Prop :=
  ∃ (dn : ByteArray) (k : Int) (sp : Option Addr) (sn sc : Nat) (kp : Option Addr) (kn kc : Nat) (mn mx : Int), bs dn = d.1 ∧ Def6 W g o dn (.int .u8 k) (.slice sp sn sc) (.slice kp kn kc) (.int .i64 mn) (.int .i64 mx) ∧
    sn ≤ sc ∧ kn ≤ kc ∧ (kp = none → kc = 0) ∧ (sp = none → sc = 0) ∧ NV W (fun b => b < W.heap.size) (.agg #[.int .u8 k, .slice sp sn sc, .slice kp kn kc, .int .i64 mn, .int .i64 mx]) d.2.1 ∧
    ∀ W', Below W.heap.size W W' → Cf W' W' → Calls Tryz.prog 89 #[.agg #[.int .u8 k, .slice sp sn sc, .slice kp kn kc, .int .i64 mn, .int .i64 mx]] W' fun e W'' => ∃ v, e = .returned v ∧ NV W'' (Old W.heap.size W'.heap.size) v d.2.2 ∧ Below W'.heap.size W' W''
def DefsIn (W : World) (p : Option Addr) (D : List Df) : Prop :=
  D ≠ [] → ∃ g off, p = some ⟨g, off, none⟩ ∧ g < W.heap.size ∧ ∀ i (hi : i < D.length), DefAt W g (off + i * 6) D[i]
theorem DefsIn.nil (W : World) (p : Option Addr) : DefsIn W p [] := fun h => absurd rfl h
theorem DefsIn.names {W W' : World} {p : Option Addr} {D : List Df} (h : DefsIn W p D) (hb : Below W.heap.size W W') : NamesIn W' p (D.map (·.1)) := fun hne => by
  obtain ⟨g, off, e, hg, hi⟩ := h (by intro e; subst e; exact hne rfl)
  refine ⟨g, off, e, by have := hb.size; omega, fun i hlt => ?_⟩
  rw [List.length_map] at hlt
  obtain ⟨dn, k, sp, sn, sc, kp, kn, kc, mn, mx, e1, e2, _⟩ := hi i hlt
  exact ⟨dn, _, _, _, _, _, by rw [e1, List.getElem_map], e2.below hb hg⟩
theorem run_while (P : Int → Bool) : ∀ (k : Nat) (r : List Int), r.length ≤ k → runF P k r = (r.takeWhile P, r.dropWhile P)
  | 0, r, h => by
    have : r = [] := List.length_eq_zero_iff.1 (by omega)
    subst this; rfl
  | k + 1, [], _ => rfl
  | k + 1, c :: r, h => by
    have ih := run_while P k r (by simpa using h)
    by_cases hc : P c = true
    · simp only [runF, hc, if_true, ih, List.takeWhile_cons, List.dropWhile_cons]
    · simp [runF, hc]
theorem bs_append (a b : ByteArray) : bs (a ++ b) = bs a ++ bs b := by
  unfold bs
  rw [ByteArray.data_append, Array.toList_append, List.map_append]
theorem findF_none {D : List Df} {cl : Bool} {nm : List Int} (h : ∀ d ∈ D.map (·.1), d ≠ nm) : findF D cl nm = none := by
  unfold findF
  have : D.find? (fun d => d.1 == nm) = none := by
    rw [List.find?_eq_none]
    intro d hd e
    exact h d.1 (List.mem_map_of_mem hd) (by simpa using e)
  rw [this]
theorem findF_some {D : List Df} {cl : Bool} {nm : List Int} {k : Nat} (hk : k < D.length) (h1 : (D.map (·.1))[k]? = some nm) (h2 : ∀ j, j < k → (D.map (·.1))[j]? ≠ some nm) : findF D cl nm = some (if cl then D[k].2.2 else D[k].2.1) := by
  unfold findF
  have : D.find? (fun d => d.1 == nm) = some D[k] := by
    rw [List.find?_eq_some_iff_getElem]
    refine ⟨?_, k, hk, rfl, fun j hj => ?_⟩
    · rw [List.getElem?_map, List.getElem?_eq_getElem hk] at h1
      simpa using h1
    · have := h2 j hj
      rw [List.getElem?_map, List.getElem?_eq_getElem (by omega)] at this
      simpa using this
  rw [this]
theorem gr_set1 {R : Nat} {W U : World} (h : Gr R W U) (a : Nat) (x : Value) (ha : W.heap.size ≤ a) : Gr R W (U.setCell ⟨a, 0, none⟩ x) :=
  ⟨h.os, h.tape, h.output, by rw [World.size_setCell]; exact h.size, fun k hk hr => (Below.heap_setCell _ _ _ k (by show k ≠ a; omega)).trans (h.block k hk hr)⟩
theorem Rd.len2 {R : Nat} {W : World} {s : ByteArray} {dv : Value} {rest : List Int} {d : Nat} {cl : Bool} (h : Rd R W s dv rest d cl) : rest.length ≤ s.size := by
  have h1 := h.len
  have : ∀ (r : List Int), (∀ c ∈ r, U.UtfM.Sc c) → r.length ≤ (U.UtfM.wr r).length := by
    intro r hr
    induction r with
    | nil => simp
    | cons c t ih =>
      have := wr_len_pos (hr c (by simp)) t
      have := ih (fun x hx => hr x (by simp [hx]))
      simp only [List.length_cons]; omega
  have := this rest h.sc
  omega
/-- The same node with no room behind its lists. -/
theorem NV.clip {A : Nat → Prop} {k : Int} {sp : Option Addr} {sn sc : Nat} {kp : Option Addr} {kn kc : Nat} {mn mx : Int} {x : Nd} (hsn : sn ≤ sc) (hkn : kn ≤ kc) (h : NV W A (.agg #[.int .u8 k, .slice sp sn sc, .slice kp kn kc, .int .i64 mn, .int .i64 mx]) x) :
    NV W A (.agg #[.int .u8 k, .slice sp sn sn, .slice kp kn kn, .int .i64 mn, .int .i64 mx]) x := by
  obtain ⟨m, hm⟩ := h
  cases m with
  | zero => exact hm.elim
  | succ m =>
    cases x with
    | mk k' K kids mn' mx' =>
      obtain ⟨sp', sl, sc', kp', kc', e, hK, hl, hs, hz, ha, hk0, hk1⟩ := hm
      injection e with e
      simp only [Array.mk.injEq, List.cons.injEq, Value.int.injEq, Value.slice.injEq, and_true, true_and] at e
      obtain ⟨rfl, ⟨rfl, rfl, rfl⟩, ⟨rfl, rfl, rfl⟩, rfl, rfl⟩ := e
      exact ⟨m + 1, sp, sl, sl.length, kp, kids.length, rfl, hK, hl, hs, fun h => by have := hz h; omega, ha, fun h => ⟨(hk0 h).1, by rw [h]; rfl⟩, hk1⟩
set_option maxRecDepth 100000 in
set_option maxHeartbeats 4000000 in
theorem named_c {p : Option Addr} {c : Nat} {D : List Df} {t : List Int} (hD : DefsIn W0 p D) (hl : D.length ≤ 1000) (hC : Cy R W0 W) (h : Rd R W s (.slice p D.length c) (123 :: t) d cl) :
    Calls Tryz.prog 62 #[.pointer (some ⟨R, 0, none⟩)] W (Post R s (.slice p D.length c) d cl W (nodeV W0.heap.size W.heap.size) (namedF D cl (123 :: t) t)) := by
  obtain ⟨o, ho⟩ : ∃ o, o = namedF D cl (123 :: t) t := ⟨_, rfl⟩
  rw [← ho]
  have HO := Lib.hid ho
  have hRl := h.lt
  have hLR := hC.le
  obtain ⟨V, hV⟩ : ∃ V, V = W.alloc (.cells #[.int .u8 0, .slice none 0 0, .slice none 0 0, .int .i64 0, .int .i64 0] 27) := ⟨_, rfl⟩
  have hb0 : Below W.heap.size W V := by rw [hV]; exact (Below.refl W.heap.size W).alloc (Nat.le_refl _) _
  have HZ : Hid (V.heap.size = W.heap.size + 1) := Lib.hid (by rw [hV]; exact World.size_alloc _ _)
  have HB5 : Hid (B5 V W.heap.size) := Lib.hid (by rw [hV]; exact B5.new W _ _ _ _ _)
  have HG0 := Lib.hid (Gr.of (R := R) hb0)
  have HC0 := Lib.hid hC
  have hr0 := h.kept hb0
  have HN := Lib.hid (need1_c 123 123 rfl (by decide) hr0)
  rw [show needF 123 (123 :: t) = .ok () t from rfl] at HN
  have c1 := hr0.c1
  have HDI := Lib.hid hD
  clear h ho hb0 hC hr0 hD
  rw [hV] at c1
  go_enter Tryz.func62, Tryz.ntmps62
  go_wp2_with fail
  rw [← hV]
  refine HN.out.mono ?_
  rintro e w1 ⟨g1, v, rfl, rfl, hr⟩
  have HR := Lib.hid hr
  have G1 := Lib.hid g1
  clear g1 hV hr HN c1
  go_wp2_with fail
  /- the region -/
  cases hsl : sees isL t with
  | false =>
    have HSM : Hid (someF isL 1 t = .err 60 t) := Lib.hid (by unfold someF; rw [run_no 1 hsl, if_pos rfl])
    have hno : o = .err 60 t := by
      rw [HO.out]
      cases t with
      | nil => rfl
      | cons c t' => simp only [sees] at hsl; simp [namedF, hsl]
    have HNO := Lib.hid hno
    clear hsl hno
    obtain ⟨wn, hwn⟩ : ∃ wn, wn = w1.drew := ⟨_, rfl⟩
    have HRc : Hid (Rd R wn s (.slice p D.length c) t d cl) := Lib.hid (by rw [hwn]; exact HR.out.kept (Below.refl _ _).drew)
    have Gc : Hid (Gr R w1 wn) := Lib.hid (by rw [hwn]; exact (Gr.refl R w1).drew)
    have c0 := HRc.out.c0
    refine wp_region_held_drew (S := (fun U => U.cell? ⟨R, 0, none⟩ = some (.string s))) (by kernel_rfl) (by rw [← hwn]; exact c0) (fun hHeld => ?_)
    rw [← hwn]
    clear hwn hHeld
    refine wpAnyH_take (i := 0) (oi := { dst := some 12, op := Op.move (Operand.tmp 0), type := 47, pos := "pattern.go:155", after := #[], guard := none }) (v := ?_) rfl (by kernel_rfl) (by kernel_rfl) (by kernel_rfl) (fun _ _ _ h => h) (Or.inl ⟨by rfl, ?hyq1⟩) (by assumption) ?_
    case hyq1 => (intro ww hSw; (try dsimp only at hSw); first | (go_simp; done) | (go_simp; with_reducible rfl))
    try simp only [Act.put, List.setIfInBounds_toArray, List.set_cons_zero, List.set_cons_succ]
    refine wpAnyH_take (i := 3) (oi := { dst := some 15, op := Op.move (Operand.tmp 0), type := 47, pos := "pattern.go:155", after := #[], guard := none }) (v := ?_) rfl (by kernel_rfl) (by kernel_rfl) (by kernel_rfl) (fun _ _ _ h => h) (Or.inl ⟨by rfl, ?hyq2⟩) (by assumption) ?_
    case hyq2 => (intro ww hSw; (try dsimp only at hSw); first | (go_simp; done) | (go_simp; with_reducible rfl))
    try simp only [Act.put, List.setIfInBounds_toArray, List.set_cons_zero, List.set_cons_succ]
    refine wpAnyH_take (i := 4) (oi := { dst := some 16, op := Op.move (Operand.tmp 0), type := 47, pos := "pattern.go:155", after := #[], guard := none }) (v := ?_) rfl (by kernel_rfl) (by kernel_rfl) (by kernel_rfl) (fun _ _ _ h => h) (Or.inl ⟨by rfl, ?hyq3⟩) (by assumption) ?_
    case hyq3 => (intro ww hSw; (try dsimp only at hSw); first | (go_simp; done) | (go_simp; with_reducible rfl))
    try simp only [Act.put, List.setIfInBounds_toArray, List.set_cons_zero, List.set_cons_succ]
    refine wpAnyH_take (i := 5) (oi := { dst := some 17, op := Op.nilCheck (Operand.tmp 16), type := 0, pos := "pattern.go:155", after := #[{ on := 4, ground := Ground.data }], guard := none }) (v := ?_) rfl (by kernel_rfl) (by kernel_rfl) (by kernel_rfl) (fun _ _ _ h => h) (Or.inl ⟨by rfl, ?hyq4⟩) (by assumption) ?_
    case hyq4 => (intro ww hSw; (try dsimp only at hSw); first | (go_simp; done) | (go_simp; with_reducible rfl))
    try simp only [Act.put, List.setIfInBounds_toArray, List.set_cons_zero, List.set_cons_succ]
    refine wpAnyH_take (i := 6) (oi := { dst := some 18, op := Op.fieldAddr 49 (Operand.tmp 17) 0, type := 0, pos := "pattern.go:155", after := #[{ on := 5, ground := Ground.data }], guard := none }) (v := ?_) rfl (by kernel_rfl) (by kernel_rfl) (by kernel_rfl) (fun _ _ _ h => h) (Or.inl ⟨by rfl, ?hyq5⟩) (by assumption) ?_
    case hyq5 => (intro ww hSw; (try dsimp only at hSw); first | (go_simp; done) | (go_simp; with_reducible rfl))
    try simp only [Act.put, List.setIfInBounds_toArray, List.set_cons_zero, List.set_cons_succ]
    refine wpAnyH_take (i := 7) (oi := { dst := some 19, op := Op.load 9 (Operand.tmp 18), type := 9, pos := "pattern.go:155", after := #[{ on := 6, ground := Ground.data }], guard := none }) (v := ?_) rfl (by kernel_rfl) (by kernel_rfl) (by kernel_rfl) (fun _ _ _ h => h) (Or.inl ⟨by rfl, ?hyq6⟩) (by assumption) ?_
    case hyq6 => (intro ww hSw; (try dsimp only at hSw); first | (go_simp; done) | (go_simp; with_reducible rfl))
    try simp only [Act.put, List.setIfInBounds_toArray, List.set_cons_zero, List.set_cons_succ]
    refine wpAnyH_take (i := 8) (oi := { dst := some 20, op := Op.call { callee := Callee.builtin Builtin.len, args := #[Operand.tmp 19], argTypes := #[9] }, type := 3, pos := "pattern.go:155", after := #[{ on := 7, ground := Ground.data }], guard := none }) (v := ?_) rfl (by kernel_rfl) (by kernel_rfl) (by kernel_rfl) (fun _ _ _ h => h) (Or.inl ⟨by rfl, ?hyq7⟩) (by assumption) ?_
    case hyq7 => (intro ww hSw; (try dsimp only at hSw); first | (go_simp; done) | (go_simp; with_reducible rfl))
    try simp only [Act.put, List.setIfInBounds_toArray, List.set_cons_zero, List.set_cons_succ]
    refine wpAnyH_ready (rs := [1, 15]) (by kernel_rfl) (by simp) ?_
    refine AllReadyH.cons (o := { dst := some 13, op := Op.call { callee := Callee.value (Operand.func 69), args := #[], argTypes := #[] }, type := 86, pos := "pattern.go:155", after := #[], guard := none }) rfl (fun K hK => ?_) ?q8
    · go_simp
      go_at_call 69
      refine (letter_c (R := R) HRc.out.lt).mono ?_
      rintro e wn ⟨v1, rfl, h1, b1⟩
      obtain ⟨g1, lb1, rfl⟩ := h1.form
      have H1 := Lib.hid h1
      have HRc := Lib.hid (HRc.out.kept b1)
      have Gc := Lib.hid (Gc.out.trans (Gr.of b1))
      clear h1 b1
      have c0 := HRc.out.c0
      refine hK.out _ _ (c0) (fun hHeld => ?_)
      clear hK K hHeld
      try simp only [Act.put, List.setIfInBounds_toArray, List.set_cons_zero, List.set_cons_succ]
      refine wpAnyH_ready (rs := [2, 15]) (by kernel_rfl) (by simp) ?_
      refine AllReadyH.cons (o := { dst := some 14, op := Op.call { callee := Callee.value (Operand.func 83), args := #[Operand.tmp 12, Operand.const (Value.int IntKind.i64 1), Operand.tmp 13], argTypes := #[47, 3, 86] }, type := 9, pos := "pattern.go:155", after := #[{ on := 0, ground := Ground.data }, { on := 1, ground := Ground.data }, { on := 1, ground := Ground.chain }], guard := none }) rfl (fun K hK => ?_) ?q9
      · go_simp
        go_at_call 83
        refine (some_c 1 (by decide) _ isL asc_L H1.out HRc.out).mono ?_
        rintro e wn ⟨gs, hs⟩
        rw [HSM.out] at hs
        obtain rfl := hs
        dsimp only
        exact ⟨rfl, Post.bad HNO.out (HG0.out.trans (G1.out.trans (Gc.out.trans gs)))⟩
      refine AllReadyH.cons (o := { dst := some 4, op := Op.alloc 9, type := 0, pos := "pattern.go:155", after := #[], guard := none }) rfl (fun K hK => ?_) ?q10
      · go_simp
        have hba := (Below.refl wn.heap.size wn).alloc (Nat.le_refl _) (.cells #[.string ⟨#[]⟩] 9)
        have HB := Lib.hid (And.intro (heap_alloc_new wn (.cells #[.string ⟨#[]⟩] 9)) (And.intro HRc.out.lt (show w1.heap.size ≤ wn.heap.size from Gc.out.size)))
        have HRc := Lib.hid (HRc.out.kept hba)
        have Gc := Lib.hid (Gc.out.trans (Gr.of hba))
        have H1 := Lib.hid (H1.out.kept (Gr.of hba))
        clear hba
        generalize hnb : wn.heap.size = nb at HB ⊢
        generalize wn.alloc (.cells #[.string ⟨#[]⟩] 9) = wn at *
        clear hnb
        have c0 := HRc.out.c0
        refine hK.out _ _ (c0) (fun hHeld => ?_)
        clear hK K hHeld
        try simp only [Act.put, List.setIfInBounds_toArray, List.set_cons_zero, List.set_cons_succ]
        refine wpAnyH_ready (rs := [2]) (by kernel_rfl) (by simp) ?_
        refine AllReadyH.cons (o := { dst := some 14, op := Op.call { callee := Callee.value (Operand.func 83), args := #[Operand.tmp 12, Operand.const (Value.int IntKind.i64 1), Operand.tmp 13], argTypes := #[47, 3, 86] }, type := 9, pos := "pattern.go:155", after := #[{ on := 0, ground := Ground.data }, { on := 1, ground := Ground.data }, { on := 1, ground := Ground.chain }], guard := none }) rfl (fun K hK => ?_) ?q11
        · go_simp
          go_at_call 83
          refine (some_c 1 (by decide) _ isL asc_L H1.out HRc.out).mono ?_
          rintro e wn ⟨gs, hs⟩
          rw [HSM.out] at hs
          obtain rfl := hs
          dsimp only
          exact ⟨rfl, Post.bad HNO.out (HG0.out.trans (G1.out.trans (Gc.out.trans gs)))⟩
        exact AllReadyH.nil
      exact AllReadyH.nil
    refine AllReadyH.cons (o := { dst := some 4, op := Op.alloc 9, type := 0, pos := "pattern.go:155", after := #[], guard := none }) rfl (fun K hK => ?_) ?q12
    · go_simp
      have hba := (Below.refl wn.heap.size wn).alloc (Nat.le_refl _) (.cells #[.string ⟨#[]⟩] 9)
      have HB := Lib.hid (And.intro (heap_alloc_new wn (.cells #[.string ⟨#[]⟩] 9)) (And.intro HRc.out.lt (show w1.heap.size ≤ wn.heap.size from Gc.out.size)))
      have HRc := Lib.hid (HRc.out.kept hba)
      have Gc := Lib.hid (Gc.out.trans (Gr.of hba))
      clear hba
      generalize hnb : wn.heap.size = nb at HB ⊢
      generalize wn.alloc (.cells #[.string ⟨#[]⟩] 9) = wn at *
      clear hnb
      have c0 := HRc.out.c0
      refine hK.out _ _ (c0) (fun hHeld => ?_)
      clear hK K hHeld
      try simp only [Act.put, List.setIfInBounds_toArray, List.set_cons_zero, List.set_cons_succ]
      refine wpAnyH_ready (rs := [1]) (by kernel_rfl) (by simp) ?_
      refine AllReadyH.cons (o := { dst := some 13, op := Op.call { callee := Callee.value (Operand.func 69), args := #[], argTypes := #[] }, type := 86, pos := "pattern.go:155", after := #[], guard := none }) rfl (fun K hK => ?_) ?q13
      · go_simp
        go_at_call 69
        refine (letter_c (R := R) HRc.out.lt).mono ?_
        rintro e wn ⟨v1, rfl, h1, b1⟩
        obtain ⟨g1, lb1, rfl⟩ := h1.form
        have H1 := Lib.hid h1
        have HRc := Lib.hid (HRc.out.kept b1)
        have Gc := Lib.hid (Gc.out.trans (Gr.of b1))
        have HB := Lib.hid (And.intro ((b1.block _ (Array.getElem?_eq_some_iff.1 HB.out.1).1).trans HB.out.1) HB.out.2)
        clear h1 b1
        have c0 := HRc.out.c0
        refine hK.out _ _ (c0) (fun hHeld => ?_)
        clear hK K hHeld
        try simp only [Act.put, List.setIfInBounds_toArray, List.set_cons_zero, List.set_cons_succ]
        refine wpAnyH_ready (rs := [2]) (by kernel_rfl) (by simp) ?_
        refine AllReadyH.cons (o := { dst := some 14, op := Op.call { callee := Callee.value (Operand.func 83), args := #[Operand.tmp 12, Operand.const (Value.int IntKind.i64 1), Operand.tmp 13], argTypes := #[47, 3, 86] }, type := 9, pos := "pattern.go:155", after := #[{ on := 0, ground := Ground.data }, { on := 1, ground := Ground.data }, { on := 1, ground := Ground.chain }], guard := none }) rfl (fun K hK => ?_) ?q14
        · go_simp
          go_at_call 83
          refine (some_c 1 (by decide) _ isL asc_L H1.out HRc.out).mono ?_
          rintro e wn ⟨gs, hs⟩
          rw [HSM.out] at hs
          obtain rfl := hs
          dsimp only
          exact ⟨rfl, Post.bad HNO.out (HG0.out.trans (G1.out.trans (Gc.out.trans gs)))⟩
        exact AllReadyH.nil
      exact AllReadyH.nil
    exact AllReadyH.nil
  | true =>
    cases t with
    | nil => simp [sees] at hsl
    | cons ch t =>
    have hsl : isL ch = true := hsl
    have HSM : Hid (someF isL 1 (ch :: t) = .ok [ch] t) := Lib.hid (by unfold someF; simp [runF, hsl])
    have HSL := Lib.hid hsl
    have HLT : Hid (t.length ≤ 200) := Lib.hid (by have := HR.out.len2; have := HR.out.small; simp at *; omega)
    have HRW : Hid (runF isLD s.size t = (t.takeWhile isLD, t.dropWhile isLD)) := Lib.hid (run_while _ _ _ (by have := HR.out.len2; simp at this; omega))
    clear hsl
    go_cut [4] (fun s4 wc => ∃ nb nm, s4 = .pointer (some ⟨nb, 0, none⟩) ∧ Hid (bs nm = ch :: t.takeWhile isLD) ∧ Hid (wc.heap[nb]? = some (.cells #[.string nm] 9 (0, 0)) ∧ R < nb) ∧ Hid (Rd R wc s (.slice p D.length c) (t.dropWhile isLD) d cl) ∧ Hid (Gr R w1 wc))
    case first =>
      obtain ⟨wn, hwn⟩ : ∃ wn, wn = w1.drew := ⟨_, rfl⟩
      have HRc : Hid (Rd R wn s (.slice p D.length c) (ch :: t) d cl) := Lib.hid (by rw [hwn]; exact HR.out.kept (Below.refl _ _).drew)
      have Gc : Hid (Gr R w1 wn) := Lib.hid (by rw [hwn]; exact (Gr.refl R w1).drew)
      have c0 := HRc.out.c0
      refine wp_region_held_drew (S := (fun U => U.cell? ⟨R, 0, none⟩ = some (.string s))) (by kernel_rfl) (by rw [← hwn]; exact c0) (fun hHeld => ?_)
      rw [← hwn]
      clear hwn hHeld
      refine wpAnyH_take (i := 0) (oi := { dst := some 12, op := Op.move (Operand.tmp 0), type := 47, pos := "pattern.go:155", after := #[], guard := none }) (v := ?_) rfl (by kernel_rfl) (by kernel_rfl) (by kernel_rfl) (fun _ _ _ h => h) (Or.inl ⟨by rfl, ?hyq15⟩) (by assumption) ?_
      case hyq15 => (intro ww hSw; (try dsimp only at hSw); first | (go_simp; done) | (go_simp; with_reducible rfl))
      try simp only [Act.put, List.setIfInBounds_toArray, List.set_cons_zero, List.set_cons_succ]
      refine wpAnyH_take (i := 3) (oi := { dst := some 15, op := Op.move (Operand.tmp 0), type := 47, pos := "pattern.go:155", after := #[], guard := none }) (v := ?_) rfl (by kernel_rfl) (by kernel_rfl) (by kernel_rfl) (fun _ _ _ h => h) (Or.inl ⟨by rfl, ?hyq16⟩) (by assumption) ?_
      case hyq16 => (intro ww hSw; (try dsimp only at hSw); first | (go_simp; done) | (go_simp; with_reducible rfl))
      try simp only [Act.put, List.setIfInBounds_toArray, List.set_cons_zero, List.set_cons_succ]
      refine wpAnyH_take (i := 4) (oi := { dst := some 16, op := Op.move (Operand.tmp 0), type := 47, pos := "pattern.go:155", after := #[], guard := none }) (v := ?_) rfl (by kernel_rfl) (by kernel_rfl) (by kernel_rfl) (fun _ _ _ h => h) (Or.inl ⟨by rfl, ?hyq17⟩) (by assumption) ?_
      case hyq17 => (intro ww hSw; (try dsimp only at hSw); first | (go_simp; done) | (go_simp; with_reducible rfl))
      try simp only [Act.put, List.setIfInBounds_toArray, List.set_cons_zero, List.set_cons_succ]
      refine wpAnyH_take (i := 5) (oi := { dst := some 17, op := Op.nilCheck (Operand.tmp 16), type := 0, pos := "pattern.go:155", after := #[{ on := 4, ground := Ground.data }], guard := none }) (v := ?_) rfl (by kernel_rfl) (by kernel_rfl) (by kernel_rfl) (fun _ _ _ h => h) (Or.inl ⟨by rfl, ?hyq18⟩) (by assumption) ?_
      case hyq18 => (intro ww hSw; (try dsimp only at hSw); first | (go_simp; done) | (go_simp; with_reducible rfl))
      try simp only [Act.put, List.setIfInBounds_toArray, List.set_cons_zero, List.set_cons_succ]
      refine wpAnyH_take (i := 6) (oi := { dst := some 18, op := Op.fieldAddr 49 (Operand.tmp 17) 0, type := 0, pos := "pattern.go:155", after := #[{ on := 5, ground := Ground.data }], guard := none }) (v := ?_) rfl (by kernel_rfl) (by kernel_rfl) (by kernel_rfl) (fun _ _ _ h => h) (Or.inl ⟨by rfl, ?hyq19⟩) (by assumption) ?_
      case hyq19 => (intro ww hSw; (try dsimp only at hSw); first | (go_simp; done) | (go_simp; with_reducible rfl))
      try simp only [Act.put, List.setIfInBounds_toArray, List.set_cons_zero, List.set_cons_succ]
      refine wpAnyH_take (i := 7) (oi := { dst := some 19, op := Op.load 9 (Operand.tmp 18), type := 9, pos := "pattern.go:155", after := #[{ on := 6, ground := Ground.data }], guard := none }) (v := ?_) rfl (by kernel_rfl) (by kernel_rfl) (by kernel_rfl) (fun _ _ _ h => h) (Or.inl ⟨by rfl, ?hyq20⟩) (by assumption) ?_
      case hyq20 => (intro ww hSw; (try dsimp only at hSw); first | (go_simp; done) | (go_simp; with_reducible rfl))
      try simp only [Act.put, List.setIfInBounds_toArray, List.set_cons_zero, List.set_cons_succ]
      refine wpAnyH_take (i := 8) (oi := { dst := some 20, op := Op.call { callee := Callee.builtin Builtin.len, args := #[Operand.tmp 19], argTypes := #[9] }, type := 3, pos := "pattern.go:155", after := #[{ on := 7, ground := Ground.data }], guard := none }) (v := ?_) rfl (by kernel_rfl) (by kernel_rfl) (by kernel_rfl) (fun _ _ _ h => h) (Or.inl ⟨by rfl, ?hyq21⟩) (by assumption) ?_
      case hyq21 => (intro ww hSw; (try dsimp only at hSw); first | (go_simp; done) | (go_simp; with_reducible rfl))
      try simp only [Act.put, List.setIfInBounds_toArray, List.set_cons_zero, List.set_cons_succ]
      refine wpAnyH_ready (rs := [1, 15]) (by kernel_rfl) (by simp) ?_
      refine AllReadyH.cons (o := { dst := some 13, op := Op.call { callee := Callee.value (Operand.func 69), args := #[], argTypes := #[] }, type := 86, pos := "pattern.go:155", after := #[], guard := none }) rfl (fun K hK => ?_) ?q22
      · go_simp
        go_at_call 69
        refine (letter_c (R := R) HRc.out.lt).mono ?_
        rintro e wn ⟨v1, rfl, h1, b1⟩
        obtain ⟨g1, lb1, rfl⟩ := h1.form
        have H1 := Lib.hid h1
        have HRc := Lib.hid (HRc.out.kept b1)
        have Gc := Lib.hid (Gc.out.trans (Gr.of b1))
        clear h1 b1
        have c0 := HRc.out.c0
        refine hK.out _ _ (c0) (fun hHeld => ?_)
        clear hK K hHeld
        try simp only [Act.put, List.setIfInBounds_toArray, List.set_cons_zero, List.set_cons_succ]
        refine wpAnyH_ready (rs := [2, 15]) (by kernel_rfl) (by simp) ?_
        refine AllReadyH.cons (o := { dst := some 14, op := Op.call { callee := Callee.value (Operand.func 83), args := #[Operand.tmp 12, Operand.const (Value.int IntKind.i64 1), Operand.tmp 13], argTypes := #[47, 3, 86] }, type := 9, pos := "pattern.go:155", after := #[{ on := 0, ground := Ground.data }, { on := 1, ground := Ground.data }, { on := 1, ground := Ground.chain }], guard := none }) rfl (fun K hK => ?_) ?q23
        · go_simp
          go_at_call 83
          refine (some_c 1 (by decide) _ isL asc_L H1.out HRc.out).mono ?_
          rintro e wn ⟨gs, hs⟩
          rw [HSM.out] at hs
          obtain ⟨vs, rfl, ⟨ts, rfl, hts⟩, hrs⟩ := hs
          have HTS := Lib.hid hts
          have HRc := Lib.hid hrs
          have Gc := Lib.hid (Gc.out.trans gs)
          clear hts hrs gs H1
          have c0 := HRc.out.c0
          refine hK.out _ _ (c0) (fun hHeld => ?_)
          clear hK K hHeld
          try simp only [Act.put, List.setIfInBounds_toArray, List.set_cons_zero, List.set_cons_succ]
          refine wpAnyH_ready (rs := [9, 15]) (by kernel_rfl) (by simp) ?_
          refine AllReadyH.cons (o := { dst := some 21, op := Op.call { callee := Callee.value (Operand.func 69), args := #[], argTypes := #[] }, type := 86, pos := "pattern.go:155", after := #[{ on := 2, ground := Ground.chain }], guard := none }) rfl (fun K hK => ?_) ?q24
          · go_simp
            go_at_call 69
            refine (letter_c (R := R) HRc.out.lt).mono ?_
            rintro e wn ⟨v1, rfl, h1, b1⟩
            obtain ⟨g1, lb1, rfl⟩ := h1.form
            have H1 := Lib.hid h1
            have HRc := Lib.hid (HRc.out.kept b1)
            have Gc := Lib.hid (Gc.out.trans (Gr.of b1))
            clear h1 b1
            have c0 := HRc.out.c0
            refine hK.out _ _ (c0) (fun hHeld => ?_)
            clear hK K hHeld
            try simp only [Act.put, List.setIfInBounds_toArray, List.set_cons_zero, List.set_cons_succ]
            refine wpAnyH_ready (rs := [10, 15]) (by kernel_rfl) (by simp) ?_
            refine AllReadyH.cons (o := { dst := some 22, op := Op.call { callee := Callee.value (Operand.func 86), args := #[], argTypes := #[] }, type := 86, pos := "pattern.go:155", after := #[{ on := 9, ground := Ground.chain }], guard := none }) rfl (fun K hK => ?_) ?q25
            · go_simp
              go_at_call 86
              refine (digit_c (R := R) HRc.out.lt).mono ?_
              rintro e wn ⟨v2, rfl, h2, b2⟩
              obtain ⟨g2, lb2, rfl⟩ := h2.form
              have H2 := Lib.hid h2
              have HRc := Lib.hid (HRc.out.kept b2)
              have Gc := Lib.hid (Gc.out.trans (Gr.of b2))
              have H1 := Lib.hid (H1.out.kept (Gr.of b2))
              clear h2 b2
              have c0 := HRc.out.c0
              refine hK.out _ _ (c0) (fun hHeld => ?_)
              clear hK K hHeld
              try simp only [Act.put, List.setIfInBounds_toArray, List.set_cons_zero, List.set_cons_succ]
              refine wpAnyH_ready (rs := [11, 15]) (by kernel_rfl) (by simp) ?_
              refine AllReadyH.cons (o := { dst := some 23, op := Op.buildSlice 120 2 #[(0, Operand.tmp 21), (1, Operand.tmp 22)], type := 120, pos := "pattern.go:155", after := #[{ on := 9, ground := Ground.data }, { on := 10, ground := Ground.data }], guard := none }) rfl (fun K hK => ?_) ?q26
              · go_simp
                have hba := (Below.refl wn.heap.size wn).alloc (Nat.le_refl _) (.cells #[.func (.func g1) #[] lb1, .func (.func g2) #[] lb2] 86)
                have HAM := Lib.hid (And.intro (amL2 H1.out H2.out 86) (And.intro (show wn.heap.size < (wn.alloc (.cells #[.func (.func g1) #[] lb1, .func (.func g2) #[] lb2] 86)).heap.size by rw [World.size_alloc]; omega) (show wn.heap.size ≠ R by have := HRc.out.lt; omega)))
                have HRc := Lib.hid (HRc.out.kept hba)
                have Gc := Lib.hid (Gc.out.trans (Gr.of hba))
                clear hba H1 H2
                generalize wn.alloc (.cells #[.func (.func g1) #[] lb1, .func (.func g2) #[] lb2] 86) = wn at *
                have c0 := HRc.out.c0
                refine hK.out _ _ (c0) (fun hHeld => ?_)
                clear hK K hHeld
                try simp only [Act.put, List.setIfInBounds_toArray, List.set_cons_zero, List.set_cons_succ]
                refine wpAnyH_ready (rs := [12, 15]) (by kernel_rfl) (by simp) ?_
                refine AllReadyH.cons (o := { dst := some 24, op := Op.call { callee := Callee.value (Operand.func 85), args := #[Operand.tmp 23], argTypes := #[120] }, type := 86, pos := "pattern.go:155", after := #[{ on := 11, ground := Ground.data }, { on := 10, ground := Ground.chain }], guard := none }) rfl (fun K hK => ?_) ?q27
                · go_simp
                  go_at_call 85
                  refine (either_c R _ 2 [isL, isD] (by decide) _ HAM.out.1 HAM.out.2.1 HAM.out.2.2 HRc.out.lt).mono ?_
                  rintro e wn ⟨v3, rfl, h3, b3⟩
                  have h3 := h3.congr (Q := isLD) (fun b _ _ => by simp [isLD])
                  obtain ⟨g3, lb3, rfl⟩ := h3.form
                  have HV := Lib.hid h3
                  have HRc := Lib.hid (HRc.out.kept b3)
                  have Gc := Lib.hid (Gc.out.trans (Gr.of b3))
                  clear h3 b3 HAM
                  have c0 := HRc.out.c0
                  refine hK.out _ _ (c0) (fun hHeld => ?_)
                  clear hK K hHeld
                  try simp only [Act.put, List.setIfInBounds_toArray, List.set_cons_zero, List.set_cons_succ]
                  refine wpAnyH_ready (rs := [13, 15]) (by kernel_rfl) (by simp) ?_
                  refine AllReadyH.cons (o := { dst := some 25, op := Op.call { callee := Callee.value (Operand.func 84), args := #[Operand.tmp 15, Operand.tmp 20, Operand.tmp 24], argTypes := #[47, 3, 86] }, type := 9, pos := "pattern.go:155", after := #[{ on := 3, ground := Ground.data }, { on := 8, ground := Ground.data }, { on := 12, ground := Ground.data }, { on := 12, ground := Ground.chain }], guard := none }) rfl (fun K hK => ?_) ?q28
                  · go_simp
                    go_at_call 84
                    refine (run_c s.size (by have := HRc.out.small; omega) _ isLD asc_LD HV.out HRc.out).mono ?_
                    rintro e wn ⟨tr, rfl, htr, hrr, gr⟩
                    have HTR := Lib.hid htr
                    have HRc := Lib.hid hrr
                    have Gc := Lib.hid (Gc.out.trans gr)
                    have hsum : ¬ 9223372036854775807 < ts.size + tr.size := by have h1 := bs_len ts; rw [HTS.out] at h1; have h2 := bs_len tr; rw [HTR.out] at h2; have h4 := run_len isLD s.size t; have h5 := HLT.out; simp at h1; omega
                    clear htr hrr gr HV
                    have c0 := HRc.out.c0
                    refine hK.out _ _ (c0) (fun hHeld => ?_)
                    clear hK K hHeld
                    try simp only [Act.put, List.setIfInBounds_toArray, List.set_cons_zero, List.set_cons_succ]
                    refine wpAnyH_take (i := 14) (oi := { dst := some 26, op := Op.binOp BinOp.add 9 (Operand.tmp 14) (Operand.tmp 25) 9, type := 9, pos := "pattern.go:155", after := #[{ on := 2, ground := Ground.data }, { on := 13, ground := Ground.data }], guard := none }) (v := ?_) rfl (by kernel_rfl) (by kernel_rfl) (by kernel_rfl) (fun _ _ _ h => h) (Or.inl ⟨by rfl, ?hyq29⟩) (by assumption) ?_
                    case hyq29 => (intro ww hSw; (try dsimp only at hSw); first | (go_simp; done) | (go_simp; with_reducible rfl))
                    try simp only [Act.put, List.setIfInBounds_toArray, List.set_cons_zero, List.set_cons_succ]
                    refine wpAnyH_ready (rs := [15]) (by kernel_rfl) (by simp) ?_
                    refine AllReadyH.cons (o := { dst := some 4, op := Op.alloc 9, type := 0, pos := "pattern.go:155", after := #[], guard := none }) rfl (fun K hK => ?_) ?q30
                    · go_simp
                      have hba := (Below.refl wn.heap.size wn).alloc (Nat.le_refl _) (.cells #[.string ⟨#[]⟩] 9)
                      have HB := Lib.hid (And.intro (heap_alloc_new wn (.cells #[.string ⟨#[]⟩] 9)) (And.intro HRc.out.lt (show w1.heap.size ≤ wn.heap.size from Gc.out.size)))
                      have HRc := Lib.hid (HRc.out.kept hba)
                      have Gc := Lib.hid (Gc.out.trans (Gr.of hba))
                      clear hba
                      generalize hnb : wn.heap.size = nb at HB ⊢
                      generalize wn.alloc (.cells #[.string ⟨#[]⟩] 9) = wn at *
                      clear hnb
                      have c0 := HRc.out.c0
                      refine hK.out _ _ (c0) (fun hHeld => ?_)
                      clear hK K hHeld
                      try simp only [Act.put, List.setIfInBounds_toArray, List.set_cons_zero, List.set_cons_succ]
                      have hB16 := HB.out.1
                      have n0 : wn.cell? ⟨nb, 0, none⟩ = some (.string ⟨#[]⟩) := cell_of_row wn nb 0 _ _ _ hB16
                      have nz : wn.frozen? ⟨nb, 0, none⟩ = false := by simp [World.frozen?, hB16]
                      clear hB16
                      refine wpAnyH_ready (rs := [16]) (by kernel_rfl) (by simp) ?_
                      refine AllReadyH.cons (o := { dst := none, op := Op.store 9 (Operand.tmp 4) (Operand.tmp 26), type := 0, pos := "pattern.go:155", after := #[{ on := 15, ground := Ground.data }, { on := 14, ground := Ground.data }, { on := 13, ground := Ground.chain }, { on := 0, ground := Ground.phase }, { on := 1, ground := Ground.phase }, { on := 2, ground := Ground.phase }, { on := 3, ground := Ground.phase }, { on := 4, ground := Ground.phase }, { on := 5, ground := Ground.phase }, { on := 6, ground := Ground.phase }, { on := 7, ground := Ground.phase }, { on := 8, ground := Ground.phase }, { on := 9, ground := Ground.phase }, { on := 10, ground := Ground.phase }, { on := 11, ground := Ground.phase }, { on := 12, ground := Ground.phase }, { on := 13, ground := Ground.phase }, { on := 14, ground := Ground.phase }, { on := 15, ground := Ground.phase }], guard := none }) rfl (fun K hK => ?_) AllReadyH.nil
                      go_simp
                      have HRs : Hid (Rd R (wn.setCell ⟨nb, 0, none⟩ (.string (ts ++ tr))) s (.slice p D.length c) (runF isLD s.size t).2 d cl) := Lib.hid ⟨(Below.heap_setCell wn ⟨nb, 0, none⟩ _ R (by show R ≠ nb; have := HB.out.2.1; omega)).trans HRc.out.blk, HRc.out.tl, HRc.out.sc, HRc.out.small⟩
                      have GS : Hid (Gr R w1 (wn.setCell ⟨nb, 0, none⟩ (.string (ts ++ tr)))) := Lib.hid (gr_set1 Gc.out nb _ HB.out.2.2)
                      have HBS := Lib.hid (heap_setR wn nb _ _ HB.out.1 0 (.string (ts ++ tr)))
                      have c0 := HRs.out.c0
                      refine hK.out _ _ (c0) (fun hHeld => ?_)
                      clear hK K hHeld c0 n0 nz
                      try simp only [Act.put, List.setIfInBounds_toArray, List.set_cons_zero, List.set_cons_succ]
                      have HLN : Hid (bs (ts ++ tr) = ch :: t.takeWhile isLD) := Lib.hid (by rw [bs_append, HTS.out, HTR.out, HRW.out]; rfl)
                      rw [HRW.out] at HRs
                      have HBZ := Lib.hid (And.intro HBS.out HB.out.2.1)
                      generalize wn.setCell ⟨nb, 0, none⟩ (.string (ts ++ tr)) = wn at *
                      refine wpAnyH_done (by kernel_rfl) ?_ _
                      go_wp2
                      go_meet
                      exact ⟨nb, ts ++ tr, rfl, HLN, HBZ, HRs, GS⟩
                    exact AllReadyH.nil
                  refine AllReadyH.cons (o := { dst := some 4, op := Op.alloc 9, type := 0, pos := "pattern.go:155", after := #[], guard := none }) rfl (fun K hK => ?_) ?q31
                  · go_simp
                    have hba := (Below.refl wn.heap.size wn).alloc (Nat.le_refl _) (.cells #[.string ⟨#[]⟩] 9)
                    have HB := Lib.hid (And.intro (heap_alloc_new wn (.cells #[.string ⟨#[]⟩] 9)) (And.intro HRc.out.lt (show w1.heap.size ≤ wn.heap.size from Gc.out.size)))
                    have HRc := Lib.hid (HRc.out.kept hba)
                    have Gc := Lib.hid (Gc.out.trans (Gr.of hba))
                    have HV := Lib.hid (HV.out.kept (Gr.of hba))
                    clear hba
                    generalize hnb : wn.heap.size = nb at HB ⊢
                    generalize wn.alloc (.cells #[.string ⟨#[]⟩] 9) = wn at *
                    clear hnb
                    have c0 := HRc.out.c0
                    refine hK.out _ _ (c0) (fun hHeld => ?_)
                    clear hK K hHeld
                    try simp only [Act.put, List.setIfInBounds_toArray, List.set_cons_zero, List.set_cons_succ]
                    refine wpAnyH_ready (rs := [13]) (by kernel_rfl) (by simp) ?_
                    refine AllReadyH.cons (o := { dst := some 25, op := Op.call { callee := Callee.value (Operand.func 84), args := #[Operand.tmp 15, Operand.tmp 20, Operand.tmp 24], argTypes := #[47, 3, 86] }, type := 9, pos := "pattern.go:155", after := #[{ on := 3, ground := Ground.data }, { on := 8, ground := Ground.data }, { on := 12, ground := Ground.data }, { on := 12, ground := Ground.chain }], guard := none }) rfl (fun K hK => ?_) ?q32
                    · go_simp
                      go_at_call 84
                      refine (run_c s.size (by have := HRc.out.small; omega) _ isLD asc_LD HV.out HRc.out).mono ?_
                      rintro e wn ⟨tr, rfl, htr, hrr, gr⟩
                      have HTR := Lib.hid htr
                      have HRc := Lib.hid hrr
                      have Gc := Lib.hid (Gc.out.trans gr)
                      have HB := Lib.hid (And.intro ((gr.block _ (Array.getElem?_eq_some_iff.1 HB.out.1).1 (by intro e; have := HB.out.2; have e := Option.some.inj e; omega)).trans HB.out.1) HB.out.2)
                      have hsum : ¬ 9223372036854775807 < ts.size + tr.size := by have h1 := bs_len ts; rw [HTS.out] at h1; have h2 := bs_len tr; rw [HTR.out] at h2; have h4 := run_len isLD s.size t; have h5 := HLT.out; simp at h1; omega
                      clear htr hrr gr HV
                      have c0 := HRc.out.c0
                      refine hK.out _ _ (c0) (fun hHeld => ?_)
                      clear hK K hHeld
                      try simp only [Act.put, List.setIfInBounds_toArray, List.set_cons_zero, List.set_cons_succ]
                      refine wpAnyH_take (i := 14) (oi := { dst := some 26, op := Op.binOp BinOp.add 9 (Operand.tmp 14) (Operand.tmp 25) 9, type := 9, pos := "pattern.go:155", after := #[{ on := 2, ground := Ground.data }, { on := 13, ground := Ground.data }], guard := none }) (v := ?_) rfl (by kernel_rfl) (by kernel_rfl) (by kernel_rfl) (fun _ _ _ h => h) (Or.inl ⟨by rfl, ?hyq33⟩) (by assumption) ?_
                      case hyq33 => (intro ww hSw; (try dsimp only at hSw); first | (go_simp; done) | (go_simp; with_reducible rfl))
                      try simp only [Act.put, List.setIfInBounds_toArray, List.set_cons_zero, List.set_cons_succ]
                      have hB16 := HB.out.1
                      have n0 : wn.cell? ⟨nb, 0, none⟩ = some (.string ⟨#[]⟩) := cell_of_row wn nb 0 _ _ _ hB16
                      have nz : wn.frozen? ⟨nb, 0, none⟩ = false := by simp [World.frozen?, hB16]
                      clear hB16
                      refine wpAnyH_ready (rs := [16]) (by kernel_rfl) (by simp) ?_
                      refine AllReadyH.cons (o := { dst := none, op := Op.store 9 (Operand.tmp 4) (Operand.tmp 26), type := 0, pos := "pattern.go:155", after := #[{ on := 15, ground := Ground.data }, { on := 14, ground := Ground.data }, { on := 13, ground := Ground.chain }, { on := 0, ground := Ground.phase }, { on := 1, ground := Ground.phase }, { on := 2, ground := Ground.phase }, { on := 3, ground := Ground.phase }, { on := 4, ground := Ground.phase }, { on := 5, ground := Ground.phase }, { on := 6, ground := Ground.phase }, { on := 7, ground := Ground.phase }, { on := 8, ground := Ground.phase }, { on := 9, ground := Ground.phase }, { on := 10, ground := Ground.phase }, { on := 11, ground := Ground.phase }, { on := 12, ground := Ground.phase }, { on := 13, ground := Ground.phase }, { on := 14, ground := Ground.phase }, { on := 15, ground := Ground.phase }], guard := none }) rfl (fun K hK => ?_) AllReadyH.nil
                      go_simp
                      have HRs : Hid (Rd R (wn.setCell ⟨nb, 0, none⟩ (.string (ts ++ tr))) s (.slice p D.length c) (runF isLD s.size t).2 d cl) := Lib.hid ⟨(Below.heap_setCell wn ⟨nb, 0, none⟩ _ R (by show R ≠ nb; have := HB.out.2.1; omega)).trans HRc.out.blk, HRc.out.tl, HRc.out.sc, HRc.out.small⟩
                      have GS : Hid (Gr R w1 (wn.setCell ⟨nb, 0, none⟩ (.string (ts ++ tr)))) := Lib.hid (gr_set1 Gc.out nb _ HB.out.2.2)
                      have HBS := Lib.hid (heap_setR wn nb _ _ HB.out.1 0 (.string (ts ++ tr)))
                      have c0 := HRs.out.c0
                      refine hK.out _ _ (c0) (fun hHeld => ?_)
                      clear hK K hHeld c0 n0 nz
                      try simp only [Act.put, List.setIfInBounds_toArray, List.set_cons_zero, List.set_cons_succ]
                      have HLN : Hid (bs (ts ++ tr) = ch :: t.takeWhile isLD) := Lib.hid (by rw [bs_append, HTS.out, HTR.out, HRW.out]; rfl)
                      rw [HRW.out] at HRs
                      have HBZ := Lib.hid (And.intro HBS.out HB.out.2.1)
                      generalize wn.setCell ⟨nb, 0, none⟩ (.string (ts ++ tr)) = wn at *
                      refine wpAnyH_done (by kernel_rfl) ?_ _
                      go_wp2
                      go_meet
                      exact ⟨nb, ts ++ tr, rfl, HLN, HBZ, HRs, GS⟩
                    exact AllReadyH.nil
                  exact AllReadyH.nil
                refine AllReadyH.cons (o := { dst := some 4, op := Op.alloc 9, type := 0, pos := "pattern.go:155", after := #[], guard := none }) rfl (fun K hK => ?_) ?q34
                · go_simp
                  have hba := (Below.refl wn.heap.size wn).alloc (Nat.le_refl _) (.cells #[.string ⟨#[]⟩] 9)
                  have HB := Lib.hid (And.intro (heap_alloc_new wn (.cells #[.string ⟨#[]⟩] 9)) (And.intro HRc.out.lt (show w1.heap.size ≤ wn.heap.size from Gc.out.size)))
                  have HRc := Lib.hid (HRc.out.kept hba)
                  have Gc := Lib.hid (Gc.out.trans (Gr.of hba))
                  have HAM := Lib.hid (And.intro (HAM.out.1.kept HAM.out.2.1 hba) (And.intro (Nat.lt_of_lt_of_le HAM.out.2.1 hba.size) HAM.out.2.2))
                  clear hba
                  generalize hnb : wn.heap.size = nb at HB ⊢
                  generalize wn.alloc (.cells #[.string ⟨#[]⟩] 9) = wn at *
                  clear hnb
                  have c0 := HRc.out.c0
                  refine hK.out _ _ (c0) (fun hHeld => ?_)
                  clear hK K hHeld
                  try simp only [Act.put, List.setIfInBounds_toArray, List.set_cons_zero, List.set_cons_succ]
                  refine wpAnyH_ready (rs := [12]) (by kernel_rfl) (by simp) ?_
                  refine AllReadyH.cons (o := { dst := some 24, op := Op.call { callee := Callee.value (Operand.func 85), args := #[Operand.tmp 23], argTypes := #[120] }, type := 86, pos := "pattern.go:155", after := #[{ on := 11, ground := Ground.data }, { on := 10, ground := Ground.chain }], guard := none }) rfl (fun K hK => ?_) ?q35
                  · go_simp
                    go_at_call 85
                    refine (either_c R _ 2 [isL, isD] (by decide) _ HAM.out.1 HAM.out.2.1 HAM.out.2.2 HRc.out.lt).mono ?_
                    rintro e wn ⟨v3, rfl, h3, b3⟩
                    have h3 := h3.congr (Q := isLD) (fun b _ _ => by simp [isLD])
                    obtain ⟨g3, lb3, rfl⟩ := h3.form
                    have HV := Lib.hid h3
                    have HRc := Lib.hid (HRc.out.kept b3)
                    have Gc := Lib.hid (Gc.out.trans (Gr.of b3))
                    have HB := Lib.hid (And.intro ((b3.block _ (Array.getElem?_eq_some_iff.1 HB.out.1).1).trans HB.out.1) HB.out.2)
                    clear h3 b3 HAM
                    have c0 := HRc.out.c0
                    refine hK.out _ _ (c0) (fun hHeld => ?_)
                    clear hK K hHeld
                    try simp only [Act.put, List.setIfInBounds_toArray, List.set_cons_zero, List.set_cons_succ]
                    refine wpAnyH_ready (rs := [13]) (by kernel_rfl) (by simp) ?_
                    refine AllReadyH.cons (o := { dst := some 25, op := Op.call { callee := Callee.value (Operand.func 84), args := #[Operand.tmp 15, Operand.tmp 20, Operand.tmp 24], argTypes := #[47, 3, 86] }, type := 9, pos := "pattern.go:155", after := #[{ on := 3, ground := Ground.data }, { on := 8, ground := Ground.data }, { on := 12, ground := Ground.data }, { on := 12, ground := Ground.chain }], guard := none }) rfl (fun K hK => ?_) ?q36
                    · go_simp
                      go_at_call 84
                      refine (run_c s.size (by have := HRc.out.small; omega) _ isLD asc_LD HV.out HRc.out).mono ?_
                      rintro e wn ⟨tr, rfl, htr, hrr, gr⟩
                      have HTR := Lib.hid htr
                      have HRc := Lib.hid hrr
                      have Gc := Lib.hid (Gc.out.trans gr)
                      have HB := Lib.hid (And.intro ((gr.block _ (Array.getElem?_eq_some_iff.1 HB.out.1).1 (by intro e; have := HB.out.2; have e := Option.some.inj e; omega)).trans HB.out.1) HB.out.2)
                      have hsum : ¬ 9223372036854775807 < ts.size + tr.size := by have h1 := bs_len ts; rw [HTS.out] at h1; have h2 := bs_len tr; rw [HTR.out] at h2; have h4 := run_len isLD s.size t; have h5 := HLT.out; simp at h1; omega
                      clear htr hrr gr HV
                      have c0 := HRc.out.c0
                      refine hK.out _ _ (c0) (fun hHeld => ?_)
                      clear hK K hHeld
                      try simp only [Act.put, List.setIfInBounds_toArray, List.set_cons_zero, List.set_cons_succ]
                      refine wpAnyH_take (i := 14) (oi := { dst := some 26, op := Op.binOp BinOp.add 9 (Operand.tmp 14) (Operand.tmp 25) 9, type := 9, pos := "pattern.go:155", after := #[{ on := 2, ground := Ground.data }, { on := 13, ground := Ground.data }], guard := none }) (v := ?_) rfl (by kernel_rfl) (by kernel_rfl) (by kernel_rfl) (fun _ _ _ h => h) (Or.inl ⟨by rfl, ?hyq37⟩) (by assumption) ?_
                      case hyq37 => (intro ww hSw; (try dsimp only at hSw); first | (go_simp; done) | (go_simp; with_reducible rfl))
                      try simp only [Act.put, List.setIfInBounds_toArray, List.set_cons_zero, List.set_cons_succ]
                      have hB16 := HB.out.1
                      have n0 : wn.cell? ⟨nb, 0, none⟩ = some (.string ⟨#[]⟩) := cell_of_row wn nb 0 _ _ _ hB16
                      have nz : wn.frozen? ⟨nb, 0, none⟩ = false := by simp [World.frozen?, hB16]
                      clear hB16
                      refine wpAnyH_ready (rs := [16]) (by kernel_rfl) (by simp) ?_
                      refine AllReadyH.cons (o := { dst := none, op := Op.store 9 (Operand.tmp 4) (Operand.tmp 26), type := 0, pos := "pattern.go:155", after := #[{ on := 15, ground := Ground.data }, { on := 14, ground := Ground.data }, { on := 13, ground := Ground.chain }, { on := 0, ground := Ground.phase }, { on := 1, ground := Ground.phase }, { on := 2, ground := Ground.phase }, { on := 3, ground := Ground.phase }, { on := 4, ground := Ground.phase }, { on := 5, ground := Ground.phase }, { on := 6, ground := Ground.phase }, { on := 7, ground := Ground.phase }, { on := 8, ground := Ground.phase }, { on := 9, ground := Ground.phase }, { on := 10, ground := Ground.phase }, { on := 11, ground := Ground.phase }, { on := 12, ground := Ground.phase }, { on := 13, ground := Ground.phase }, { on := 14, ground := Ground.phase }, { on := 15, ground := Ground.phase }], guard := none }) rfl (fun K hK => ?_) AllReadyH.nil
                      go_simp
                      have HRs : Hid (Rd R (wn.setCell ⟨nb, 0, none⟩ (.string (ts ++ tr))) s (.slice p D.length c) (runF isLD s.size t).2 d cl) := Lib.hid ⟨(Below.heap_setCell wn ⟨nb, 0, none⟩ _ R (by show R ≠ nb; have := HB.out.2.1; omega)).trans HRc.out.blk, HRc.out.tl, HRc.out.sc, HRc.out.small⟩
                      have GS : Hid (Gr R w1 (wn.setCell ⟨nb, 0, none⟩ (.string (ts ++ tr)))) := Lib.hid (gr_set1 Gc.out nb _ HB.out.2.2)
                      have HBS := Lib.hid (heap_setR wn nb _ _ HB.out.1 0 (.string (ts ++ tr)))
                      have c0 := HRs.out.c0
                      refine hK.out _ _ (c0) (fun hHeld => ?_)
                      clear hK K hHeld c0 n0 nz
                      try simp only [Act.put, List.setIfInBounds_toArray, List.set_cons_zero, List.set_cons_succ]
                      have HLN : Hid (bs (ts ++ tr) = ch :: t.takeWhile isLD) := Lib.hid (by rw [bs_append, HTS.out, HTR.out, HRW.out]; rfl)
                      rw [HRW.out] at HRs
                      have HBZ := Lib.hid (And.intro HBS.out HB.out.2.1)
                      generalize wn.setCell ⟨nb, 0, none⟩ (.string (ts ++ tr)) = wn at *
                      refine wpAnyH_done (by kernel_rfl) ?_ _
                      go_wp2
                      go_meet
                      exact ⟨nb, ts ++ tr, rfl, HLN, HBZ, HRs, GS⟩
                    exact AllReadyH.nil
                  exact AllReadyH.nil
                exact AllReadyH.nil
              refine AllReadyH.cons (o := { dst := some 4, op := Op.alloc 9, type := 0, pos := "pattern.go:155", after := #[], guard := none }) rfl (fun K hK => ?_) ?q38
              · go_simp
                have hba := (Below.refl wn.heap.size wn).alloc (Nat.le_refl _) (.cells #[.string ⟨#[]⟩] 9)
                have HB := Lib.hid (And.intro (heap_alloc_new wn (.cells #[.string ⟨#[]⟩] 9)) (And.intro HRc.out.lt (show w1.heap.size ≤ wn.heap.size from Gc.out.size)))
                have HRc := Lib.hid (HRc.out.kept hba)
                have Gc := Lib.hid (Gc.out.trans (Gr.of hba))
                have H1 := Lib.hid (H1.out.kept (Gr.of hba))
                have H2 := Lib.hid (H2.out.kept (Gr.of hba))
                clear hba
                generalize hnb : wn.heap.size = nb at HB ⊢
                generalize wn.alloc (.cells #[.string ⟨#[]⟩] 9) = wn at *
                clear hnb
                have c0 := HRc.out.c0
                refine hK.out _ _ (c0) (fun hHeld => ?_)
                clear hK K hHeld
                try simp only [Act.put, List.setIfInBounds_toArray, List.set_cons_zero, List.set_cons_succ]
                refine wpAnyH_ready (rs := [11]) (by kernel_rfl) (by simp) ?_
                refine AllReadyH.cons (o := { dst := some 23, op := Op.buildSlice 120 2 #[(0, Operand.tmp 21), (1, Operand.tmp 22)], type := 120, pos := "pattern.go:155", after := #[{ on := 9, ground := Ground.data }, { on := 10, ground := Ground.data }], guard := none }) rfl (fun K hK => ?_) ?q39
                · go_simp
                  have hba := (Below.refl wn.heap.size wn).alloc (Nat.le_refl _) (.cells #[.func (.func g1) #[] lb1, .func (.func g2) #[] lb2] 86)
                  have HAM := Lib.hid (And.intro (amL2 H1.out H2.out 86) (And.intro (show wn.heap.size < (wn.alloc (.cells #[.func (.func g1) #[] lb1, .func (.func g2) #[] lb2] 86)).heap.size by rw [World.size_alloc]; omega) (show wn.heap.size ≠ R by have := HRc.out.lt; omega)))
                  have HRc := Lib.hid (HRc.out.kept hba)
                  have Gc := Lib.hid (Gc.out.trans (Gr.of hba))
                  have HB := Lib.hid (And.intro ((hba.block _ (Array.getElem?_eq_some_iff.1 HB.out.1).1).trans HB.out.1) HB.out.2)
                  clear hba H1 H2
                  generalize wn.alloc (.cells #[.func (.func g1) #[] lb1, .func (.func g2) #[] lb2] 86) = wn at *
                  have c0 := HRc.out.c0
                  refine hK.out _ _ (c0) (fun hHeld => ?_)
                  clear hK K hHeld
                  try simp only [Act.put, List.setIfInBounds_toArray, List.set_cons_zero, List.set_cons_succ]
                  refine wpAnyH_ready (rs := [12]) (by kernel_rfl) (by simp) ?_
                  refine AllReadyH.cons (o := { dst := some 24, op := Op.call { callee := Callee.value (Operand.func 85), args := #[Operand.tmp 23], argTypes := #[120] }, type := 86, pos := "pattern.go:155", after := #[{ on := 11, ground := Ground.data }, { on := 10, ground := Ground.chain }], guard := none }) rfl (fun K hK => ?_) ?q40
                  · go_simp
                    go_at_call 85
                    refine (either_c R _ 2 [isL, isD] (by decide) _ HAM.out.1 HAM.out.2.1 HAM.out.2.2 HRc.out.lt).mono ?_
                    rintro e wn ⟨v3, rfl, h3, b3⟩
                    have h3 := h3.congr (Q := isLD) (fun b _ _ => by simp [isLD])
                    obtain ⟨g3, lb3, rfl⟩ := h3.form
                    have HV := Lib.hid h3
                    have HRc := Lib.hid (HRc.out.kept b3)
                    have Gc := Lib.hid (Gc.out.trans (Gr.of b3))
                    have HB := Lib.hid (And.intro ((b3.block _ (Array.getElem?_eq_some_iff.1 HB.out.1).1).trans HB.out.1) HB.out.2)
                    clear h3 b3 HAM
                    have c0 := HRc.out.c0
                    refine hK.out _ _ (c0) (fun hHeld => ?_)
                    clear hK K hHeld
                    try simp only [Act.put, List.setIfInBounds_toArray, List.set_cons_zero, List.set_cons_succ]
                    refine wpAnyH_ready (rs := [13]) (by kernel_rfl) (by simp) ?_
                    refine AllReadyH.cons (o := { dst := some 25, op := Op.call { callee := Callee.value (Operand.func 84), args := #[Operand.tmp 15, Operand.tmp 20, Operand.tmp 24], argTypes := #[47, 3, 86] }, type := 9, pos := "pattern.go:155", after := #[{ on := 3, ground := Ground.data }, { on := 8, ground := Ground.data }, { on := 12, ground := Ground.data }, { on := 12, ground := Ground.chain }], guard := none }) rfl (fun K hK => ?_) ?q41
                    · go_simp
                      go_at_call 84
                      refine (run_c s.size (by have := HRc.out.small; omega) _ isLD asc_LD HV.out HRc.out).mono ?_
                      rintro e wn ⟨tr, rfl, htr, hrr, gr⟩
                      have HTR := Lib.hid htr
                      have HRc := Lib.hid hrr
                      have Gc := Lib.hid (Gc.out.trans gr)
                      have HB := Lib.hid (And.intro ((gr.block _ (Array.getElem?_eq_some_iff.1 HB.out.1).1 (by intro e; have := HB.out.2; have e := Option.some.inj e; omega)).trans HB.out.1) HB.out.2)
                      have hsum : ¬ 9223372036854775807 < ts.size + tr.size := by have h1 := bs_len ts; rw [HTS.out] at h1; have h2 := bs_len tr; rw [HTR.out] at h2; have h4 := run_len isLD s.size t; have h5 := HLT.out; simp at h1; omega
                      clear htr hrr gr HV
                      have c0 := HRc.out.c0
                      refine hK.out _ _ (c0) (fun hHeld => ?_)
                      clear hK K hHeld
                      try simp only [Act.put, List.setIfInBounds_toArray, List.set_cons_zero, List.set_cons_succ]
                      refine wpAnyH_take (i := 14) (oi := { dst := some 26, op := Op.binOp BinOp.add 9 (Operand.tmp 14) (Operand.tmp 25) 9, type := 9, pos := "pattern.go:155", after := #[{ on := 2, ground := Ground.data }, { on := 13, ground := Ground.data }], guard := none }) (v := ?_) rfl (by kernel_rfl) (by kernel_rfl) (by kernel_rfl) (fun _ _ _ h => h) (Or.inl ⟨by rfl, ?hyq42⟩) (by assumption) ?_
                      case hyq42 => (intro ww hSw; (try dsimp only at hSw); first | (go_simp; done) | (go_simp; with_reducible rfl))
                      try simp only [Act.put, List.setIfInBounds_toArray, List.set_cons_zero, List.set_cons_succ]
                      have hB16 := HB.out.1
                      have n0 : wn.cell? ⟨nb, 0, none⟩ = some (.string ⟨#[]⟩) := cell_of_row wn nb 0 _ _ _ hB16
                      have nz : wn.frozen? ⟨nb, 0, none⟩ = false := by simp [World.frozen?, hB16]
                      clear hB16
                      refine wpAnyH_ready (rs := [16]) (by kernel_rfl) (by simp) ?_
                      refine AllReadyH.cons (o := { dst := none, op := Op.store 9 (Operand.tmp 4) (Operand.tmp 26), type := 0, pos := "pattern.go:155", after := #[{ on := 15, ground := Ground.data }, { on := 14, ground := Ground.data }, { on := 13, ground := Ground.chain }, { on := 0, ground := Ground.phase }, { on := 1, ground := Ground.phase }, { on := 2, ground := Ground.phase }, { on := 3, ground := Ground.phase }, { on := 4, ground := Ground.phase }, { on := 5, ground := Ground.phase }, { on := 6, ground := Ground.phase }, { on := 7, ground := Ground.phase }, { on := 8, ground := Ground.phase }, { on := 9, ground := Ground.phase }, { on := 10, ground := Ground.phase }, { on := 11, ground := Ground.phase }, { on := 12, ground := Ground.phase }, { on := 13, ground := Ground.phase }, { on := 14, ground := Ground.phase }, { on := 15, ground := Ground.phase }], guard := none }) rfl (fun K hK => ?_) AllReadyH.nil
                      go_simp
                      have HRs : Hid (Rd R (wn.setCell ⟨nb, 0, none⟩ (.string (ts ++ tr))) s (.slice p D.length c) (runF isLD s.size t).2 d cl) := Lib.hid ⟨(Below.heap_setCell wn ⟨nb, 0, none⟩ _ R (by show R ≠ nb; have := HB.out.2.1; omega)).trans HRc.out.blk, HRc.out.tl, HRc.out.sc, HRc.out.small⟩
                      have GS : Hid (Gr R w1 (wn.setCell ⟨nb, 0, none⟩ (.string (ts ++ tr)))) := Lib.hid (gr_set1 Gc.out nb _ HB.out.2.2)
                      have HBS := Lib.hid (heap_setR wn nb _ _ HB.out.1 0 (.string (ts ++ tr)))
                      have c0 := HRs.out.c0
                      refine hK.out _ _ (c0) (fun hHeld => ?_)
                      clear hK K hHeld c0 n0 nz
                      try simp only [Act.put, List.setIfInBounds_toArray, List.set_cons_zero, List.set_cons_succ]
                      have HLN : Hid (bs (ts ++ tr) = ch :: t.takeWhile isLD) := Lib.hid (by rw [bs_append, HTS.out, HTR.out, HRW.out]; rfl)
                      rw [HRW.out] at HRs
                      have HBZ := Lib.hid (And.intro HBS.out HB.out.2.1)
                      generalize wn.setCell ⟨nb, 0, none⟩ (.string (ts ++ tr)) = wn at *
                      refine wpAnyH_done (by kernel_rfl) ?_ _
                      go_wp2
                      go_meet
                      exact ⟨nb, ts ++ tr, rfl, HLN, HBZ, HRs, GS⟩
                    exact AllReadyH.nil
                  exact AllReadyH.nil
                exact AllReadyH.nil
              exact AllReadyH.nil
            refine AllReadyH.cons (o := { dst := some 4, op := Op.alloc 9, type := 0, pos := "pattern.go:155", after := #[], guard := none }) rfl (fun K hK => ?_) ?q43
            · go_simp
              have hba := (Below.refl wn.heap.size wn).alloc (Nat.le_refl _) (.cells #[.string ⟨#[]⟩] 9)
              have HB := Lib.hid (And.intro (heap_alloc_new wn (.cells #[.string ⟨#[]⟩] 9)) (And.intro HRc.out.lt (show w1.heap.size ≤ wn.heap.size from Gc.out.size)))
              have HRc := Lib.hid (HRc.out.kept hba)
              have Gc := Lib.hid (Gc.out.trans (Gr.of hba))
              have H1 := Lib.hid (H1.out.kept (Gr.of hba))
              clear hba
              generalize hnb : wn.heap.size = nb at HB ⊢
              generalize wn.alloc (.cells #[.string ⟨#[]⟩] 9) = wn at *
              clear hnb
              have c0 := HRc.out.c0
              refine hK.out _ _ (c0) (fun hHeld => ?_)
              clear hK K hHeld
              try simp only [Act.put, List.setIfInBounds_toArray, List.set_cons_zero, List.set_cons_succ]
              refine wpAnyH_ready (rs := [10]) (by kernel_rfl) (by simp) ?_
              refine AllReadyH.cons (o := { dst := some 22, op := Op.call { callee := Callee.value (Operand.func 86), args := #[], argTypes := #[] }, type := 86, pos := "pattern.go:155", after := #[{ on := 9, ground := Ground.chain }], guard := none }) rfl (fun K hK => ?_) ?q44
              · go_simp
                go_at_call 86
                refine (digit_c (R := R) HRc.out.lt).mono ?_
                rintro e wn ⟨v2, rfl, h2, b2⟩
                obtain ⟨g2, lb2, rfl⟩ := h2.form
                have H2 := Lib.hid h2
                have HRc := Lib.hid (HRc.out.kept b2)
                have Gc := Lib.hid (Gc.out.trans (Gr.of b2))
                have HB := Lib.hid (And.intro ((b2.block _ (Array.getElem?_eq_some_iff.1 HB.out.1).1).trans HB.out.1) HB.out.2)
                have H1 := Lib.hid (H1.out.kept (Gr.of b2))
                clear h2 b2
                have c0 := HRc.out.c0
                refine hK.out _ _ (c0) (fun hHeld => ?_)
                clear hK K hHeld
                try simp only [Act.put, List.setIfInBounds_toArray, List.set_cons_zero, List.set_cons_succ]
                refine wpAnyH_ready (rs := [11]) (by kernel_rfl) (by simp) ?_
                refine AllReadyH.cons (o := { dst := some 23, op := Op.buildSlice 120 2 #[(0, Operand.tmp 21), (1, Operand.tmp 22)], type := 120, pos := "pattern.go:155", after := #[{ on := 9, ground := Ground.data }, { on := 10, ground := Ground.data }], guard := none }) rfl (fun K hK => ?_) ?q45
                · go_simp
                  have hba := (Below.refl wn.heap.size wn).alloc (Nat.le_refl _) (.cells #[.func (.func g1) #[] lb1, .func (.func g2) #[] lb2] 86)
                  have HAM := Lib.hid (And.intro (amL2 H1.out H2.out 86) (And.intro (show wn.heap.size < (wn.alloc (.cells #[.func (.func g1) #[] lb1, .func (.func g2) #[] lb2] 86)).heap.size by rw [World.size_alloc]; omega) (show wn.heap.size ≠ R by have := HRc.out.lt; omega)))
                  have HRc := Lib.hid (HRc.out.kept hba)
                  have Gc := Lib.hid (Gc.out.trans (Gr.of hba))
                  have HB := Lib.hid (And.intro ((hba.block _ (Array.getElem?_eq_some_iff.1 HB.out.1).1).trans HB.out.1) HB.out.2)
                  clear hba H1 H2
                  generalize wn.alloc (.cells #[.func (.func g1) #[] lb1, .func (.func g2) #[] lb2] 86) = wn at *
                  have c0 := HRc.out.c0
                  refine hK.out _ _ (c0) (fun hHeld => ?_)
                  clear hK K hHeld
                  try simp only [Act.put, List.setIfInBounds_toArray, List.set_cons_zero, List.set_cons_succ]
                  refine wpAnyH_ready (rs := [12]) (by kernel_rfl) (by simp) ?_
                  refine AllReadyH.cons (o := { dst := some 24, op := Op.call { callee := Callee.value (Operand.func 85), args := #[Operand.tmp 23], argTypes := #[120] }, type := 86, pos := "pattern.go:155", after := #[{ on := 11, ground := Ground.data }, { on := 10, ground := Ground.chain }], guard := none }) rfl (fun K hK => ?_) ?q46
                  · go_simp
                    go_at_call 85
                    refine (either_c R _ 2 [isL, isD] (by decide) _ HAM.out.1 HAM.out.2.1 HAM.out.2.2 HRc.out.lt).mono ?_
                    rintro e wn ⟨v3, rfl, h3, b3⟩
                    have h3 := h3.congr (Q := isLD) (fun b _ _ => by simp [isLD])
                    obtain ⟨g3, lb3, rfl⟩ := h3.form
                    have HV := Lib.hid h3
                    have HRc := Lib.hid (HRc.out.kept b3)
                    have Gc := Lib.hid (Gc.out.trans (Gr.of b3))
                    have HB := Lib.hid (And.intro ((b3.block _ (Array.getElem?_eq_some_iff.1 HB.out.1).1).trans HB.out.1) HB.out.2)
                    clear h3 b3 HAM
                    have c0 := HRc.out.c0
                    refine hK.out _ _ (c0) (fun hHeld => ?_)
                    clear hK K hHeld
                    try simp only [Act.put, List.setIfInBounds_toArray, List.set_cons_zero, List.set_cons_succ]
                    refine wpAnyH_ready (rs := [13]) (by kernel_rfl) (by simp) ?_
                    refine AllReadyH.cons (o := { dst := some 25, op := Op.call { callee := Callee.value (Operand.func 84), args := #[Operand.tmp 15, Operand.tmp 20, Operand.tmp 24], argTypes := #[47, 3, 86] }, type := 9, pos := "pattern.go:155", after := #[{ on := 3, ground := Ground.data }, { on := 8, ground := Ground.data }, { on := 12, ground := Ground.data }, { on := 12, ground := Ground.chain }], guard := none }) rfl (fun K hK => ?_) ?q47
                    · go_simp
                      go_at_call 84
                      refine (run_c s.size (by have := HRc.out.small; omega) _ isLD asc_LD HV.out HRc.out).mono ?_
                      rintro e wn ⟨tr, rfl, htr, hrr, gr⟩
                      have HTR := Lib.hid htr
                      have HRc := Lib.hid hrr
                      have Gc := Lib.hid (Gc.out.trans gr)
                      have HB := Lib.hid (And.intro ((gr.block _ (Array.getElem?_eq_some_iff.1 HB.out.1).1 (by intro e; have := HB.out.2; have e := Option.some.inj e; omega)).trans HB.out.1) HB.out.2)
                      have hsum : ¬ 9223372036854775807 < ts.size + tr.size := by have h1 := bs_len ts; rw [HTS.out] at h1; have h2 := bs_len tr; rw [HTR.out] at h2; have h4 := run_len isLD s.size t; have h5 := HLT.out; simp at h1; omega
                      clear htr hrr gr HV
                      have c0 := HRc.out.c0
                      refine hK.out _ _ (c0) (fun hHeld => ?_)
                      clear hK K hHeld
                      try simp only [Act.put, List.setIfInBounds_toArray, List.set_cons_zero, List.set_cons_succ]
                      refine wpAnyH_take (i := 14) (oi := { dst := some 26, op := Op.binOp BinOp.add 9 (Operand.tmp 14) (Operand.tmp 25) 9, type := 9, pos := "pattern.go:155", after := #[{ on := 2, ground := Ground.data }, { on := 13, ground := Ground.data }], guard := none }) (v := ?_) rfl (by kernel_rfl) (by kernel_rfl) (by kernel_rfl) (fun _ _ _ h => h) (Or.inl ⟨by rfl, ?hyq48⟩) (by assumption) ?_
                      case hyq48 => (intro ww hSw; (try dsimp only at hSw); first | (go_simp; done) | (go_simp; with_reducible rfl))
                      try simp only [Act.put, List.setIfInBounds_toArray, List.set_cons_zero, List.set_cons_succ]
                      have hB16 := HB.out.1
                      have n0 : wn.cell? ⟨nb, 0, none⟩ = some (.string ⟨#[]⟩) := cell_of_row wn nb 0 _ _ _ hB16
                      have nz : wn.frozen? ⟨nb, 0, none⟩ = false := by simp [World.frozen?, hB16]
                      clear hB16
                      refine wpAnyH_ready (rs := [16]) (by kernel_rfl) (by simp) ?_
                      refine AllReadyH.cons (o := { dst := none, op := Op.store 9 (Operand.tmp 4) (Operand.tmp 26), type := 0, pos := "pattern.go:155", after := #[{ on := 15, ground := Ground.data }, { on := 14, ground := Ground.data }, { on := 13, ground := Ground.chain }, { on := 0, ground := Ground.phase }, { on := 1, ground := Ground.phase }, { on := 2, ground := Ground.phase }, { on := 3, ground := Ground.phase }, { on := 4, ground := Ground.phase }, { on := 5, ground := Ground.phase }, { on := 6, ground := Ground.phase }, { on := 7, ground := Ground.phase }, { on := 8, ground := Ground.phase }, { on := 9, ground := Ground.phase }, { on := 10, ground := Ground.phase }, { on := 11, ground := Ground.phase }, { on := 12, ground := Ground.phase }, { on := 13, ground := Ground.phase }, { on := 14, ground := Ground.phase }, { on := 15, ground := Ground.phase }], guard := none }) rfl (fun K hK => ?_) AllReadyH.nil
                      go_simp
                      have HRs : Hid (Rd R (wn.setCell ⟨nb, 0, none⟩ (.string (ts ++ tr))) s (.slice p D.length c) (runF isLD s.size t).2 d cl) := Lib.hid ⟨(Below.heap_setCell wn ⟨nb, 0, none⟩ _ R (by show R ≠ nb; have := HB.out.2.1; omega)).trans HRc.out.blk, HRc.out.tl, HRc.out.sc, HRc.out.small⟩
                      have GS : Hid (Gr R w1 (wn.setCell ⟨nb, 0, none⟩ (.string (ts ++ tr)))) := Lib.hid (gr_set1 Gc.out nb _ HB.out.2.2)
                      have HBS := Lib.hid (heap_setR wn nb _ _ HB.out.1 0 (.string (ts ++ tr)))
                      have c0 := HRs.out.c0
                      refine hK.out _ _ (c0) (fun hHeld => ?_)
                      clear hK K hHeld c0 n0 nz
                      try simp only [Act.put, List.setIfInBounds_toArray, List.set_cons_zero, List.set_cons_succ]
                      have HLN : Hid (bs (ts ++ tr) = ch :: t.takeWhile isLD) := Lib.hid (by rw [bs_append, HTS.out, HTR.out, HRW.out]; rfl)
                      rw [HRW.out] at HRs
                      have HBZ := Lib.hid (And.intro HBS.out HB.out.2.1)
                      generalize wn.setCell ⟨nb, 0, none⟩ (.string (ts ++ tr)) = wn at *
                      refine wpAnyH_done (by kernel_rfl) ?_ _
                      go_wp2
                      go_meet
                      exact ⟨nb, ts ++ tr, rfl, HLN, HBZ, HRs, GS⟩
                    exact AllReadyH.nil
                  exact AllReadyH.nil
                exact AllReadyH.nil
              exact AllReadyH.nil
            exact AllReadyH.nil
          refine AllReadyH.cons (o := { dst := some 4, op := Op.alloc 9, type := 0, pos := "pattern.go:155", after := #[], guard := none }) rfl (fun K hK => ?_) ?q49
          · go_simp
            have hba := (Below.refl wn.heap.size wn).alloc (Nat.le_refl _) (.cells #[.string ⟨#[]⟩] 9)
            have HB := Lib.hid (And.intro (heap_alloc_new wn (.cells #[.string ⟨#[]⟩] 9)) (And.intro HRc.out.lt (show w1.heap.size ≤ wn.heap.size from Gc.out.size)))
            have HRc := Lib.hid (HRc.out.kept hba)
            have Gc := Lib.hid (Gc.out.trans (Gr.of hba))
            clear hba
            generalize hnb : wn.heap.size = nb at HB ⊢
            generalize wn.alloc (.cells #[.string ⟨#[]⟩] 9) = wn at *
            clear hnb
            have c0 := HRc.out.c0
            refine hK.out _ _ (c0) (fun hHeld => ?_)
            clear hK K hHeld
            try simp only [Act.put, List.setIfInBounds_toArray, List.set_cons_zero, List.set_cons_succ]
            refine wpAnyH_ready (rs := [9]) (by kernel_rfl) (by simp) ?_
            refine AllReadyH.cons (o := { dst := some 21, op := Op.call { callee := Callee.value (Operand.func 69), args := #[], argTypes := #[] }, type := 86, pos := "pattern.go:155", after := #[{ on := 2, ground := Ground.chain }], guard := none }) rfl (fun K hK => ?_) ?q50
            · go_simp
              go_at_call 69
              refine (letter_c (R := R) HRc.out.lt).mono ?_
              rintro e wn ⟨v1, rfl, h1, b1⟩
              obtain ⟨g1, lb1, rfl⟩ := h1.form
              have H1 := Lib.hid h1
              have HRc := Lib.hid (HRc.out.kept b1)
              have Gc := Lib.hid (Gc.out.trans (Gr.of b1))
              have HB := Lib.hid (And.intro ((b1.block _ (Array.getElem?_eq_some_iff.1 HB.out.1).1).trans HB.out.1) HB.out.2)
              clear h1 b1
              have c0 := HRc.out.c0
              refine hK.out _ _ (c0) (fun hHeld => ?_)
              clear hK K hHeld
              try simp only [Act.put, List.setIfInBounds_toArray, List.set_cons_zero, List.set_cons_succ]
              refine wpAnyH_ready (rs := [10]) (by kernel_rfl) (by simp) ?_
              refine AllReadyH.cons (o := { dst := some 22, op := Op.call { callee := Callee.value (Operand.func 86), args := #[], argTypes := #[] }, type := 86, pos := "pattern.go:155", after := #[{ on := 9, ground := Ground.chain }], guard := none }) rfl (fun K hK => ?_) ?q51
              · go_simp
                go_at_call 86
                refine (digit_c (R := R) HRc.out.lt).mono ?_
                rintro e wn ⟨v2, rfl, h2, b2⟩
                obtain ⟨g2, lb2, rfl⟩ := h2.form
                have H2 := Lib.hid h2
                have HRc := Lib.hid (HRc.out.kept b2)
                have Gc := Lib.hid (Gc.out.trans (Gr.of b2))
                have HB := Lib.hid (And.intro ((b2.block _ (Array.getElem?_eq_some_iff.1 HB.out.1).1).trans HB.out.1) HB.out.2)
                have H1 := Lib.hid (H1.out.kept (Gr.of b2))
                clear h2 b2
                have c0 := HRc.out.c0
                refine hK.out _ _ (c0) (fun hHeld => ?_)
                clear hK K hHeld
                try simp only [Act.put, List.setIfInBounds_toArray, List.set_cons_zero, List.set_cons_succ]
                refine wpAnyH_ready (rs := [11]) (by kernel_rfl) (by simp) ?_
                refine AllReadyH.cons (o := { dst := some 23, op := Op.buildSlice 120 2 #[(0, Operand.tmp 21), (1, Operand.tmp 22)], type := 120, pos := "pattern.go:155", after := #[{ on := 9, ground := Ground.data }, { on := 10, ground := Ground.data }], guard := none }) rfl (fun K hK => ?_) ?q52
                · go_simp
                  have hba := (Below.refl wn.heap.size wn).alloc (Nat.le_refl _) (.cells #[.func (.func g1) #[] lb1, .func (.func g2) #[] lb2] 86)
                  have HAM := Lib.hid (And.intro (amL2 H1.out H2.out 86) (And.intro (show wn.heap.size < (wn.alloc (.cells #[.func (.func g1) #[] lb1, .func (.func g2) #[] lb2] 86)).heap.size by rw [World.size_alloc]; omega) (show wn.heap.size ≠ R by have := HRc.out.lt; omega)))
                  have HRc := Lib.hid (HRc.out.kept hba)
                  have Gc := Lib.hid (Gc.out.trans (Gr.of hba))
                  have HB := Lib.hid (And.intro ((hba.block _ (Array.getElem?_eq_some_iff.1 HB.out.1).1).trans HB.out.1) HB.out.2)
                  clear hba H1 H2
                  generalize wn.alloc (.cells #[.func (.func g1) #[] lb1, .func (.func g2) #[] lb2] 86) = wn at *
                  have c0 := HRc.out.c0
                  refine hK.out _ _ (c0) (fun hHeld => ?_)
                  clear hK K hHeld
                  try simp only [Act.put, List.setIfInBounds_toArray, List.set_cons_zero, List.set_cons_succ]
                  refine wpAnyH_ready (rs := [12]) (by kernel_rfl) (by simp) ?_
                  refine AllReadyH.cons (o := { dst := some 24, op := Op.call { callee := Callee.value (Operand.func 85), args := #[Operand.tmp 23], argTypes := #[120] }, type := 86, pos := "pattern.go:155", after := #[{ on := 11, ground := Ground.data }, { on := 10, ground := Ground.chain }], guard := none }) rfl (fun K hK => ?_) ?q53
                  · go_simp
                    go_at_call 85
                    refine (either_c R _ 2 [isL, isD] (by decide) _ HAM.out.1 HAM.out.2.1 HAM.out.2.2 HRc.out.lt).mono ?_
                    rintro e wn ⟨v3, rfl, h3, b3⟩
                    have h3 := h3.congr (Q := isLD) (fun b _ _ => by simp [isLD])
                    obtain ⟨g3, lb3, rfl⟩ := h3.form
                    have HV := Lib.hid h3
                    have HRc := Lib.hid (HRc.out.kept b3)
                    have Gc := Lib.hid (Gc.out.trans (Gr.of b3))
                    have HB := Lib.hid (And.intro ((b3.block _ (Array.getElem?_eq_some_iff.1 HB.out.1).1).trans HB.out.1) HB.out.2)
                    clear h3 b3 HAM
                    have c0 := HRc.out.c0
                    refine hK.out _ _ (c0) (fun hHeld => ?_)
                    clear hK K hHeld
                    try simp only [Act.put, List.setIfInBounds_toArray, List.set_cons_zero, List.set_cons_succ]
                    refine wpAnyH_ready (rs := [13]) (by kernel_rfl) (by simp) ?_
                    refine AllReadyH.cons (o := { dst := some 25, op := Op.call { callee := Callee.value (Operand.func 84), args := #[Operand.tmp 15, Operand.tmp 20, Operand.tmp 24], argTypes := #[47, 3, 86] }, type := 9, pos := "pattern.go:155", after := #[{ on := 3, ground := Ground.data }, { on := 8, ground := Ground.data }, { on := 12, ground := Ground.data }, { on := 12, ground := Ground.chain }], guard := none }) rfl (fun K hK => ?_) ?q54
                    · go_simp
                      go_at_call 84
                      refine (run_c s.size (by have := HRc.out.small; omega) _ isLD asc_LD HV.out HRc.out).mono ?_
                      rintro e wn ⟨tr, rfl, htr, hrr, gr⟩
                      have HTR := Lib.hid htr
                      have HRc := Lib.hid hrr
                      have Gc := Lib.hid (Gc.out.trans gr)
                      have HB := Lib.hid (And.intro ((gr.block _ (Array.getElem?_eq_some_iff.1 HB.out.1).1 (by intro e; have := HB.out.2; have e := Option.some.inj e; omega)).trans HB.out.1) HB.out.2)
                      have hsum : ¬ 9223372036854775807 < ts.size + tr.size := by have h1 := bs_len ts; rw [HTS.out] at h1; have h2 := bs_len tr; rw [HTR.out] at h2; have h4 := run_len isLD s.size t; have h5 := HLT.out; simp at h1; omega
                      clear htr hrr gr HV
                      have c0 := HRc.out.c0
                      refine hK.out _ _ (c0) (fun hHeld => ?_)
                      clear hK K hHeld
                      try simp only [Act.put, List.setIfInBounds_toArray, List.set_cons_zero, List.set_cons_succ]
                      refine wpAnyH_take (i := 14) (oi := { dst := some 26, op := Op.binOp BinOp.add 9 (Operand.tmp 14) (Operand.tmp 25) 9, type := 9, pos := "pattern.go:155", after := #[{ on := 2, ground := Ground.data }, { on := 13, ground := Ground.data }], guard := none }) (v := ?_) rfl (by kernel_rfl) (by kernel_rfl) (by kernel_rfl) (fun _ _ _ h => h) (Or.inl ⟨by rfl, ?hyq55⟩) (by assumption) ?_
                      case hyq55 => (intro ww hSw; (try dsimp only at hSw); first | (go_simp; done) | (go_simp; with_reducible rfl))
                      try simp only [Act.put, List.setIfInBounds_toArray, List.set_cons_zero, List.set_cons_succ]
                      have hB16 := HB.out.1
                      have n0 : wn.cell? ⟨nb, 0, none⟩ = some (.string ⟨#[]⟩) := cell_of_row wn nb 0 _ _ _ hB16
                      have nz : wn.frozen? ⟨nb, 0, none⟩ = false := by simp [World.frozen?, hB16]
                      clear hB16
                      refine wpAnyH_ready (rs := [16]) (by kernel_rfl) (by simp) ?_
                      refine AllReadyH.cons (o := { dst := none, op := Op.store 9 (Operand.tmp 4) (Operand.tmp 26), type := 0, pos := "pattern.go:155", after := #[{ on := 15, ground := Ground.data }, { on := 14, ground := Ground.data }, { on := 13, ground := Ground.chain }, { on := 0, ground := Ground.phase }, { on := 1, ground := Ground.phase }, { on := 2, ground := Ground.phase }, { on := 3, ground := Ground.phase }, { on := 4, ground := Ground.phase }, { on := 5, ground := Ground.phase }, { on := 6, ground := Ground.phase }, { on := 7, ground := Ground.phase }, { on := 8, ground := Ground.phase }, { on := 9, ground := Ground.phase }, { on := 10, ground := Ground.phase }, { on := 11, ground := Ground.phase }, { on := 12, ground := Ground.phase }, { on := 13, ground := Ground.phase }, { on := 14, ground := Ground.phase }, { on := 15, ground := Ground.phase }], guard := none }) rfl (fun K hK => ?_) AllReadyH.nil
                      go_simp
                      have HRs : Hid (Rd R (wn.setCell ⟨nb, 0, none⟩ (.string (ts ++ tr))) s (.slice p D.length c) (runF isLD s.size t).2 d cl) := Lib.hid ⟨(Below.heap_setCell wn ⟨nb, 0, none⟩ _ R (by show R ≠ nb; have := HB.out.2.1; omega)).trans HRc.out.blk, HRc.out.tl, HRc.out.sc, HRc.out.small⟩
                      have GS : Hid (Gr R w1 (wn.setCell ⟨nb, 0, none⟩ (.string (ts ++ tr)))) := Lib.hid (gr_set1 Gc.out nb _ HB.out.2.2)
                      have HBS := Lib.hid (heap_setR wn nb _ _ HB.out.1 0 (.string (ts ++ tr)))
                      have c0 := HRs.out.c0
                      refine hK.out _ _ (c0) (fun hHeld => ?_)
                      clear hK K hHeld c0 n0 nz
                      try simp only [Act.put, List.setIfInBounds_toArray, List.set_cons_zero, List.set_cons_succ]
                      have HLN : Hid (bs (ts ++ tr) = ch :: t.takeWhile isLD) := Lib.hid (by rw [bs_append, HTS.out, HTR.out, HRW.out]; rfl)
                      rw [HRW.out] at HRs
                      have HBZ := Lib.hid (And.intro HBS.out HB.out.2.1)
                      generalize wn.setCell ⟨nb, 0, none⟩ (.string (ts ++ tr)) = wn at *
                      refine wpAnyH_done (by kernel_rfl) ?_ _
                      go_wp2
                      go_meet
                      exact ⟨nb, ts ++ tr, rfl, HLN, HBZ, HRs, GS⟩
                    exact AllReadyH.nil
                  exact AllReadyH.nil
                exact AllReadyH.nil
              exact AllReadyH.nil
            exact AllReadyH.nil
          exact AllReadyH.nil
        refine AllReadyH.cons (o := { dst := some 4, op := Op.alloc 9, type := 0, pos := "pattern.go:155", after := #[], guard := none }) rfl (fun K hK => ?_) ?q56
        · go_simp
          have hba := (Below.refl wn.heap.size wn).alloc (Nat.le_refl _) (.cells #[.string ⟨#[]⟩] 9)
          have HB := Lib.hid (And.intro (heap_alloc_new wn (.cells #[.string ⟨#[]⟩] 9)) (And.intro HRc.out.lt (show w1.heap.size ≤ wn.heap.size from Gc.out.size)))
          have HRc := Lib.hid (HRc.out.kept hba)
          have Gc := Lib.hid (Gc.out.trans (Gr.of hba))
          have H1 := Lib.hid (H1.out.kept (Gr.of hba))
          clear hba
          generalize hnb : wn.heap.size = nb at HB ⊢
          generalize wn.alloc (.cells #[.string ⟨#[]⟩] 9) = wn at *
          clear hnb
          have c0 := HRc.out.c0
          refine hK.out _ _ (c0) (fun hHeld => ?_)
          clear hK K hHeld
          try simp only [Act.put, List.setIfInBounds_toArray, List.set_cons_zero, List.set_cons_succ]
          refine wpAnyH_ready (rs := [2]) (by kernel_rfl) (by simp) ?_
          refine AllReadyH.cons (o := { dst := some 14, op := Op.call { callee := Callee.value (Operand.func 83), args := #[Operand.tmp 12, Operand.const (Value.int IntKind.i64 1), Operand.tmp 13], argTypes := #[47, 3, 86] }, type := 9, pos := "pattern.go:155", after := #[{ on := 0, ground := Ground.data }, { on := 1, ground := Ground.data }, { on := 1, ground := Ground.chain }], guard := none }) rfl (fun K hK => ?_) ?q57
          · go_simp
            go_at_call 83
            refine (some_c 1 (by decide) _ isL asc_L H1.out HRc.out).mono ?_
            rintro e wn ⟨gs, hs⟩
            rw [HSM.out] at hs
            obtain ⟨vs, rfl, ⟨ts, rfl, hts⟩, hrs⟩ := hs
            have HTS := Lib.hid hts
            have HRc := Lib.hid hrs
            have Gc := Lib.hid (Gc.out.trans gs)
            have HB := Lib.hid (And.intro ((gs.block _ (Array.getElem?_eq_some_iff.1 HB.out.1).1 (by intro e; have := HB.out.2; have e := Option.some.inj e; omega)).trans HB.out.1) HB.out.2)
            clear hts hrs gs H1
            have c0 := HRc.out.c0
            refine hK.out _ _ (c0) (fun hHeld => ?_)
            clear hK K hHeld
            try simp only [Act.put, List.setIfInBounds_toArray, List.set_cons_zero, List.set_cons_succ]
            refine wpAnyH_ready (rs := [9]) (by kernel_rfl) (by simp) ?_
            refine AllReadyH.cons (o := { dst := some 21, op := Op.call { callee := Callee.value (Operand.func 69), args := #[], argTypes := #[] }, type := 86, pos := "pattern.go:155", after := #[{ on := 2, ground := Ground.chain }], guard := none }) rfl (fun K hK => ?_) ?q58
            · go_simp
              go_at_call 69
              refine (letter_c (R := R) HRc.out.lt).mono ?_
              rintro e wn ⟨v1, rfl, h1, b1⟩
              obtain ⟨g1, lb1, rfl⟩ := h1.form
              have H1 := Lib.hid h1
              have HRc := Lib.hid (HRc.out.kept b1)
              have Gc := Lib.hid (Gc.out.trans (Gr.of b1))
              have HB := Lib.hid (And.intro ((b1.block _ (Array.getElem?_eq_some_iff.1 HB.out.1).1).trans HB.out.1) HB.out.2)
              clear h1 b1
              have c0 := HRc.out.c0
              refine hK.out _ _ (c0) (fun hHeld => ?_)
              clear hK K hHeld
              try simp only [Act.put, List.setIfInBounds_toArray, List.set_cons_zero, List.set_cons_succ]
              refine wpAnyH_ready (rs := [10]) (by kernel_rfl) (by simp) ?_
              refine AllReadyH.cons (o := { dst := some 22, op := Op.call { callee := Callee.value (Operand.func 86), args := #[], argTypes := #[] }, type := 86, pos := "pattern.go:155", after := #[{ on := 9, ground := Ground.chain }], guard := none }) rfl (fun K hK => ?_) ?q59
              · go_simp
                go_at_call 86
                refine (digit_c (R := R) HRc.out.lt).mono ?_
                rintro e wn ⟨v2, rfl, h2, b2⟩
                obtain ⟨g2, lb2, rfl⟩ := h2.form
                have H2 := Lib.hid h2
                have HRc := Lib.hid (HRc.out.kept b2)
                have Gc := Lib.hid (Gc.out.trans (Gr.of b2))
                have HB := Lib.hid (And.intro ((b2.block _ (Array.getElem?_eq_some_iff.1 HB.out.1).1).trans HB.out.1) HB.out.2)
                have H1 := Lib.hid (H1.out.kept (Gr.of b2))
                clear h2 b2
                have c0 := HRc.out.c0
                refine hK.out _ _ (c0) (fun hHeld => ?_)
                clear hK K hHeld
                try simp only [Act.put, List.setIfInBounds_toArray, List.set_cons_zero, List.set_cons_succ]
                refine wpAnyH_ready (rs := [11]) (by kernel_rfl) (by simp) ?_
                refine AllReadyH.cons (o := { dst := some 23, op := Op.buildSlice 120 2 #[(0, Operand.tmp 21), (1, Operand.tmp 22)], type := 120, pos := "pattern.go:155", after := #[{ on := 9, ground := Ground.data }, { on := 10, ground := Ground.data }], guard := none }) rfl (fun K hK => ?_) ?q60
                · go_simp
                  have hba := (Below.refl wn.heap.size wn).alloc (Nat.le_refl _) (.cells #[.func (.func g1) #[] lb1, .func (.func g2) #[] lb2] 86)
                  have HAM := Lib.hid (And.intro (amL2 H1.out H2.out 86) (And.intro (show wn.heap.size < (wn.alloc (.cells #[.func (.func g1) #[] lb1, .func (.func g2) #[] lb2] 86)).heap.size by rw [World.size_alloc]; omega) (show wn.heap.size ≠ R by have := HRc.out.lt; omega)))
                  have HRc := Lib.hid (HRc.out.kept hba)
                  have Gc := Lib.hid (Gc.out.trans (Gr.of hba))
                  have HB := Lib.hid (And.intro ((hba.block _ (Array.getElem?_eq_some_iff.1 HB.out.1).1).trans HB.out.1) HB.out.2)
                  clear hba H1 H2
                  generalize wn.alloc (.cells #[.func (.func g1) #[] lb1, .func (.func g2) #[] lb2] 86) = wn at *
                  have c0 := HRc.out.c0
                  refine hK.out _ _ (c0) (fun hHeld => ?_)
                  clear hK K hHeld
                  try simp only [Act.put, List.setIfInBounds_toArray, List.set_cons_zero, List.set_cons_succ]
                  refine wpAnyH_ready (rs := [12]) (by kernel_rfl) (by simp) ?_
                  refine AllReadyH.cons (o := { dst := some 24, op := Op.call { callee := Callee.value (Operand.func 85), args := #[Operand.tmp 23], argTypes := #[120] }, type := 86, pos := "pattern.go:155", after := #[{ on := 11, ground := Ground.data }, { on := 10, ground := Ground.chain }], guard := none }) rfl (fun K hK => ?_) ?q61
                  · go_simp
                    go_at_call 85
                    refine (either_c R _ 2 [isL, isD] (by decide) _ HAM.out.1 HAM.out.2.1 HAM.out.2.2 HRc.out.lt).mono ?_
                    rintro e wn ⟨v3, rfl, h3, b3⟩
                    have h3 := h3.congr (Q := isLD) (fun b _ _ => by simp [isLD])
                    obtain ⟨g3, lb3, rfl⟩ := h3.form
                    have HV := Lib.hid h3
                    have HRc := Lib.hid (HRc.out.kept b3)
                    have Gc := Lib.hid (Gc.out.trans (Gr.of b3))
                    have HB := Lib.hid (And.intro ((b3.block _ (Array.getElem?_eq_some_iff.1 HB.out.1).1).trans HB.out.1) HB.out.2)
                    clear h3 b3 HAM
                    have c0 := HRc.out.c0
                    refine hK.out _ _ (c0) (fun hHeld => ?_)
                    clear hK K hHeld
                    try simp only [Act.put, List.setIfInBounds_toArray, List.set_cons_zero, List.set_cons_succ]
                    refine wpAnyH_ready (rs := [13]) (by kernel_rfl) (by simp) ?_
                    refine AllReadyH.cons (o := { dst := some 25, op := Op.call { callee := Callee.value (Operand.func 84), args := #[Operand.tmp 15, Operand.tmp 20, Operand.tmp 24], argTypes := #[47, 3, 86] }, type := 9, pos := "pattern.go:155", after := #[{ on := 3, ground := Ground.data }, { on := 8, ground := Ground.data }, { on := 12, ground := Ground.data }, { on := 12, ground := Ground.chain }], guard := none }) rfl (fun K hK => ?_) ?q62
                    · go_simp
                      go_at_call 84
                      refine (run_c s.size (by have := HRc.out.small; omega) _ isLD asc_LD HV.out HRc.out).mono ?_
                      rintro e wn ⟨tr, rfl, htr, hrr, gr⟩
                      have HTR := Lib.hid htr
                      have HRc := Lib.hid hrr
                      have Gc := Lib.hid (Gc.out.trans gr)
                      have HB := Lib.hid (And.intro ((gr.block _ (Array.getElem?_eq_some_iff.1 HB.out.1).1 (by intro e; have := HB.out.2; have e := Option.some.inj e; omega)).trans HB.out.1) HB.out.2)
                      have hsum : ¬ 9223372036854775807 < ts.size + tr.size := by have h1 := bs_len ts; rw [HTS.out] at h1; have h2 := bs_len tr; rw [HTR.out] at h2; have h4 := run_len isLD s.size t; have h5 := HLT.out; simp at h1; omega
                      clear htr hrr gr HV
                      have c0 := HRc.out.c0
                      refine hK.out _ _ (c0) (fun hHeld => ?_)
                      clear hK K hHeld
                      try simp only [Act.put, List.setIfInBounds_toArray, List.set_cons_zero, List.set_cons_succ]
                      refine wpAnyH_take (i := 14) (oi := { dst := some 26, op := Op.binOp BinOp.add 9 (Operand.tmp 14) (Operand.tmp 25) 9, type := 9, pos := "pattern.go:155", after := #[{ on := 2, ground := Ground.data }, { on := 13, ground := Ground.data }], guard := none }) (v := ?_) rfl (by kernel_rfl) (by kernel_rfl) (by kernel_rfl) (fun _ _ _ h => h) (Or.inl ⟨by rfl, ?hyq63⟩) (by assumption) ?_
                      case hyq63 => (intro ww hSw; (try dsimp only at hSw); first | (go_simp; done) | (go_simp; with_reducible rfl))
                      try simp only [Act.put, List.setIfInBounds_toArray, List.set_cons_zero, List.set_cons_succ]
                      have hB16 := HB.out.1
                      have n0 : wn.cell? ⟨nb, 0, none⟩ = some (.string ⟨#[]⟩) := cell_of_row wn nb 0 _ _ _ hB16
                      have nz : wn.frozen? ⟨nb, 0, none⟩ = false := by simp [World.frozen?, hB16]
                      clear hB16
                      refine wpAnyH_ready (rs := [16]) (by kernel_rfl) (by simp) ?_
                      refine AllReadyH.cons (o := { dst := none, op := Op.store 9 (Operand.tmp 4) (Operand.tmp 26), type := 0, pos := "pattern.go:155", after := #[{ on := 15, ground := Ground.data }, { on := 14, ground := Ground.data }, { on := 13, ground := Ground.chain }, { on := 0, ground := Ground.phase }, { on := 1, ground := Ground.phase }, { on := 2, ground := Ground.phase }, { on := 3, ground := Ground.phase }, { on := 4, ground := Ground.phase }, { on := 5, ground := Ground.phase }, { on := 6, ground := Ground.phase }, { on := 7, ground := Ground.phase }, { on := 8, ground := Ground.phase }, { on := 9, ground := Ground.phase }, { on := 10, ground := Ground.phase }, { on := 11, ground := Ground.phase }, { on := 12, ground := Ground.phase }, { on := 13, ground := Ground.phase }, { on := 14, ground := Ground.phase }, { on := 15, ground := Ground.phase }], guard := none }) rfl (fun K hK => ?_) AllReadyH.nil
                      go_simp
                      have HRs : Hid (Rd R (wn.setCell ⟨nb, 0, none⟩ (.string (ts ++ tr))) s (.slice p D.length c) (runF isLD s.size t).2 d cl) := Lib.hid ⟨(Below.heap_setCell wn ⟨nb, 0, none⟩ _ R (by show R ≠ nb; have := HB.out.2.1; omega)).trans HRc.out.blk, HRc.out.tl, HRc.out.sc, HRc.out.small⟩
                      have GS : Hid (Gr R w1 (wn.setCell ⟨nb, 0, none⟩ (.string (ts ++ tr)))) := Lib.hid (gr_set1 Gc.out nb _ HB.out.2.2)
                      have HBS := Lib.hid (heap_setR wn nb _ _ HB.out.1 0 (.string (ts ++ tr)))
                      have c0 := HRs.out.c0
                      refine hK.out _ _ (c0) (fun hHeld => ?_)
                      clear hK K hHeld c0 n0 nz
                      try simp only [Act.put, List.setIfInBounds_toArray, List.set_cons_zero, List.set_cons_succ]
                      have HLN : Hid (bs (ts ++ tr) = ch :: t.takeWhile isLD) := Lib.hid (by rw [bs_append, HTS.out, HTR.out, HRW.out]; rfl)
                      rw [HRW.out] at HRs
                      have HBZ := Lib.hid (And.intro HBS.out HB.out.2.1)
                      generalize wn.setCell ⟨nb, 0, none⟩ (.string (ts ++ tr)) = wn at *
                      refine wpAnyH_done (by kernel_rfl) ?_ _
                      go_wp2
                      go_meet
                      exact ⟨nb, ts ++ tr, rfl, HLN, HBZ, HRs, GS⟩
                    exact AllReadyH.nil
                  exact AllReadyH.nil
                exact AllReadyH.nil
              exact AllReadyH.nil
            exact AllReadyH.nil
          exact AllReadyH.nil
        exact AllReadyH.nil
      refine AllReadyH.cons (o := { dst := some 4, op := Op.alloc 9, type := 0, pos := "pattern.go:155", after := #[], guard := none }) rfl (fun K hK => ?_) ?q64
      · go_simp
        have hba := (Below.refl wn.heap.size wn).alloc (Nat.le_refl _) (.cells #[.string ⟨#[]⟩] 9)
        have HB := Lib.hid (And.intro (heap_alloc_new wn (.cells #[.string ⟨#[]⟩] 9)) (And.intro HRc.out.lt (show w1.heap.size ≤ wn.heap.size from Gc.out.size)))
        have HRc := Lib.hid (HRc.out.kept hba)
        have Gc := Lib.hid (Gc.out.trans (Gr.of hba))
        clear hba
        generalize hnb : wn.heap.size = nb at HB ⊢
        generalize wn.alloc (.cells #[.string ⟨#[]⟩] 9) = wn at *
        clear hnb
        have c0 := HRc.out.c0
        refine hK.out _ _ (c0) (fun hHeld => ?_)
        clear hK K hHeld
        try simp only [Act.put, List.setIfInBounds_toArray, List.set_cons_zero, List.set_cons_succ]
        refine wpAnyH_ready (rs := [1]) (by kernel_rfl) (by simp) ?_
        refine AllReadyH.cons (o := { dst := some 13, op := Op.call { callee := Callee.value (Operand.func 69), args := #[], argTypes := #[] }, type := 86, pos := "pattern.go:155", after := #[], guard := none }) rfl (fun K hK => ?_) ?q65
        · go_simp
          go_at_call 69
          refine (letter_c (R := R) HRc.out.lt).mono ?_
          rintro e wn ⟨v1, rfl, h1, b1⟩
          obtain ⟨g1, lb1, rfl⟩ := h1.form
          have H1 := Lib.hid h1
          have HRc := Lib.hid (HRc.out.kept b1)
          have Gc := Lib.hid (Gc.out.trans (Gr.of b1))
          have HB := Lib.hid (And.intro ((b1.block _ (Array.getElem?_eq_some_iff.1 HB.out.1).1).trans HB.out.1) HB.out.2)
          clear h1 b1
          have c0 := HRc.out.c0
          refine hK.out _ _ (c0) (fun hHeld => ?_)
          clear hK K hHeld
          try simp only [Act.put, List.setIfInBounds_toArray, List.set_cons_zero, List.set_cons_succ]
          refine wpAnyH_ready (rs := [2]) (by kernel_rfl) (by simp) ?_
          refine AllReadyH.cons (o := { dst := some 14, op := Op.call { callee := Callee.value (Operand.func 83), args := #[Operand.tmp 12, Operand.const (Value.int IntKind.i64 1), Operand.tmp 13], argTypes := #[47, 3, 86] }, type := 9, pos := "pattern.go:155", after := #[{ on := 0, ground := Ground.data }, { on := 1, ground := Ground.data }, { on := 1, ground := Ground.chain }], guard := none }) rfl (fun K hK => ?_) ?q66
          · go_simp
            go_at_call 83
            refine (some_c 1 (by decide) _ isL asc_L H1.out HRc.out).mono ?_
            rintro e wn ⟨gs, hs⟩
            rw [HSM.out] at hs
            obtain ⟨vs, rfl, ⟨ts, rfl, hts⟩, hrs⟩ := hs
            have HTS := Lib.hid hts
            have HRc := Lib.hid hrs
            have Gc := Lib.hid (Gc.out.trans gs)
            have HB := Lib.hid (And.intro ((gs.block _ (Array.getElem?_eq_some_iff.1 HB.out.1).1 (by intro e; have := HB.out.2; have e := Option.some.inj e; omega)).trans HB.out.1) HB.out.2)
            clear hts hrs gs H1
            have c0 := HRc.out.c0
            refine hK.out _ _ (c0) (fun hHeld => ?_)
            clear hK K hHeld
            try simp only [Act.put, List.setIfInBounds_toArray, List.set_cons_zero, List.set_cons_succ]
            refine wpAnyH_ready (rs := [9]) (by kernel_rfl) (by simp) ?_
            refine AllReadyH.cons (o := { dst := some 21, op := Op.call { callee := Callee.value (Operand.func 69), args := #[], argTypes := #[] }, type := 86, pos := "pattern.go:155", after := #[{ on := 2, ground := Ground.chain }], guard := none }) rfl (fun K hK => ?_) ?q67
            · go_simp
              go_at_call 69
              refine (letter_c (R := R) HRc.out.lt).mono ?_
              rintro e wn ⟨v1, rfl, h1, b1⟩
              obtain ⟨g1, lb1, rfl⟩ := h1.form
              have H1 := Lib.hid h1
              have HRc := Lib.hid (HRc.out.kept b1)
              have Gc := Lib.hid (Gc.out.trans (Gr.of b1))
              have HB := Lib.hid (And.intro ((b1.block _ (Array.getElem?_eq_some_iff.1 HB.out.1).1).trans HB.out.1) HB.out.2)
              clear h1 b1
              have c0 := HRc.out.c0
              refine hK.out _ _ (c0) (fun hHeld => ?_)
              clear hK K hHeld
              try simp only [Act.put, List.setIfInBounds_toArray, List.set_cons_zero, List.set_cons_succ]
              refine wpAnyH_ready (rs := [10]) (by kernel_rfl) (by simp) ?_
              refine AllReadyH.cons (o := { dst := some 22, op := Op.call { callee := Callee.value (Operand.func 86), args := #[], argTypes := #[] }, type := 86, pos := "pattern.go:155", after := #[{ on := 9, ground := Ground.chain }], guard := none }) rfl (fun K hK => ?_) ?q68
              · go_simp
                go_at_call 86
                refine (digit_c (R := R) HRc.out.lt).mono ?_
                rintro e wn ⟨v2, rfl, h2, b2⟩
                obtain ⟨g2, lb2, rfl⟩ := h2.form
                have H2 := Lib.hid h2
                have HRc := Lib.hid (HRc.out.kept b2)
                have Gc := Lib.hid (Gc.out.trans (Gr.of b2))
                have HB := Lib.hid (And.intro ((b2.block _ (Array.getElem?_eq_some_iff.1 HB.out.1).1).trans HB.out.1) HB.out.2)
                have H1 := Lib.hid (H1.out.kept (Gr.of b2))
                clear h2 b2
                have c0 := HRc.out.c0
                refine hK.out _ _ (c0) (fun hHeld => ?_)
                clear hK K hHeld
                try simp only [Act.put, List.setIfInBounds_toArray, List.set_cons_zero, List.set_cons_succ]
                refine wpAnyH_ready (rs := [11]) (by kernel_rfl) (by simp) ?_
                refine AllReadyH.cons (o := { dst := some 23, op := Op.buildSlice 120 2 #[(0, Operand.tmp 21), (1, Operand.tmp 22)], type := 120, pos := "pattern.go:155", after := #[{ on := 9, ground := Ground.data }, { on := 10, ground := Ground.data }], guard := none }) rfl (fun K hK => ?_) ?q69
                · go_simp
                  have hba := (Below.refl wn.heap.size wn).alloc (Nat.le_refl _) (.cells #[.func (.func g1) #[] lb1, .func (.func g2) #[] lb2] 86)
                  have HAM := Lib.hid (And.intro (amL2 H1.out H2.out 86) (And.intro (show wn.heap.size < (wn.alloc (.cells #[.func (.func g1) #[] lb1, .func (.func g2) #[] lb2] 86)).heap.size by rw [World.size_alloc]; omega) (show wn.heap.size ≠ R by have := HRc.out.lt; omega)))
                  have HRc := Lib.hid (HRc.out.kept hba)
                  have Gc := Lib.hid (Gc.out.trans (Gr.of hba))
                  have HB := Lib.hid (And.intro ((hba.block _ (Array.getElem?_eq_some_iff.1 HB.out.1).1).trans HB.out.1) HB.out.2)
                  clear hba H1 H2
                  generalize wn.alloc (.cells #[.func (.func g1) #[] lb1, .func (.func g2) #[] lb2] 86) = wn at *
                  have c0 := HRc.out.c0
                  refine hK.out _ _ (c0) (fun hHeld => ?_)
                  clear hK K hHeld
                  try simp only [Act.put, List.setIfInBounds_toArray, List.set_cons_zero, List.set_cons_succ]
                  refine wpAnyH_ready (rs := [12]) (by kernel_rfl) (by simp) ?_
                  refine AllReadyH.cons (o := { dst := some 24, op := Op.call { callee := Callee.value (Operand.func 85), args := #[Operand.tmp 23], argTypes := #[120] }, type := 86, pos := "pattern.go:155", after := #[{ on := 11, ground := Ground.data }, { on := 10, ground := Ground.chain }], guard := none }) rfl (fun K hK => ?_) ?q70
                  · go_simp
                    go_at_call 85
                    refine (either_c R _ 2 [isL, isD] (by decide) _ HAM.out.1 HAM.out.2.1 HAM.out.2.2 HRc.out.lt).mono ?_
                    rintro e wn ⟨v3, rfl, h3, b3⟩
                    have h3 := h3.congr (Q := isLD) (fun b _ _ => by simp [isLD])
                    obtain ⟨g3, lb3, rfl⟩ := h3.form
                    have HV := Lib.hid h3
                    have HRc := Lib.hid (HRc.out.kept b3)
                    have Gc := Lib.hid (Gc.out.trans (Gr.of b3))
                    have HB := Lib.hid (And.intro ((b3.block _ (Array.getElem?_eq_some_iff.1 HB.out.1).1).trans HB.out.1) HB.out.2)
                    clear h3 b3 HAM
                    have c0 := HRc.out.c0
                    refine hK.out _ _ (c0) (fun hHeld => ?_)
                    clear hK K hHeld
                    try simp only [Act.put, List.setIfInBounds_toArray, List.set_cons_zero, List.set_cons_succ]
                    refine wpAnyH_ready (rs := [13]) (by kernel_rfl) (by simp) ?_
                    refine AllReadyH.cons (o := { dst := some 25, op := Op.call { callee := Callee.value (Operand.func 84), args := #[Operand.tmp 15, Operand.tmp 20, Operand.tmp 24], argTypes := #[47, 3, 86] }, type := 9, pos := "pattern.go:155", after := #[{ on := 3, ground := Ground.data }, { on := 8, ground := Ground.data }, { on := 12, ground := Ground.data }, { on := 12, ground := Ground.chain }], guard := none }) rfl (fun K hK => ?_) ?q71
                    · go_simp
                      go_at_call 84
                      refine (run_c s.size (by have := HRc.out.small; omega) _ isLD asc_LD HV.out HRc.out).mono ?_
                      rintro e wn ⟨tr, rfl, htr, hrr, gr⟩
                      have HTR := Lib.hid htr
                      have HRc := Lib.hid hrr
                      have Gc := Lib.hid (Gc.out.trans gr)
                      have HB := Lib.hid (And.intro ((gr.block _ (Array.getElem?_eq_some_iff.1 HB.out.1).1 (by intro e; have := HB.out.2; have e := Option.some.inj e; omega)).trans HB.out.1) HB.out.2)
                      have hsum : ¬ 9223372036854775807 < ts.size + tr.size := by have h1 := bs_len ts; rw [HTS.out] at h1; have h2 := bs_len tr; rw [HTR.out] at h2; have h4 := run_len isLD s.size t; have h5 := HLT.out; simp at h1; omega
                      clear htr hrr gr HV
                      have c0 := HRc.out.c0
                      refine hK.out _ _ (c0) (fun hHeld => ?_)
                      clear hK K hHeld
                      try simp only [Act.put, List.setIfInBounds_toArray, List.set_cons_zero, List.set_cons_succ]
                      refine wpAnyH_take (i := 14) (oi := { dst := some 26, op := Op.binOp BinOp.add 9 (Operand.tmp 14) (Operand.tmp 25) 9, type := 9, pos := "pattern.go:155", after := #[{ on := 2, ground := Ground.data }, { on := 13, ground := Ground.data }], guard := none }) (v := ?_) rfl (by kernel_rfl) (by kernel_rfl) (by kernel_rfl) (fun _ _ _ h => h) (Or.inl ⟨by rfl, ?hyq72⟩) (by assumption) ?_
                      case hyq72 => (intro ww hSw; (try dsimp only at hSw); first | (go_simp; done) | (go_simp; with_reducible rfl))
                      try simp only [Act.put, List.setIfInBounds_toArray, List.set_cons_zero, List.set_cons_succ]
                      have hB16 := HB.out.1
                      have n0 : wn.cell? ⟨nb, 0, none⟩ = some (.string ⟨#[]⟩) := cell_of_row wn nb 0 _ _ _ hB16
                      have nz : wn.frozen? ⟨nb, 0, none⟩ = false := by simp [World.frozen?, hB16]
                      clear hB16
                      refine wpAnyH_ready (rs := [16]) (by kernel_rfl) (by simp) ?_
                      refine AllReadyH.cons (o := { dst := none, op := Op.store 9 (Operand.tmp 4) (Operand.tmp 26), type := 0, pos := "pattern.go:155", after := #[{ on := 15, ground := Ground.data }, { on := 14, ground := Ground.data }, { on := 13, ground := Ground.chain }, { on := 0, ground := Ground.phase }, { on := 1, ground := Ground.phase }, { on := 2, ground := Ground.phase }, { on := 3, ground := Ground.phase }, { on := 4, ground := Ground.phase }, { on := 5, ground := Ground.phase }, { on := 6, ground := Ground.phase }, { on := 7, ground := Ground.phase }, { on := 8, ground := Ground.phase }, { on := 9, ground := Ground.phase }, { on := 10, ground := Ground.phase }, { on := 11, ground := Ground.phase }, { on := 12, ground := Ground.phase }, { on := 13, ground := Ground.phase }, { on := 14, ground := Ground.phase }, { on := 15, ground := Ground.phase }], guard := none }) rfl (fun K hK => ?_) AllReadyH.nil
                      go_simp
                      have HRs : Hid (Rd R (wn.setCell ⟨nb, 0, none⟩ (.string (ts ++ tr))) s (.slice p D.length c) (runF isLD s.size t).2 d cl) := Lib.hid ⟨(Below.heap_setCell wn ⟨nb, 0, none⟩ _ R (by show R ≠ nb; have := HB.out.2.1; omega)).trans HRc.out.blk, HRc.out.tl, HRc.out.sc, HRc.out.small⟩
                      have GS : Hid (Gr R w1 (wn.setCell ⟨nb, 0, none⟩ (.string (ts ++ tr)))) := Lib.hid (gr_set1 Gc.out nb _ HB.out.2.2)
                      have HBS := Lib.hid (heap_setR wn nb _ _ HB.out.1 0 (.string (ts ++ tr)))
                      have c0 := HRs.out.c0
                      refine hK.out _ _ (c0) (fun hHeld => ?_)
                      clear hK K hHeld c0 n0 nz
                      try simp only [Act.put, List.setIfInBounds_toArray, List.set_cons_zero, List.set_cons_succ]
                      have HLN : Hid (bs (ts ++ tr) = ch :: t.takeWhile isLD) := Lib.hid (by rw [bs_append, HTS.out, HTR.out, HRW.out]; rfl)
                      rw [HRW.out] at HRs
                      have HBZ := Lib.hid (And.intro HBS.out HB.out.2.1)
                      generalize wn.setCell ⟨nb, 0, none⟩ (.string (ts ++ tr)) = wn at *
                      refine wpAnyH_done (by kernel_rfl) ?_ _
                      go_wp2
                      go_meet
                      exact ⟨nb, ts ++ tr, rfl, HLN, HBZ, HRs, GS⟩
                    exact AllReadyH.nil
                  exact AllReadyH.nil
                exact AllReadyH.nil
              exact AllReadyH.nil
            exact AllReadyH.nil
          exact AllReadyH.nil
        exact AllReadyH.nil
      exact AllReadyH.nil
    case rest =>
      obtain ⟨nb, nm, rfl, HNM, HBZ, HRc, Gc⟩ := hcut
      have HN2 := Lib.hid (need1_c 125 125 rfl (by decide) HRc.out)
      have HO : Hid (o = match needF 125 (t.dropWhile isLD) with
        | .err e x => .err e x
        | .ok _ r2 => match findF D cl (ch :: t.takeWhile isLD) with
          | none => .err 62 (123 :: ch :: t)
          | some x => .ok x r2) := Lib.hid (by rw [HO.out]; simp only [namedF, HSL.out, if_true]; rfl)
      clear HR HSM HSL HLT HRW
      go_wp2_with fail
      refine HN2.out.mono ?_
      rintro e w3 ⟨g3, h3⟩
      have G3 := Lib.hid (Gc.out.trans g3)
      have HBZ : Hid (w3.heap[nb]? = some (.cells #[.string nm] 9 (0, 0)) ∧ R < nb) := Lib.hid ⟨(g3.block _ (Array.getElem?_eq_some_iff.1 HBZ.out.1).1 (by intro e; have := HBZ.out.2; have e := Option.some.inj e; omega)).trans HBZ.out.1, HBZ.out.2⟩
      clear g3 HN2 HRc Gc
      cases hn : needF 125 (t.dropWhile isLD) with
      | err e x =>
        rw [hn] at h3 HO
        dsimp only at HO
        obtain rfl := h3
        go_wp2
        exact ⟨rfl, Post.bad HO.out (HG0.out.trans (G1.out.trans G3.out))⟩
      | ok u r2 =>
        rw [hn] at h3 HO
        dsimp only at HO
        obtain ⟨v, rfl, rfl, hr⟩ := h3
        have HR := Lib.hid hr
        have d2 := hr.c2
        have HX := Lib.hid (idx_c nm nb p c (D.map (·.1)) (by simpa using hl) w3 (HDI.out.names (HC0.out.old.trans (((HG0.out.trans (G1.out.trans G3.out)).belowR (by omega)).mono HC0.out.le))) (Array.getElem?_eq_some_iff.1 HBZ.out.1).1 (cell_of_row w3 nb 0 _ _ _ HBZ.out.1))
        rw [List.length_map] at HX
        clear hr hn
        go_wp2_with fail
        refine HX.out.mono ?_
        rintro e w4 ⟨i, rfl, b4, hi⟩
        have G4 := Lib.hid (HG0.out.trans (G1.out.trans (G3.out.trans (Gr.of b4))))
        have G14 := Lib.hid (G1.out.trans (G3.out.trans (Gr.of b4)))
        have HR := Lib.hid (HR.out.kept b4)
        have d2 := HR.out.c2
        have d4 := HR.out.c4
        rw [HNM.out] at hi
        clear b4 HX
        rcases hi with ⟨rfl, hi⟩ | ⟨ki, rfl, hk, h1, h2⟩
        · rw [findF_none hi] at HO
          dsimp only at HO
          clear hi
          go_wp2
          exact ⟨rfl, Post.bad HO.out G4.out⟩
        · rw [findF_some hk h1 h2] at HO
          dsimp only at HO
          have hW04 : Below W0.heap.size W0 w4 := HC0.out.old.trans ((G4.out.belowR (by omega)).mono HC0.out.le)
          have hCx4 := HC0.out.cx.gr G4.out
          obtain ⟨g, off, rfl, hg, hD⟩ := HDI.out (by intro e; subst e; simp at hk)
          obtain ⟨dn, k, sp, sn, sc, kp, kn, kc, mn, mx, _, h6, hsn, hkn, _, _, hnv, hcl⟩ := hD ki hk
          obtain ⟨_, e0, e1, e2, e3, e4⟩ := h6.below hW04 hg
          have h5 := HB5.out.gr G14.out (by omega)
          obtain ⟨⟨x0, x1, x2, x3, x4, k0, k1, k2, k3, k4⟩, f0, f1, f2, f3, f4⟩ := h5.cells
          have H5 := Lib.hid h5
          have hki : ¬ ((ki : Int) < 0) := by omega
          have hkz : (ki : Int) < (D.length : Int) := by omega
          have HNV : Hid (NV w4 (fun b => b < W0.heap.size) (.agg #[.int .u8 k, .slice sp sn sc, .slice kp kn kc, .int .i64 mn, .int .i64 mx]) D[ki].2.1) := Lib.hid (hnv.imp (fun b hA _ => ⟨hA, hW04.block b hA⟩) hW04.size)
          have hVz : V.heap.size ≤ w4.heap.size := G14.out.size
          have HVZ := Lib.hid hVz
          have HCL := Lib.hid (hcl w4 hW04 hCx4.cf)
          have HCP := Lib.hid (clipped_c k sp sn sc kp kn kc mn mx hsn hkn w4)
          clear h1 h2 hD h6 hnv hcl h5 hW04 hCx4 hVz
          cases cl with
          | false =>
            simp only [Bool.false_eq_true, if_false] at HO
            clear HCL
            go_wp2_with fail
            refine HCP.out.mono ?_
            rintro e w5 ⟨rfl, b5⟩
            have HNC : Hid (NV w5 (fun b => b < W0.heap.size) (.agg #[.int .u8 k, .slice sp sn sn, .slice kp kn kn, .int .i64 mn, .int .i64 mx]) D[ki].2.1) := Lib.hid ((HNV.out.clip hsn hkn).imp (fun b hA hlt => ⟨hA, b5.block b hlt⟩) b5.size)
            have G5 := Lib.hid (G4.out.trans (Gr.of b5))
            have HR5 := Lib.hid (HR.out.kept b5)
            have h5 := H5.out.gr (R := w4.heap.size) (Gr.of b5) (by have := H5.out.lt; omega)
            obtain ⟨⟨x0, x1, x2, x3, x4, k0, k1, k2, k3, k4⟩, f0, f1, f2, f3, f4⟩ := h5.cells
            have H55 := Lib.hid h5
            clear h5 b5 HCP
            go_wp2
            refine ret_node rfl rfl H55.out (Post.good HO.out (put5_grR _ _ _ _ _ G5.out (Nat.le_refl _)) ?_ (put5_rd _ _ _ _ _ HR5.out (by omega)))
            exact HNC.out.imp (fun b hA _ => ⟨.inl hA, put5_block _ _ _ _ _ _ _ b (by omega)⟩) (by rw [put5_size]; exact Nat.le_refl _)
          | true =>
            simp only [if_true] at HO
            clear HCP
            go_wp2_with fail
            refine HCL.out.mono ?_
            rintro e w5 ⟨v5, rfl, hv5, b5⟩
            obtain ⟨k', sp', sn', sc', kp', kn', kc', mn', mx', rfl⟩ := NV.form5 hv5
            have HNC := Lib.hid hv5
            have G5 := Lib.hid (G4.out.trans (Gr.of b5))
            have HR5 := Lib.hid (HR.out.kept b5)
            have h5 := H5.out.gr (R := w4.heap.size) (Gr.of b5) (by have := H5.out.lt; omega)
            obtain ⟨⟨x0, x1, x2, x3, x4, k0, k1, k2, k3, k4⟩, f0, f1, f2, f3, f4⟩ := h5.cells
            have H55 := Lib.hid h5
            clear h5 b5 hv5 HCL
            go_wp2
            refine ret_node rfl rfl H55.out (Post.good HO.out (put5_grR _ _ _ _ _ G5.out (Nat.le_refl _)) ?_ (put5_rd _ _ _ _ _ HR5.out (by omega)))
            exact HNC.out.imp (fun b hA _ => ⟨hA.imp id (fun h => by have := HVZ.out; have := HZ.out; omega), put5_block _ _ _ _ _ _ _ b (by have := HVZ.out; have := HZ.out; rcases hA with h | h <;> omega)⟩) (by rw [put5_size]; exact Nat.le_refl _)
theorem named_ok {p : Option Addr} {c : Nat} {D : List Df} (hD : DefsIn W0 p D) (hl : D.length ≤ 1000) : NamedOk R s (.slice p D.length c) W0 D := fun _ _ _ _ hC h => named_c hD hl hC h
end Go.Proofs.YtahgljglleeloaaGreatDoor
