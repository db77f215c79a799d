/- RWhole, RAtt, in one text. -/
import Derived.Test.YtahgljglleeloaaGreatDoorRH
import Derived.Defers
import Derived.Recover
import Derived.Laws.Pointers
/- The reader reads all of the text. -/
namespace Go.Proofs.YtahgljglleeloaaGreatDoor
open Go.RowKit Go.Shelf Go.Maps SetM PropsM RxM
variable {R : Nat} {W W0 : World} {s : ByteArray} {dv : Value} {rest : List Int} {d : Nat} {cl : Bool}

/-- Names are read as the definitions say. -/
def NamedOk (R : Nat) (s : ByteArray) (dv : Value) (W0 : World) (D : List Df) : Prop :=
  ∀ (d : Nat) (cl : Bool) (W : World) (t : List Int), Cy R W0 W → Rd R W s dv (123 :: t) d cl → Calls Tryz.prog 62 #[.pointer (some ⟨R, 0, none⟩)] W (Post R s dv d cl W (nodeV W0.heap.size W.heap.size) (namedF D cl (123 :: t) t))
theorem alt_ok {D : List Df} (HN : NamedOk R s dv W0 D) : ∀ (n d : Nat) (cl : Bool), d + n = 20 → NodeOk 26 R s dv d cl W0 (fun _ => True) (altF D n cl)
  | 0, d, cl, h => by
    have : d = 20 := by omega
    subst this
    have HA : NodeOk 53 R s dv 20 cl W0 Begins (atomF D none cl) := atom_c (fun W t _ h => group_deep h) (fun W t hC h => HN 20 cl W t hC h)
    exact alt_c (cat_len (atom_len (by simp))) (cat_c (atom_len (by simp)) (rep_c HA))
  | n + 1, d, cl, h => by
    have ih : ∀ c, NodeOk 26 R s dv (d + 1) c W0 (fun _ => True) (altF D n c) := fun c => alt_ok HN n (d + 1) c (by omega)
    have HA : NodeOk 53 R s dv d cl W0 Begins (atomF D (some (altF D n)) cl) := atom_c (fun W t hC h => group_c (by omega) ih hC h) (fun W t hC h => HN d cl W t hC h)
    have hl : Lt (atomF D (some (altF D n)) cl) := atom_len (by rintro g hg c; cases hg; exact alt_len D n c)
    exact alt_c (cat_len hl) (cat_c hl (rep_c HA))
set_option maxRecDepth 100000 in
set_option maxHeartbeats 4000000 in
theorem whole_c {D : List Df} (HN : NamedOk R s dv W0 D) : NodeOk 19 R s dv 0 false W0 (fun _ => True) (wholeF D) := by
  intro W rest _ hC h
  obtain ⟨o, ho⟩ : ∃ o, o = wholeF D rest := ⟨_, rfl⟩
  rw [← ho]
  have HO := Lib.hid ho
  unfold wholeF at HO
  have hRl := h.lt
  have hLR := hC.le
  obtain ⟨V, hV⟩ : ∃ V, V = W.alloc (.cells #[.int .u8 0, .slice none 0 0, .slice none 0 0, .int .i64 0, .int .i64 0] 27) := ⟨_, rfl⟩
  have hb0 : Below W.heap.size W V := by rw [hV]; exact (Below.refl W.heap.size W).alloc (Nat.le_refl _) _
  have HZ : Hid (V.heap.size = W.heap.size + 1) := Lib.hid (by rw [hV]; exact World.size_alloc _ _)
  have HB5 : Hid (B5 V W.heap.size) := Lib.hid (by rw [hV]; exact B5.new W _ _ _ _ _)
  have HG0 := Lib.hid (Gr.of (R := R) hb0)
  have HA0 := Lib.hid (alt_ok HN 20 0 false (by omega) V rest trivial (hC.gr (Gr.of hb0)) (h.kept hb0))
  clear h ho hb0 hC HN
  go_enter Tryz.func19, Tryz.ntmps19
  go_wp2_with fail
  rw [← hV]
  refine HA0.out.mono ?_
  rintro e w1 ⟨g1, h1⟩
  have G1 := Lib.hid g1
  have G := Lib.hid (HG0.out.trans g1)
  clear g1 hV HA0
  cases hn : altF D 20 false rest with
  | err e x =>
    rw [hn] at h1 HO
    dsimp only at HO
    obtain rfl := h1
    clear hn
    go_wp2
    exact ⟨rfl, Post.bad HO.out G.out⟩
  | ok x r1 =>
    rw [hn] at h1 HO
    dsimp only at HO
    obtain ⟨v, rfl, hv, hr⟩ := h1
    obtain ⟨k, sp, sn, sc, kp, kn, kc, mn, mx, rfl⟩ := NV.form5 hv
    have hR1 : R < w1.heap.size := hr.lt
    have hB3 : W.heap.size < w1.heap.size := by have := G1.out.size; have := HZ.out; omega
    obtain ⟨V1, hV1⟩ : ∃ V1, V1 = w1.alloc (.cells #[.int .u8 k, .slice sp sn sc, .slice kp kn kc, .int .i64 mn, .int .i64 mx] 27) := ⟨_, rfl⟩
    have hb1 : Below w1.heap.size w1 V1 := by rw [hV1]; exact (Below.refl _ _).alloc (Nat.le_refl _) _
    have HVN : Hid (VarN V1 (Old W0.heap.size (W.heap.size + 1)) w1.heap.size x) := Lib.hid (by
      rw [hV1]
      refine ⟨k, sp, sn, sc, kp, kn, kc, mn, mx, heap_alloc_new w1 _, ?_⟩
      refine NV.imp hv (fun b hA hlt => ⟨⟨?_, by omega⟩, ((Below.refl w1.heap.size w1).alloc (Nat.le_refl _) _).block b hlt⟩) (by rw [World.size_alloc]; omega)
      rw [HZ.out] at hA
      exact hA)
    have HR := Lib.hid (hr.kept hb1)
    have G1 := Lib.hid (G1.out.trans (Gr.of hb1))
    have HED := Lib.hid (ended_c HR.out)
    clear hv hr hb1 hn
    go_wp2_with fail
    rw [← hV1]
    clear hV1
    obtain ⟨B, hB⟩ : ∃ B, B = w1.heap.size := ⟨_, rfl⟩
    rw [← hB] at HVN hB3 hR1 ⊢
    clear hB
    refine HED.out.mono ?_
    rintro e w2 ⟨rfl, b2⟩
    have HR := Lib.hid (HR.out.kept b2)
    have hvn := HVN.out.gr (Gr.of (R := R) b2) (by omega) (by omega)
    have G2 := Lib.hid (G1.out.trans (Gr.of b2))
    have GW := Lib.hid (HG0.out.trans G2.out)
    clear b2 HED HVN
    by_cases he : r1 = []
    · have hd : decide (r1 = []) = true := decide_eq_true he
      rw [if_pos he] at HO
      subst he
      have h5 := HB5.out.gr G2.out (by omega)
      obtain ⟨⟨x0, x1, x2, x3, x4, k0, k1, k2, k3, k4⟩, f0, f1, f2, f3, f4⟩ := h5.cells
      have H5 := Lib.hid h5
      obtain ⟨k, sp, sn, sc, kp, kn, kc, mn, mx, hb, hn⟩ := hvn
      have HN := Lib.hid hn
      obtain ⟨q0, q1, q2, q3, q4⟩ : w2.cell? ⟨B, 0, none⟩ = some (.int .u8 k) ∧ w2.cell? ⟨B, 1, none⟩ = some (.slice sp sn sc) ∧ w2.cell? ⟨B, 2, none⟩ = some (.slice kp kn kc) ∧ w2.cell? ⟨B, 3, none⟩ = some (.int .i64 mn) ∧ w2.cell? ⟨B, 4, none⟩ = some (.int .i64 mx) :=
        ⟨cell_of_row w2 B 0 _ _ _ hb, cell_of_row w2 B 1 _ _ _ hb, cell_of_row w2 B 2 _ _ _ hb, cell_of_row w2 B 3 _ _ _ hb, cell_of_row w2 B 4 _ _ _ hb⟩
      clear h5 hn hb
      go_wp2
      refine ret_node rfl rfl H5.out (Post.good HO.out (put5_grR _ _ _ _ _ GW.out (Nat.le_refl _)) ?_ (put5_rd _ _ _ _ _ HR.out (by omega)))
      exact put5_nv _ _ _ _ _ (HN.out.imp (fun b hA hlt => ⟨hA.1, rfl⟩) (Nat.le_refl _)) (Nat.lt_succ_self _) hRl (Nat.le_succ _)
    · have hd : decide (r1 = []) = false := decide_eq_false he
      rw [if_neg he] at HO
      have HM := Lib.hid (misplaced_c HR.out)
      clear he hvn
      go_wp2_with fail
      refine HM.out.mono ?_
      rintro e w3 ⟨rfl, b3⟩
      go_wp2
      exact ⟨rfl, Post.bad HO.out (GW.out.trans (Gr.of b3))⟩
end Go.Proofs.YtahgljglleeloaaGreatDoor

/- What a reader panics with is recovered. -/
namespace Go.Proofs.YtahgljglleeloaaGreatDoor
open Go.RowKit Go.Shelf Go.Maps SetM PropsM RxM

theorem catch_idle (p q : Addr) (w : World) :
    CallsD Tryz.prog 25 #[.pointer (some p), .pointer (some q)] .returning w fun e u' w' => e = .returned (.tuple #[]) ∧ u' = .returning ∧ w' = w := by
  refine callsD_of_wpS Tryz.func25 rfl fun c₀ cs hu => ?_
  show Code.wpS _ _ _ { tmps := #[.pointer (some p), .pointer (some q), undef, undef, undef, undef, undef, undef, undef, undef, undef, undef, undef, undef, undef], defers := [] } (c₀ :: cs) w
  apply wpS_seq
  apply wpS_region
  simp [wpOpsS, go_sem, recoverD, hu, Exit.thenS]
  refine wpS_of_wp ?_
  go_wp2
  cases c₀
  simp_all [bodyPostS, results, Tryz.results25]
theorem assert_runs (a b : Value) : ∀ (X : TypeId) w, (Instr.typeAssert (.iface 64 (.agg #[a, b])) X 64 true).run Tryz.prog w = .ok (.tuple #[.agg #[a, b], .bool true]) w := by
  intro X w
  simp [Instr.typeAssert, run_underlying Tryz.underlying64, go_sem]
set_option maxRecDepth 100000 in
set_option maxHeartbeats 1000000 in
theorem catch_panic (pb qb : Nat) (x y : Value) (n : Int) (z : Int) (w : World) (hp : w.cell? ⟨pb, 0, none⟩ = some x) (hpz : w.frozen? ⟨pb, 0, none⟩ = false) (hq : w.cell? ⟨qb, 0, none⟩ = some y) (hqz : w.frozen? ⟨qb, 0, none⟩ = false) (hlp : pb < w.heap.size) (hlq : qb < w.heap.size) (hne : qb ≠ pb) :
    CallsD Tryz.prog 25 #[.pointer (some ⟨pb, 0, none⟩), .pointer (some ⟨qb, 0, none⟩)] (.panicking [{ v := .iface 64 (.agg #[.int .u16 n, .int .i64 z]), recovered := false }]) w fun e u' w' =>
      e = .returned (.tuple #[]) ∧ u' = .panicking [{ v := .iface 64 (.agg #[.int .u16 n, .int .i64 z]), recovered := true }] ∧ ∃ w1, Below w.heap.size w w1 ∧ w' = (w1.setCell ⟨pb, 0, none⟩ (.int .u16 n)).setCell ⟨qb, 0, none⟩ (.int .i64 z) := by
  have hta := assert_runs
  refine callsD_of_wpS Tryz.func25 rfl fun c₀ cs hu => ?_
  show Code.wpS _ _ _ { tmps := #[.pointer (some ⟨pb, 0, none⟩), .pointer (some ⟨qb, 0, none⟩), undef, undef, undef, undef, undef, undef, undef, undef, undef, undef, undef, undef, undef], defers := [] } (c₀ :: cs) w
  apply wpS_seq
  apply wpS_region
  simp [wpOpsS, go_sem, recoverD, hu, Exit.thenS]
  refine wpS_of_wp ?_
  go_wp2
  have hb := (Below.refl w.heap.size w).alloc (Nat.le_refl _) (.cells #[.int .u16 n, .int .i64 z] 64)
  have u0 : (w.alloc (.cells #[.int .u16 n, .int .i64 z] 64)).cell? ⟨w.heap.size, 0, none⟩ = some (.int .u16 n) := by rw [cell_of_row _ w.heap.size 0 _ _ _ (heap_alloc_new w _)]; rfl
  have u1 : (w.alloc (.cells #[.int .u16 n, .int .i64 z] 64)).cell? ⟨w.heap.size, 1, none⟩ = some (.int .i64 z) := by rw [cell_of_row _ w.heap.size 1 _ _ _ (heap_alloc_new w _)]; rfl
  have hp := (hb.cell (p := ⟨pb, 0, none⟩) hlp).trans hp
  have hq := (hb.cell (p := ⟨qb, 0, none⟩) hlq).trans hq
  have hpz : (w.alloc (.cells #[.int .u16 n, .int .i64 z] 64)).frozen? ⟨pb, 0, none⟩ = false := by
    unfold World.frozen? at hpz ⊢
    rw [hb.block pb hlp]; exact hpz
  have hqz : (w.alloc (.cells #[.int .u16 n, .int .i64 z] 64)).frozen? ⟨qb, 0, none⟩ = false := by
    unfold World.frozen? at hqz ⊢
    rw [hb.block qb hlq]; exact hqz
  have HB := Lib.hid hb
  obtain ⟨U, hU⟩ : ∃ U, U = w.alloc (.cells #[.int .u16 n, .int .i64 z] 64) := ⟨_, rfl⟩
  rw [← hU] at HB hp hq hpz hqz u0 u1 ⊢
  have n1 : w.heap.size ≠ pb := by omega
  have n2 : w.heap.size ≠ qb := by omega
  clear hb hta
  clear hU
  have e1 : (U.drew.setCell ⟨pb, 0, none⟩ (.int .u16 n)).cell? ⟨w.heap.size, 0, none⟩ = some (.int .u16 n) := (World.cell?_of_block (Below.heap_setCell _ _ _ w.heap.size n1)).trans u0
  have e2 : (U.drew.setCell ⟨pb, 0, none⟩ (.int .u16 n)).cell? ⟨w.heap.size, 1, none⟩ = some (.int .i64 z) := (World.cell?_of_block (Below.heap_setCell _ _ _ w.heap.size n1)).trans u1
  have e3 : ((U.drew.setCell ⟨pb, 0, none⟩ (.int .u16 n)).setCell ⟨qb, 0, none⟩ (.int .i64 z)).cell? ⟨w.heap.size, 0, none⟩ = some (.int .u16 n) := (World.cell?_of_block (Below.heap_setCell _ _ _ w.heap.size n2)).trans e1
  have e4 : ((U.drew.setCell ⟨pb, 0, none⟩ (.int .u16 n)).setCell ⟨qb, 0, none⟩ (.int .i64 z)).cell? ⟨w.heap.size, 1, none⟩ = some (.int .i64 z) := (World.cell?_of_block (Below.heap_setCell _ _ _ w.heap.size n2)).trans e2
  have e5 : (U.drew.setCell ⟨pb, 0, none⟩ (.int .u16 n)).cell? ⟨qb, 0, none⟩ = some y := (World.cell?_of_block (Below.heap_setCell _ _ _ qb hne)).trans hq
  have e6 : (U.drew.setCell ⟨pb, 0, none⟩ (.int .u16 n)).frozen? ⟨qb, 0, none⟩ = false := (World.frozen?_of_block (Below.heap_setCell _ _ _ qb hne)).trans hqz
  refine wp_region_held_drew (S := (fun V => V.cell? ⟨w.heap.size, 0, none⟩ = some (.int .u16 n) ∧ V.cell? ⟨w.heap.size, 1, none⟩ = some (.int .i64 z))) (by kernel_rfl) (⟨u0, u1⟩) (fun hHeld => ?_)
  refine wpAnyH_take (i := 0) (oi := { dst := some 11, op := Op.fieldAddr 64 (Operand.tmp 3) 0, type := 0, pos := "rx.go:33", after := #[], guard := none }) (v := ?_) rfl (by kernel_rfl) (by kernel_rfl) (by kernel_rfl) (fun _ _ _ h => h) (Or.inl ⟨by rfl, ?hy0⟩) (by assumption) ?_
  case hy0 => (intro ww hSw; (try dsimp only at hSw); first | (go_simp; done) | (go_simp; with_reducible rfl))
  try simp only [Act.put, List.setIfInBounds_toArray, List.set_cons_zero, List.set_cons_succ]
  refine wpAnyH_take (i := 1) (oi := { dst := some 12, op := Op.load 29 (Operand.tmp 11), type := 29, pos := "rx.go:33", after := #[{ on := 0, ground := Ground.data }], guard := none }) (v := ?_) rfl (by kernel_rfl) (by kernel_rfl) (by kernel_rfl) (fun _ _ _ h => h) (Or.inl ⟨by rfl, ?hy1⟩) (by assumption) ?_
  case hy1 => (intro ww hSw; (try dsimp only at hSw); first | (go_simp; done) | (go_simp; with_reducible rfl))
  try simp only [Act.put, List.setIfInBounds_toArray, List.set_cons_zero, List.set_cons_succ]
  refine wpAnyH_take (i := 2) (oi := { dst := some 13, op := Op.fieldAddr 64 (Operand.tmp 3) 1, type := 0, pos := "rx.go:33", after := #[{ on := 4, ground := Ground.gcOnly Departure.lateStores }], guard := none }) (v := ?_) rfl (by kernel_rfl) (by kernel_rfl) (by kernel_rfl) (fun _ _ _ h => h) (Or.inl ⟨by rfl, ?hy2⟩) (by assumption) ?_
  case hy2 => (intro ww hSw; (try dsimp only at hSw); first | (go_simp; done) | (go_simp; with_reducible rfl))
  try simp only [Act.put, List.setIfInBounds_toArray, List.set_cons_zero, List.set_cons_succ]
  refine wpAnyH_take (i := 3) (oi := { dst := some 14, op := Op.load 3 (Operand.tmp 13), type := 3, pos := "rx.go:33", after := #[{ on := 2, ground := Ground.data }, { on := 4, ground := Ground.gcOnly Departure.lateStores }], guard := none }) (v := ?_) rfl (by kernel_rfl) (by kernel_rfl) (by kernel_rfl) (fun _ _ _ h => h) (Or.inl ⟨by rfl, ?hy3⟩) (by assumption) ?_
  case hy3 => (intro ww hSw; (try dsimp only at hSw); first | (go_simp; done) | (go_simp; with_reducible rfl))
  try simp only [Act.put, List.setIfInBounds_toArray, List.set_cons_zero, List.set_cons_succ]
  refine wpAnyH_ready (rs := [4]) (by kernel_rfl) (by simp) ?_
  refine AllReadyH.cons (o := { dst := none, op := Op.store 29 (Operand.tmp 0) (Operand.tmp 12), type := 0, pos := "rx.go:33", after := #[{ on := 1, ground := Ground.data }, { on := 0, ground := Ground.phase }, { on := 1, ground := Ground.phase }, { on := 2, ground := Ground.textOnly Departure.lateStores }, { on := 3, ground := Ground.textOnly Departure.lateStores }], guard := none }) rfl (fun K hK => ?_) ?more4
  case more4 => exact AllReadyH.nil
  go_simp
  refine hK.out _ _ (⟨e1, e2⟩) (fun hHeld => ?_)
  clear hK K
  try simp only [Act.put, List.setIfInBounds_toArray, List.set_cons_zero, List.set_cons_succ]
  refine wpAnyH_ready (rs := [5]) (by kernel_rfl) (by simp) ?_
  refine AllReadyH.cons (o := { dst := none, op := Op.store 3 (Operand.tmp 1) (Operand.tmp 14), type := 0, pos := "rx.go:33", after := #[{ on := 3, ground := Ground.data }, { on := 4, ground := Ground.chain }, { on := 0, ground := Ground.phase }, { on := 1, ground := Ground.phase }, { on := 2, ground := Ground.phase }, { on := 3, ground := Ground.phase }, { on := 4, ground := Ground.phase }], guard := none }) rfl (fun K hK => ?_) ?more5
  case more5 => exact AllReadyH.nil
  go_simp
  refine hK.out _ _ (⟨e3, e4⟩) (fun hHeld => ?_)
  clear hK K
  try simp only [Act.put, List.setIfInBounds_toArray, List.set_cons_zero, List.set_cons_succ]
  refine wpAnyH_done (by kernel_rfl) ?_ _
  have hex : ∃ w1, Below w.heap.size w w1 ∧ ((U.setCell ⟨pb, 0, none⟩ (.int .u16 n)).setCell ⟨qb, 0, none⟩ (.int .i64 z)).drew = (w1.setCell ⟨pb, 0, none⟩ (.int .u16 n)).setCell ⟨qb, 0, none⟩ (.int .i64 z) := ⟨U.drew, HB.out.drew, rfl⟩
  have HEX := Lib.hid hex
  clear hex e1 e2 e3 e4 e5 e6 u0 u1 hHeld
  generalize ((U.setCell ⟨pb, 0, none⟩ (.int .u16 n)).setCell ⟨qb, 0, none⟩ (.int .i64 z)).drew = wz at *
  go_wp2
  simp [bodyPostS, results, Tryz.results25]
  exact HEX.out
/-- The way out, with three results in variables. -/
theorem results3 {tmps : Array Value} {w : World} {B1 B2 B3 : Nat} {k : Int} {sp : Option Addr} {sn sc : Nat} {kp : Option Addr} {kn kc : Nat} {mn mx n z : Int}
    (h1 : tmps.getD 2 undef = .pointer (some ⟨B1, 0, none⟩)) (h2 : tmps.getD 3 undef = .pointer (some ⟨B2, 0, none⟩)) (h3 : tmps.getD 4 undef = .pointer (some ⟨B3, 0, none⟩))
    (b1 : w.heap[B1]? = some (.cells #[.int .u8 k, .slice sp sn sc, .slice kp kn kc, .int .i64 mn, .int .i64 mx] 27 (0, 0))) (b2 : w.heap[B2]? = some (.cells #[.int .u16 n] 29 (0, 0))) (b3 : w.heap[B3]? = some (.cells #[.int .i64 z] 3 (0, 0))) :
    (results Tryz.f18 tmps).run Tryz.prog w = .ok (.tuple #[.agg #[.int .u8 k, .slice sp sn sc, .slice kp kn kc, .int .i64 mn, .int .i64 mx], .int .u16 n, .int .i64 z]) w := by
  have h1' : tmps[2]?.getD undef = .pointer (some ⟨B1, 0, none⟩) := by simpa using h1
  have h2' : tmps[3]?.getD undef = .pointer (some ⟨B2, 0, none⟩) := by simpa using h2
  have h3' : tmps[4]?.getD undef = .pointer (some ⟨B3, 0, none⟩) := by simpa using h3
  have c2 : w.cell? ⟨B2, 0, none⟩ = some (.int .u16 n) := cell_of_row w _ 0 _ _ _ b2
  have c3 : w.cell? ⟨B3, 0, none⟩ = some (.int .i64 z) := cell_of_row w _ 0 _ _ _ b3
  have q0 : w.cell? ⟨B1, 0, none⟩ = some (.int .u8 k) := cell_of_row w _ 0 _ _ _ b1
  have q1 : w.cell? ⟨B1, 1, none⟩ = some (.slice sp sn sc) := cell_of_row w _ 1 _ _ _ b1
  have q2 : w.cell? ⟨B1, 2, none⟩ = some (.slice kp kn kc) := cell_of_row w _ 2 _ _ _ b1
  have q3 : w.cell? ⟨B1, 3, none⟩ = some (.int .i64 mn) := cell_of_row w _ 3 _ _ _ b1
  have q4 : w.cell? ⟨B1, 4, none⟩ = some (.int .i64 mx) := cell_of_row w _ 4 _ _ _ b1
  simp [results, Tryz.results18, h1', h2', h3', go_sem, c2, c3, q0, q1, q2, q3, q4]
theorem gr_set2 {R : Nat} {W U : World} (h : Gr R W U) (a b : Nat) (x y : Value) (ha : W.heap.size ≤ a) (hb : W.heap.size ≤ b) : Gr R W ((U.setCell ⟨a, 0, none⟩ x).setCell ⟨b, 0, none⟩ y) :=
  ⟨h.os, h.tape, h.output, by rw [World.size_setCell, World.size_setCell]; exact h.size, fun k hk hr => (Below.heap_setCell _ _ _ k (by show k ≠ b; omega)).trans ((Below.heap_setCell _ _ _ k (by show k ≠ a; omega)).trans (h.block k hk hr))⟩
theorem nv_set2 {N n m : Nat} {U : World} {v : Value} {t : Nd} (h : NV U (Old N n) v t) (a b : Nat) (x y : Value) (ha : N ≤ a ∧ a < n) (hb : N ≤ b ∧ b < n) (hm : m ≤ n) : NV ((U.setCell ⟨a, 0, none⟩ x).setCell ⟨b, 0, none⟩ y) (Old N m) v t :=
  h.imp (fun k hA _ => ⟨hA.imp id (fun h => by omega), (Below.heap_setCell _ _ _ k (by show k ≠ b; rcases hA with h | h <;> omega)).trans (Below.heap_setCell _ _ _ k (by show k ≠ a; rcases hA with h | h <;> omega))⟩) (by rw [World.size_setCell, World.size_setCell]; exact Nat.le_refl _)
/-- What an attempt comes to. -/
def AttPost (N R : Nat) (s : ByteArray) (W : World) (o : Out Nd) (e : Ending) (W' : World) : Prop :=
  Gr R W W' ∧ match o with
  | .ok x _ => ∃ v, e = .returned (.tuple #[v, .int .u16 0, .int .i64 0]) ∧ NV W' (Old N W.heap.size) v x
  | .err n r => e = .returned (.tuple #[.agg #[.int .u8 0, .slice none 0 0, .slice none 0 0, .int .i64 0, .int .i64 0], .int .u16 n, .int .i64 ((s.size : Int) - ((U.UtfM.wr r).length : Nat))])
theorem enters_whole : ∀ args w, (callFunc 19 args).run Tryz.prog w = .ok (.enter 19 args) w := enters_of Tryz.func19 (by kernel_rfl) rfl
set_option maxRecDepth 100000 in
set_option maxHeartbeats 4000000 in
theorem attempt_c {R : Nat} {W W0 : World} {s : ByteArray} {dv : Value} {rest : List Int} {D : List Df} (HN : NamedOk R s dv W0 D) (hC : Cy R W0 W) (h : Rd R W s dv rest 0 false) :
    Calls Tryz.prog 18 #[.func (.func 19) #[.pointer (some ⟨R, 0, none⟩)] #[]] W (AttPost W0.heap.size R s W (wholeF D rest)) := by
  have hmf : ∀ (fn : Fn) (first cap : Array Value) (w : World), (Instr.makeFunc fn first cap).run Tryz.prog w = .ok (.func fn first cap) w := fun _ _ _ _ => rfl
  have hen := enters_whole
  have hRl := h.lt
  have hLR := hC.le
  obtain ⟨o, ho⟩ : ∃ o, o = wholeF D rest := ⟨_, rfl⟩
  rw [← ho]
  obtain ⟨V, hV⟩ : ∃ V, V = ((W.alloc (.cells #[.int .u8 0, .slice none 0 0, .slice none 0 0, .int .i64 0, .int .i64 0] 27)).alloc (.cells #[.int .u16 0] 29)).alloc (.cells #[.int .i64 0] 3) := ⟨_, rfl⟩
  have hb1 := (Below.refl W.heap.size W).alloc (Nat.le_refl _) (.cells #[.int .u8 0, .slice none 0 0, .slice none 0 0, .int .i64 0, .int .i64 0] 27)
  have hb2 := hb1.alloc hb1.size (.cells #[.int .u16 0] 29)
  have hb0 : Below W.heap.size W V := by rw [hV]; exact hb2.alloc hb2.size (.cells #[.int .i64 0] 3)
  have HW := Lib.hid (whole_c HN V rest trivial (hC.gr (Gr.of hb0)) (h.kept hb0))
  have HG0 := Lib.hid (Gr.of (R := R) hb0)
  have z1 := World.size_alloc W (.cells #[.int .u8 0, .slice none 0 0, .slice none 0 0, .int .i64 0, .int .i64 0] 27)
  have z2 := World.size_alloc (W.alloc (.cells #[.int .u8 0, .slice none 0 0, .slice none 0 0, .int .i64 0, .int .i64 0] 27)) (.cells #[.int .u16 0] 29)
  have HZ : Hid (V.heap.size = W.heap.size + 3) := Lib.hid (by rw [hV, World.size_alloc, World.size_alloc, World.size_alloc])
  have HB : Hid (V.heap[W.heap.size]? = some (.cells #[.int .u8 0, .slice none 0 0, .slice none 0 0, .int .i64 0, .int .i64 0] 27 (0, 0)) ∧ V.heap[W.heap.size + 1]? = some (.cells #[.int .u16 0] 29 (0, 0)) ∧ V.heap[W.heap.size + 1 + 1]? = some (.cells #[.int .i64 0] 3 (0, 0))) := Lib.hid (by
    have k1 := heap_alloc_new W (.cells #[.int .u8 0, .slice none 0 0, .slice none 0 0, .int .i64 0, .int .i64 0] 27)
    have k2 := heap_alloc_new (W.alloc (.cells #[.int .u8 0, .slice none 0 0, .slice none 0 0, .int .i64 0, .int .i64 0] 27)) (.cells #[.int .u16 0] 29)
    have k3 := heap_alloc_new ((W.alloc (.cells #[.int .u8 0, .slice none 0 0, .slice none 0 0, .int .i64 0, .int .i64 0] 27)).alloc (.cells #[.int .u16 0] 29)) (.cells #[.int .i64 0] 3)
    rw [z1] at k2
    rw [z2, z1] at k3
    have m2 := (Below.refl _ (W.alloc (.cells #[.int .u8 0, .slice none 0 0, .slice none 0 0, .int .i64 0, .int .i64 0] 27))).alloc (Nat.le_refl _) (.cells #[.int .u16 0] 29)
    have m3 := (Below.refl _ ((W.alloc (.cells #[.int .u8 0, .slice none 0 0, .slice none 0 0, .int .i64 0, .int .i64 0] 27)).alloc (.cells #[.int .u16 0] 29))).alloc (Nat.le_refl _) (.cells #[.int .i64 0] 3)
    rw [hV]
    exact ⟨(m3.block _ (by omega)).trans ((m2.block _ (by omega)).trans k1), (m3.block _ (by omega)).trans k2, k3⟩)
  rw [← ho] at HW
  clear hb1 hb2 hb0 h hC HN z1 z2 ho
  go_enter_defers Tryz.func18, Tryz.ntmps18
  go_wp2_with fail
  rw [← hV]
  refine HW.out.mono ?_
  rintro e w1 ⟨g1, h1⟩
  obtain ⟨b0, b1, b2⟩ := HB.out
  have hg : ∀ i, i < 3 → w1.heap[W.heap.size + i]? = V.heap[W.heap.size + i]? := fun i hi => g1.block _ (by have := HZ.out; omega) (fun e => by have e' : W.heap.size + i = R := Option.some.inj e; omega)
  have b0 := (hg 0 (by omega)).trans b0
  have b1 := (hg 1 (by omega)).trans b1
  have b2 := (hg 2 (by omega)).trans b2
  have G := Lib.hid (HG0.out.trans g1)
  have hz1 := g1.size
  have hVz := HZ.out
  have HBB := Lib.hid (And.intro b0 (And.intro b1 b2))
  have c1 : w1.cell? ⟨W.heap.size + 1, 0, none⟩ = some (.int .u16 0) := cell_of_row w1 _ 0 _ _ _ b1
  have f1' : w1.frozen? ⟨W.heap.size + 1, 0, none⟩ = false := by simp [World.frozen?, b1]
  have c2 : w1.cell? ⟨W.heap.size + 1 + 1, 0, none⟩ = some (.int .i64 0) := cell_of_row w1 _ 0 _ _ _ b2
  have f2' : w1.frozen? ⟨W.heap.size + 1 + 1, 0, none⟩ = false := by simp [World.frozen?, b2]
  clear hg g1 hV HW HB
  cases o with
  | err n r =>
    obtain rfl := h1
    clear b0 b1 b2
    go_wp2
    refine leaves_cons (f := 25) (args := #[.pointer (some ⟨W.heap.size + 1, 0, none⟩), .pointer (some ⟨W.heap.size + 1 + 1, 0, none⟩)]) (by simp) (by simp [go_sem]) ?_
    refine (catch_panic _ _ _ _ n _ w1 c1 f1' c2 f2' (by omega) (by omega) (by omega)).mono ?_
    rintro e u' w'' ⟨rfl, rfl, w2, hb2, rfl⟩
    obtain ⟨b0, b1, b2⟩ := HBB.out
    have k1 : ((w2.setCell ⟨W.heap.size + 1, 0, none⟩ (.int .u16 n)).setCell ⟨W.heap.size + 1 + 1, 0, none⟩ (.int .i64 ((s.size : Int) - ((U.UtfM.wr r).length : Nat)))).heap[W.heap.size]? = some (.cells #[.int .u8 0, .slice none 0 0, .slice none 0 0, .int .i64 0, .int .i64 0] 27 (0, 0)) :=
      (Below.heap_setCell _ _ _ _ (by show W.heap.size ≠ W.heap.size + 1 + 1; omega)).trans ((Below.heap_setCell _ _ _ _ (by show W.heap.size ≠ W.heap.size + 1; omega)).trans ((hb2.block _ (by omega)).trans b0))
    have k2 := (Below.heap_setCell (w2.setCell ⟨W.heap.size + 1, 0, none⟩ (.int .u16 n)) ⟨W.heap.size + 1 + 1, 0, none⟩ (.int .i64 ((s.size : Int) - ((U.UtfM.wr r).length : Nat))) (W.heap.size + 1) (by show W.heap.size + 1 ≠ W.heap.size + 1 + 1; omega)).trans (heap_setR w2 _ _ _ ((hb2.block _ (by omega)).trans b1) 0 (.int .u16 n))
    have k3 := heap_setR (w2.setCell ⟨W.heap.size + 1, 0, none⟩ (.int .u16 n)) _ _ _ ((Below.heap_setCell w2 ⟨W.heap.size + 1, 0, none⟩ (.int .u16 n) (W.heap.size + 1 + 1) (by show W.heap.size + 1 + 1 ≠ W.heap.size + 1; omega)).trans ((hb2.block _ (by omega)).trans b2)) 0 (.int .i64 ((s.size : Int) - ((U.UtfM.wr r).length : Nat)))
    refine ⟨_, results3 rfl rfl rfl k1 k2 k3, ?_, rfl⟩
    exact gr_set2 (G.out.trans (Gr.of hb2)) _ _ _ _ (by omega) (by omega)
  | ok x r =>
    obtain ⟨v, rfl, hv, hr⟩ := h1
    have h5 : B5 w1 W.heap.size := ⟨_, _, _, _, _, b0⟩
    obtain ⟨⟨x0, x1, x2, x3, x4, k0, k1, k2, k3, k4⟩, f0, f1, f2, f3, f4⟩ := h5.cells
    have H5 := Lib.hid h5
    have HV := Lib.hid hv
    obtain ⟨k, sp, sn, sc, kp, kn, kc, mn, mx, rfl⟩ := NV.form5 hv
    clear hv h5 b0 b1 b2
    go_wp2
    refine leaves_cons (f := 25) (args := #[.pointer (some ⟨W.heap.size + 1, 0, none⟩), .pointer (some ⟨W.heap.size + 1 + 1, 0, none⟩)]) (by simp) (by simp [go_sem]) ?_
    refine (catch_idle _ _ _).mono ?_
    rintro e u' w'' ⟨rfl, rfl, rfl⟩
    obtain ⟨b0, b1, b2⟩ := HBB.out
    have p5 := put5_b5 (.int .u8 k) (.slice sp sn sc) (.slice kp kn kc) (.int .i64 mn) (.int .i64 mx) H5.out
    have pk : ∀ j, j ≠ W.heap.size → (put5 w1 W.heap.size (.int .u8 k) (.slice sp sn sc) (.slice kp kn kc) (.int .i64 mn) (.int .i64 mx)).heap[j]? = w1.heap[j]? := fun j hj => put5_block _ _ _ _ _ _ _ j hj
    have GP := put5_grR (.int .u8 k) (.slice sp sn sc) (.slice kp kn kc) (.int .i64 mn) (.int .i64 mx) G.out (Nat.le_refl _)
    have PZ : (put5 w1 W.heap.size (.int .u8 k) (.slice sp sn sc) (.slice kp kn kc) (.int .i64 mn) (.int .i64 mx)).heap.size = w1.heap.size := put5_size ..
    have PN := put5_nv (m := V.heap.size) (n := V.heap.size) (.int .u8 k) (.slice sp sn sc) (.slice kp kn kc) (.int .i64 mn) (.int .i64 mx) HV.out (by omega) hRl (by omega)
    change Leaves _ _ _ _ [] .returning (((put5 w1 W.heap.size (.int .u8 k) (.slice sp sn sc) (.slice kp kn kc) (.int .i64 mn) (.int .i64 mx)).setCell ⟨W.heap.size + 1, 0, none⟩ (.int .u16 0)).setCell ⟨W.heap.size + 1 + 1, 0, none⟩ (.int .i64 0))
    generalize put5 w1 W.heap.size (.int .u8 k) (.slice sp sn sc) (.slice kp kn kc) (.int .i64 mn) (.int .i64 mx) = w2 at *
    have k1 : ((w2.setCell ⟨W.heap.size + 1, 0, none⟩ (.int .u16 0)).setCell ⟨W.heap.size + 1 + 1, 0, none⟩ (.int .i64 0)).heap[W.heap.size]? = some (.cells #[.int .u8 k, .slice sp sn sc, .slice kp kn kc, .int .i64 mn, .int .i64 mx] 27 (0, 0)) :=
      (Below.heap_setCell _ _ _ _ (by show W.heap.size ≠ W.heap.size + 1 + 1; omega)).trans ((Below.heap_setCell _ _ _ _ (by show W.heap.size ≠ W.heap.size + 1; omega)).trans p5)
    have k2 := (Below.heap_setCell (w2.setCell ⟨W.heap.size + 1, 0, none⟩ (.int .u16 0)) ⟨W.heap.size + 1 + 1, 0, none⟩ (.int .i64 0) (W.heap.size + 1) (by show W.heap.size + 1 ≠ W.heap.size + 1 + 1; omega)).trans (heap_setR w2 _ _ _ ((pk _ (by omega)).trans b1) 0 (.int .u16 0))
    have k3 := heap_setR (w2.setCell ⟨W.heap.size + 1, 0, none⟩ (.int .u16 0)) _ _ _ ((Below.heap_setCell w2 ⟨W.heap.size + 1, 0, none⟩ (.int .u16 0) (W.heap.size + 1 + 1) (by show W.heap.size + 1 + 1 ≠ W.heap.size + 1; omega)).trans ((pk _ (by omega)).trans b2)) 0 (.int .i64 0)
    refine ⟨_, results3 rfl rfl rfl k1 k2 k3, gr_set2 GP _ _ _ _ (by omega) (by omega), _, rfl, ?_⟩
    exact nv_set2 PN _ _ _ _ (by omega) (by omega) (by omega)
end Go.Proofs.YtahgljglleeloaaGreatDoor
