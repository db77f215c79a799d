/- set.marks: the marks of two lists of spans, in an order that rises. -/
import Derived.Test.YtkphbjppmiefkaaDoorEnds
import Derived.Maps.AppendAt
import Derived.Test.YtkphbjppmiefkaaDoorSort
namespace Go.Proofs.YtkphbjppmiefkaaDoor
open Go.RowKit Go.Shelf SetM
attribute [local go_sem] Oper.semAt_some

def MarksPost (w : World) (a b : List Sp) (e : Ending) (w' : World) : Prop :=
  ∃ (v : Value) (row : List Mk), e = .returned v ∧ List.Perm (raw a b) row ∧ Rises row ∧ w'.ownsRow w.heap.size 89 3 v row.length (cellsM row) ∧ Below w.heap.size w w'

theorem infoM : (Tryd.prog.info? 89).map (fun i => (i.zero, i.size, i.bytes)) = some (some (.agg #[.int .i64 0, .int .i64 0, .int .i64 0]), 3, 24) := by kernel_rfl

/-- What holds between two rounds: out is boxed, and holds the marks up to here. -/
def MI (w : World) (Bo Bs : Nat) (acc : List Mk) (side : Int) (pre : List End) (W : World) : Prop :=
  (∃ v, Boxed W Bo 86 v ∧ W.ownsRow w.heap.size 89 3 v (acc ++ rawOf side (pre.map (·.1))).length (cellsM (acc ++ rawOf side (pre.map (·.1))))) ∧ Boxed W Bs 3 (.int .i64 side)

theorem endsE_len (l : List Sp) : (endsE l).length ≤ 2 * l.length := by
  have := endsL_len l
  rw [← endsE_val, List.length_map] at this
  exact this
theorem MI_own (w : World) (Bo Bs : Nat) (acc : List Mk) (side : Int) : Own (MI w Bo Bs acc side) := by
  intro s X Y row hs hg hr
  obtain ⟨⟨v, h1, h2⟩, h3⟩ := hs
  obtain ⟨v', h1', h2', _⟩ := holdsRow_own (β := Unit) w.heap.size Bo 86 89 3 (fun _ => (acc ++ rawOf side (s.map (·.1))).length) (fun _ => cellsM (acc ++ rawOf side (s.map (·.1)))) (fun _ _ => True) () X Y row ⟨v, h1, h2, trivial⟩ hg hr
  exact ⟨⟨v', h1', h2'⟩, boxed_kept h3 hg hr⟩
theorem kp_appended {W w1 : World} {n₀ Bo k : Nat} {v v' : Value} {xs : List Value} {tmp : Obj} (hv : Boxed W Bo 86 v) (hrow : W.ownsRow n₀ 89 3 v k xs)
    (hgrow : (W.alloc tmp).grownBy w1 v.ownBlock) (hb : Below n₀ W (w1.setCell ⟨Bo, 0, none⟩ v')) : Kp n₀ W (w1.setCell ⟨Bo, 0, none⟩ v') := by
  refine ⟨hb, fun j cs fr e => ?_⟩
  have hlt : j < W.heap.size := (Array.getElem?_eq_some_iff.1 e).1
  have e1 : (W.alloc tmp).heap[j]? = some (.cells cs 42 fr) := (Below.heap_alloc W tmp j hlt).trans e
  have hne : some j ≠ v.ownBlock := fun he => by
    rcases hrow.2 with ⟨rfl, _⟩ | ⟨g, cap, cur, rfl, _, hgb, _⟩
    · simp [Value.ownBlock] at he
    · obtain rfl : j = g := by simpa [Value.ownBlock] using he
      rw [e] at hgb
      injection hgb with hgb
      injection hgb with _ ht
      exact absurd ht (by decide)
  have e2 := (hgrow.block j (by simp; omega) hne).trans e1
  have hjb : j ≠ Bo := fun he => by
    subst he
    have h2 : W.heap[j]? = _ := hv
    rw [e] at h2
    injection h2 with h2
    injection h2 with _ ht
    exact absurd ht (by decide)
  exact (Below.heap_setCell w1 ⟨Bo, 0, none⟩ v' j hjb).trans e2
theorem keptD_own {B D : Nat} {o : Obj} (hD : D < B) : OwnFrom B (fun (_ : List End) W => W.heap[D]? = some o) := fun _ X Y row hs hg hr => by
  have hlt : D < X.heap.size := (Array.getElem?_eq_some_iff.1 hs).1
  exact (hg.block D hlt (fun e => by have := (hr _ e.symm).1; omega)).trans hs
theorem own_ne {W : World} {base : Nat} {e : TypeId} {size k : Nat} {v : Value} {xs : List Value} (h : W.ownsRow base e size v k xs) {l : Nat} {o : Obj} (hl : W.heap[l]? = some o) (ho : o.isCells = false) : some l ≠ v.ownBlock := fun he => by
  rcases h.2 with ⟨rfl, _⟩ | ⟨g, cap, cur, rfl, _, hgb, _⟩
  · simp [Value.ownBlock] at he
  · obtain rfl : l = g := by simpa [Value.ownBlock] using he
    rw [hgb] at hl; cases hl; cases ho
theorem cell_news (w : World) (l : List Value) (t : TypeId) : ∀ j u, l[j]? = some u → (w.alloc (.cells l.toArray t)).cell? ((⟨w.heap.size, 0, none⟩ : Addr).add j) = some u := by
  intro j u hj
  have : ((⟨w.heap.size, 0, none⟩ : Addr).add j) = ⟨w.heap.size, j, none⟩ := by unfold Addr.add; split <;> simp_all
  rw [this, cell_of_row _ w.heap.size j l.toArray t (0, 0) (World.alloc_heap_new w _)]
  simpa using hj
theorem rawOf_snoc (side : Int) (pre : List End) (x : End) : rawOf side ((pre ++ [x]).map (·.1)) = rawOf side (pre.map (·.1)) ++ marksOf side x.1 := by
  simp [rawOf]

set_option maxRecDepth 100000 in
set_option maxHeartbeats 2000000 in
theorem marks_in (A B : Option Addr) (ca cb : Nat) (xs ys : List Sp) (hla : xs.length ≤ 1073741824) (hlb : ys.length ≤ 1073741824) (w : World) (h0 : 0 < w.heap.size) (hA : Areas w) (hSa : Spans w.heap.size w A xs) (hSb : Spans w.heap.size w B ys) :
    CallsIn Fence.wide 3 Tryd.prog 57 #[.slice A xs.length ca, .slice B ys.length cb] w (MarksPost w xs ys) := by
  obtain ⟨F, hFw⟩ : ∃ F, F = Fence.wide := ⟨_, rfl⟩
  have hro : F.round = none := by rw [hFw]; rfl
  have hF : ∀ f, F.fn f := fun f => by rw [hFw]; trivial
  rw [← hFw]
  have h15 := hF 57
  have h35 := hF 49
  have h46 := hF 63
  have h50 := hF 65
  have HFw := Lib.hid hFw
  clear hF hFw
  obtain ⟨i0, hi, hz0, hz1, hz2⟩ := info_parts infoM
  refine callsIn_of_wp_marks Tryd.func57 rfl h15 ?_ hro
  simp only [Tryd.ntmps57, List.size_toArray, List.length_cons, List.length_nil, Nat.reduceAdd, Nat.reduceSub, Array.replicate_succ, Array.replicate_zero, List.push_toArray, List.append_toArray, List.nil_append, List.cons_append]
  have hix0 : ∀ w, (Instr.index 101 (.agg #[.slice A xs.length ca, .slice B ys.length cb]) (.int .i64 0)).run Tryd.prog w = .ok (.slice A xs.length ca) w := fun _ => by kernel_rfl
  have hix1 : ∀ w, (Instr.index 101 (.agg #[.slice A xs.length ca, .slice B ys.length cb]) (.int .i64 1)).run Tryd.prog w = .ok (.slice B ys.length cb) w := fun _ => by kernel_rfl
  gi_wp2
  refine wpIn_loop_rounds 3 ?_
  rw [roundsIn_succ]
  gi_wp2_with (gi_at_call 49; refine (toIn (n := 2) HFw (ends_any _ _ _ _)).mono ?_; rintro e w' ⟨rfl, rfl⟩)
  have bO := Boxed.new w 86 (.slice none 0 0)
  have bS := Boxed.new (w.alloc (.cells #[.slice none 0 0] 86)) 3 (.int .i64 0)
  have bN := Boxed.new ((w.alloc (.cells #[.slice none 0 0] 86)).alloc (.cells #[.int .i64 0] 3)) 28 (.slice A xs.length ca)
  rw [World.size_alloc] at bS
  rw [World.size_alloc, World.size_alloc] at bN
  have hB0 : Below w.heap.size w (((w.alloc (.cells #[.slice none 0 0] 86)).alloc (.cells #[.int .i64 0] 3)).alloc (.cells #[.slice A xs.length ca] 28)) := (((Below.refl _ w).alloc (Nat.le_refl _) _).alloc (by simp) _).alloc (by simp; omega) _
  have hsz0 : (((w.alloc (.cells #[.slice none 0 0] 86)).alloc (.cells #[.int .i64 0] 3)).alloc (.cells #[.slice A xs.length ca] 28)).heap.size = w.heap.size + 1 + 1 + 1 := by simp only [World.size_alloc]
  have HSZ0 := Lib.hid hsz0
  have mi0 : MI w w.heap.size (w.heap.size + 1) [] 0 [] (((w.alloc (.cells #[.slice none 0 0] 86)).alloc (.cells #[.int .i64 0] 3)).alloc (.cells #[.slice A xs.length ca] 28)) := ⟨⟨_, (bO.alloc _).alloc _, World.ownsRow_nil _ _ _ _⟩, bS.alloc _⟩
  clear bO bS hsz0
  generalize (((w.alloc (.cells #[.slice none 0 0] 86)).alloc (.cells #[.int .i64 0] 3)).alloc (.cells #[.slice A xs.length ca] 28)) = W0 at *
  refine wpIn_rangeFunc_ownG (α := End) hro (by omega) (gf := 63) (lb := #[.pointer (some ⟨w.heap.size + 1 + 1, 0, none⟩)]) rfl h46 (enters_of Tryd.func63 (by kernel_rfl) rfl)
    (ends_stopsF HFw 2 (w.heap.size + 1 + 1) w.heap.size h0 A ca xs hla _ bN.lt hB0.size bN.cell (hA.below hB0 h0) (hSa.below hB0)) Kp.trans (Kp.put hB0.size) (Below.refl _ _) (fun _ => rfl)
    (fun pre W => MI w w.heap.size (w.heap.size + 1) [] 0 pre W ∧ Below w.heap.size w W) (fun _ _ _ => False)
    (OwnFrom.and (Own.from (MI_own _ _ _ _ _) _) (ownFrom_below (Nat.le_refl _) hB0.size)) (fun _ _ _ _ _ hs _ _ => hs)
    ⟨mi0, hB0⟩
    (fun x => { tmps := #[.slice A xs.length ca, .slice B ys.length cb, undef, undef, .slice none 0 0, .pointer (some ⟨w.heap.size, 0, none⟩), .pointer (some ⟨w.heap.size + 1, 0, none⟩), .slice A xs.length ca, .int .i64 x.1.1, .int .i64 x.1.2, .slice A xs.length ca, .slice B ys.length cb, .agg #[.slice A xs.length ca, .slice B ys.length cb], .int .i64 0, .bool true, .int .i64 0, .slice A xs.length ca, .slice A xs.length ca, .func (.func 63) #[] #[.pointer (some ⟨w.heap.size + 1 + 1, 0, none⟩)], .int .i64 x.1.1, .int .i64 x.1.2, undef, undef, undef, undef, undef, undef, undef, undef, undef, undef, undef, undef, undef, undef], defers := [] }) ?assign ?body ?done ?stop
  case assign =>
    intro l x W K hK
    simp only [endE]
    gi_wp2
    exact hK
  case body =>
    clear mi0 bN
    rintro l pre x W ⟨⟨⟨v, bO, hrow⟩, bS⟩, hB⟩ hpl
    have hpl2 := endsE_len xs
    have hlen := rawOf_len 0 (pre.map (·.1))
    rw [List.length_map] at hlen
    have hco := bO.cell
    have hfo := bO.frozen
    have hcs := bS.cell
    obtain ⟨x0, x1, x2⟩ := x.2
    generalize hms : [] ++ rawOf 0 (pre.map (·.1)) = ms at hrow
    have hmsl : ms.length ≤ 2147483648 * 2 := by rw [← hms, List.nil_append]; omega
    have HMS := Lib.hid hms
    clear hms hlen
    gi_wp2_with (gi_at_builtin; refine wpListIn_append_own _ rfl _ _ 86 rfl w.heap.size 89 i0 (.agg #[.int .i64 0, .int .i64 0, .int .i64 0]) 3 24 Tryd.underlying86 hi hz0 hz1 hz2 rfl (by decide) _ _ _ rfl (hrow.alloc _) ⟨W.heap.size, 0, none⟩ 2 2 [.int .i64 x.1.1, .int .i64 0, .int .i64 1, .int .i64 (x.1.2 + 1), .int .i64 0, .int .i64 (-1)] rfl rfl (cell_news _ _ _) (by simp [Value.oneCell']) (by unfold maxLen; omega) (by omega) (by have := hB.size; simp; omega) ?_; intro v' w1 hown' hgrow _; obtain ⟨g', cap', rfl⟩ := ownsRow_succ hown'; obtain ⟨hv1, hv2, hr2, hk2, hb2⟩ := bO.appended (by decide) hrow hB.size (Nat.le_refl _) hown' hgrow; have hc1 := hv1.cell; have hf1 := hv1.frozen)
    have bS2 := ((bS.alloc (.cells #[.int .i64 x.1.1, .int .i64 0, .int .i64 1, .int .i64 (x.1.2 + 1), .int .i64 0, .int .i64 (-1)] 89)).kept hgrow (bS.not_row (by decide) hrow)).kept (grownBy_setCell' w1 w.heap.size (.slice (some ⟨g', 0, none⟩) (ms.length + 1 + 1) cap')) (by simp)
    have hnew : [] ++ rawOf 0 ((pre ++ [x]).map (·.1)) = ms ++ marksOf 0 x.1 := by rw [rawOf_snoc, ← HMS.out, List.append_assoc]
    exact ⟨hk2.from _, kp_appended bO hrow hgrow hb2, ⟨⟨_, hv2, by rw [hnew, cellsM_append, List.length_append]; exact hr2⟩, bS2⟩, hB.trans hb2⟩
  case done =>
    rintro D1 zs W1 hD rfl ⟨mi1, hB1⟩ hK
    clear mi0 bN
    obtain ⟨⟨v1, bO1, hrow1⟩, _⟩ := mi1
    rw [List.nil_append, endsE_val] at hrow1
    gi_wp2
    rw [roundsIn_succ]
    gi_wp2_with (gi_at_call 49; refine (toIn (n := 2) HFw (ends_any _ _ _ _)).mono ?_; rintro e w' ⟨rfl, rfl⟩)
    have bS := Boxed.new W1 3 (.int .i64 1)
    have bN := Boxed.new (W1.alloc (.cells #[.int .i64 1] 3)) 28 (.slice B ys.length cb)
    rw [World.size_alloc] at bN
    have hB2 : Below w.heap.size w ((W1.alloc (.cells #[.int .i64 1] 3)).alloc (.cells #[.slice B ys.length cb] 28)) := (hB1.alloc hB1.size _).alloc (by have := hB1.size; simp; omega) _
    have mi2 : MI w w.heap.size W1.heap.size (rawOf 0 (endsL xs)) 1 [] ((W1.alloc (.cells #[.int .i64 1] 3)).alloc (.cells #[.slice B ys.length cb] 28)) := ⟨⟨v1, (bO1.alloc _).alloc _, by rw [show rawOf 0 (endsL xs) ++ rawOf 1 (([] : List End).map (·.1)) = rawOf 0 (endsL xs) from by simp [rawOf]]; exact (hrow1.alloc _).alloc _⟩, bS.alloc _⟩
    have hDl : D1 < W1.heap.size := (Array.getElem?_eq_some_iff.1 hK).1
    have hK2 : ((W1.alloc (.cells #[.int .i64 1] 3)).alloc (.cells #[.slice B ys.length cb] 28)).heap[D1]? = some (.deferred (some [])) := (Below.heap_alloc _ _ _ (by simp; omega)).trans ((Below.heap_alloc _ _ _ hDl).trans hK)
    have hD2 : D1 < ((W1.alloc (.cells #[.int .i64 1] 3)).alloc (.cells #[.slice B ys.length cb] 28)).heap.size := by simp; omega
    have hdn : w.heap.size ≤ D1 := by have := HSZ0.out; omega
    clear bS bO1 hrow1 hK
    generalize ((W1.alloc (.cells #[.int .i64 1] 3)).alloc (.cells #[.slice B ys.length cb] 28)) = W2 at *
    refine wpIn_rangeFunc_ownG (α := End) hro (by omega) (gf := 63) (lb := #[.pointer (some ⟨W1.heap.size + 1, 0, none⟩)]) rfl h46 (enters_of Tryd.func63 (by kernel_rfl) rfl)
      (ends_stopsF HFw 2 (W1.heap.size + 1) w.heap.size h0 B cb ys hlb _ bN.lt hB2.size bN.cell (hA.below hB2 h0) (hSb.below hB2)) Kp.trans (Kp.put hB2.size) (Below.refl _ _) (fun _ => rfl)
      (fun pre W => (MI w w.heap.size W1.heap.size (rawOf 0 (endsL xs)) 1 pre W ∧ W.heap[D1]? = some (.deferred (some []))) ∧ Below w.heap.size w W) (fun _ _ _ => False)
      (OwnFrom.and (OwnFrom.and (Own.from (MI_own _ _ _ _ _) _) (keptD_own hD2)) (ownFrom_below (Nat.le_refl _) hB2.size)) (fun _ _ _ _ _ hs _ _ => hs)
      ⟨⟨mi2, hK2⟩, hB2⟩
      (fun x => { tmps := #[.slice A xs.length ca, .slice B ys.length cb, undef, undef, .slice none 0 0, .pointer (some ⟨w.heap.size, 0, none⟩), .pointer (some ⟨W1.heap.size, 0, none⟩), .slice B ys.length cb, .int .i64 x.1.1, .int .i64 x.1.2, .slice A xs.length ca, .slice B ys.length cb, .agg #[.slice A xs.length ca, .slice B ys.length cb], .int .i64 1, .bool true, .int .i64 1, .slice B ys.length cb, .slice B ys.length cb, .func (.func 63) #[] #[.pointer (some ⟨W1.heap.size + 1, 0, none⟩)], .int .i64 x.1.1, .int .i64 x.1.2, undef, undef, undef, undef, undef, undef, undef, undef, undef, undef, .int .i64 1, undef, undef, undef], defers := [] }) ?assign2 ?body2 ?done2 ?stop2
    case assign2 =>
      intro l x W K hK
      simp only [endE]
      gi_wp2
      exact hK
    case body2 =>
      clear mi2 bN hK2
      rintro l pre x W ⟨⟨⟨⟨v, bO, hrow⟩, bS⟩, hKd⟩, hB⟩ hpl
      have hpl2 := endsE_len ys
      have hlen := rawOf_len 1 (pre.map (·.1))
      rw [List.length_map] at hlen
      have hco := bO.cell
      have hfo := bO.frozen
      have hcs := bS.cell
      obtain ⟨x0, x1, x2⟩ := x.2
      have hl1 := rawOf_len 0 (endsL xs)
      have hl2 := endsL_len xs
      generalize hms : rawOf 0 (endsL xs) ++ rawOf 1 (pre.map (·.1)) = ms at hrow
      have hmsl : ms.length ≤ 2147483648 * 4 := by rw [← hms, List.length_append]; omega
      have HMS := Lib.hid hms
      clear hms hlen hl1 hl2
      gi_wp2_with (gi_at_builtin; refine wpListIn_append_own _ rfl _ _ 86 rfl w.heap.size 89 i0 (.agg #[.int .i64 0, .int .i64 0, .int .i64 0]) 3 24 Tryd.underlying86 hi hz0 hz1 hz2 rfl (by decide) _ _ _ rfl (hrow.alloc _) ⟨W.heap.size, 0, none⟩ 2 2 [.int .i64 x.1.1, .int .i64 1, .int .i64 1, .int .i64 (x.1.2 + 1), .int .i64 1, .int .i64 (-1)] rfl rfl (cell_news _ _ _) (by simp [Value.oneCell']) (by unfold maxLen; omega) (by omega) (by have := hB.size; simp; omega) ?_; intro v' w1 hown' hgrow _; obtain ⟨g', cap', rfl⟩ := ownsRow_succ hown'; obtain ⟨hv1, hv2, hr2, hk2, hb2⟩ := bO.appended (by decide) hrow hB.size (Nat.le_refl _) hown' hgrow; have hc1 := hv1.cell; have hf1 := hv1.frozen)
      have bS2 := ((bS.alloc (.cells #[.int .i64 x.1.1, .int .i64 1, .int .i64 1, .int .i64 (x.1.2 + 1), .int .i64 1, .int .i64 (-1)] 89)).kept hgrow (bS.not_row (by decide) hrow)).kept (grownBy_setCell' w1 w.heap.size (.slice (some ⟨g', 0, none⟩) (ms.length + 1 + 1) cap')) (by have := hB1.size; simp; omega)
      have hnew : rawOf 0 (endsL xs) ++ rawOf 1 ((pre ++ [x]).map (·.1)) = ms ++ marksOf 1 x.1 := by rw [rawOf_snoc, ← HMS.out, List.append_assoc]
      exact ⟨hk2.from _, kp_appended bO hrow hgrow hb2, ⟨⟨⟨_, hv2, by rw [hnew, cellsM_append, List.length_append]; exact hr2⟩, bS2⟩, hk2.same D1 _ hKd rfl⟩, hB.trans hb2⟩
    case done2 =>
      rintro E zs W3 hE rfl ⟨⟨mi3, hK3⟩, hB3⟩ hKe
      clear mi2 bN hK2
      obtain ⟨⟨v3, bO3, hrow3⟩, _⟩ := mi3
      rw [endsE_val] at hrow3
      have hraw : rawOf 0 (endsL xs) ++ rawOf 1 (endsL ys) = raw xs ys := rfl
      rw [hraw] at hrow3
      have hc3 := bO3.cell
      gi_wp2
      rw [roundsIn_succ]
      have hlr := raw_len xs ys
      gi_wp2_with (gi_at_call 65; refine (toIn (n := 2) HFw (sort_any w.heap.size v3 (raw xs ys) (by omega) W3 hrow3)).mono ?_; rintro e w4 ⟨rfl, row, hperm, hrise, hrow4, hg4⟩; have hc4 := (bO3.kept hg4 (bO3.not_row (by decide) hrow3)).cell)
      have hEl : E < W3.heap.size := (Array.getElem?_eq_some_iff.1 hKe).1
      have hDl3 : D1 < W3.heap.size := (Array.getElem?_eq_some_iff.1 hK3).1
      have hKe4 := (hg4.block E hEl (own_ne hrow3 hKe rfl)).trans hKe
      have hK4 := (hg4.block D1 hDl3 (own_ne hrow3 hK3 rfl)).trans hK3
      have hne : D1 ≠ E := by omega
      have hK5 : (w4.putObj E (.deferred none)).heap[D1]? = some (.deferred (some [])) := ((grownBy_putObj' w4 E (.deferred none)).block D1 (Array.getElem?_eq_some_iff.1 hK4).1 (by simpa using hne)).trans hK4
      have hB4 := hB3.grown hg4 hB3.size (fun k e => (hrow3.lt k e).1)
      have hEw : w.heap.size ≤ E := by have := hB2.size; omega
      refine ⟨by simp, .inl ⟨_, _, rfl, run_takeDeferred hKe4, ?_⟩⟩
      refine ⟨by simp, .inl ⟨_, _, rfl, run_takeDeferred hK5, ?_⟩⟩
      exact ⟨_, results_tmp rfl _ _ _, v3, row, rfl, hperm, hrise, ownsRow_putObj (ownsRow_putObj hrow4 _ hKe4 rfl) _ hK5 rfl,
        (hB4.trans (belowK_b (w := w) (Nat.le_refl _) _ E _ _ hEw hKe4 rfl rfl)).trans (belowK_b (w := w) (Nat.le_refl _) _ D1 _ _ hdn hK5 rfl rfl)⟩
    case stop2 =>
      rintro E c pre W3 _ _ h _
      exact h.elim
  case stop =>
    rintro D c pre W _ _ h _
    exact h.elim

theorem marks_any (A B : Option Addr) (ca cb : Nat) (xs ys : List Sp) (hla : xs.length ≤ 1073741824) (hlb : ys.length ≤ 1073741824) (w : World) (h0 : 0 < w.heap.size) (hA : Areas w) (hSa : Spans w.heap.size w A xs) (hSb : Spans w.heap.size w B ys) :
    Calls Tryd.prog 57 #[.slice A xs.length ca, .slice B ys.length cb] w (MarksPost w xs ys) := callsIn_wide.1 (marks_in A B ca cb xs ys hla hlb w h0 hA hSa hSb)
end Go.Proofs.YtkphbjppmiefkaaDoor
