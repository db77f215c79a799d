/- The iterator of rows: its contract. -/
import Derived.Test.YtgaalkcociifmaaDoorSStack
import Derived.Test.YtgaalkcociifmaaDoorSParts
import Derived.Test.YtgaalkcociifmaaDoorSRow
import Derived.Test.YtgaalkcociifmaaDoorSCut
import Derived.Sort.LoopGhostIn
import Derived.Stop.RegionWithIn
namespace Go.Proofs.YtgaalkcociifmaaDoor
open Go.RowKit Go.Shelf SeqM
open U.UtfM (enc)
attribute [local go_sem] Oper.semAt_some

theorem len1 {l : List Int} (h : l.length = 1) : ∃ a, l = [a] := by match l, h with | [a], _ => exact ⟨a, rfl⟩
theorem len2 {l : List Int} (h : l.length = 2) : ∃ a b, l = [a, b] := by match l, h with | [a, b], _ => exact ⟨a, b, rfl⟩
theorem len3 {l : List Int} (h : l.length = 3) : ∃ a b c, l = [a, b, c] := by match l, h with | [a, b, c], _ => exact ⟨a, b, c, rfl⟩
theorem len4 {l : List Int} (h : l.length = 4) : ∃ a b c d, l = [a, b, c, d] := by match l, h with | [a, b, c, d], _ => exact ⟨a, b, c, d, rfl⟩
theorem row_any (n : Nat) (a b : Int) (hg : SeqM.Good (n, a, b)) (w : World) : Calls Tryd.prog 58 #[.agg #[.int .i64 a, .int .i64 b]] w (RowNew w (a, b)) := by
  have hab := hg.in.2.1
  have h1 := hg.len (Int.le_refl a) hab
  have h2 := hg.len hab (Int.le_refl b)
  rcases (good_cases hg).2.2 with ⟨rfl, _⟩ | ⟨rfl, _⟩ | ⟨rfl, _⟩ | ⟨rfl, _⟩
  · obtain ⟨x0, hx⟩ := len1 h1
    obtain ⟨y0, hy⟩ := len1 h2
    exact row1 a b _ _ hx hy w
  · obtain ⟨x0, x1, hx⟩ := len2 h1
    obtain ⟨y0, y1, hy⟩ := len2 h2
    exact row2 a b _ _ _ _ hx hy w
  · obtain ⟨x0, x1, x2, hx⟩ := len3 h1
    obtain ⟨y0, y1, y2, hy⟩ := len3 h2
    exact row3 a b _ _ _ _ _ _ hx hy w
  · obtain ⟨x0, x1, x2, x3, hx⟩ := len4 h1
    obtain ⟨y0, y1, y2, y3, hy⟩ := len4 h2
    exact row4 a b _ _ _ _ _ _ _ _ hx hy w

/-- What holds between two parts: the rows of the parts that came have come. -/
def RI (J : List RowEl → World → Prop) (W : World) (l n₀ : Nat) (pre : List Pt) (X : World) : Prop :=
  ∃ ys : List RowEl, ys.map (·.2.2) = leavesP (pre.map (·.1)) ∧ J ys X ∧ Boxed X W.heap.size 68 (.func (.yield l) #[] #[]) ∧ Below n₀ W X
theorem RI_own {J : List RowEl → World → Prop} {W : World} {l n₀ B : Nat} (hJ : AbideR W.heap.size J) (hB : W.heap.size ≤ B) (hn : n₀ ≤ W.heap.size) : OwnFrom B (RI J W l n₀) := fun s X Y row ⟨ys, h1, h2, h3, h4⟩ hg hr => by
  refine ⟨ys, h1, hJ ys X Y row h2 hg (fun r e => ?_), boxed_kept h3 hg (fun r e => (hr r e).2), h4.grown hg (Nat.le_trans hn h4.size) (fun k e => ?_)⟩
  · obtain ⟨h5, o, h6, h7⟩ := hr r e; exact ⟨Nat.le_trans hB h5, o, h6, .inl h7⟩
  · have := (hr k e).1; omega
/-- The frame of a round: the part in a box. -/
def RA (x : Pt) (f : Nat → Array Value) (a' : Act) (X : World) : Prop :=
  ∃ Bx, X.heap[Bx]? = some (.cells #[.int .i64 x.1.2.1, .int .i64 x.1.2.2] 43 (0, 0)) ∧ a' = { tmps := f Bx, defers := [] }
theorem RA_own (B : Nat) (x : Pt) (f : Nat → Array Value) (a' : Act) : OwnFrom B (fun (_ : Unit) X => RA x f a' X) := fun _ X Y row ⟨Bx, h1, h2⟩ hg hr => by
  refine ⟨Bx, (hg.block Bx (Array.getElem?_eq_some_iff.1 h1).1 (fun e => ?_)).trans h1, h2⟩
  obtain ⟨_, o, ho, hc⟩ := hr Bx e.symm
  rw [h1] at ho; cases ho; cases hc

/-- What holds at the head of a round over the stack. -/
def RL (J : List RowEl → World → Prop) (V : World) (n₀ B2 p : Nat) (L0 : List Sp) (g : Nat) (v : Value) (X : World) : Prop :=
  ∃ (st : List Sp) (k gb cap : Nat) (ys : List RowEl), st.length = k ∧ v = .slice (some ⟨gb, 0, none⟩) k cap ∧ mea p st = g ∧ g ≤ 3000000 ∧ X.ownsRow V.heap.size 43 2 (.slice (some ⟨gb, 0, none⟩) k cap) k (cellsS st) ∧ (∀ s ∈ st, SeqM.Good (p, s)) ∧
    J ys X ∧ ys.map (·.2.2) ++ stL p st = L0 ∧ Kr n₀ B2 V X
theorem cut_some {n : Nat} {a b x : Int} (hg : SeqM.Good (n, a, b)) (h : cutAt n a b = some x) (w : World) : Calls Tryd.prog 57 #[.agg #[.int .i64 a, .int .i64 b], .int .i64 n] w fun e w' => e = .returned (.tuple #[.int .i64 x, .bool true]) ∧ Below w.heap.size w w' := by
  obtain ⟨h1, h2, h3⟩ := hg.in
  refine (cutAt_any n a b hg.1 hg.2.1 h1 h2 h3 w).mono ?_
  rintro e w' ⟨rfl, hb⟩
  exact ⟨by rw [h]; rfl, hb⟩
theorem cut_none {n : Nat} {a b : Int} (hg : SeqM.Good (n, a, b)) (h : cutAt n a b = none) (w : World) : Calls Tryd.prog 57 #[.agg #[.int .i64 a, .int .i64 b], .int .i64 n] w fun e w' => e = .returned (.tuple #[.int .i64 0, .bool false]) ∧ Below w.heap.size w w' := by
  obtain ⟨h1, h2, h3⟩ := hg.in
  refine (cutAt_any n a b hg.1 hg.2.1 h1 h2 h3 w).mono ?_
  rintro e w' ⟨rfl, hb⟩
  exact ⟨by rw [h]; rfl, hb⟩

set_option maxRecDepth 100000 in
set_option maxHeartbeats 4000000 in
theorem rows_in (n : Nat) (hn : 5 ≤ n) (l Bs n₀ : Nat) (h0n : 1 < n₀) (h1n : 0 < n₀) (A : Option Addr) (cap : Nat) (xs : List SetM.Sp) (hlen : xs.length ≤ 1000) (J : List RowEl → World → Prop) (W : World)
    (hJ : AbideR W.heap.size J)
    (hY : ∀ pre x W1, J pre W1 → RowIn x W1 → pre.length < (parts (nrm xs)).length * 1114112 → YieldAt Fence.wide (n - 1) Tryd.prog l (rowE x) W1 fun e W' => e = .returned (.bool true) ∧ J (pre ++ [x]) W' ∧ Kr n₀ W.heap.size W1 W')
    (hBl : Bs < W.heap.size) (hBs : W.cell? ⟨Bs, 0, none⟩ = some (.slice A xs.length cap)) (hA : Areas W) (hL : Lens W) (hS : Spans n₀ W A xs) (hn0 : n₀ ≤ W.heap.size) (h0 : J [] W) :
    CallsIn Fence.wide n Tryd.prog 55 #[.func (.yield l) #[] #[], .pointer (some ⟨Bs, 0, none⟩)] W fun e W' => (∃ v, e = .returned v) ∧ ∃ ys : List RowEl, ys.map (·.2.2) = leavesOf (nrm xs) ∧ J ys W' := by
  obtain ⟨F, hFw⟩ : ∃ F, F = Fence.wide := ⟨_, rfl⟩
  have hro : F.round = none := by rw [hFw]; rfl
  have hF : ∀ f, F.fn f := fun f => by rw [hFw]; trivial
  have hdp : F.depth = none := by rw [hFw]; rfl
  rw [← hFw] at hY ⊢
  have hf55 := hF 55
  have hf56 := hF 56
  have hf70 := hF 70
  have hf57 := hF 57
  have hf58 := hF 58
  have HFw := Lib.hid hFw
  have HY := Lib.hid (fun pre x W1 h1 h2 h3 => yield_any hdp (n - 1 - 1 - 1) (hY pre x W1 h1 h2 h3))
  have HJ := Lib.hid hJ
  clear hF hFw hY hJ
  have b1 : Below W.heap.size W (W.alloc (.cells #[.func (.yield l) #[] #[]] 68)) := (Below.refl _ _).alloc (Nat.le_refl _) _
  have c1 : (W.alloc (.cells #[.func (.yield l) #[] #[]] 68)).cell? ⟨Bs, 0, none⟩ = some (.slice A xs.length cap) := (b1.cell (p := ⟨Bs, 0, none⟩) hBl).trans hBs
  refine callsIn_of_wp_marks Tryd.func55 rfl hf55 ?_ hro
  simp only [Tryd.ntmps55, List.size_toArray, List.length_cons, List.length_nil, Nat.reduceAdd, Nat.reduceSub, Array.replicate_succ, Array.replicate_zero, List.push_toArray, List.append_toArray, List.nil_append, List.cons_append]
  gi_wp2_with (gi_at_call 56; refine (toIn (n := n - 1) HFw (eachPart_c _ _ _ _)).mono ?_; rintro e w' ⟨rfl, rfl⟩)
  have bY := Boxed.new W 68 (.func (.yield l) #[] #[])
  have bN := Boxed.new (W.alloc (.cells #[.func (.yield l) #[] #[]] 68)) 25 (.slice A xs.length cap)
  rw [World.size_alloc] at bN
  have bY2 := bY.alloc (.cells #[.slice A xs.length cap] 25)
  have b2 : Below W.heap.size W ((W.alloc (.cells #[.func (.yield l) #[] #[]] 68)).alloc (.cells #[.slice A xs.length cap] 25)) := b1.alloc b1.size _
  have z2 : ((W.alloc (.cells #[.func (.yield l) #[] #[]] 68)).alloc (.cells #[.slice A xs.length cap] 25)).heap.size = W.heap.size + 1 + 1 := by simp only [World.size_alloc]
  have Z2 := Lib.hid z2
  have j2 := HJ.out.below h0 b2
  clear bY z2 c1
  generalize ((W.alloc (.cells #[.func (.yield l) #[] #[]] 68)).alloc (.cells #[.slice A xs.length cap] 25)) = W2 at *
  have hz2 : W.heap.size ≤ W2.heap.size := b2.size
  refine wpIn_rangeFunc_ownH (α := Pt) hro (by omega) (gf := 70) (lb := #[.pointer (some ⟨W.heap.size + 1, 0, none⟩)]) rfl hf70 (enters_of Tryd.func70 (by kernel_rfl) rfl)
    (parts_stops HFw (n - 1) (W.heap.size + 1) n₀ h0n h1n A cap xs (by omega) W2 bN.lt (by omega) bN.cell (hA.below (b2.mono hn0) h0n) (hL.below (b2.mono hn0) h1n) (hS.below (b2.mono hn0))) Kp.trans (Kp.put (by omega)) (Below.refl _ _) (fun _ => rfl)
    (RI J W l n₀) (fun _ _ _ => False) (RI_own HJ.out hz2 hn0) (fun _ _ _ _ _ hs _ _ => hs) ⟨[], rfl, j2, bY2, b2.mono hn0⟩
    (fun x a' X => RA x (fun Bx => #[.func (.yield l) #[] #[], .pointer (some ⟨Bs, 0, none⟩), .pointer (some ⟨W.heap.size, 0, none⟩), .int .i64 x.1.1, .pointer (some ⟨Bx, 0, none⟩), undef, undef, undef, undef, undef, .slice A xs.length cap, .func (.func 70) #[] #[.pointer (some ⟨W.heap.size + 1, 0, none⟩)], .int .i64 x.1.1, .agg #[.int .i64 x.1.2.1, .int .i64 x.1.2.2], undef, undef, undef, undef, undef, undef, undef, undef, undef, undef, undef, undef, undef, undef, undef, undef, undef, undef, undef, undef, undef, undef, undef, undef, undef, undef, undef, undef, undef, undef, undef, undef, undef, undef, undef, undef, undef, undef, undef]) a' X) (fun x a' => RA_own _ x _ a') ?assign ?body ?done ?stop
  case assign =>
    intro l' pre x X K hi hK
    have hx0 : n₀ ≤ X.heap.size := by obtain ⟨_, _, _, _, h4⟩ := hi; have := h4.size; omega
    have ha := RI_own HJ.out hz2 hn0 pre X (X.alloc (.cells #[.int .i64 x.1.2.1, .int .i64 x.1.2.2] 43)) none hi (World.grownBy_alloc _ _ _) (fun _ e => by cases e)
    simp only [partE]
    gi_wp2
    exact hK _ _ ((KeepsOthers.alloc _ _).from _) ((Kp.refl _ _).alloc hx0 _) ha ⟨X.heap.size, heap_alloc_new _ _, rfl⟩
  case done =>
    rintro D ps X hD hS' ⟨ys, h1, h2, h3, h4⟩ hK
    gi_wp2
    refine ⟨by simp, .inl ⟨_, _, rfl, run_takeDeferred hK, ?_⟩⟩
    exact ⟨_, results_none rfl _ _ _, ⟨_, rfl⟩, ys, by rw [h1, hS']; rfl, HJ.out.put _ h2 (by omega) hK rfl⟩
  case stop =>
    rintro D c pre X _ _ h _
    exact h.elim
  case body =>
    rintro l' pre ⟨⟨p, lo, hi⟩, hg⟩ a' V hl' ⟨r, hr⟩ ⟨ys, hys, hj, hbY, hbV⟩ ⟨Bx, hBx, rfl⟩ hpl
    dsimp only at *
    have q0 : V.cell? ⟨Bx, 0, none⟩ = some (.int .i64 lo) := by rw [cell_of_row V Bx 0 _ _ _ hBx]; rfl
    have q1 : V.cell? ⟨Bx, 1, none⟩ = some (.int .i64 hi) := by rw [cell_of_row V Bx 1 _ _ _ hBx]; rfl
    have hgp := hg.1
    have hgp4 := hg.2.1
    have HBY := Lib.hid hbY
    have HPL : Hid ((leavesP (pre.map (·.1)) ++ leaves p lo hi).length ≤ (parts (nrm xs)).length * 1114112) := Lib.hid (by
      have h1 := leavesP_len (pre.map (·.1)) (fun q hq => by obtain ⟨y, _, rfl⟩ := List.mem_map.1 hq; exact y.2)
      have h2 : (leaves p lo hi).length ≤ 1114112 := good_len hg
      simp only [List.length_map] at h1
      rw [List.length_append]
      have h3 : (pre.length + 1) * 1114112 ≤ (parts (nrm xs)).length * 1114112 := Nat.mul_le_mul_right _ hpl
      rw [Nat.succ_mul] at h3
      omega)
    have hnV : n₀ ≤ V.heap.size := by have := hbV.size; omega
    have HRL : RL J V n₀ W2.heap.size p (leavesP (pre.map (·.1)) ++ leaves p lo hi) (mea p [(lo, hi)]) (.slice (some ⟨V.heap.size, 0, none⟩) 1 1) (V.alloc (.cells #[.int .i64 lo, .int .i64 hi] 43)) := by
      refine ⟨[(lo, hi)], 1, _, _, ys, rfl, rfl, rfl, ?_, ?_, fun s hs => by rw [List.mem_singleton.1 hs]; exact hg, HJ.out.below hj ((Below.refl _ _).alloc (Nat.le_refl _) _), ?_, (Kr.refl _ _ _).alloc hnV _⟩
      · have h2 : (leaves p lo hi).length ≤ 1114112 := good_len hg
        simp [mea]; omega
      · exact ⟨rfl, .inr ⟨_, _, _, rfl, Nat.le_refl _, heap_alloc_new _ _, Nat.le_refl _, by simp [maxLen], rfl, rfl⟩⟩
      · rw [hys]; simp [stL]
    have HLL : Hid (leavesP ((pre ++ [(⟨(p, lo, hi), hg⟩ : Pt)]).map (·.1)) = leavesP (pre.map (·.1)) ++ leaves p lo hi) := Lib.hid (by rw [List.map_append]; exact leavesP_snoc _ _)
    clear hys hj hbY hBx hr
    generalize hL0 : leavesP (pre.map (·.1)) ++ leaves p lo hi = L0 at *
    clear hL0
    gi_wp2
    clear q0 q1
    gi_loopg [5] (mea p [(lo, hi)]) (fun g s5 X => RL J V n₀ W2.heap.size p L0 g s5 X)
    case atStart => exact HRL
    case round =>
      clear HRL
      obtain ⟨st, k, gb, cap', ys', hk, rfl, hme, hg3, hown, hgs, hj, hys, hkr⟩ := hrel
      rcases List.eq_nil_or_concat st with rfl | ⟨st', t, rfl⟩
      · obtain rfl : k = 0 := hk.symm
        have hs0 : stL p [] = [] := rfl
        rw [hs0, List.append_nil] at hys
        have HFIN : Hid (RI J W l n₀ (pre ++ [⟨(p, lo, hi), hg⟩]) wr) := Lib.hid ⟨ys', by rw [hys, HLL.out], hj, hkr.cells _ _ _ _ (.inr rfl) HBY.out, hbV.trans hkr.below⟩
        clear hme hown hgs hj hys hs0
        gi_wp2
        exact ⟨hkr.keeps, hkr.kp, HFIN.out⟩
      · rw [List.concat_eq_append] at *
        obtain rfl : st'.length + 1 = k := by rw [← hk, List.length_append]; rfl
        have htg := hgs t (by simp)
        have HGS := Lib.hid hgs
        have HYS := Lib.hid hys
        have HME := Lib.hid hme
        have HOWN := Lib.hid hown
        obtain ⟨q0, q1⟩ := own_top hown
        obtain ⟨hgb, _⟩ := own_at hown
        have hcap : st'.length + 1 ≤ cap' := by
          rcases hown.2 with ⟨e, _⟩ | ⟨_, _, _, e, _, _, h1, _⟩
          · cases e
          · cases e; exact h1
        have hcapm : cap' ≤ maxLen := by
          rcases hown.2 with ⟨e, _⟩ | ⟨_, _, _, e, _, _, _, h2, _⟩
          · cases e
          · cases e; exact h2
        unfold maxLen at hcapm
        have hstl : st'.length ≤ 3000000 := by have := mea_len p _ (fun s hs => SeqM.good_le (HGS.out s hs)); rw [List.length_append, HME.out] at this; omega
        have hpop := own_pop hown
        clear hgs hys hme hown hk
        obtain ⟨ta, tb⟩ := t
        dsimp only at *
        have hVW : W.heap.size ≤ V.heap.size := hbV.size
        have bw7 : Below wr.heap.size wr (wr.alloc (.cells #[.int .i64 ta, .int .i64 tb] 43)) := (Below.refl _ _).alloc (Nat.le_refl _) _
        have h77 := heap_alloc_new wr (.cells #[.int .i64 ta, .int .i64 tb] 43)
        have z7 := World.size_alloc wr (.cells #[.int .i64 ta, .int .i64 tb] 43)
        have HK7 := Lib.hid (hkr.step hnV bw7)
        have HJ7 := Lib.hid (HJ.out.below hj bw7)
        have HP7 := Lib.hid (hpop.alloc (.cells #[.int .i64 ta, .int .i64 tb] 43))
        have H77 := Lib.hid h77
        have Z7 := Lib.hid z7
        clear hj hpop hkr bw7 h77 z7
        cases hc : cutAt p ta tb with
        | some x =>
          obtain ⟨hx1, hx2⟩ := cutAt_in (SeqM.good_le htg) hc
          obtain ⟨ht0, _, ht2⟩ := htg.in
          have HCUT := Lib.hid (fun w => cut_some htg hc w)
          have HST := Lib.hid (stL_cut st' (SeqM.good_le htg) hc)
          have HMC := Lib.hid (mea_cut st' (SeqM.good_le htg) hc)
          obtain ⟨i0, hi0, hz0, hz1, hz3⟩ := info_parts infoS
          clear hc
          gi_wp2_with fail
          clear q0 q1
          refine (CallsIn.inRound l' (toIn HFw (HCUT.out _))).mono ?_
          rintro e X1 ⟨rfl, bX1⟩
          have hX7 := (bX1.block wr.heap.size (by rw [Z7.out]; omega)).trans H77.out
          have q0 : X1.cell? ⟨wr.heap.size, 0, none⟩ = some (.int .i64 ta) := by rw [cell_of_row X1 _ 0 _ _ _ hX7]; rfl
          have q1 : X1.cell? ⟨wr.heap.size, 1, none⟩ = some (.int .i64 tb) := by rw [cell_of_row X1 _ 1 _ _ _ hX7]; rfl
          have hk1 := HK7.out.step hnV bX1
          have hj1 := HJ.out.below HJ7.out bX1
          have hp1 := HP7.out.kept (below_grown bX1) (.inr (by simp [Value.ownBlock]))
          have hVX : V.heap.size ≤ X1.heap.size := hk1.keeps.size
          clear hX7 bX1
          gi_wp2_with (gi_at_builtin; refine wpListIn_append_own _ rfl _ _ 25 rfl V.heap.size 43 i0 (.agg #[.int .i64 0, .int .i64 0]) 2 16 Tryd.underlying25 hi0 hz0 hz1 hz3 rfl (by decide) _ _ _ rfl (hp1.alloc _) ⟨X1.heap.size, 0, none⟩ 2 2 [.int .i64 x, .int .i64 tb, .int .i64 ta, .int .i64 (x - 1)] rfl rfl (cell_news _ _ _) (by simp [Value.oneCell']) (by unfold maxLen; omega) (by omega) (by simp only [World.size_alloc]; omega) ?_; intro v' X2 hown' hgrow _; obtain ⟨g', cap2, rfl⟩ := ownsRow_succ hown')
          obtain ⟨_, cur, hcur⟩ := own_at (hp1.alloc (.cells #[.int .i64 x, .int .i64 tb, .int .i64 ta, .int .i64 (x - 1)] 43))
          have hj2 := HJ.out ys' _ _ (some gb) (HJ.out.below hj1 ((Below.refl _ _).alloc (Nat.le_refl _) (.cells #[.int .i64 x, .int .i64 tb, .int .i64 ta, .int .i64 (x - 1)] 43))) hgrow (fun r e => by cases e; exact ⟨by omega, _, hcur, .inr ⟨_, _, rfl⟩⟩)
          have hk2 := (hk1.alloc hnV (.cells #[.int .i64 x, .int .i64 tb, .int .i64 ta, .int .i64 (x - 1)] 43)).grown hgrow hnV (fun r e => by cases e; exact hgb)
          have HREL : Hid (RL J V n₀ W2.heap.size p L0 (mea p (st' ++ [(x, tb), (ta, x - 1)])) (.slice (some ⟨g', 0, none⟩) (st'.length + 2) cap2) X2) := Lib.hid (by
            refine ⟨st' ++ [(x, tb), (ta, x - 1)], st'.length + 2, g', cap2, ys', by simp, rfl, rfl, ?_, by rw [cellsS_append]; exact hown', fun s hs => ?_, hj2, by rw [HST.out]; exact HYS.out, hk2⟩
            · have h1 := HMC.out; have h2 := HME.out; omega
            · rcases List.mem_append.1 hs with hs | hs
              · exact HGS.out s (by simp [hs])
              · simp only [List.mem_cons, List.not_mem_nil, or_false] at hs
                rcases hs with rfl | rfl
                · exact htg.cut (by omega) hx2 (Int.le_refl _)
                · exact htg.cut (Int.le_refl _) (by omega) (by omega))
          have HML : Hid (mea p (st' ++ [(x, tb), (ta, x - 1)]) < gk) := Lib.hid (by have h1 := HMC.out; have h2 := HME.out; omega)
          clear hj2 hk2 hown' hgrow hj1 hk1 hp1 hcur
          gi_roundg (mea p (st' ++ [(x, tb), (ta, x - 1)]))
          case measure => exact HML.out
          case rel => exact HREL.out
        | none =>
          have HCUT := Lib.hid (fun w => cut_none htg hc w)
          have HST := Lib.hid (stL_leaf (t := (ta, tb)) st' hc)
          have HML := Lib.hid (mea_leaf (t := (ta, tb)) st' hc)
          have HROW := Lib.hid (fun w => row_any p ta tb htg w)
          clear hc
          gi_wp2_with fail
          clear q0 q1
          refine (CallsIn.inRound l' (toIn HFw (HCUT.out _))).mono ?_
          rintro e X1 ⟨rfl, bX1⟩
          have hX7 := (bX1.block wr.heap.size (by rw [Z7.out]; omega)).trans H77.out
          have q0 : ∀ U, Below X1.heap.size X1 U → U.cell? ⟨wr.heap.size, 0, none⟩ = some (.int .i64 ta) := fun U hU => by rw [cell_of_row U _ 0 _ _ _ ((hU.block _ (Array.getElem?_eq_some_iff.1 hX7).1).trans hX7)]; rfl
          have q1 : ∀ U, Below X1.heap.size X1 U → U.cell? ⟨wr.heap.size, 1, none⟩ = some (.int .i64 tb) := fun U hU => by rw [cell_of_row U _ 1 _ _ _ ((hU.block _ (Array.getElem?_eq_some_iff.1 hX7).1).trans hX7)]; rfl
          have hk1 := HK7.out.step hnV bX1
          have hj1 := HJ.out.below HJ7.out bX1
          have hp1 := HP7.out.kept (below_grown bX1) (.inr (by simp [Value.ownBlock]))
          have hVX : V.heap.size ≤ X1.heap.size := hk1.keeps.size
          have hbY1 := hk1.cells _ _ _ _ (.inr rfl) HBY.out
          have q2 : ∀ U, Below X1.heap.size X1 U → U.cell? ⟨W.heap.size, 0, none⟩ = some (.func (.yield l) #[] #[]) := fun U hU => by rw [cell_of_row U _ 0 _ _ _ ((hU.block _ (Array.getElem?_eq_some_iff.1 hbY1).1).trans hbY1)]; rfl
          have HK1 := Lib.hid hk1
          have HJ1 := Lib.hid hj1
          have HP1 := Lib.hid hp1
          clear hX7 bX1 hbY1 hk1 hj1 hp1
          have hrf : Below X1.heap.size X1 X1.drew := ⟨rfl, rfl, rfl, Nat.le_refl _, fun _ _ => rfl⟩
          have HLEN : Hid (ys'.length < (parts (nrm xs)).length * 1114112) := Lib.hid (by
            have h1 := congrArg List.length HYS.out
            have h2 := HPL.out
            rw [HST.out] at h1
            simp only [List.length_append, List.length_map, List.length_cons] at h1
            omega)
          have hdr : (F.inRound l').depth = none := hdp
          gi_wp2_with fail
          gi_region_with (first | (gi_at_call 58; (with_reducible refine (CallsIn.inRound l' (toIn HFw (HROW.out _))).mono ?_); rintro e X2 ⟨gr, cr, rfl, hgr, hgl, bX2⟩; have hr2 : Below X1.heap.size X1 X2 := hrf.trans (bX2.mono hrf.size); obtain ⟨fn, tm, asg, bod, hy, hR⟩ := HY.out ys' (gr, cr, ta, tb) X2 (HJ.out.below HJ1.out hr2) hgr HLEN.out; simp only [rowE] at hy; have HR := Lib.hid (show RoundIn (F.inRound l') _ _ _ _ _ _ _ _ _ from hR); clear hR hgr hgl bX2) | ((with_reducible refine HR.out.mono ?_); rintro e X3 ⟨rfl, hj3, hk3⟩; clear HR hy; have HJ3 := Lib.hid hj3; have HK3 := Lib.hid hk3; clear hj3 hk3))
          all_goals
            have hk3 := (HK1.out.step hnV hr2).trans (HK3.out.mono hz2)
            have hp3 := own_kr HK3.out (HP1.out.kept (below_grown hr2) (.inr (by simp [Value.ownBlock])))
            have HREL : Hid (RL J V n₀ W2.heap.size p L0 (mea p st') (.slice (some ⟨gb, 0, none⟩) st'.length cap') X3) := Lib.hid (by
              refine ⟨st', st'.length, gb, cap', ys' ++ [(gr, cr, ta, tb)], rfl, rfl, rfl, ?_, hp3, fun s hs => HGS.out s (by simp [hs]), HJ3.out, ?_, hk3⟩
              · have h1 := HML.out; have h2 := HME.out; omega
              · have h1 := HYS.out
                rw [HST.out] at h1
                rw [← h1]; simp)
            have HMG : Hid (mea p st' < gk) := Lib.hid (by have h1 := HML.out; have h2 := HME.out; omega)
            clear hk3 hp3 hr2 q0 q1 q2
            gi_wp2
            gi_roundg (mea p st')
            case measure => exact HMG.out
            case rel => exact HREL.out

/-- The iterator of rows keeps its contract. -/
theorem rows_all {F : Fence} (hF : Hid (F = Fence.wide)) (n : Nat) (hn : 5 ≤ n) (Bs n₀ : Nat) (h0n : 1 < n₀) (h1n : 0 < n₀) (A : Option Addr) (cap : Nat) (xs : List SetM.Sp) (hlen : xs.length ≤ 1000) (w : World) (hBl : Bs < w.heap.size) (hn₀ : n₀ ≤ w.heap.size)
    (hc : w.cell? ⟨Bs, 0, none⟩ = some (.slice A xs.length cap)) (hA : Areas w) (hL : Lens w) (hS : Spans n₀ w A xs) :
    AllR F n Tryd.prog 55 #[.pointer (some ⟨Bs, 0, none⟩)] rowE RowIn n₀ (fun ys => ys.map (·.2.2) = leavesOf (nrm xs)) ((parts (nrm xs)).length * 1114112) w := by
  rw [hF.out]
  intro l J W hW hJ hY h0
  exact rows_in n hn l Bs n₀ h0n h1n A cap xs hlen J W hJ hY (Nat.lt_of_lt_of_le hBl hW.size) ((hW.cell (p := ⟨Bs, 0, none⟩) hBl).trans hc) (hA.below (hW.mono hn₀) h0n) (hL.below (hW.mono hn₀) h1n) (hS.below (hW.mono hn₀)) (Nat.le_trans hn₀ hW.size) h0
end Go.Proofs.YtgaalkcociifmaaDoor
