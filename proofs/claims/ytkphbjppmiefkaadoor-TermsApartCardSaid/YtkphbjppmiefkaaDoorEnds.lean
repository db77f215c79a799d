/- The iterator of spans' ends: its contract. -/
import Derived.Test.YtkphbjppmiefkaaDoorWords
import Derived.Outline
import Derived.WalkMore
import Derived.Deep.LoopGhost
import Derived.Deep.QuietTactic
import Derived.BigQuiet
import Derived.Deep.DeepCutAuto
namespace Go.Proofs.YtkphbjppmiefkaaDoor
open Go.RowKit Go.Shelf SetM
attribute [local go_sem] Oper.semAt_some

theorem val_inj : ∀ a b : List End, a.map (·.1) = b.map (·.1) → a = b
  | [], [], _ => rfl
  | [], _ :: _, h => by simp at h
  | _ :: _, [], h => by simp at h
  | x :: a, y :: b, h => by
    simp only [List.map_cons, List.cons.injEq] at h
    rw [Subtype.ext h.1, val_inj a b h.2]
theorem val_prefix (a b : List End) (h : a.map (·.1) <+: b.map (·.1)) : a <+: b := by
  have h1 := List.prefix_iff_eq_take.1 h
  rw [← List.map_take] at h1
  have h2 := val_inj _ _ h1
  rw [List.length_map] at h2
  rw [h2]
  exact List.take_prefix _ _
theorem ends_split (xs : List Sp) (k : Nat) (hk : k < xs.length) : endsL xs = endsL (xs.take k) ++ endsOf xs[k] ++ endsL (xs.drop (k + 1)) := by
  have h : xs = xs.take k ++ xs[k] :: xs.drop (k + 1) := by simp
  have h2 : endsL xs = endsL (xs.take k ++ xs[k] :: xs.drop (k + 1)) := by rw [← h]
  rw [h2]
  unfold endsL
  rw [List.flatMap_append, List.flatMap_cons, List.append_assoc]
theorem ends_next (xs : List Sp) (k : Nat) (hk : k < xs.length) : endsL (xs.take (k + 1)) = endsL (xs.take k) ++ endsOf xs[k] := by
  rw [List.take_succ_eq_append_getElem hk]
  unfold endsL
  rw [List.flatMap_append]
  simp only [List.flatMap_cons, List.flatMap_nil, List.append_nil]

/-- What a round of the loop keeps: all below n₀, and all cells of spans. -/
def Kp (n₀ : Nat) (V W : World) : Prop := Below n₀ V W ∧ ∀ (k : Nat) (cs : Array Value) (fr : Nat × Nat), V.heap[k]? = some (.cells cs 42 fr) → W.heap[k]? = some (.cells cs 42 fr)

theorem Kp.refl (n₀ : Nat) (w : World) : Kp n₀ w w := ⟨Below.refl _ _, fun _ _ _ h => h⟩
theorem Kp.trans {n₀ : Nat} {U V W : World} (h : Kp n₀ U V) (k : Kp n₀ V W) : Kp n₀ U W := ⟨h.1.trans k.1, fun i cs fr e => k.2 i cs fr (h.2 i cs fr e)⟩
theorem Kp.alloc {n₀ : Nat} {U V : World} (h : Kp n₀ U V) (hn : n₀ ≤ V.heap.size) (o : Obj) : Kp n₀ U (V.alloc o) :=
  ⟨h.1.alloc hn o, fun i cs fr e => by
    have e1 := h.2 i cs fr e
    exact (Below.heap_alloc V o i (Array.getElem?_eq_some_iff.1 e1).1).trans e1⟩
theorem Kp.drewN {n₀ : Nat} {U V : World} (h : Kp n₀ U V) (n : Nat) : Kp n₀ U (V.drewN n) := ⟨⟨h.1.os, h.1.tape, h.1.output, h.1.size, h.1.block⟩, h.2⟩
/-- The slice holds the spans l, in a block below n₀ or in one of spans. -/
def SpansK (n₀ : Nat) (W : World) (A : Option Addr) (l : List Sp) : Prop :=
  l ≠ [] → ∃ b off, A = some ⟨b, off, none⟩ ∧ (b < n₀ ∨ ∃ cs fr, W.heap[b]? = some (.cells cs 42 fr)) ∧ ∀ j (h : j < l.length), W.cell? ⟨b, off + j * 2, none⟩ = some (.int .i64 l[j].1) ∧ W.cell? ⟨b, off + j * 2 + 1, none⟩ = some (.int .i64 l[j].2)
theorem Spans.toK {n₀ : Nat} {W : World} {A : Option Addr} {l : List Sp} (h : Spans n₀ W A l) : SpansK n₀ W A l := fun hl => by
  obtain ⟨b, off, e, hb, hc⟩ := h hl
  exact ⟨b, off, e, .inl hb, hc⟩
theorem SpansK.kp {n₀ : Nat} {V W : World} (h : Kp n₀ V W) {A : Option Addr} {l : List Sp} (hs : SpansK n₀ V A l) : SpansK n₀ W A l := fun hl => by
  obtain ⟨b, off, e, hb, hc⟩ := hs hl
  have hsame : W.heap[b]? = V.heap[b]? := by
    rcases hb with hb | ⟨cs, fr, hb⟩
    · exact h.1.block b hb
    · rw [h.2 b cs fr hb, hb]
  refine ⟨b, off, e, ?_, fun j hj => ⟨(World.cell?_of_block (a := ⟨b, off + j * 2, none⟩) hsame).trans (hc j hj).1, (World.cell?_of_block (a := ⟨b, off + j * 2 + 1, none⟩) hsame).trans (hc j hj).2⟩⟩
  rcases hb with hb | ⟨cs, fr, hb⟩
  · exact .inl hb
  · exact .inr ⟨cs, fr, h.2 b cs fr hb⟩

def p1 (x : Sp) : List Sp := if max x.1 0 ≤ min x.2 55295 then [(max x.1 0, min x.2 55295)] else []
def p2 (x : Sp) : List Sp := if max x.1 57344 ≤ min x.2 1114111 then [(max x.1 57344, min x.2 1114111)] else []
/-- What one span has told when j areas are through. -/
def Part (x : Sp) (j : Int) (e : List Sp) : Prop :=
  (j = 0 ∧ e = []) ∨ (j = 1 ∧ ¬ x.2 < max x.1 0 ∧ e = p1 x) ∨ (j = 2 ∧ ¬ x.2 < max x.1 0 ∧ ¬ x.2 < max x.1 57344 ∧ e = p1 x ++ p2 x)

def piece (x : Sp) (alo ahi : Int) : List Sp := if max x.1 alo ≤ min x.2 ahi then [(max x.1 alo, min x.2 ahi)] else []
theorem part_step {x : Sp} {j : Int} {e : List Sp} (h : Part x j e) :
    (j = 2 ∧ endsOf x = e) ∨ ∃ alo ahi : Int, 0 ≤ j ∧ j < 2 ∧
      (∀ w, (Instr.index 99 (.agg #[.int .i64 0, .int .i64 55295, .int .i64 57344, .int .i64 1114111]) (.int .i64 j)).run Tryd.prog w = .ok (.agg #[.int .i64 alo, .int .i64 ahi]) w) ∧
      0 ≤ alo ∧ ahi ≤ 1114111 ∧ (x.2 < max x.1 alo → endsOf x = e) ∧ (¬ x.2 < max x.1 alo → Part x (j + 1) (e ++ piece x alo ahi)) ∧ (¬ x.2 < max x.1 alo → max x.1 alo ≤ min x.2 ahi → ∃ t, endsOf x = e ++ (max x.1 alo, min x.2 ahi) :: t) := by
  rcases h with ⟨rfl, rfl⟩ | ⟨rfl, h1, rfl⟩ | ⟨rfl, h1, h2, rfl⟩
  · refine .inr ⟨0, 55295, by omega, by omega, fun _ => by kernel_rfl, by omega, by omega, fun h => ?_, fun h => ?_, fun h h' => ?_⟩
    · unfold endsOf; rw [if_pos h]
    · exact .inr (.inl ⟨rfl, h, rfl⟩)
    · unfold endsOf; rw [if_neg h, if_pos h']; exact ⟨_, rfl⟩
  · refine .inr ⟨57344, 1114111, by omega, by omega, fun _ => by kernel_rfl, by omega, by omega, fun h => ?_, fun h => ?_, fun h h' => ?_⟩
    · unfold endsOf; rw [if_neg h1, if_pos h]; simp [p1]
    · exact .inr (.inr ⟨rfl, h1, h, rfl⟩)
    · unfold endsOf; rw [if_neg h1, if_neg h, if_pos h']; exact ⟨[], by simp [p1]⟩
  · refine .inl ⟨rfl, ?_⟩
    unfold endsOf; rw [if_neg h1, if_neg h2]; rfl

set_option maxRecDepth 100000 in
set_option maxHeartbeats 400000 in
theorem ends1 (n : Nat) (l Bs n₀ : Nat) (h0n : 0 < n₀) (A : Option Addr) (cap : Nat) (xs : List Sp) (hlen : xs.length ≤ 1073741824) (J Jx : List End → World → Prop) (W : World)
    (hJ : AbidesFrom W.heap.size J)
    (hY : ∀ pre x W1, J pre W1 → pre.length < (endsE xs).length → YieldAt Fence.wide (n - 1) Tryd.prog l (endE x) W1 fun e W' =>
      (e = .returned (.bool true) ∧ J (pre ++ [x]) W' ∧ Kp n₀ W1 W') ∨ (e = .returned (.bool false) ∧ Jx (pre ++ [x]) W'))
    (hBs : W.cell? ⟨Bs, 0, none⟩ = some (.slice A xs.length cap)) (hA : Areas W) (hS : SpansK n₀ W A xs) (hn0 : n₀ ≤ W.heap.size) (h0 : J [] W) :
    Calls Tryd.prog 63 #[.func (.yield l) #[] #[], .pointer (some ⟨Bs, 0, none⟩)] W fun e W' => (∃ v, e = .returned v) ∧
      ((∃ ys, ys = endsE xs ∧ J ys W') ∨ (∃ pre, pre <+: endsE xs ∧ Jx pre W')) := by
  have HJ := Lib.hid hJ
  have HY := Lib.hid hY
  have HS := Lib.hid hS
  have HA := Lib.hid hA
  clear hJ hY hS hA
  go_enter Tryd.func63, Tryd.ntmps63
  go_wp2
  go_step3
  go_wp2
  go_step3
  go_wp2
  go_loopg [11] xs.length (fun g s11 wx => ∃ (k : Nat) (pre : List End), k + g = xs.length ∧ s11 = .int .i64 k ∧ Hid (pre.map (·.1) = endsL (xs.take k)) ∧ J pre wx ∧ Kp n₀ W wx)
  case atStart => exact ⟨0, [], by omega, rfl, rfl, h0, Kp.refl _ _⟩
  case round =>
    obtain ⟨k, pre, hkg, rfl, HP, hj, hbx⟩ := hrel
    cases gk with
    | zero =>
      have hkz : ¬ ((k : Int) < (xs.length : Int)) := by omega
      go_wp2
      go_end0
      refine ⟨⟨_, rfl⟩, .inl ⟨pre, val_inj _ _ ?_, hj⟩⟩
      rw [HP.out, endsE_val, List.take_of_length_le (by omega)]
    | succ g =>
      have hkz : (k : Int) < (xs.length : Int) := by omega
      have hk : k < xs.length := by omega
      obtain ⟨b, off, rfl, hbk, hc⟩ := HS.out.kp hbx (by intro h; rw [h] at hk; simp at hk)
      obtain ⟨c0', c1'⟩ := hc k hk
      clear hc hbk
      generalize hx : xs[k] = x at c0' c1'
      have HX := Lib.hid hx
      clear hx
      have hsz := hbx.1.size
      have hb1 : Kp n₀ W (wr.alloc (.cells #[.int .i64 x.1, .int .i64 x.2] 42)) := hbx.alloc (by omega) _
      obtain ⟨a0, a1, a2, a3⟩ := HA.out.below hb1.1 h0n
      have hj1 : J pre (wr.alloc (.cells #[.int .i64 x.1, .int .i64 x.2] 42)) := HJ.out _ _ _ none hj (World.grownBy_alloc _ _ _) (by simp)
      go_wp2
      have hbox : (wr.alloc (.cells #[.int .i64 x.1, .int .i64 x.2] 42)).heap[wr.heap.size]? = some (.cells #[.int .i64 x.1, .int .i64 x.2] 42 (0, 0)) := heap_alloc_new wr _
      obtain ⟨bx, hbxe⟩ : ∃ bx, bx = wr.heap.size := ⟨_, rfl⟩
      rw [← hbxe] at hbox ⊢
      have HB0 := Lib.hid hbox
      clear hbox
      generalize wr.alloc (.cells #[.int .i64 x.1, .int .i64 x.2] 42) = w1 at *
      clear hj hbx c0' c1' hsz hbxe a0 a1 a2 a3
      clear wr
      go_loopg [16] 2 (fun g2 s16 wy => ∃ (j : Int) (pre2 : List End) (e : List Sp), j + g2 = 2 ∧ s16 = .int .i64 j ∧ Part x j e ∧ Hid (pre2.map (·.1) = endsL (xs.take k) ++ e) ∧ J pre2 wy ∧ Kp n₀ W wy ∧ Hid (wy.heap[bx]? = some (.cells #[.int .i64 x.1, .int .i64 x.2] 42 (0, 0))))
      case atStart => exact ⟨0, pre, [], by omega, rfl, .inl ⟨rfl, rfl⟩, Lib.hid (by simpa using HP.out), hj1, hb1, HB0⟩
      case round =>
        obtain ⟨j, pre2, e, hjg, rfl, HPt, HP2, hj2, hb2, HB⟩ := hrel
        rcases part_step HPt with ⟨rfl, hend⟩ | ⟨alo, ahi, hj0, hjlt, hix, hb3, hb4, hgo, hst, hyd⟩
        · have hjz : ¬ ((2 : Int) < (2 : Int)) := by omega
          go_wp2
          go_roundg g
          case measure => omega
          case rel => exact ⟨k + 1, pre2, by omega, by go_num, Lib.hid (by rw [HP2.out, ends_next xs k hk, HX.out, hend]), hj2, hb2⟩
        · have hlt : bx < wr.heap.size := by
            have := HB.out
            exact (Array.getElem?_eq_some_iff.1 this).1
          have hc0 : (wr.alloc (.cells #[.int .i64 alo, .int .i64 ahi] 42)).cell? ⟨bx, 0, none⟩ = some (.int .i64 x.1) := by
            rw [World.cell?_alloc_lt _ _ _ hlt, cell_of_row wr bx 0 _ _ _ HB.out]; rfl
          have hc1 : (wr.alloc (.cells #[.int .i64 alo, .int .i64 ahi] 42)).cell? ⟨bx, 1, none⟩ = some (.int .i64 x.2) := by
            rw [World.cell?_alloc_lt _ _ _ hlt, cell_of_row wr bx 1 _ _ _ HB.out]; rfl
          have HGO := Lib.hid hgo
          have HST := Lib.hid hst
          have HYD := Lib.hid hyd
          clear hgo hst hyd
          have hb5 : Kp n₀ W (wr.alloc (.cells #[.int .i64 alo, .int .i64 ahi] 42)) := hb2.alloc (by have := hb2.1.size; omega) _
          have hj5 : J pre2 (wr.alloc (.cells #[.int .i64 alo, .int .i64 ahi] 42)) := HJ.out _ _ _ none hj2 (World.grownBy_alloc _ _ _) (by simp)
          have HB5 : Hid ((wr.alloc (.cells #[.int .i64 alo, .int .i64 ahi] 42)).heap[bx]? = some (.cells #[.int .i64 x.1, .int .i64 x.2] 42 (0, 0))) :=
            Lib.hid ((Below.heap_alloc wr _ bx hlt).trans HB.out)
          go_wp2
          go_quiet (fail)
          have hj6 : J pre2 ((wr.alloc (.cells #[.int .i64 alo, .int .i64 ahi] 42)).drewN nq) := HJ.out _ _ _ none hj5 ⟨rfl, rfl, rfl, Nat.le_refl _, fun _ _ _ => rfl⟩ (by simp)
          have hb6 : Kp n₀ W ((wr.alloc (.cells #[.int .i64 alo, .int .i64 ahi] 42)).drewN nq) := hb5.drewN nq
          have hc6 : ((wr.alloc (.cells #[.int .i64 alo, .int .i64 ahi] 42)).drewN nq).cell? ⟨bx, 1, none⟩ = some (.int .i64 x.2) := hc1
          have HB6 : Hid (((wr.alloc (.cells #[.int .i64 alo, .int .i64 ahi] 42)).drewN nq).heap[bx]? = some (.cells #[.int .i64 x.1, .int .i64 x.2] 42 (0, 0))) := Lib.hid HB5.out
          rw [show (if x.1 < alo then alo else x.1) = max x.1 alo from by split <;> omega, show (if ahi < x.2 then ahi else x.2) = min x.2 ahi from by split <;> omega]
          generalize (wr.alloc (.cells #[.int .i64 alo, .int .i64 ahi] 42)).drewN nq = w6 at *
          generalize hlo : max x.1 alo = lo at *
          generalize hhi : min x.2 ahi = hi at *
          have HLO := Lib.hid hlo
          have HHI := Lib.hid hhi
          clear hlo hhi hix hc0 hc1 hb5 hj5 HB5 hj2 hb2 HB hlt
          by_cases hout : x.2 < lo
          · go_wp2
            go_roundg g
            case measure => omega
            case rel => exact ⟨k + 1, pre2, by omega, by go_num, Lib.hid (by rw [HP2.out, ends_next xs k hk, HX.out, HGO.out hout]), hj6, hb6⟩
          · by_cases hyl : lo ≤ hi
            · have hval : 0 ≤ lo ∧ lo ≤ hi ∧ hi ≤ 1114111 := by have := HLO.out; have := HHI.out; omega
              have hpf : (pre2 ++ [(⟨(lo, hi), hval⟩ : End)]).map (·.1) <+: (endsE xs).map (·.1) := by
                obtain ⟨t, ht⟩ := HYD.out (by omega) hyl
                rw [endsE_val, ends_split xs k hk, HX.out, ht, List.map_append, HP2.out]
                exact ⟨t ++ endsL (xs.drop (k + 1)), by simp⟩
              have HPF := Lib.hid (val_prefix _ _ hpf)
              have hlen2 : pre2.length < (endsE xs).length := by
                have := hpf.length_le
                simp only [List.length_map, List.length_append, List.length_cons, List.length_nil] at this
                omega
              clear hpf
              obtain ⟨fn, tmps, assign, body, hy, hR⟩ := HY.out pre2 ⟨(lo, hi), hval⟩ w6 hj6 hlen2
              simp only [endE] at hy
              have HR := Lib.hid hR
              clear hR
              go_upto_region 8 with (fail)
              refine (wpIn_wide (n := n)).1 ?_
              gi_wp2
              refine ⟨fun h => (by simp [Fence.wide] at h), HR.out.mono ?_⟩
              rintro e3 W3 (⟨rfl, hJ3, hk3⟩ | ⟨rfl, hJx3⟩)
              · obtain ⟨gk', rfl⟩ : ∃ gk', gk = gk' + 1 := ⟨gk - 1, by omega⟩
                gi_wp2
                go_wp2
                go_roundg gk'
                case measure => omega
                case rel => exact ⟨j + 1, _, e ++ piece x alo ahi, by omega, rfl, HST.out (by omega), Lib.hid (by rw [List.map_append, HP2.out]; unfold piece; rw [HLO.out, HHI.out, if_pos hyl]; simp), hJ3, hb6.trans hk3, Lib.hid (hk3.2 _ _ _ HB6.out)⟩
              · gi_wp2
                go_wp2
                rw [Exit.noGoto_ret]
                refine bodyPost_ret (results_none rfl _ _ _) rfl ?_
                exact ⟨⟨_, rfl⟩, .inr ⟨_, HPF.out, hJx3⟩⟩
            · obtain ⟨gk', rfl⟩ : ∃ gk', gk = gk' + 1 := ⟨gk - 1, by omega⟩
              go_wp2
              go_roundg gk'
              case measure => omega
              case rel => exact ⟨j + 1, pre2, e ++ piece x alo ahi, by omega, rfl, HST.out (by omega), Lib.hid (by rw [HP2.out]; unfold piece; rw [HLO.out, HHI.out, if_neg (by omega)]; simp), hj6, hb6, HB6⟩

/-- The iterator's value keeps its contract: all ends, or a front of them. -/
theorem ends_stops (n Bs n₀ : Nat) (h0n : 0 < n₀) (A : Option Addr) (cap : Nat) (xs : List Sp) (hlen : xs.length ≤ 1073741824) (w : World) (hBl : Bs < w.heap.size) (hn₀ : n₀ ≤ w.heap.size)
    (hc : w.cell? ⟨Bs, 0, none⟩ = some (.slice A xs.length cap)) (hA : Areas w) (hS : SpansK n₀ w A xs) :
    SeqStopsK Fence.wide n Tryd.prog 63 #[.pointer (some ⟨Bs, 0, none⟩)] endE (Kp n₀) (fun ys => ys = endsE xs) (fun pre => pre <+: endsE xs) (endsE xs).length w := fun l J Jx W hW hJ _ hY h0 =>
  have hk : Kp n₀ w W := ⟨hW.mono hn₀, fun i _ _ e => (hW.block i (Array.getElem?_eq_some_iff.1 e).1).trans e⟩
  callsIn_wide.2 (ends1 n l Bs n₀ h0n A cap xs hlen J Jx W hJ hY ((hW.cell (p := ⟨Bs, 0, none⟩) hBl).trans hc) (hA.below (hW.mono hn₀) h0n) (hS.kp hk) (Nat.le_trans hn₀ hW.size) h0)

theorem toIn {F : Fence} {n : Nat} {f : Nat} {args : Array Value} {w : World} {R : Ending → World → Prop} (hF : Hid (F = Fence.wide)) (h : Calls Tryd.prog f args w R) : CallsIn F n Tryd.prog f args w R := by
  rw [hF.out]; exact callsIn_wide.2 h

theorem ends_stopsK {F : Fence} (hF : Hid (F = Fence.wide)) (n Bs n₀ : Nat) (h0n : 0 < n₀) (A : Option Addr) (cap : Nat) (xs : List Sp) (hlen : xs.length ≤ 1073741824) (w : World) (hBl : Bs < w.heap.size) (hn₀ : n₀ ≤ w.heap.size)
    (hc : w.cell? ⟨Bs, 0, none⟩ = some (.slice A xs.length cap)) (hA : Areas w) (hS : SpansK n₀ w A xs) :
    SeqStopsK F n Tryd.prog 63 #[.pointer (some ⟨Bs, 0, none⟩)] endE (Kp n₀) (fun ys => ys = endsE xs) (fun pre => pre <+: endsE xs) (endsE xs).length w := by
  rw [hF.out]; exact ends_stops n Bs n₀ h0n A cap xs hlen w hBl hn₀ hc hA hS
theorem ends_stopsF {F : Fence} (hF : Hid (F = Fence.wide)) (n Bs n₀ : Nat) (h0n : 0 < n₀) (A : Option Addr) (cap : Nat) (xs : List Sp) (hlen : xs.length ≤ 1073741824) (w : World) (hBl : Bs < w.heap.size) (hn₀ : n₀ ≤ w.heap.size)
    (hc : w.cell? ⟨Bs, 0, none⟩ = some (.slice A xs.length cap)) (hA : Areas w) (hS : Spans n₀ w A xs) :
    SeqStopsK F n Tryd.prog 63 #[.pointer (some ⟨Bs, 0, none⟩)] endE (Kp n₀) (fun ys => ys = endsE xs) (fun pre => pre <+: endsE xs) (endsE xs).length w := ends_stopsK hF n Bs n₀ h0n A cap xs hlen w hBl hn₀ hc hA hS.toK

theorem boxed_kept {U V : World} {row : Option Nat} {B : Nat} {t : TypeId} {v : Value} (h : Boxed U B t v) (hg : U.grownBy V row) (hr : ∀ r, row = some r → ∃ o : Obj, U.heap[r]? = some o ∧ o.isCells = false) : Boxed V B t v :=
  boxed_own (β := Unit) B t (fun _ => v) () U V row h hg hr

theorem Kp.put {n₀ : Nat} {w : World} (hn : n₀ ≤ w.heap.size) (W : World) (l : Nat) (o o' : Obj) (hl : w.heap.size ≤ l) (h : W.heap[l]? = some o) (h1 : o.isCells = false) (h2 : o.isWalk = false) : Kp n₀ W (W.putObj l o') :=
  ⟨belowK_b hn W l o o' hl h h1 h2, fun i cs fr e => by
    by_cases hi : i = l
    · subst hi; rw [h] at e; cases e; simp [Obj.isCells] at h1
    · rw [← e]
      have hlt : i < W.heap.size := (Array.getElem?_eq_some_iff.1 e).1
      exact (grownBy_putObj' W l o').block i hlt (by simp; exact hi)⟩
theorem Kp.of_grown {n₀ : Nat} {V W : World} {row : Option Nat} (hb : Below n₀ V W) (hg : V.grownBy W row) (hr : ∀ k, row = some k → ∃ cs t fr, V.heap[k]? = some (.cells cs t fr) ∧ t ≠ 42) : Kp n₀ V W :=
  ⟨hb, fun i cs fr e => by
    have hlt : i < V.heap.size := (Array.getElem?_eq_some_iff.1 e).1
    refine (hg.block i hlt (fun he => ?_)).trans e
    obtain ⟨cs', t, fr', h1, h2⟩ := hr i he.symm
    rw [e] at h1
    injection h1 with h1
    injection h1 with _ h1
    exact h2 h1.symm⟩

set_option maxHeartbeats 400000 in
theorem ends_any (A : Option Addr) (len cap : Nat) (w : World) :
    Calls Tryd.prog 49 #[.slice A len cap] w fun e w' => e = .returned (.func (.func 63) #[] #[.pointer (some ⟨w.heap.size, 0, none⟩)]) ∧ w' = w.alloc (.cells #[.slice A len cap] 28) := by
  go_enter Tryd.func49, Tryd.ntmps49
  go_wp2
  go_ret
  exact ⟨rfl, rfl⟩
end Go.Proofs.YtkphbjppmiefkaaDoor
