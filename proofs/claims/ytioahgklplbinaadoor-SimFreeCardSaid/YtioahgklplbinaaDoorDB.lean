/- Union, One, Make, Steps, Open, in one text. -/
import Derived.Test.YtioahgklplbinaaDoorSET
import Derived.Test.YtioahgklplbinaaDoorComb
import Derived.Test.YtioahgklplbinaaDoorSM
import Derived.Test.YtioahgklplbinaaDoorEnds
import Derived.Maps.AppendAt
import Derived.RegionTactic
import Derived.ChangeAlike
import Derived.Deep.LoopGhost
import Derived.Deep.QuietTactic
import Derived.BigQuiet
import Derived.Laws.AppendOwnNone
import Derived.Test.YtioahgklplbinaaDoorHas
import Derived.Test.YtioahgklplbinaaDoorKIT
import Derived.Test.YtioahgklplbinaaDoorCards
import Derived.Test.YtioahgklplbinaaDoorTie
import Derived.Test.YtioahgklplbinaaDoorDA
import Derived.ProofKit
import Derived.OpenShut
import Derived.Deep.DeepHandedRow
import Derived.Lib.LaidTab
import Derived.Deep.Slices
/- slices.Concat at spans, set.Union. -/
namespace Go.Proofs.YtioahgklplbinaaDoor
open Go.RowKit Go.Shelf SetM

/-- A slice of slices of spans. -/
def RowsAt (n₀ : Nat) (W : World) (A : Option Addr) (ls : List (List Sp)) : Prop :=
  ls ≠ [] → ∃ b off, A = some ⟨b, off, none⟩ ∧ b < n₀ ∧ ∀ j (h : j < ls.length), ∃ P c, W.cell? ⟨b, off + j, none⟩ = some (.slice P ls[j].length c) ∧ Spans n₀ W P ls[j] ∧ (P = none → c = 0)
theorem RowsAt.below {n₀ : Nat} {V W : World} (h : Below n₀ V W) {A : Option Addr} {ls : List (List Sp)} (hs : RowsAt n₀ V A ls) : RowsAt n₀ W A ls := fun hl => by
  obtain ⟨b, off, e, hb, hc⟩ := hs hl
  refine ⟨b, off, e, hb, fun j hj => ?_⟩
  obtain ⟨P, c, h1, h2, h3⟩ := hc j hj
  exact ⟨P, c, (h.cell (p := ⟨b, off + j, none⟩) hb).trans h1, h2.below h, h3⟩
end Go.Proofs.YtioahgklplbinaaDoor

/- SetOne: the walk. -/
namespace Go.Proofs.YtioahgklplbinaaDoor
open Go.RowKit Go.Shelf SetM

/-- The number that a choice says. -/
def placeF (c : Int) : Int :=
  if c % 8 = 0 then 55280 + c / 8 % 2080 else if c % 8 = 1 then 1114080 + c / 8 % 32 else if c % 8 = 2 then 2032 + c / 8 % 48 else if c % 8 = 3 then 65520 + c / 8 % 48 else c / 8 % 200
theorem placeF_in (c : Int) (_h0 : 0 ≤ c) : 0 ≤ placeF c ∧ placeF c ≤ 1114111 := by
  unfold placeF
  split
  · omega
  · split
    · omega
    · split
      · omega
      · split <;> omega
set_option maxHeartbeats 1000000 in
theorem place_any (c : Int) (h0 : 0 ≤ c) (h1 : c ≤ 65535) (w : World) : Calls Tryd.prog 33 #[.int .u16 c] w fun e w' => e = .returned (.int .i64 (placeF c)) ∧ w = w' := by
  have hd0 : 0 ≤ c / 8 := by omega
  have hd1 : c / 8 ≤ 8191 := by omega
  have q1 : IntKind.u16.wrap (c.tdiv 8) = c / 8 := by
    rw [Int.tdiv_eq_ediv_of_nonneg h0]
    simp [IntKind.wrap, IntKind.bits, IntKind.signed]; omega
  have hm : c % 8 = 0 ∨ c % 8 = 1 ∨ c % 8 = 2 ∨ c % 8 = 3 ∨ (4 ≤ c % 8 ∧ c % 8 ≤ 7) := by omega
  rcases hm with hm | hm | hm | hm | ⟨hm1, hm2⟩
  · have hp : placeF c = 55280 + c / 8 % 2080 := by unfold placeF; rw [if_pos hm]
    have t0 : ((c % 8 : Int) == 0) = true := by rw [beq_iff_eq]; exact hm
    rw [hp]; clear hp hm
    generalize c / 8 = n at *
    go_enter Tryd.func33, Tryd.ntmps33
    go_wp2
    go_ret
    exact ⟨rfl, rfl⟩
  · have hp : placeF c = 1114080 + c / 8 % 32 := by unfold placeF; rw [if_neg (by omega), if_pos hm]
    have t0 : ((c % 8 : Int) == 0) = false := by rw [beq_eq_false_iff_ne]; omega
    have t1 : ((c % 8 : Int) == 1) = true := by rw [beq_iff_eq]; exact hm
    rw [hp]; clear hp hm
    generalize c / 8 = n at *
    go_enter Tryd.func33, Tryd.ntmps33
    go_wp2
    go_ret
    exact ⟨rfl, rfl⟩
  · have hp : placeF c = 2032 + c / 8 % 48 := by unfold placeF; rw [if_neg (by omega), if_neg (by omega), if_pos hm]
    have t0 : ((c % 8 : Int) == 0) = false := by rw [beq_eq_false_iff_ne]; omega
    have t1 : ((c % 8 : Int) == 1) = false := by rw [beq_eq_false_iff_ne]; omega
    have t2 : ((c % 8 : Int) == 2) = true := by rw [beq_iff_eq]; exact hm
    rw [hp]; clear hp hm
    generalize c / 8 = n at *
    go_enter Tryd.func33, Tryd.ntmps33
    go_wp2
    go_ret
    exact ⟨rfl, rfl⟩
  · have hp : placeF c = 65520 + c / 8 % 48 := by unfold placeF; rw [if_neg (by omega), if_neg (by omega), if_neg (by omega), if_pos hm]
    have t0 : ((c % 8 : Int) == 0) = false := by rw [beq_eq_false_iff_ne]; omega
    have t1 : ((c % 8 : Int) == 1) = false := by rw [beq_eq_false_iff_ne]; omega
    have t2 : ((c % 8 : Int) == 2) = false := by rw [beq_eq_false_iff_ne]; omega
    have t3 : ((c % 8 : Int) == 3) = true := by rw [beq_iff_eq]; exact hm
    rw [hp]; clear hp hm
    generalize c / 8 = n at *
    go_enter Tryd.func33, Tryd.ntmps33
    go_wp2
    go_ret
    exact ⟨rfl, rfl⟩
  · have hp : placeF c = c / 8 % 200 := by unfold placeF; rw [if_neg (by omega), if_neg (by omega), if_neg (by omega), if_neg (by omega)]
    have t0 : ((c % 8 : Int) == 0) = false := by rw [beq_eq_false_iff_ne]; omega
    have t1 : ((c % 8 : Int) == 1) = false := by rw [beq_eq_false_iff_ne]; omega
    have t2 : ((c % 8 : Int) == 2) = false := by rw [beq_eq_false_iff_ne]; omega
    have t3 : ((c % 8 : Int) == 3) = false := by rw [beq_eq_false_iff_ne]; omega
    rw [hp]; clear hp hm1 hm2
    generalize c / 8 = n at *
    go_enter Tryd.func33, Tryd.ntmps33
    go_wp2
    go_ret
    exact ⟨rfl, rfl⟩

end Go.Proofs.YtioahgklplbinaaDoor

/- The law's Make: spans as choices say. -/
namespace Go.Proofs.YtioahgklplbinaaDoor
open Go.RowKit Go.Shelf SetM

/-- A slice of uint16 holds the numbers cs. -/
def U16s (n₀ : Nat) (W : World) (A : Option Addr) (cs : List Int) : Prop :=
  (∀ c ∈ cs, 0 ≤ c ∧ c ≤ 65535) ∧ (cs ≠ [] → ∃ b off, A = some ⟨b, off, none⟩ ∧ b < n₀ ∧ ∀ j (h : j < cs.length), W.cell? ⟨b, off + j, none⟩ = some (.int .u16 cs[j]))
theorem U16s.below {n₀ : Nat} {V W : World} (h : Below n₀ V W) {A : Option Addr} {cs : List Int} (hs : U16s n₀ V A cs) : U16s n₀ W A cs :=
  ⟨hs.1, fun hl => by
    obtain ⟨b, off, e, hb, hc⟩ := hs.2 hl
    exact ⟨b, off, e, hb, fun j hj => (h.cell (p := ⟨b, off + j, none⟩) hb).trans (hc j hj)⟩⟩
theorem U16s.mono {n₀ n₁ : Nat} {W : World} {A : Option Addr} {cs : List Int} (hs : U16s n₀ W A cs) (h : n₀ ≤ n₁) : U16s n₁ W A cs :=
  ⟨hs.1, fun hl => by
    obtain ⟨b, off, e, hb, hc⟩ := hs.2 hl
    exact ⟨b, off, e, by omega, hc⟩⟩
/-- The span of the j-th pair of choices; those of the first m pairs; all. -/
def pairF (cs : List Int) (j : Nat) : Sp := (placeF (cs[2 * j]?.getD 0), placeF (cs[2 * j]?.getD 0) + cs[2 * j + 1]?.getD 0 % 40)
def mkTo (cs : List Int) (m : Nat) : List Sp := (List.range m).map (pairF cs)
def mkN (cs : List Int) : Nat := min (cs.length / 2) 30
def makeF (cs : List Int) : List Sp := mkTo cs (mkN cs)
theorem mkTo_succ (cs : List Int) (m : Nat) : mkTo cs (m + 1) = mkTo cs m ++ [pairF cs m] := by simp [mkTo, List.range_succ]
theorem mkTo_len (cs : List Int) (m : Nat) : (mkTo cs m).length = m := by simp [mkTo]
set_option maxRecDepth 100000 in
set_option maxHeartbeats 1000000 in
theorem make_any (A : Option Addr) (ca : Nat) (cs : List Int) (w : World) (hU : U16s w.heap.size w A cs) :
    Calls Tryd.prog 23 #[.slice A cs.length ca] w fun e w' => ∃ v, e = .returned v ∧ w'.ownsRow w.heap.size 52 2 v (makeF cs).length (cellsS (makeF cs)) ∧ Below w.heap.size w w' := by
  obtain ⟨i0, hi, hz0, hz1, hz2⟩ := info_parts infoS
  have HU := Lib.hid hU
  clear hU
  go_enter Tryd.func23, Tryd.ntmps23
  go_wp2
  go_loopg [3, 4] (mkN cs) (fun g s3 s4 wx => ∃ m i : Nat, m + g = mkN cs ∧ Hid (i = 2 * m) ∧ i ≤ 60 ∧ s4 = .int .i64 i ∧ wx.ownsRow w.heap.size 52 2 s3 (mkTo cs m).length (cellsS (mkTo cs m)) ∧ Below w.heap.size w wx)
  case atStart => exact ⟨0, 0, by omega, Lib.hid rfl, by omega, rfl, World.ownsRow_nil _ _ _ _, Below.refl _ _⟩
  case round =>
    obtain ⟨m, i, hmg, HI, hi60, rfl, hown, hb⟩ := hrel
    have hmN : mkN cs = min (cs.length / 2) 30 := rfl
    cases gk with
    | zero =>
      have hend : ¬ (i + 1 < cs.length ∧ i < 60) := by have := HI.out; omega
      have hmk : makeF cs = mkTo cs m := by unfold makeF; rw [show mkN cs = m from by omega]
      rw [← hmk] at hown
      clear hmk hmN
      by_cases h1 : i + 1 < cs.length
      · have h1I : (i : Int) + 1 < (cs.length : Int) := by omega
        have h2 : ¬ ((i : Int) < 60) := by omega
        have h2d : decide ((i : Int) < 60) = false := decide_eq_false h2
        go_wp2
        go_ret
        exact ⟨_, rfl, hown, hb⟩
      · have h1I : ¬ ((i : Int) + 1 < (cs.length : Int)) := by omega
        have h1d : decide ((i : Int) + 1 < (cs.length : Int)) = false := decide_eq_false h1I
        go_wp2
        go_ret
        exact ⟨_, rfl, hown, hb⟩
    | succ g =>
      have h1 : i + 1 < cs.length := by have := HI.out; omega
      have h2 : i < 60 := by have := HI.out; omega
      have h1I : (i : Int) + 1 < (cs.length : Int) := by omega
      have h2I : (i : Int) < 60 := by omega
      have h3I : (i : Int) < (cs.length : Int) := by omega
      obtain ⟨hr, hcell⟩ := HU.out
      obtain ⟨b, off, rfl, hbb, hc⟩ := hcell (by intro h; rw [h] at h1; simp at h1)
      have c0 := hc i (by omega)
      have c1 := hc (i + 1) h1
      obtain ⟨x0, x1⟩ := hr cs[i] (List.getElem_mem _)
      obtain ⟨y0, y1⟩ := hr cs[i + 1] (List.getElem_mem _)
      have hpair : pairF cs m = (placeF cs[i], placeF cs[i] + cs[i + 1] % 40) := by
        have := HI.out
        unfold pairF
        rw [← this, List.getElem?_eq_getElem (by omega), List.getElem?_eq_getElem h1]; rfl
      have HP := Lib.hid hpair
      have hpb := placeF_in cs[i] x0
      have c0' := (hb.cell (p := ⟨b, off + i, none⟩) hbb).trans c0
      have c1' := (hb.cell (p := ⟨b, off + (i + 1), none⟩) hbb).trans c1
      clear hc hcell hr c0 c1 hpair
      generalize cs[i] = x at *
      generalize cs[i + 1] = y at *
      have hy40 : 0 ≤ y % 40 := by omega
      have hy41 : y % 40 ≤ 39 := by omega
      have hsz := hb.size
      have hml := mkTo_len cs m
      have HML := Lib.hid hml
      have hml2 : (mkTo cs m).length ≤ 30 := by rw [hml]; omega
      have hN30 : mkN cs ≤ 30 := by unfold mkN; omega
      clear hml hmN
      go_wp2_with fail
      refine (place_any x x0 x1 _).mono ?_
      rintro e w' ⟨rfl, rfl⟩
      generalize placeF x = px at *
      obtain ⟨hp0, hp1⟩ := hpb
      go_wp2_with (at_builtin; refine wpList_append_own _ rfl _ _ 45 rfl w.heap.size 52 i0 (.agg #[.int .i64 0, .int .i64 0]) 2 16 Tryd.underlying45 hi hz0 hz1 hz2 rfl (by decide) _ _ _ rfl (hown.alloc _) ⟨wr.heap.size, 0, none⟩ 1 1 [.int .i64 px, .int .i64 (px + y % 40)] rfl rfl (cell_news _ _ _) (by simp [Value.oneCell']) (by unfold maxLen; omega) (by omega) (by rw [World.size_alloc]; omega) ?_; intro v' w2 hown' hgrow _)
      go_roundg g
      case measure => omega
      case rel => exact ⟨m + 1, i + 2, by omega, Lib.hid (by have := HI.out; omega), by have := HI.out; omega, by go_num, by rw [mkTo_succ, HP.out, cellsS_append, List.length_append]; exact hown', (hb.alloc hsz _).grown hgrow (by rw [World.size_alloc]; omega) (fun j hj => (hown.lt j hj).1)⟩
end Go.Proofs.YtioahgklplbinaaDoor

/- The calls of package set as steps of a law's walk: what each hands back, in words that the walk leaves closed. -/
namespace Go.Proofs.YtioahgklplbinaaDoor
open Go.RowKit Go.Shelf SetM

/-- Where a law's walk stands: all that lay at its beginning lies as it lay; the table is there. -/
structure Ctx (w W : World) : Prop where
  below : Below w.heap.size w W
  areas : Areas W
  pos : 0 < W.heap.size
variable {w W : World}
theorem has_c {P : Option Addr} {c : Nat} {l : List Sp} (r : Int) (hC : Ctx w W) (hs : Sl W P l) (hl : l.length ≤ 1000000) : Calls Tryd.prog 42 #[.slice P l.length c, .int .i64 r] W (HasPost W l r) :=
  has_any P c l r (by omega) W hC.pos hC.areas hs
theorem make_c {A : Option Addr} {ca : Nat} {cs : List Int} (hU : U16s w.heap.size w A cs) (hC : Ctx w W) : Calls Tryd.prog 23 #[.slice A cs.length ca] W fun e W' => ∃ P c, e = .returned (.slice P (makeF cs).length c) ∧ Sl W' P (makeF cs) ∧ (P = none → c = 0) ∧ Below W.heap.size W W' := by
  refine (make_any A ca cs W ((hU.below hC.below).mono hC.below.size)).mono ?_
  rintro e W' ⟨v, rfl, ho, hb⟩
  obtain ⟨P, c, rfl, hs⟩ := spans_of ho
  refine ⟨P, c, rfl, hs, fun hP => ?_, hb⟩
  rcases ho.2 with ⟨e1, _⟩ | ⟨g, cap, cur, e1, _⟩
  · injection e1
  · subst hP; injection e1 with e1; cases e1
end Go.Proofs.YtioahgklplbinaaDoor

/- Arguments opened: slices of uint16, slices of spans, slices of slices of spans. -/
namespace Go.Proofs.YtioahgklplbinaaDoor
open Go.ChangeShapes Go.WideShapes Go.ChangeAt Go.RowKit SetM
set_option maxRecDepth 100000

theorem cellsU16 : Tryd.prog.cellsOf 25 = 1 := by kernel_rfl
section
variable {H : Type} {enc : TypeId × Value → H} {W : World} {base : Nat}

theorem open_u16 {v : Value} {d : DataW H} {p : List MemPlace} (hv : Value.okWide Tryd.prog W .any base 38 v) (h : DataW.Trod enc Tryd.prog W 0 (fun _ => true) true 38 v d p) :
    ∃ A cs ca, v = .slice A (List.length cs) ca ∧ U16s W.heap.size W A cs := by
  obtain ⟨a0, len, cap, rfl⟩ := okWide_slice Tryd.underlying38 hv
  obtain ⟨fuel, hf⟩ := h
  rcases open_ints Tryd.underlying38 Tryd.underlying25 cellsU16 hf with ⟨hcs, _⟩ | ⟨a, len', cap', zs, hcs, _, hl, hm, hz, _, hcell, hwz⟩
  · simp [Value.cells] at hcs
    obtain ⟨rfl, rfl, rfl⟩ := hcs
    exact ⟨none, [], 0, rfl, by simp, fun h => absurd rfl h⟩
  · simp [Value.cells] at hcs
    obtain ⟨rfl, rfl, rfl⟩ := hcs
    simp only [if_true] at hz
    have hlt : (zs.take len).length = len := by simp; omega
    refine ⟨some a, zs.take len, cap, by rw [hlt], fun c hc => ?_, fun hne => ?_⟩
    · have := hwz c (List.mem_of_mem_take hc)
      simp [Lit.wf, IntKind.min, IntKind.max, IntKind.bits, IntKind.signed] at this
      omega
    · have hpos : 0 < len := by
        rcases Nat.eq_zero_or_pos len with h0 | h0
        · subst h0; simp at hne
        · exact h0
      obtain ⟨b, off, spot⟩ := a
      have hspot : spot = none := by simpa [Addr.add] using World.cell?_spot (hcell 0 (by omega))
      subst hspot
      have hb : b < W.heap.size := cell_in (hcell 0 (by omega))
      refine ⟨b, off, rfl, hb, fun j hj => ?_⟩
      have := hcell j (by omega)
      rw [add_plain] at this
      rw [this, List.getElem_take]
      simp [List.getD, show j < zs.length by omega]

end
end Go.Proofs.YtioahgklplbinaaDoor
