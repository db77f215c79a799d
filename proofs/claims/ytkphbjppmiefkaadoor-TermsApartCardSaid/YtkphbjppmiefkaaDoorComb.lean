/- set.combine: the set of the scalars that keep wants. -/
import Derived.Test.YtkphbjppmiefkaaDoorMarks
import Derived.RegionTactic
import Derived.ChangeAlike
import Derived.Deep.LoopGhost
import Derived.Deep.QuietTactic
import Derived.BigQuiet
namespace Go.Proofs.YtkphbjppmiefkaaDoor
open Go.RowKit Go.Shelf SetM

/-- A span's two cells; a list's. -/
def encS (s : Sp) : List Value := [.int .i64 s.1, .int .i64 s.2]
def cellsS (l : List Sp) : List Value := l.flatMap encS
theorem cellsS_append (a b : List Sp) : cellsS (a ++ b) = cellsS a ++ cellsS b := by simp [cellsS]
theorem cellsS_len (l : List Sp) : (cellsS l).length = l.length * 2 := by
  induction l with
  | nil => rfl
  | cons m t ih =>
    have : cellsS (m :: t) = encS m ++ cellsS t := rfl
    rw [this, List.length_append, ih]; simp [encS]; omega
theorem infoS : (Tryd.prog.info? 42).map (fun i => (i.zero, i.size, i.bytes)) = some (some (.agg #[.int .i64 0, .int .i64 0]), 2, 16) := by kernel_rfl

/-- What one of set's calls hands back: a new slice that holds the normal list of a condition on numbers. -/
def SetPost (w : World) (K : Int → Prop) (N : Nat) (e : Ending) (w' : World) : Prop :=
  ∃ (v : Value) (out : List Sp), e = .returned v ∧ Nf out ∧ (∀ r, Mem out r ↔ K r) ∧ out.length ≤ N ∧ w'.ownsRow w.heap.size 42 2 v out.length (cellsS out) ∧ Below w.heap.size w w'

/-- The marks lie in a block of their own. -/
def MarksAt (W : World) (base : Nat) (P : Option Addr) (row : List Mk) : Prop :=
  row ≠ [] → ∃ b, P = some ⟨b, 0, none⟩ ∧ base ≤ b ∧ b < W.heap.size ∧ ∀ j (h : j < row.length), W.cell? ⟨b, j * 3, none⟩ = some (.int .i64 row[j].1) ∧ W.cell? ⟨b, j * 3 + 1, none⟩ = some (.int .i64 row[j].2.1) ∧ W.cell? ⟨b, j * 3 + 2, none⟩ = some (.int .i64 row[j].2.2)
theorem marksAt_of {W : World} {base : Nat} {v : Value} {row : List Mk} (h : W.ownsRow base 89 3 v row.length (cellsM row)) : ∃ P c, v = .slice P row.length c ∧ MarksAt W base P row := by
  rcases h.2 with ⟨rfl, h0⟩ | ⟨g, cap, cur, rfl, hb, hg, h1, h2, h3, h4⟩
  · exact ⟨none, 0, by rw [h0], fun hne => absurd (List.eq_nil_of_length_eq_zero h0) hne⟩
  · refine ⟨_, cap, rfl, fun _ => ⟨g, rfl, hb, (Array.getElem?_eq_some_iff.1 hg).1, fun j hj => ?_⟩⟩
    have key : ∀ i, i < row.length * 3 → W.cell? ⟨g, i, none⟩ = (cellsM row)[i]? := fun i hi => by
      rw [cell_of_row W g i cur _ _ hg, ← h4, List.getElem?_take_of_lt hi, Array.getElem?_toList]
    have hd : ∀ i, i < 3 → W.cell? ⟨g, j * 3 + i, none⟩ = (encM row[j])[i]? := fun i hi => by
      rw [key _ (by omega), cellsM_get row _ (by omega), show (j * 3 + i) / 3 = j from by omega, show (j * 3 + i) % 3 = i from by omega, List.getElem?_eq_getElem hj]; rfl
    exact ⟨hd 0 (by omega), hd 1 (by omega), hd 2 (by omega)⟩

theorem own_lower {w : World} {base base' : Nat} {e : TypeId} {size : Nat} {v : Value} {n : Nat} {xs : List Value} (h : w.ownsRow base e size v n xs) (hb : base' ≤ base) : w.ownsRow base' e size v n xs := by
  refine ⟨h.1, ?_⟩
  rcases h.2 with h0 | ⟨g, cap, cur, h1, h2, h3⟩
  · exact .inl h0
  · exact .inr ⟨g, cap, cur, h1, Nat.le_trans hb h2, h3⟩

theorem crun_len (keep : Bool → Bool → Bool) : ∀ (l : List Mk) (st : CS), (crun keep l st).out.length ≤ st.out.length + l.length
  | [], st => by simp [crun]
  | m :: t, st => by
    have h := crun_len keep t (cstep keep st m t.head?)
    have h2 : (cstep keep st m t.head?).out.length ≤ st.out.length + 1 := by
      unfold cstep
      split
      · simp
      · dsimp only; split <;> simp
    show (crun keep t (cstep keep st m t.head?)).out.length ≤ _
    rw [List.length_cons]; omega

/-- What the loop keeps of the world W1 that it began in: all below B1 but the block of the depths. -/
structure LW (w W1 wx : World) (Bd B1 : Nat) (d0 d1 : Int) (v : Value) (out : List Sp) : Prop where
  depth : wx.heap[Bd]? = some (.cells #[.int .i64 d0, .int .i64 d1] 85 (0, 0))
  owns : wx.ownsRow B1 42 2 v out.length (cellsS out)
  size : B1 ≤ wx.heap.size
  same : ∀ j, j < B1 → j ≠ Bd → wx.heap[j]? = W1.heap[j]?
  below : Below w.heap.size w wx

theorem lw_step {w W1 wr : World} {Bd B1 : Nat} {d0 d1 : Int} {v : Value} {out : List Sp} (h : LW w W1 wr Bd B1 d0 d1 v out) (hB : Bd < B1) (hw : w.heap.size ≤ Bd) (i : Nat) (x : Value) (box : Obj) {d0' d1' : Int}
    (he : (#[.int .i64 d0, .int .i64 d1] : Array Value).setIfInBounds i x = #[.int .i64 d0', .int .i64 d1']) :
    LW w W1 ((wr.setCell ⟨Bd, i, none⟩ x).alloc box).drew Bd B1 d0' d1' v out ∧ ((wr.setCell ⟨Bd, i, none⟩ x).alloc box).drew.heap[wr.heap.size]? = some box := by
  have hs : (wr.setCell ⟨Bd, i, none⟩ x).heap.size = wr.heap.size := by simp [World.setCell]
  have hsz := h.size
  have hdep : (wr.setCell ⟨Bd, i, none⟩ x).heap[Bd]? = some (.cells #[.int .i64 d0', .int .i64 d1'] 85 (0, 0)) := by
    have := h.depth
    simp [World.setCell, Array.getElem?_modify, this]
    simpa using he
  refine ⟨⟨(Below.heap_alloc _ box Bd (by omega)).trans hdep, ?_, by show B1 ≤ ((wr.setCell ⟨Bd, i, none⟩ x).alloc box).heap.size; rw [World.size_alloc]; omega, fun j hj hne => ?_, ?_⟩, ?_⟩
  · have := (ownsRow_setCell_below h.owns (a := ⟨Bd, i, none⟩) hB x).alloc box
    exact this
  · exact ((Below.heap_alloc _ box j (by omega)).trans (Below.heap_setCell wr ⟨Bd, i, none⟩ x j hne)).trans (h.same j hj hne)
  · exact ((h.below.setCell (p := ⟨Bd, i, none⟩) hw x).alloc (by have := h.below.size; omega) box).drew
  · have := heap_alloc_new (wr.setCell ⟨Bd, i, none⟩ x) box
    rw [hs] at this
    exact this
theorem lw_drewN {w W1 wr : World} {Bd B1 : Nat} {d0 d1 : Int} {v : Value} {out : List Sp} (h : LW w W1 wr Bd B1 d0 d1 v out) (n : Nat) : LW w W1 (wr.drewN n) Bd B1 d0 d1 v out :=
  ⟨h.depth, h.owns, h.size, h.same, ⟨h.below.os, h.below.tape, h.below.output, h.below.size, h.below.block⟩⟩
/-- Behind an append to out. -/
theorem lw_append {w W1 wr w2 : World} {Bd B1 : Nat} {d0 d1 : Int} {v v' : Value} {out : List Sp} {x : Sp} {tmp : Obj} (h : LW w W1 wr Bd B1 d0 d1 v out) (hB : Bd < B1) (hwB : w.heap.size ≤ B1)
    (hown : w2.ownsRow B1 42 2 v' (out.length + 1) (cellsS out ++ encS x)) (hg : (wr.alloc tmp).grownBy w2 v.ownBlock) : LW w W1 w2 Bd B1 d0 d1 v' (out ++ [x]) := by
  have hsz := h.size
  have hne : ∀ j, j < B1 → some j ≠ v.ownBlock := fun j hj he => by have := (h.owns.lt j he.symm).1; omega
  refine ⟨?_, ?_, ?_, fun j hj hj2 => ?_, ?_⟩
  · exact ((hg.block Bd (by rw [World.size_alloc]; omega) (hne Bd hB)).trans (Below.heap_alloc wr tmp Bd (by omega))).trans h.depth
  · rw [cellsS_append, List.length_append]; exact hown
  · have := hg.size; rw [World.size_alloc] at this; omega
  · exact ((hg.block j (by rw [World.size_alloc]; omega) (hne j hj)).trans (Below.heap_alloc wr tmp j (by omega))).trans (h.same j hj hj2)
  · exact (h.below.alloc (by omega) tmp).grown hg (by rw [World.size_alloc]; omega) (fun j hj => by have := (h.owns.lt j hj).1; omega)
theorem crun_next (kf : Bool → Bool → Bool) (row : List Mk) (k : Nat) (hk : k < row.length) (st : CS) : crun kf (row.drop k) st = crun kf (row.drop (k + 1)) (cstep kf st row[k] row[k + 1]?) := by
  rw [List.drop_eq_getElem_cons hk]
  show crun kf (row.drop (k + 1)) (cstep kf st row[k] (row.drop (k + 1)).head?) = _
  rw [List.head?_drop]

set_option maxRecDepth 100000 in
set_option maxHeartbeats 4000000 in
theorem combine_any (A B : Option Addr) (ca cb : Nat) (xs ys : List Sp) (hla : xs.length ≤ 1073741824) (hlb : ys.length ≤ 1073741824) (g : Nat) (kf : Bool → Bool → Bool)
    (hkf : ∀ x y W, Calls Tryd.prog g #[.bool x, .bool y] W fun e w' => e = .returned (.bool (kf x y)) ∧ W = w') (hent : ∀ args w, (callFunc g args).run Tryd.prog w = .ok (.enter g args) w) (h00 : kf false false = false)
    (w : World) (h0 : 0 < w.heap.size) (hA : Areas w) (hSa : Spans w.heap.size w A xs) (hSb : Spans w.heap.size w B ys) :
    Calls Tryd.prog 42 #[.slice A xs.length ca, .slice B ys.length cb, .func (.func g) #[] #[]] w (SetPost w (fun r => kf (decide (Tells xs r)) (decide (Tells ys r)) = true) (4 * xs.length + 4 * ys.length)) := by
  obtain ⟨i0, hi, hz0, hz1, hz2⟩ := info_parts infoS
  have HKF := Lib.hid hkf
  have HENT := Lib.hid hent
  have HA := Lib.hid hA
  have HSA := Lib.hid hSa
  have HSB := Lib.hid hSb
  clear hkf hent hA hSa hSb
  go_enter Tryd.func42, Tryd.ntmps42
  go_wp2_with fail
  have hb0 : Below w.heap.size w (w.alloc (.cells #[.int .i64 0, .int .i64 0] 85)) := (Below.refl _ w).alloc (Nat.le_refl _) _
  refine (marks_any A B ca cb xs ys hla hlb (w.alloc (.cells #[.int .i64 0, .int .i64 0] 85)) (by simp only [World.size_alloc]; omega) (HA.out.below hb0 h0) ((HSA.out.below hb0).mono (by simp)) ((HSB.out.below hb0).mono (by simp))).mono ?_
  rintro e W1 ⟨v, row, rfl, hperm, hrise, hrow, hb1⟩
  obtain ⟨P, c, rfl, hma⟩ := marksAt_of hrow
  have hlr : row.length ≤ 4 * xs.length + 4 * ys.length := by have := hperm.length_eq; have := raw_len xs ys; omega
  have hgood : ∀ m ∈ row, SetM.Good m := fun m hm => good_raw (hperm.mem_iff.2 hm)
  have hdep : W1.heap[w.heap.size]? = some (.cells #[.int .i64 0, .int .i64 0] 85 (0, 0)) := (hb1.block _ (by simp)).trans (heap_alloc_new w _)
  have hb2 : Below w.heap.size w W1 := hb0.trans (hb1.mono (by simp))
  have hfin := crun_final kf h00 xs ys row hperm hrise 0
  have HFIN := Lib.hid hfin
  have HMA := Lib.hid hma
  have HG := Lib.hid hgood
  have hlw0 : LW w W1 W1 w.heap.size W1.heap.size 0 0 (.slice none 0 0) [] := ⟨hdep, World.ownsRow_nil _ _ _ _, Nat.le_refl _, fun _ _ _ => rfl, hb2⟩
  have hsz1 : w.heap.size ≤ W1.heap.size := hb2.size
  have hszr : (w.alloc (.cells #[.int .i64 0, .int .i64 0] 85)).heap.size = w.heap.size + 1 := by simp
  rw [hszr] at HMA
  clear hfin hma hgood hrow hdep hperm hrise hb1 hb0 hszr hb2
  go_wp2
  go_loopg [7, 9, 10, 20] row.length (fun g2 s7 s9 s10 s20 wx => ∃ (k : Nat) (st : CS), k + g2 = row.length ∧ s20 = .int .i64 k ∧ s9 = .bool st.on ∧ s10 = .int .i64 st.start ∧ LW w W1 wx w.heap.size W1.heap.size st.d0 st.d1 s7 st.out ∧
    Hid (crun kf (row.drop k) st = crun kf row ⟨0, 0, false, 0, []⟩) ∧ -(k : Int) ≤ st.d0 ∧ st.d0 ≤ k ∧ -(k : Int) ≤ st.d1 ∧ st.d1 ≤ k ∧ st.out.length ≤ k)
  case atStart => exact ⟨0, ⟨0, 0, false, 0, []⟩, by omega, rfl, rfl, rfl, hlw0, Lib.hid (by simp), by simp, by simp, by simp, by simp, by simp⟩
  case round =>
    obtain ⟨k, st, hkg, rfl, rfl, rfl, hlw, HC, hd1, hd2, hd3, hd4, hol⟩ := hrel
    cases gk with
    | zero =>
      have hkz : ¬ ((k : Int) < (row.length : Int)) := by omega
      go_wp2
      go_ret
      have hst : crun kf (row.drop k) st = st := by rw [List.drop_eq_nil_of_le (by omega)]; rfl
      have hst2 := hst.symm.trans HC.out
      obtain ⟨hn, hm⟩ := HFIN.out
      rw [← hst2] at hn hm
      exact ⟨_, st.out, rfl, hn, hm, by omega, own_lower hlw.owns hsz1, hlw.below⟩
    | succ g3 =>
      have hkz : (k : Int) < (row.length : Int) := by omega
      have hk : k < row.length := by omega
      obtain ⟨b, rfl, hbb, hbl, hc⟩ := HMA.out (by intro h; rw [h] at hk; simp at hk)
      obtain ⟨c0, c1, c2⟩ := hc k hk
      have hgm := HG.out row[k] (List.getElem_mem hk)
      generalize hm : row[k] = m at c0 c1 c2 hgm
      have HM := Lib.hid hm
      have HCs := Lib.hid hc
      clear hm hc
      obtain ⟨at', side, step⟩ := m
      obtain ⟨hg1, hg2, hg3, hg4⟩ := hgm
      dsimp only at c0 c1 c2 hg1 hg2 hg3 hg4
      have hsame := hlw.same b hbl (by omega)
      have c0' : wr.cell? ⟨b, k * 3, none⟩ = some (.int .i64 at') := (World.cell?_of_block hsame).trans c0
      have c1' : wr.cell? ⟨b, k * 3 + 1, none⟩ = some (.int .i64 side) := (World.cell?_of_block hsame).trans c1
      have c2' : wr.cell? ⟨b, k * 3 + 1 + 1, none⟩ = some (.int .i64 step) := (World.cell?_of_block hsame).trans c2
      clear c0 c1 c2
      have hdl : w.heap.size < wr.heap.size := (Array.getElem?_eq_some_iff.1 hlw.depth).1
      have e0 : (wr.alloc (.cells #[.int .i64 at', .int .i64 side, .int .i64 step] 89)).cell? ⟨w.heap.size, 0, none⟩ = some (.int .i64 st.d0) := by
        rw [World.cell?_alloc_lt _ _ _ hdl, cell_of_row wr w.heap.size 0 _ _ _ hlw.depth]; rfl
      have e1 : (wr.alloc (.cells #[.int .i64 at', .int .i64 side, .int .i64 step] 89)).cell? ⟨w.heap.size, 1, none⟩ = some (.int .i64 st.d1) := by
        rw [World.cell?_alloc_lt _ _ _ hdl, cell_of_row wr w.heap.size 1 _ _ _ hlw.depth]; rfl
      have f0 : ∀ i, (wr.alloc (.cells #[.int .i64 at', .int .i64 side, .int .i64 step] 89)).frozen? ⟨w.heap.size, i, none⟩ = false := fun i => by
        rw [World.frozen?_alloc_past _ _ _ hdl]; simp [World.frozen?, hlw.depth]
      have f00 := f0 0
      have f01 := f0 1
      clear f0
      rcases hg3 with rfl | rfl
      · have hdw : w.heap.size < W1.heap.size := by omega
        have hq := lw_step hlw hdw (Nat.le_refl _) 0 (.int .i64 (st.d0 + step)) (.cells #[.int .i64 at', .int .i64 0, .int .i64 step] 89) (d0' := st.d0 + step) (d1' := st.d1) (by rfl)
        have HQ := Lib.hid hq
        clear hq
        go_wp2
        go_region
        obtain ⟨hq, hbox⟩ := HQ.out
        have hd0e : Hid (st.d0 + step = d0Of st (at', 0, step)) := Lib.hid (by simp [d0Of])
        have hd1e : Hid (st.d1 = d1Of st (at', 0, step)) := Lib.hid (by simp [d1Of])
        have hr0 : -((k : Int) + 1) ≤ st.d0 + step := by omega
        have hr1 : st.d0 + step ≤ (k : Int) + 1 := by omega
        have hr2 : -((k : Int) + 1) ≤ st.d1 := by omega
        have hr3 : st.d1 ≤ (k : Int) + 1 := by omega
        generalize ((wr.setCell ⟨w.heap.size, 0, none⟩ (.int .i64 (st.d0 + step))).alloc (.cells #[.int .i64 at', .int .i64 0, .int .i64 step] 89)).drew = wq at hq hbox ⊢
        generalize hE0 : st.d0 + step = d0' at hq hd0e hr0 hr1
        generalize hE1 : st.d1 = d1' at hq hd1e hr2 hr3
        clear hE0 hE1 HQ e0 e1 f00 f01 c0' c1' c2' hsame hdl
        have q0 : wq.cell? ⟨wr.heap.size, 0, none⟩ = some (.int .i64 at') := by rw [cell_of_row wq _ 0 _ _ _ hbox]; rfl
        have q1 : wq.cell? ⟨w.heap.size, 0, none⟩ = some (.int .i64 d0') := by rw [cell_of_row wq _ 0 _ _ _ hq.depth]; rfl
        have q2 : wq.cell? ⟨w.heap.size, 1, none⟩ = some (.int .i64 d1') := by rw [cell_of_row wq _ 1 _ _ _ hq.depth]; rfl
        have hqs := hq.same b hbl (by omega)
        by_cases hs : sameNext (at', 0, step) row[k + 1]? = true
        · have hn : k + 1 < row.length := by
            rcases Nat.lt_or_ge (k + 1) row.length with h | h
            · exact h
            · rw [List.getElem?_eq_none h] at hs; simp [sameNext] at hs
          obtain ⟨n0, _, _⟩ := HCs.out (k + 1) hn
          have n0' : wq.cell? ⟨b, (k + 1) * 3, none⟩ = some (.int .i64 row[k + 1].1) := (World.cell?_of_block hqs).trans n0
          clear n0
          have heq : row[k + 1].1 = at' := by rw [List.getElem?_eq_getElem hn] at hs; simpa [sameNext] using hs
          rw [heq] at n0'
          have hcs : cstep kf st (at', 0, step) row[k + 1]? = { st with d0 := d0', d1 := d1' } := by unfold cstep; rw [if_pos hs, hd0e.out, hd1e.out]
          have HCS := Lib.hid hcs
          have hnI : (k : Int) + 1 < (row.length : Int) := by omega
          clear heq hcs hs hqs
          go_wp2
          go_quiet (fail)
          go_wp2
          go_roundg g3
          case measure => omega
          case rel => exact ⟨k + 1, { st with d0 := d0', d1 := d1' }, by omega, by go_num, rfl, rfl, lw_drewN hq _, Lib.hid (by rw [← HC.out, crun_next kf row k hk st, HM.out, HCS.out]), by simp; omega, by simp; omega, by simp; omega, by simp; omega, by simp; omega⟩
        · obtain ⟨inn, hinn⟩ : ∃ inn, inn = kf (decide (0 < d0')) (decide (0 < d1')) := ⟨_, rfl⟩
          have hcall : ∀ W, Calls Tryd.prog g #[.bool (decide (0 < d0')), .bool (decide (0 < d1'))] W fun e w' => e = .returned (.bool inn) ∧ W = w' := fun W => by rw [hinn]; exact HKF.out _ _ W
          have hcs : cstep kf st (at', 0, step) row[k + 1]? = ⟨d0', d1', inn, if inn = true ∧ st.on = false then at' else st.start, if inn = false ∧ st.on = true then st.out ++ [(st.start, at' - 1)] else st.out⟩ := by
            unfold cstep; rw [if_neg hs, ← hd0e.out, ← hd1e.out, ← hinn]
          have hsplit : (∃ y : Int, k + 1 < row.length ∧ wq.cell? ⟨b, (k + 1) * 3, none⟩ = some (.int .i64 y) ∧ (y == at') = false) ∨ row.length ≤ k + 1 := by
            rcases Nat.lt_or_ge (k + 1) row.length with h | h
            · refine .inl ⟨row[k + 1].1, h, (World.cell?_of_block hqs).trans (HCs.out (k + 1) h).1, ?_⟩
              rw [List.getElem?_eq_getElem h] at hs
              simpa [sameNext] using hs
            · exact .inr h
          have HCALL := Lib.hid hcall
          have HCS := Lib.hid hcs
          clear hcall hcs hinn hs hqs
          rcases hsplit with ⟨y, hn, n0', hye⟩ | hn
          · have hnI : (k : Int) + 1 < (row.length : Int) := by omega
            go_wp2
            go_quiet (fail)
            have q0' : (wq.drewN nq).cell? ⟨wr.heap.size, 0, none⟩ = some (.int .i64 at') := q0
            have q1' : (wq.drewN nq).cell? ⟨w.heap.size, 0, none⟩ = some (.int .i64 d0') := q1
            have q2' : (wq.drewN nq).cell? ⟨w.heap.size, 1, none⟩ = some (.int .i64 d1') := q2
            have hq' := lw_drewN hq nq
            generalize wq.drewN nq = wz at q0' q1' q2' hq' ⊢
            clear q0 q1 q2 hq hbox hlw
            have hent := HENT.out
            have hqz := hq'.size
            obtain ⟨sd0, sd1, on, start, out⟩ := st
            dsimp only at *
            cases inn
            · cases on
              · go_wp2_with (go_at_fn g; refine (HCALL.out _).mono ?_; rintro e w' ⟨rfl, rfl⟩)
                go_roundg g3
                case measure => omega
                case rel => exact ⟨k + 1, ⟨d0', d1', false, start, out⟩, by omega, by go_num, rfl, rfl, hq', Lib.hid (by rw [← HC.out, crun_next kf row k hk, HM.out, HCS.out]; simp), by simp; omega, by simp; omega, by simp; omega, by simp; omega, by simp; omega⟩
              · go_wp2_with (first | (go_at_fn g; refine (HCALL.out _).mono ?_; rintro e w' ⟨rfl, rfl⟩) | (at_builtin; refine wpList_append_own _ rfl _ _ 28 rfl W1.heap.size 42 i0 (.agg #[.int .i64 0, .int .i64 0]) 2 16 Tryd.underlying28 hi hz0 hz1 hz2 rfl (by decide) _ _ _ rfl (hq'.owns.alloc _) ⟨wz.heap.size, 0, none⟩ 1 1 [.int .i64 start, .int .i64 (at' - 1)] rfl rfl (cell_news _ _ _) (by simp [Value.oneCell']) (by unfold maxLen; omega) (by omega) (by rw [World.size_alloc]; omega) ?_; intro v' w2 hown' hgrow _))
                go_roundg g3
                case measure => omega
                case rel => exact ⟨k + 1, ⟨d0', d1', false, start, out ++ [(start, at' - 1)]⟩, by omega, by go_num, rfl, rfl, lw_append hq' hdw hsz1 hown' hgrow, Lib.hid (by rw [← HC.out, crun_next kf row k hk, HM.out, HCS.out]; simp), by simp; omega, by simp; omega, by simp; omega, by simp; omega, by simp; omega⟩
            · cases on
              · go_wp2_with (go_at_fn g; refine (HCALL.out _).mono ?_; rintro e w' ⟨rfl, rfl⟩)
                go_roundg g3
                case measure => omega
                case rel => exact ⟨k + 1, ⟨d0', d1', true, at', out⟩, by omega, by go_num, rfl, rfl, hq', Lib.hid (by rw [← HC.out, crun_next kf row k hk, HM.out, HCS.out]; simp), by simp; omega, by simp; omega, by simp; omega, by simp; omega, by simp; omega⟩
              · go_wp2_with (go_at_fn g; refine (HCALL.out _).mono ?_; rintro e w' ⟨rfl, rfl⟩)
                go_roundg g3
                case measure => omega
                case rel => exact ⟨k + 1, ⟨d0', d1', true, start, out⟩, by omega, by go_num, rfl, rfl, hq', Lib.hid (by rw [← HC.out, crun_next kf row k hk, HM.out, HCS.out]; simp), by simp; omega, by simp; omega, by simp; omega, by simp; omega, by simp; omega⟩
          · have hnI : ¬ ((k : Int) + 1 < (row.length : Int)) := by omega
            have hnD : decide ((k : Int) + 1 < (row.length : Int)) = false := decide_eq_false hnI
            go_wp2
            go_quiet (fail)
            have q0' : (wq.drewN nq).cell? ⟨wr.heap.size, 0, none⟩ = some (.int .i64 at') := q0
            have q1' : (wq.drewN nq).cell? ⟨w.heap.size, 0, none⟩ = some (.int .i64 d0') := q1
            have q2' : (wq.drewN nq).cell? ⟨w.heap.size, 1, none⟩ = some (.int .i64 d1') := q2
            have hq' := lw_drewN hq nq
            generalize wq.drewN nq = wz at q0' q1' q2' hq' ⊢
            clear q0 q1 q2 hq hbox hlw
            have hent := HENT.out
            have hqz := hq'.size
            obtain ⟨sd0, sd1, on, start, out⟩ := st
            dsimp only at *
            cases inn
            · cases on
              · go_wp2_with (go_at_fn g; refine (HCALL.out _).mono ?_; rintro e w' ⟨rfl, rfl⟩)
                go_roundg g3
                case measure => omega
                case rel => exact ⟨k + 1, ⟨d0', d1', false, start, out⟩, by omega, by go_num, rfl, rfl, hq', Lib.hid (by rw [← HC.out, crun_next kf row k hk, HM.out, HCS.out]; simp), by simp; omega, by simp; omega, by simp; omega, by simp; omega, by simp; omega⟩
              · go_wp2_with (first | (go_at_fn g; refine (HCALL.out _).mono ?_; rintro e w' ⟨rfl, rfl⟩) | (at_builtin; refine wpList_append_own _ rfl _ _ 28 rfl W1.heap.size 42 i0 (.agg #[.int .i64 0, .int .i64 0]) 2 16 Tryd.underlying28 hi hz0 hz1 hz2 rfl (by decide) _ _ _ rfl (hq'.owns.alloc _) ⟨wz.heap.size, 0, none⟩ 1 1 [.int .i64 start, .int .i64 (at' - 1)] rfl rfl (cell_news _ _ _) (by simp [Value.oneCell']) (by unfold maxLen; omega) (by omega) (by rw [World.size_alloc]; omega) ?_; intro v' w2 hown' hgrow _))
                go_roundg g3
                case measure => omega
                case rel => exact ⟨k + 1, ⟨d0', d1', false, start, out ++ [(start, at' - 1)]⟩, by omega, by go_num, rfl, rfl, lw_append hq' hdw hsz1 hown' hgrow, Lib.hid (by rw [← HC.out, crun_next kf row k hk, HM.out, HCS.out]; simp), by simp; omega, by simp; omega, by simp; omega, by simp; omega, by simp; omega⟩
            · cases on
              · go_wp2_with (go_at_fn g; refine (HCALL.out _).mono ?_; rintro e w' ⟨rfl, rfl⟩)
                go_roundg g3
                case measure => omega
                case rel => exact ⟨k + 1, ⟨d0', d1', true, at', out⟩, by omega, by go_num, rfl, rfl, hq', Lib.hid (by rw [← HC.out, crun_next kf row k hk, HM.out, HCS.out]; simp), by simp; omega, by simp; omega, by simp; omega, by simp; omega, by simp; omega⟩
              · go_wp2_with (go_at_fn g; refine (HCALL.out _).mono ?_; rintro e w' ⟨rfl, rfl⟩)
                go_roundg g3
                case measure => omega
                case rel => exact ⟨k + 1, ⟨d0', d1', true, start, out⟩, by omega, by go_num, rfl, rfl, hq', Lib.hid (by rw [← HC.out, crun_next kf row k hk, HM.out, HCS.out]; simp), by simp; omega, by simp; omega, by simp; omega, by simp; omega, by simp; omega⟩
      · have hdw : w.heap.size < W1.heap.size := by omega
        have hq := lw_step hlw hdw (Nat.le_refl _) 1 (.int .i64 (st.d1 + step)) (.cells #[.int .i64 at', .int .i64 1, .int .i64 step] 89) (d0' := st.d0) (d1' := st.d1 + step) (by rfl)
        have HQ := Lib.hid hq
        clear hq
        go_wp2
        go_region
        obtain ⟨hq, hbox⟩ := HQ.out
        have hd0e : Hid (st.d0 = d0Of st (at', 1, step)) := Lib.hid (by simp [d0Of])
        have hd1e : Hid (st.d1 + step = d1Of st (at', 1, step)) := Lib.hid (by simp [d1Of])
        have hr0 : -((k : Int) + 1) ≤ st.d0 := by omega
        have hr1 : st.d0 ≤ (k : Int) + 1 := by omega
        have hr2 : -((k : Int) + 1) ≤ st.d1 + step := by omega
        have hr3 : st.d1 + step ≤ (k : Int) + 1 := by omega
        generalize ((wr.setCell ⟨w.heap.size, 1, none⟩ (.int .i64 (st.d1 + step))).alloc (.cells #[.int .i64 at', .int .i64 1, .int .i64 step] 89)).drew = wq at hq hbox ⊢
        generalize hE0 : st.d0 = d0' at hq hd0e hr0 hr1
        generalize hE1 : st.d1 + step = d1' at hq hd1e hr2 hr3
        clear hE0 hE1 HQ e0 e1 f00 f01 c0' c1' c2' hsame hdl
        have q0 : wq.cell? ⟨wr.heap.size, 0, none⟩ = some (.int .i64 at') := by rw [cell_of_row wq _ 0 _ _ _ hbox]; rfl
        have q1 : wq.cell? ⟨w.heap.size, 0, none⟩ = some (.int .i64 d0') := by rw [cell_of_row wq _ 0 _ _ _ hq.depth]; rfl
        have q2 : wq.cell? ⟨w.heap.size, 1, none⟩ = some (.int .i64 d1') := by rw [cell_of_row wq _ 1 _ _ _ hq.depth]; rfl
        have hqs := hq.same b hbl (by omega)
        by_cases hs : sameNext (at', 1, step) row[k + 1]? = true
        · have hn : k + 1 < row.length := by
            rcases Nat.lt_or_ge (k + 1) row.length with h | h
            · exact h
            · rw [List.getElem?_eq_none h] at hs; simp [sameNext] at hs
          obtain ⟨n0, _, _⟩ := HCs.out (k + 1) hn
          have n0' : wq.cell? ⟨b, (k + 1) * 3, none⟩ = some (.int .i64 row[k + 1].1) := (World.cell?_of_block hqs).trans n0
          clear n0
          have heq : row[k + 1].1 = at' := by rw [List.getElem?_eq_getElem hn] at hs; simpa [sameNext] using hs
          rw [heq] at n0'
          have hcs : cstep kf st (at', 1, step) row[k + 1]? = { st with d0 := d0', d1 := d1' } := by unfold cstep; rw [if_pos hs, hd0e.out, hd1e.out]
          have HCS := Lib.hid hcs
          have hnI : (k : Int) + 1 < (row.length : Int) := by omega
          clear heq hcs hs hqs
          go_wp2
          go_quiet (fail)
          go_wp2
          go_roundg g3
          case measure => omega
          case rel => exact ⟨k + 1, { st with d0 := d0', d1 := d1' }, by omega, by go_num, rfl, rfl, lw_drewN hq _, Lib.hid (by rw [← HC.out, crun_next kf row k hk st, HM.out, HCS.out]), by simp; omega, by simp; omega, by simp; omega, by simp; omega, by simp; omega⟩
        · obtain ⟨inn, hinn⟩ : ∃ inn, inn = kf (decide (0 < d0')) (decide (0 < d1')) := ⟨_, rfl⟩
          have hcall : ∀ W, Calls Tryd.prog g #[.bool (decide (0 < d0')), .bool (decide (0 < d1'))] W fun e w' => e = .returned (.bool inn) ∧ W = w' := fun W => by rw [hinn]; exact HKF.out _ _ W
          have hcs : cstep kf st (at', 1, step) row[k + 1]? = ⟨d0', d1', inn, if inn = true ∧ st.on = false then at' else st.start, if inn = false ∧ st.on = true then st.out ++ [(st.start, at' - 1)] else st.out⟩ := by
            unfold cstep; rw [if_neg hs, ← hd0e.out, ← hd1e.out, ← hinn]
          have hsplit : (∃ y : Int, k + 1 < row.length ∧ wq.cell? ⟨b, (k + 1) * 3, none⟩ = some (.int .i64 y) ∧ (y == at') = false) ∨ row.length ≤ k + 1 := by
            rcases Nat.lt_or_ge (k + 1) row.length with h | h
            · refine .inl ⟨row[k + 1].1, h, (World.cell?_of_block hqs).trans (HCs.out (k + 1) h).1, ?_⟩
              rw [List.getElem?_eq_getElem h] at hs
              simpa [sameNext] using hs
            · exact .inr h
          have HCALL := Lib.hid hcall
          have HCS := Lib.hid hcs
          clear hcall hcs hinn hs hqs
          rcases hsplit with ⟨y, hn, n0', hye⟩ | hn
          · have hnI : (k : Int) + 1 < (row.length : Int) := by omega
            go_wp2
            go_quiet (fail)
            have q0' : (wq.drewN nq).cell? ⟨wr.heap.size, 0, none⟩ = some (.int .i64 at') := q0
            have q1' : (wq.drewN nq).cell? ⟨w.heap.size, 0, none⟩ = some (.int .i64 d0') := q1
            have q2' : (wq.drewN nq).cell? ⟨w.heap.size, 1, none⟩ = some (.int .i64 d1') := q2
            have hq' := lw_drewN hq nq
            generalize wq.drewN nq = wz at q0' q1' q2' hq' ⊢
            clear q0 q1 q2 hq hbox hlw
            have hent := HENT.out
            have hqz := hq'.size
            obtain ⟨sd0, sd1, on, start, out⟩ := st
            dsimp only at *
            cases inn
            · cases on
              · go_wp2_with (go_at_fn g; refine (HCALL.out _).mono ?_; rintro e w' ⟨rfl, rfl⟩)
                go_roundg g3
                case measure => omega
                case rel => exact ⟨k + 1, ⟨d0', d1', false, start, out⟩, by omega, by go_num, rfl, rfl, hq', Lib.hid (by rw [← HC.out, crun_next kf row k hk, HM.out, HCS.out]; simp), by simp; omega, by simp; omega, by simp; omega, by simp; omega, by simp; omega⟩
              · go_wp2_with (first | (go_at_fn g; refine (HCALL.out _).mono ?_; rintro e w' ⟨rfl, rfl⟩) | (at_builtin; refine wpList_append_own _ rfl _ _ 28 rfl W1.heap.size 42 i0 (.agg #[.int .i64 0, .int .i64 0]) 2 16 Tryd.underlying28 hi hz0 hz1 hz2 rfl (by decide) _ _ _ rfl (hq'.owns.alloc _) ⟨wz.heap.size, 0, none⟩ 1 1 [.int .i64 start, .int .i64 (at' - 1)] rfl rfl (cell_news _ _ _) (by simp [Value.oneCell']) (by unfold maxLen; omega) (by omega) (by rw [World.size_alloc]; omega) ?_; intro v' w2 hown' hgrow _))
                go_roundg g3
                case measure => omega
                case rel => exact ⟨k + 1, ⟨d0', d1', false, start, out ++ [(start, at' - 1)]⟩, by omega, by go_num, rfl, rfl, lw_append hq' hdw hsz1 hown' hgrow, Lib.hid (by rw [← HC.out, crun_next kf row k hk, HM.out, HCS.out]; simp), by simp; omega, by simp; omega, by simp; omega, by simp; omega, by simp; omega⟩
            · cases on
              · go_wp2_with (go_at_fn g; refine (HCALL.out _).mono ?_; rintro e w' ⟨rfl, rfl⟩)
                go_roundg g3
                case measure => omega
                case rel => exact ⟨k + 1, ⟨d0', d1', true, at', out⟩, by omega, by go_num, rfl, rfl, hq', Lib.hid (by rw [← HC.out, crun_next kf row k hk, HM.out, HCS.out]; simp), by simp; omega, by simp; omega, by simp; omega, by simp; omega, by simp; omega⟩
              · go_wp2_with (go_at_fn g; refine (HCALL.out _).mono ?_; rintro e w' ⟨rfl, rfl⟩)
                go_roundg g3
                case measure => omega
                case rel => exact ⟨k + 1, ⟨d0', d1', true, start, out⟩, by omega, by go_num, rfl, rfl, hq', Lib.hid (by rw [← HC.out, crun_next kf row k hk, HM.out, HCS.out]; simp), by simp; omega, by simp; omega, by simp; omega, by simp; omega, by simp; omega⟩
          · have hnI : ¬ ((k : Int) + 1 < (row.length : Int)) := by omega
            have hnD : decide ((k : Int) + 1 < (row.length : Int)) = false := decide_eq_false hnI
            go_wp2
            go_quiet (fail)
            have q0' : (wq.drewN nq).cell? ⟨wr.heap.size, 0, none⟩ = some (.int .i64 at') := q0
            have q1' : (wq.drewN nq).cell? ⟨w.heap.size, 0, none⟩ = some (.int .i64 d0') := q1
            have q2' : (wq.drewN nq).cell? ⟨w.heap.size, 1, none⟩ = some (.int .i64 d1') := q2
            have hq' := lw_drewN hq nq
            generalize wq.drewN nq = wz at q0' q1' q2' hq' ⊢
            clear q0 q1 q2 hq hbox hlw
            have hent := HENT.out
            have hqz := hq'.size
            obtain ⟨sd0, sd1, on, start, out⟩ := st
            dsimp only at *
            cases inn
            · cases on
              · go_wp2_with (go_at_fn g; refine (HCALL.out _).mono ?_; rintro e w' ⟨rfl, rfl⟩)
                go_roundg g3
                case measure => omega
                case rel => exact ⟨k + 1, ⟨d0', d1', false, start, out⟩, by omega, by go_num, rfl, rfl, hq', Lib.hid (by rw [← HC.out, crun_next kf row k hk, HM.out, HCS.out]; simp), by simp; omega, by simp; omega, by simp; omega, by simp; omega, by simp; omega⟩
              · go_wp2_with (first | (go_at_fn g; refine (HCALL.out _).mono ?_; rintro e w' ⟨rfl, rfl⟩) | (at_builtin; refine wpList_append_own _ rfl _ _ 28 rfl W1.heap.size 42 i0 (.agg #[.int .i64 0, .int .i64 0]) 2 16 Tryd.underlying28 hi hz0 hz1 hz2 rfl (by decide) _ _ _ rfl (hq'.owns.alloc _) ⟨wz.heap.size, 0, none⟩ 1 1 [.int .i64 start, .int .i64 (at' - 1)] rfl rfl (cell_news _ _ _) (by simp [Value.oneCell']) (by unfold maxLen; omega) (by omega) (by rw [World.size_alloc]; omega) ?_; intro v' w2 hown' hgrow _))
                go_roundg g3
                case measure => omega
                case rel => exact ⟨k + 1, ⟨d0', d1', false, start, out ++ [(start, at' - 1)]⟩, by omega, by go_num, rfl, rfl, lw_append hq' hdw hsz1 hown' hgrow, Lib.hid (by rw [← HC.out, crun_next kf row k hk, HM.out, HCS.out]; simp), by simp; omega, by simp; omega, by simp; omega, by simp; omega, by simp; omega⟩
            · cases on
              · go_wp2_with (go_at_fn g; refine (HCALL.out _).mono ?_; rintro e w' ⟨rfl, rfl⟩)
                go_roundg g3
                case measure => omega
                case rel => exact ⟨k + 1, ⟨d0', d1', true, at', out⟩, by omega, by go_num, rfl, rfl, hq', Lib.hid (by rw [← HC.out, crun_next kf row k hk, HM.out, HCS.out]; simp), by simp; omega, by simp; omega, by simp; omega, by simp; omega, by simp; omega⟩
              · go_wp2_with (go_at_fn g; refine (HCALL.out _).mono ?_; rintro e w' ⟨rfl, rfl⟩)
                go_roundg g3
                case measure => omega
                case rel => exact ⟨k + 1, ⟨d0', d1', true, start, out⟩, by omega, by go_num, rfl, rfl, hq', Lib.hid (by rw [← HC.out, crun_next kf row k hk, HM.out, HCS.out]; simp), by simp; omega, by simp; omega, by simp; omega, by simp; omega, by simp; omega⟩
end Go.Proofs.YtkphbjppmiefkaaDoor
