/- slices.SortFunc at marks: what a slice of the call's own holds behind it. -/
import Derived.Test.YtkphbjppmiefkaaDoorMath
import Derived.Test.YtkphbjppmiefkaaDoorShelf
import Derived.WalkKit
import Derived.Maps.AppendAt
import Derived.Lib.Hide
namespace Go.Proofs.YtkphbjppmiefkaaDoor
open Go.RowKit Go.Shelf Go.Sort SetM

/-- A mark's three cells; a list's. -/
def encM (m : Mk) : List Value := [.int .i64 m.1, .int .i64 m.2.1, .int .i64 m.2.2]
def cellsM (l : List Mk) : List Value := l.flatMap encM
theorem cellsM_append (a b : List Mk) : cellsM (a ++ b) = cellsM a ++ cellsM b := by simp [cellsM]
theorem cellsM_len (l : List Mk) : (cellsM l).length = l.length * 3 := by
  induction l with
  | nil => rfl
  | cons m t ih =>
    have : cellsM (m :: t) = encM m ++ cellsM t := rfl
    rw [this, List.length_append, ih]; simp [encM]; omega
theorem cellsM_get : ∀ (l : List Mk) (j : Nat), j < l.length * 3 → (cellsM l)[j]? = (encM (l[j / 3]?.getD default))[j % 3]?
  | [], j, h => by simp at h
  | m :: t, j, h => by
    have e : cellsM (m :: t) = encM m ++ cellsM t := rfl
    rw [e]
    by_cases hj : j < 3
    · rw [List.getElem?_append_left (by simpa [encM] using hj), Nat.div_eq_of_lt hj, Nat.mod_eq_of_lt hj]; simp
    · rw [List.getElem?_append_right (by simp [encM]; omega)]
      have h3 : (encM m).length = 3 := rfl
      rw [h3, cellsM_get t (j - 3) (by simp at h; omega), show j / 3 = (j - 3) / 3 + 1 from by omega, show (j - 3) % 3 = j % 3 from by omega]
      simp
theorem flat_get (l : List Mk) (j : Nat) (h : j < l.length * 3) : (cellsM l)[j]? = some (id (flatK encM 3 l.toArray)[j]!) := by
  rw [cellsM_get l j h, id, get_flatK encM 3 l.toArray j (by simpa using h)]
  have h1 : j / 3 < l.length := by omega
  have h2 : j % 3 < 3 := Nat.mod_lt _ (by omega)
  rw [getElem!_pos l.toArray (j / 3) (by simpa using h1), List.getElem_toArray, List.getElem?_eq_getElem h1, Option.getD_some,
    getElem!_pos (encM l[j / 3]) (j % 3) (by simpa [encM] using h2), List.getElem?_eq_getElem]

theorem holdsM {w : World} {g : Nat} {cur : Array Value} {e : TypeId} {l : List Mk} (hb : w.heap[g]? = some (.cells cur e (0, 0))) (ht : cur.toList.take (l.length * 3) = cellsM l) : HoldsK encM 3 w g 0 l.toArray := by
  intro j hj
  have hj' : j < l.length * 3 := by simpa using hj
  refine ⟨?_, by simp [World.frozen?, hb]⟩
  have h1 : (cur.toList.take (l.length * 3))[j]? = (cellsM l)[j]? := by rw [ht]
  rw [List.getElem?_take_of_lt hj', flat_get l j hj'] at h1
  simp only [World.cell?, hb, Nat.zero_add]
  simp only [Option.isSome_none, Bool.false_eq_true, if_false]
  rw [← Array.getElem?_toList, h1]
theorem heapM {w : World} {g n : Nat} {os : Array Obj} {cur : Array Value} {e : TypeId} {fr : Nat × Nat} (d : Array Mk) (hb : w.heap[g]? = some (.cells cur e fr)) :
    (sortWorldK encM 3 w g 0 n d os).heap[g]? = some (.cells (putCells id 0 (flatK encM 3 d) cur) e fr) := by
  have hg : g < w.heap.size := (Array.getElem?_eq_some_iff.1 hb).1
  unfold sortWorldK putRowK
  rw [heap_grow_old _ _ (by simpa using hg)]
  simp [putRow, mapBlock, Sort.ahead, Array.getElem?_modify, hb, onCells]
theorem grownM {w : World} {g n : Nat} {os : Array Obj} (d : Array Mk) : w.grownBy (sortWorldK encM 3 w g 0 n d os) (some g) := by
  unfold sortWorldK putRowK
  refine ⟨rfl, rfl, rfl, by simp, fun k hk hne => ?_⟩
  rw [heap_grow_old _ _ (by simpa using hk)]
  have : g ≠ k := fun e => hne (by rw [e])
  simp [putRow, mapBlock, Sort.ahead, Array.getElem?_modify, this]
theorem take_putM (cur : Array Value) (ts : List Mk) (h : ts.length * 3 ≤ cur.size) : (putCells id 0 (flatK encM 3 ts.toArray) cur).toList.take (ts.length * 3) = cellsM ts := by
  apply List.ext_getElem?
  intro j
  by_cases hj : j < ts.length * 3
  · rw [List.getElem?_take_of_lt hj, Array.getElem?_toList, flat_get ts j hj]
    simp [putCells, hj, show j < cur.size by omega]
  · rw [List.getElem?_take_eq_none (by omega), List.getElem?_eq_none (by rw [cellsM_len]; omega)]
theorem ownsM {w : World} {base g cap n : Nat} {e : TypeId} {os : Array Obj} {cur : Array Value} {ss ts : List Mk} (hl : ts.length = ss.length) (hbase : base ≤ g) (hb : w.heap[g]? = some (.cells cur e (0, 0)))
    (h1 : ss.length ≤ cap) (h2 : cap ≤ maxLen) (h3 : cur.size = cap * 3) :
    (sortWorldK encM 3 w g 0 n ts.toArray os).ownsRow base e 3 (.slice (some ⟨g, 0, none⟩) ss.length cap) ss.length (cellsM ts) :=
  ⟨by rw [cellsM_len, hl], .inr ⟨g, cap, _, rfl, hbase, heapM _ hb, h1, h2, by simp [putCells, h3], by rw [← hl]; exact take_putM cur ts (by omega)⟩⟩

theorem ltM (x y : Mk) : ltOf (fun x y : Mk => Lib.compareInt x.1 y.1) x y = decide (x.1 < y.1) := by
  unfold ltOf Lib.compareInt
  by_cases h1 : x.1 < y.1
  · simp [h1]
  · by_cases h2 : y.1 < x.1 <;> simp [h1, h2]
theorem swoM : SWO (ltOf fun x y : Mk => Lib.compareInt x.1 y.1) where
  irrefl x := by rw [ltM]; simp
  trans x y z h1 h2 := by rw [ltM] at *; simp at *; omega
  ntrans x y z h1 h2 := by rw [ltM] at *; simp at *; omega

set_option maxHeartbeats 1000000 in
theorem closureM (x y : Mk) (W : World) : Calls Tryd.prog 66 #[.agg #[.int .i64 x.1, .int .i64 x.2.1, .int .i64 x.2.2], .agg #[.int .i64 y.1, .int .i64 y.2.1, .int .i64 y.2.2]] W fun e w' => e = .returned (.int .i64 (Lib.compareInt x.1 y.1)) ∧ ∃ q os', w' = grow (W.drewN q) os' := by
  have hcon := fun W' => AnyG.cmp_Compare_int Tryd.cmpInt x.1 y.1 W'
  change ∀ W', Calls Tryd.prog 53 _ _ _ at hcon
  generalize Lib.compareInt x.1 y.1 = r at hcon ⊢
  go_enter Tryd.func66, Tryd.ntmps66
  go_wp2_with (go_at_call 53; refine (hcon _).mono ?_; rintro e w' ⟨rfl, rfl⟩)
  go_ret
  exact ⟨rfl, 0, _, by rw [alloc_eq_grow, alloc_eq_grow, grow_grow]; rfl⟩
theorem isAggM (w : World) : (isAgg 89).run Tryd.prog w = .ok true w := by kernel_rfl
theorem sizeOfM (w : World) : (Go.sizeOf 89).run Tryd.prog w = .ok 3 w := by kernel_rfl

/-- Behind the sort the slice holds the same marks, in an order that rises. -/
def SortPost (W : World) (base : Nat) (v : Value) (ms : List Mk) (e : Ending) (w' : World) : Prop :=
  e = .returned (.tuple #[]) ∧ ∃ row, List.Perm ms row ∧ Rises row ∧ w'.ownsRow base 89 3 v row.length (cellsM row) ∧ W.grownBy w' v.ownBlock

theorem perm_of_in {l : List Mk} {d : Array Mk} (h : PermIn 0 l.toArray.size l.toArray d) : List.Perm l d.toList := by
  obtain ⟨h1, _, h3⟩ := h
  have e1 : (d.extract 0 l.toArray.size) = d := by rw [← h1]; simp
  have e2 : (l.toArray.extract 0 l.toArray.size) = l.toArray := by simp
  rw [e1, e2] at h3
  exact h3.symm
theorem rises_of_in {n : Nat} {d : Array Mk} (hn : d.size = n) (h : SortedIn (ltOf fun x y : Mk => Lib.compareInt x.1 y.1) 0 n d) : Rises d.toList := by
  refine List.pairwise_iff_getElem.2 (fun i j hi hj hij => ?_)
  have := h i j (Nat.zero_le _) hij (by simpa [← hn] using hj)
  rw [ltM, decide_eq_false_iff_not] at this
  rw [getElem!_pos d j (by simpa using hj), getElem!_pos d i (by simpa using hi)] at this
  simp only [Array.getElem_toList]
  omega

set_option maxHeartbeats 1000000 in
theorem insertion_none (p : Option Addr) (cap : Nat) (fv : Value) (w : World) :
    Calls Tryd.prog 83 #[.slice p 0 cap, .int .i64 0, .int .i64 0, fv] w fun e w' => e = .returned (.tuple #[]) ∧ w = w' := by
  go_enter Tryd.func83, Tryd.ntmps83
  go_wp2
  refine wp_loop_rounds 1 ?_
  rw [rounds_succ]
  go_wp2
  go_end0
  exact ⟨rfl, rfl⟩
set_option maxHeartbeats 1000000 in
theorem pdq_none (p : Option Addr) (cap : Nat) (lim : Int) (fv : Value) (w : World) :
    Calls Tryd.prog 71 #[.slice p 0 cap, .int .i64 0, .int .i64 0, .int .i64 lim, fv] w fun e w' => e = .returned (.tuple #[]) ∧ w = w' := by
  go_enter Tryd.func71, Tryd.ntmps71
  go_wp2
  refine wp_loop_rounds 1 ?_
  rw [rounds_succ]
  go_wp2_with (go_at_call 83; refine (insertion_none _ _ _ _).mono ?_; rintro e w' ⟨rfl, rfl⟩)
  (try simp only [Exit.inBlock, Exit.then]); refine bodyPost_ret (results_none rfl _ _ _) rfl ?_
  exact ⟨rfl, rfl⟩
set_option maxHeartbeats 1000000 in
theorem sort_none (fv : Value) (w : World) : Calls Tryd.prog 65 #[.slice none 0 0, fv] w fun e w' => e = .returned (.tuple #[]) ∧ w = w' := by
  have hl : ∀ W, Calls Tryd.prog 69 #[.int .u64 0] W fun e w' => e = .returned (.int .i64 (Lib.bitLen 0 : Nat)) ∧ w' = W := fun W => by
    have L := Tryd.sortM
    have h := Any.bits_Len (SlLaysF0.n15.bits (P := Tryd.prog) (ρ := Tryd.sortM_ren) { L with }) 0 W (by omega) (by omega)
    exact h
  have HL := Lib.hid hl
  clear hl
  go_enter Tryd.func65, Tryd.ntmps65
  go_wp2_with (first | (go_at_call 69; refine (HL.out _).mono ?_; rintro e w' ⟨rfl, rfl⟩) | (go_at_call 71; refine (pdq_none _ _ _ _ _).mono ?_; rintro e w' ⟨rfl, rfl⟩))
  go_end0
  exact ⟨rfl, rfl⟩

theorem sort_any (base : Nat) (v : Value) (ms : List Mk) (hsz : ms.length < 4611686018427387904) (W : World) (hown : W.ownsRow base 89 3 v ms.length (cellsM ms)) :
    Calls Tryd.prog 65 #[v, .func (.func 66) #[] #[]] W (SortPost W base v ms) := by
  rcases hown.2 with ⟨rfl, h0⟩ | ⟨g, cap, cur, rfl, hbase, hb, h1, h2, h3, h4⟩
  · have hm : ms = [] := List.eq_nil_of_length_eq_zero h0
    refine (sort_none _ W).mono ?_
    rintro e w' ⟨rfl, rfl⟩
    exact ⟨rfl, [], by rw [hm], List.Pairwise.nil, World.ownsRow_nil _ _ _ _, ⟨rfl, rfl, rfl, Nat.le_refl _, fun _ _ _ => rfl⟩⟩
  have eg : ∀ args w, (callFunc 66 args).run Tryd.prog w = .ok (.enter 66 args) w := enters_of Tryd.func66 (by kernel_rfl) rfl
  have hcon := AnyQ.slices_SortFunc Tryd.sortM 3 isAggM sizeOfM encM (fun _ => rfl) (fun x v hv => by simp [encM] at hv; rcases hv with rfl | rfl | rfl <;> rfl) (fun x y => Lib.compareInt x.1 y.1) swoM 66 #[] g 0 cap ms.toArray W eg
    (fun _ _ _ _ x y => closureM x y _) (holdsM hb h4) (Array.getElem?_eq_some_iff.1 hb).1 (by simpa using hsz)
  refine hcon.mono ?_
  rintro e w' ⟨rfl, d', n, os, hp, hs, rfl⟩
  have hsd : d'.size = ms.length := by simpa using hp.1
  refine ⟨rfl, d'.toList, perm_of_in hp, rises_of_in (by simpa using hp.1) hs, ?_, grownM d'⟩
  have hl : d'.toList.length = ms.length := by simpa using hsd
  have := ownsM (n := n) (os := os) hl hbase hb h1 h2 h3
  rw [hl]
  exact this

end Go.Proofs.YtkphbjppmiefkaaDoor
