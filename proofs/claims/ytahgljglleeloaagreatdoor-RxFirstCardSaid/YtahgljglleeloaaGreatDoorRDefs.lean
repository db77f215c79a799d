/- Definitions in memory; which of them has a name. -/
import Derived.Test.YtahgljglleeloaaGreatDoorRC
namespace Go.Proofs.YtahgljglleeloaaGreatDoor
open Go.RowKit Go.Shelf Go.Maps SetM PropsM RxM

theorem enters_named : ∀ args w, (callFunc 88 args).run Tryz.prog w = .ok (.enter 88 args) w := enters_of Tryz.func88 (by kernel_rfl) rfl
theorem bs_inj {a b : ByteArray} (h : bs a = bs b) : a = b := by
  apply ByteArray.ext
  apply Array.toList_inj.1
  unfold bs at h
  exact (List.map_inj_right (fun x y e => UInt8.toNat_inj.1 (by have e : (x.toNat : Int) = (y.toNat : Int) := e; omega))).1 h
set_option maxRecDepth 100000 in
set_option maxHeartbeats 1000000 in
theorem named1_c (dn nm : ByteArray) (x0 x1 x2 x3 x4 : Value) (nb : Nat) (W : World) (hc : W.cell? ⟨nb, 0, none⟩ = some (.string nm)) (hnb : nb < W.heap.size) :
    Calls Tryz.prog 88 #[.agg #[.string dn, x0, x1, x2, x3, x4], .pointer (some ⟨nb, 0, none⟩)] W fun e W' => e = .returned (.bool (decide (bs dn = bs nm))) ∧ Below W.heap.size W W' := by
  have hb := (Below.refl W.heap.size W).alloc (Nat.le_refl _) (.cells #[.string dn, x0, x1, x2, x3, x4] 59)
  have c1 := (hb.cell (p := ⟨nb, 0, none⟩) hnb).trans hc
  have c0 : (W.alloc (.cells #[.string dn, x0, x1, x2, x3, x4] 59)).cell? ⟨W.heap.size, 0, none⟩ = some (.string dn) := by rw [cell_of_row _ W.heap.size 0 _ _ _ (heap_alloc_new W _)]; rfl
  have HB := Lib.hid hb
  clear hb
  by_cases h : dn = nm
  · subst h
    rw [show decide (bs dn = bs dn) = true from decide_eq_true rfl]
    go_enter Tryz.func88, Tryz.ntmps88
    go_wp2
    go_ret
    exact ⟨by simp, HB.out⟩
  · rw [show decide (bs dn = bs nm) = false from decide_eq_false (fun e => h (bs_inj e))]
    have h' : ¬ dn.toList = nm.toList := by
      rw [Lib.toList_data, Lib.toList_data]
      intro e
      exact h (ByteArray.ext (Array.toList_inj.1 e))
    go_enter Tryz.func88, Tryz.ntmps88
    go_wp2
    go_ret
    exact ⟨by simp [h'], HB.out⟩
/-- The six cells of a definition. -/
def Def6 (W : World) (g o : Nat) (nm : ByteArray) (x0 x1 x2 x3 x4 : Value) : Prop :=
  W.cell? ⟨g, o, none⟩ = some (.string nm) ∧ W.cell? ⟨g, o + 1, none⟩ = some x0 ∧ W.cell? ⟨g, o + 2, none⟩ = some x1 ∧ W.cell? ⟨g, o + 3, none⟩ = some x2 ∧ W.cell? ⟨g, o + 4, none⟩ = some x3 ∧ W.cell? ⟨g, o + 5, none⟩ = some x4
theorem Def6.below {n : Nat} {W W' : World} {g o : Nat} {nm : ByteArray} {x0 x1 x2 x3 x4 : Value} (h : Def6 W g o nm x0 x1 x2 x3 x4) (hb : Below n W W') (hg : g < n) : Def6 W' g o nm x0 x1 x2 x3 x4 :=
  ⟨(hb.cell (p := ⟨g, _, none⟩) hg).trans h.1, (hb.cell (p := ⟨g, _, none⟩) hg).trans h.2.1, (hb.cell (p := ⟨g, _, none⟩) hg).trans h.2.2.1, (hb.cell (p := ⟨g, _, none⟩) hg).trans h.2.2.2.1, (hb.cell (p := ⟨g, _, none⟩) hg).trans h.2.2.2.2.1, (hb.cell (p := ⟨g, _, none⟩) hg).trans h.2.2.2.2.2⟩
/-- The names of definitions, as they lie in memory. -/
def NamesIn (W : World) (p : Option Addr) (ns : List (List Int)) : Prop :=
  ns ≠ [] → ∃ g off, p = some ⟨g, off, none⟩ ∧ g < W.heap.size ∧ ∀ i (hi : i < ns.length), ∃ dn x0 x1 x2 x3 x4, bs dn = ns[i] ∧ Def6 W g (off + i * 6) dn x0 x1 x2 x3 x4
theorem NamesIn.kept {W W' : World} {p : Option Addr} {ns : List (List Int)} (h : NamesIn W p ns) (hb : Below W.heap.size W W') : NamesIn W' p ns := fun hne => by
  obtain ⟨g, off, e, hg, hi⟩ := h hne
  refine ⟨g, off, e, by have := hb.size; omega, fun i h => ?_⟩
  obtain ⟨dn, x0, x1, x2, x3, x4, e1, e2⟩ := hi i h
  exact ⟨dn, x0, x1, x2, x3, x4, e1, e2.below hb hg⟩
set_option maxRecDepth 100000 in
set_option maxHeartbeats 2000000 in
theorem idx_c (nm : ByteArray) (nb : Nat) (p : Option Addr) (c : Nat) (ns : List (List Int)) (hl : ns.length ≤ 1000) (w : World) (hD : NamesIn w p ns) (hnb : nb < w.heap.size) (hc : w.cell? ⟨nb, 0, none⟩ = some (.string nm)) :
    Calls Tryz.prog 87 #[.slice p ns.length c, .func (.func 88) #[] #[.pointer (some ⟨nb, 0, none⟩)]] w fun e w' =>
      ∃ i : Int, e = .returned (.int .i64 i) ∧ Below w.heap.size w w' ∧ ((i = -1 ∧ ∀ d ∈ ns, d ≠ bs nm) ∨ ∃ k : Nat, i = k ∧ k < ns.length ∧ ns[k]? = some (bs nm) ∧ ∀ j, j < k → ns[j]? ≠ some (bs nm)) := by
  have HD := Lib.hid hD
  clear hD
  have he := enters_named
  go_enter Tryz.func87, Tryz.ntmps87
  go_wp2
  go_loopg [5, 8] ns.length (fun gg _ s8 wr => ∃ kk : Nat, kk ≤ ns.length ∧ ns.length - kk ≤ gg ∧ s8 = .int .i64 kk ∧ Aside (Below w.heap.size w wr) ∧ Aside (∀ j, j < kk → ns[j]? ≠ some (bs nm)))
  case atStart => exact ⟨0, Nat.zero_le _, by omega, rfl, Below.refl _ w, fun j hj => absurd hj (Nat.not_lt_zero _)⟩
  case round =>
    obtain ⟨kk, hkk, hg, rfl, BW, A⟩ := hrel
    by_cases hlt : kk < ns.length
    · have hltz : (kk : Int) < (ns.length : Int) := by omega
      obtain ⟨g, off, rfl, hgw, hi⟩ := (HD.out.kept BW.out) (by intro e; rw [e] at hlt; simp at hlt)
      obtain ⟨dn, x0, x1, x2, x3, x4, e1, k0, k1, k2, k3, k4, k5⟩ := hi kk hlt
      have hcall := named1_c dn nm x0 x1 x2 x3 x4 nb wr ((BW.out.cell (p := ⟨nb, 0, none⟩) hnb).trans hc) (by have := BW.out.size; omega)
      have E0 : ns[kk]? = some (bs dn) := by rw [List.getElem?_eq_getElem hlt, e1]
      have E1 : Aside (ns[kk]? = some (bs dn)) := E0
      clear E0
      by_cases hq : bs dn = bs nm
      · rw [show decide (bs dn = bs nm) = true from decide_eq_true hq] at hcall
        have Q : Aside (bs dn = bs nm) := hq
        clear hq e1 hi
        go_wp2_with (go_at_fn 88; refine hcall.mono ?_; rintro e w' ⟨rfl, hb'⟩)
        go_ret
        exact ⟨_, rfl, BW.out.trans (hb'.mono BW.out.size), .inr ⟨kk, rfl, hlt, by rw [E1.out, Q.out], A.out⟩⟩
      · rw [show decide (bs dn = bs nm) = false from decide_eq_false hq] at hcall
        have Q : Aside (bs dn ≠ bs nm) := hq
        clear hq e1 hi
        go_wp2_with (go_at_fn 88; refine hcall.mono ?_; rintro e w' ⟨rfl, hb'⟩)
        go_roundg (ns.length - (kk + 1))
        case measure => omega
        case rel =>
          refine ⟨kk + 1, by omega, by omega, by go_num, BW.out.trans (hb'.mono BW.out.size), (show Aside _ from fun j hjk => ?_)⟩
          by_cases e : j = kk
          · subst e; rw [E1.out]; intro h; exact Q.out (Option.some.inj h)
          · exact A.out j (by omega)
    · have hltz : ¬ (kk : Int) < (ns.length : Int) := by omega
      have : kk = ns.length := by omega
      subst this
      go_wp2
      go_ret
      refine ⟨_, rfl, BW.out, .inl ⟨rfl, fun d hd e => ?_⟩⟩
      obtain ⟨j, hj, hj2⟩ := List.mem_iff_getElem.1 hd
      exact A.out j hj (by rw [List.getElem?_eq_getElem hj, hj2, e])
set_option maxRecDepth 100000 in
theorem clipS_c (P : Option Addr) (n c : Nat) (W : World) (hn : n ≤ c) :
    Calls Tryz.prog 108 #[.slice P n c] W fun e W' => e = .returned (.slice P n n) ∧ W' = W := by
  go_enter Tryz.func108, Tryz.ntmps108
  go_wp2
  go_ret
  exact ⟨rfl, rfl⟩
end Go.Proofs.YtahgljglleeloaaGreatDoor
