/- The document's Which and Parts; the law's same. -/
import Derived.Test.YtafaddfmbknpgaaDoorTList
import Derived.Test.YtafaddfmbknpgaaDoorRefOps
namespace TermsM
open SetM
open Classical in
/-- Have two a scalar in common? -/
noncomputable def comB (x s : List Sp) : Bool := decide (∃ r, Tells x r ∧ Tells s r)
theorem comB_iff {x s : List Sp} : comB x s = true ↔ ∃ r, Tells x r ∧ Tells s r := by unfold comB; exact @decide_eq_true_iff _ (Classical.propDecidable _)
theorem meet_iff {o s x : List Sp} (hm : ∀ r, Mem o r ↔ Tells s r) : decide (∃ u ∈ x, meetB o u = true) = comB x s := by
  rw [Bool.eq_iff_iff, decide_eq_true_iff, comB_iff]
  constructor
  · rintro ⟨u, hu, h⟩
    unfold meetB at h
    obtain ⟨v, hv, h⟩ := of_decide_eq_true h
    have ht := (hm (max u.1 v.1)).1 ⟨v, hv, by omega, by omega⟩
    exact ⟨_, ⟨ht.1, u, hu, by omega, by omega⟩, ht⟩
  · rintro ⟨r, ⟨_, u, hu, h1, h2⟩, ht⟩
    obtain ⟨v, hv, h3, h4⟩ := (hm r).2 ht
    exact ⟨u, hu, decide_eq_true ⟨v, hv, by omega⟩⟩
theorem places_congr {p q : List Sp → Bool} : ∀ (l : List (List Sp)) (i : Nat), (∀ x ∈ l, p x = q x) → placesF p l i = placesF q l i
  | [], _, _ => rfl
  | x :: l, i, h => by
    unfold placesF
    rw [h x (by simp), places_congr l (i + 1) (fun y hy => h y (by simp [hy]))]
end TermsM
namespace Go.Proofs.YtafaddfmbknpgaaDoor
open Go.RowKit Go.Shelf Go.Maps SetM TermsM
set_option maxRecDepth 100000 in
set_option maxHeartbeats 4000000 in
theorem rwhich_c {W : World} {A : Option Addr} {n c : Nat} {ls : List (List Sp)} {r : Int} (hn : n = ls.length) (h8 : n ≤ 1000000) (hR : Rs W A ls) (hl : ∀ s ∈ ls, s.length ≤ 1000000) :
    Calls Tryd.prog 16 #[.slice A n c, .int .i64 r] W fun e W' => e = .returned (.int .i64 (whichZ ls r)) ∧ Below W.heap.size W W' := by
  have HN := Lib.hid hn
  have HR := Lib.hid hR
  have HL := Lib.hid hl
  obtain ⟨p, hp⟩ : ∃ p : List Sp → Bool, p = fun s => decide (Tells s r) := ⟨_, rfl⟩
  have HP := Lib.hid hp
  have HZ : Hid (whichZ ls r = firstI p ls 0) := Lib.hid (by rw [hp]; rfl)
  clear hn hR hl hp
  go_enter Tryd.func16, Tryd.ntmps16
  go_wp2_with fail
  go_loopg [5] n (fun g s5 wx => ∃ k : Nat, k + g = n ∧ s5 = .int .i64 k ∧ Hid (firstI p ls 0 = firstI p (ls.drop k) (k : Int)) ∧ Hid (Below W.heap.size W wx))
  case atStart => exact ⟨0, by omega, rfl, Lib.hid rfl, Lib.hid (Below.refl _ _)⟩
  case round =>
    obtain ⟨k, hkg, rfl, HE, HB⟩ := hrel
    cases gk with
    | zero =>
      obtain rfl : k = n := by omega
      have hlt : ¬ (k : Int) < (k : Int) := by omega
      have HX : Hid (whichZ ls r = -1) := Lib.hid (by rw [HZ.out, HE.out, List.drop_of_length_le (by have := HN.out; omega)]; rfl)
      go_wp2_with fail
      go_ret
      exact ⟨by rw [HX.out]; rfl, HB.out⟩
    | succ g =>
      have hlt : (k : Int) < (n : Int) := by omega
      have hkl : k < ls.length := by have := HN.out; omega
      obtain ⟨b, off, rfl, hb, hrow⟩ := HR.out (by intro h; rw [h] at hkl; simp at hkl)
      obtain ⟨P, cp, h1, h2, h3⟩ := hrow k hkl
      have c0 := (HB.out.cell (p := ⟨b, off + k, none⟩) hb).trans h1
      have hwz := HB.out.size
      have hc := rhas_any P cp ls[k] r wr ((h2.below HB.out).mono hwz) (HL.out _ (List.getElem_mem hkl))
      have hst := firstI_drop p ls hkl
      rw [← HE.out, ← HZ.out] at hst
      have hpe : p ls[k] = decide (Tells ls[k] r) := by rw [HP.out]
      unfold HasPost at hc
      rw [← hpe] at hc
      obtain ⟨ns, hns⟩ : ∃ ns, ns = ls[k].length := ⟨_, rfl⟩
      rw [← hns] at c0 hc
      obtain ⟨q, hq⟩ : ∃ q, q = p ls[k] := ⟨_, rfl⟩
      rw [← hq] at hc hst
      have HC := Lib.hid hc
      clear hns hq hpe h1 h2 h3 hrow hc
      cases q with
      | true =>
        rw [if_pos rfl] at hst
        have HX := Lib.hid hst
        clear hst
        go_wp2_with fail
        refine HC.out.mono ?_
        intro e w2 hh
        obtain ⟨he, b2⟩ := hh
        subst he
        subst b2
        have HB2 := HB
        go_wp2_with fail
        go_ret
        exact ⟨by rw [HX.out]; rfl, HB2.out⟩
      | false =>
        rw [if_neg (by simp), HZ.out] at hst
        have HX := Lib.hid hst
        clear hst
        go_wp2_with fail
        refine HC.out.mono ?_
        intro e w2 hh
        obtain ⟨he, b2⟩ := hh
        subst he
        subst b2
        have HB2 := HB
        go_wp2_with fail
        go_roundg g
        case measure => omega
        case rel => exact ⟨k + 1, by omega, by go_num, HX, HB2⟩
set_option maxRecDepth 100000 in
set_option maxHeartbeats 4000000 in
theorem rparts_c {W : World} {A Q : Option Addr} {n c k d : Nat} {ls : List (List Sp)} {s : List Sp} (hn : n = ls.length) (h8 : n ≤ 10000) (hR : Rs W A ls) (hl : ∀ s ∈ ls, s.length ≤ 100000 ∧ Wide s) (hk : k = s.length) (hk8 : k ≤ 100000) (hS : Sl0 W Q s) (hw : Wide s) :
    Calls Tryd.prog 19 #[.slice A n c, .slice Q k d] W fun e W' => ∃ P cp l, e = .returned (.slice P (List.length l) cp) ∧ Zs W' P l ∧ l = placesF (fun x => comB x s) ls 0 ∧ Below W.heap.size W W' := by
  have HN := Lib.hid hn
  have HR := Lib.hid hR
  have HL := Lib.hid hl
  have HK := Lib.hid hk
  have HS := Lib.hid hS
  have HW := Lib.hid hw
  obtain ⟨p, hp⟩ : ∃ p : List Sp → Bool, p = fun x => comB x s := ⟨_, rfl⟩
  have HP := Lib.hid hp
  obtain ⟨i0, hi, hz0, hz1, hz2⟩ := info_parts infoI8
  clear hn hR hl hk hS hw hp
  go_enter Tryd.func19, Tryd.ntmps19
  go_wp2_with fail
  go_loopg [5, 6] n (fun g s5 s6 wx => ∃ (i : Nat) (l : List Int), i + g = n ∧ s6 = .int .i64 i ∧ Hid (placesF p ls 0 = l ++ placesF p (ls.drop i) i) ∧ wx.ownsRow W.heap.size 3 1 s5 l.length (l.map (Value.int .i64)) ∧ l.length ≤ i ∧ Hid (Below W.heap.size W wx))
  case atStart => exact ⟨0, [], by omega, rfl, Lib.hid rfl, World.ownsRow_nil _ _ _ _, Nat.le_refl _, Lib.hid (Below.refl _ _)⟩
  case round =>
    obtain ⟨i, l, hig, rfl, HE, hown, hli, HB⟩ := hrel
    have HIG := Lib.hid hig
    cases gk with
    | zero =>
      obtain rfl : i = n := by omega
      have hlt : ¬ (i : Int) < (i : Int) := by omega
      have hE : placesF p ls 0 = l := by
        rw [HE.out, List.drop_of_length_le (by have := HN.out; omega)]
        simp [placesF]
      obtain ⟨P9, c9, h9, hz9⟩ := ints_of hown
      subst h9
      have HF : Hid (Zs wr P9 l ∧ l = placesF p ls 0 ∧ Below W.heap.size W wr) := Lib.hid ⟨fun hne => by
        obtain ⟨b, off, k1, k2, k3⟩ := hz9.1 hne
        exact ⟨b, off, k1, k2, k3⟩, hE.symm, HB.out⟩
      obtain ⟨nl, hnl⟩ : ∃ nl, nl = l.length := ⟨_, rfl⟩
      rw [← hnl]
      have HNL := Lib.hid hnl
      clear hown hE hz9 hnl hli
      go_wp2_with fail
      go_ret
      exact ⟨P9, c9, l, by rw [← HNL.out]; rfl, HF.out.1, by rw [← HP.out]; exact HF.out.2.1, HF.out.2.2⟩
    | succ g =>
      have hlt : (i : Int) < (n : Int) := by omega
      have hil : i < ls.length := by have := HN.out; omega
      obtain ⟨b, off, rfl, hb, hrow⟩ := HR.out (by intro h; rw [h] at hil; simp at hil)
      obtain ⟨Px, cx, h1, h2, h3⟩ := hrow i hil
      have c0 := (HB.out.cell (p := ⟨b, off + i, none⟩) hb).trans h1
      have hzW := HB.out.size
      have hIN := rinter_c (W := wr) (c := cx) (d := d) (P := Px) (Q := Q) (l := ls[i]) (m := s) ((h2.below HB.out).mono hzW) ((Spans.below HB.out HS.out).mono hzW) (HL.out _ (List.getElem_mem hil)).1 (by have := HK.out; omega) (HL.out _ (List.getElem_mem hil)).2 HW.out
      rw [← HK.out] at hIN
      have HIN := Lib.hid hIN
      have hst := places_drop p ls hil
      have HPE : Hid (∀ o : List Sp, IsSet o (fun r => Tells ls[i] r ∧ Tells s r) → (p ls[i] = true ↔ 0 < o.length)) := Lib.hid (fun o ho => by
        rw [HP.out]
        show comB _ _ = true ↔ _
        rw [comB_iff]
        constructor
        · rintro ⟨r, hr⟩
          obtain ⟨u, hu, _⟩ := (ho.2 r).2 hr
          exact List.length_pos_of_mem hu
        · intro h
          have hne : o ≠ [] := List.length_pos_iff.1 h
          exact ⟨_, (ho.2 _).1 (lo_mem ho.1 hne)⟩)
      obtain ⟨q, hq⟩ : ∃ q, q = p ls[i] := ⟨_, rfl⟩
      rw [← hq] at HPE hst
      have hE := HE.out
      rw [hst] at hE
      obtain ⟨ns, hns⟩ : ∃ ns, ns = ls[i].length := ⟨_, rfl⟩
      rw [← hns] at c0 HIN
      have HEE := Lib.hid hE
      clear hns hq h1 h2 h3 hrow hst hIN hE
      go_wp2_with fail
      refine HIN.out.mono ?_
      rintro e w3 ⟨P3, c3, o, rfl, ho, _, _, _, b3⟩
      have hpo := HPE.out o ho
      have hown3 := own_below hown b3
      have HB3 := Lib.hid (HB.out.trans (b3.mono HB.out.size))
      have hz3 : W.heap.size ≤ w3.heap.size := HB3.out.size
      obtain ⟨no, hno⟩ : ∃ no, no = o.length := ⟨_, rfl⟩
      rw [← hno] at hpo ⊢
      clear hown b3 c0 hno ho HIN HPE
      by_cases hpos : 0 < no
      · have hposz : (0 : Int) < (no : Int) := by omega
        have hE := HEE.out
        rw [if_pos (hpo.2 hpos)] at hE
        have HE2 : Hid (placesF p ls 0 = (l ++ [(i : Int)]) ++ placesF p (ls.drop (i + 1)) (i + 1)) := Lib.hid (by rw [hE]; simp)
        clear hE hpo
        go_wp2_with (at_builtin; refine wpList_append_own _ rfl _ _ 35 rfl W.heap.size 3 i0 (.int .i64 0) 1 8 Tryd.underlying35 hi hz0 hz1 hz2 rfl (by decide) _ _ _ rfl (hown3.alloc _) ⟨w3.heap.size, 0, none⟩ 1 1 [.int .i64 (i : Int)] rfl rfl (cell_news _ _ _) (by simp [Value.oneCell']) (by unfold maxLen; omega) (by omega) (by rw [World.size_alloc]; omega) ?_; intro v' w4 hown4 hg4 _)
        have HBN : Hid (Below W.heap.size W w4) := Lib.hid (((HB3.out.alloc hz3 _).grown hg4 (by rw [World.size_alloc]; omega) (fun j hj => (hown3.lt j hj).1)))
        have HOW : Hid (w4.ownsRow W.heap.size 3 1 v' (l ++ [(i : Int)]).length ((l ++ [(i : Int)]).map (Value.int .i64))) := Lib.hid (by rw [List.map_append, List.length_append]; exact hown4)
        clear hown3 hown4 hg4
        go_wp2_with fail
        go_roundg g
        case measure => omega
        case rel => exact ⟨i + 1, l ++ [(i : Int)], by have := HIG.out; omega, by go_num, HE2, HOW.out, by rw [List.length_append]; simp; omega, HBN⟩
      · have hposz : ¬ (0 : Int) < (no : Int) := by omega
        have hE := HEE.out
        rw [if_neg (fun h => hpos (hpo.1 h))] at hE
        have HE2 := Lib.hid hE
        clear hE hpo
        go_wp2_with fail
        go_roundg g
        case measure => omega
        case rel => exact ⟨i + 1, l, by have := HIG.out; omega, by go_num, HE2, hown3, by omega, HB3⟩
set_option maxRecDepth 100000 in
set_option maxHeartbeats 4000000 in
/-- Two rows of the same numbers: the law's same says so. -/
theorem samez_c {W : World} {P Q : Option Addr} {n c d : Nat} {l : List Int} (hn : n = l.length) (hP : Zs W P l) (hQ : Zs W Q l) (h8 : n ≤ 1000000) :
    Calls Tryd.prog 17 #[.slice P n c, .slice Q n d] W fun e W' => e = .returned (.bool true) ∧ Below W.heap.size W W' := by
  have HN := Lib.hid hn
  have HP := Lib.hid hP
  have HQ := Lib.hid hQ
  clear hn hP hQ
  go_enter Tryd.func17, Tryd.ntmps17
  go_wp2_with fail
  go_loopg [5] n (fun g s5 wx => ∃ k : Nat, k + g = n ∧ s5 = .int .i64 k ∧ Hid (Below W.heap.size W wx))
  case atStart => exact ⟨0, by omega, rfl, Lib.hid (Below.refl _ _)⟩
  case round =>
    obtain ⟨k, hkg, rfl, HB⟩ := hrel
    cases gk with
    | zero =>
      obtain rfl : k = n := by omega
      have hlt : ¬ (k : Int) < (k : Int) := by omega
      go_wp2_with fail
      go_ret
      exact ⟨rfl, HB.out⟩
    | succ g =>
      have hlt : (k : Int) < (n : Int) := by omega
      have hkl : k < l.length := by have := HN.out; omega
      obtain ⟨b, off, rfl, hb, hc⟩ := HP.out (by intro h; rw [h] at hkl; simp at hkl)
      obtain ⟨b', off', rfl, hb', hc'⟩ := HQ.out (by intro h; rw [h] at hkl; simp at hkl)
      have c0 := (HB.out.cell (p := ⟨b, off + k, none⟩) hb).trans (hc k hkl)
      have c1 := (HB.out.cell (p := ⟨b', off' + k, none⟩) hb').trans (hc' k hkl)
      obtain ⟨x, hx⟩ : ∃ x, x = l[k] := ⟨_, rfl⟩
      rw [← hx] at c0 c1
      have c0 : wr.drew.cell? ⟨b, off + k, none⟩ = some (.int .i64 x) := c0
      have c1 : wr.drew.cell? ⟨b', off' + k, none⟩ = some (.int .i64 x) := c1
      have hk0 : (0 : Int) ≤ (k : Int) := by omega
      have HBD := Lib.hid HB.out.drew
      clear hx hc hc'
      go_wp2_with fail
      go_region
      all_goals
        go_wp2_with fail
        go_roundg g
        case measure => omega
        case rel => exact ⟨k + 1, by omega, by go_num, HBD⟩
end Go.Proofs.YtafaddfmbknpgaaDoor
