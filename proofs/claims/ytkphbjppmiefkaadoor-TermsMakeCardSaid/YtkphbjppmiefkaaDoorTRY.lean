/- Several texts in one: TRefW, TWhich. -/
import Derived.Test.YtkphbjppmiefkaaDoorTKL
import Derived.Test.YtkphbjppmiefkaaDoorRefOps
import Derived.Test.YtkphbjppmiefkaaDoorTRX
section
/- The document's Which and Parts; the law's same. -/
namespace TermsM
open SetM
open Classical in
/-- Have two a scalar in common? -/
noncomputable def comB (x s : List Sp) : Bool := decide (∃ r, Tells x r ∧ Tells s r)
theorem comB_iff {x s : List Sp} : comB x s = true ↔ ∃ r, Tells x r ∧ Tells s r := by unfold comB; exact @decide_eq_true_iff _ (Classical.propDecidable _)
theorem meet_iff {o s x : List Sp} (hm : ∀ r, Mem o r ↔ Tells s r) : decide (∃ u ∈ x, meetB o u = true) = comB x s := by
  rw [Bool.eq_iff_iff, decide_eq_true_iff, comB_iff]
  constructor
  · rintro ⟨u, hu, h⟩
    unfold meetB at h
    obtain ⟨v, hv, h⟩ := of_decide_eq_true h
    have ht := (hm (max u.1 v.1)).1 ⟨v, hv, by omega, by omega⟩
    exact ⟨_, ⟨ht.1, u, hu, by omega, by omega⟩, ht⟩
  · rintro ⟨r, ⟨_, u, hu, h1, h2⟩, ht⟩
    obtain ⟨v, hv, h3, h4⟩ := (hm r).2 ht
    exact ⟨u, hu, decide_eq_true ⟨v, hv, by omega⟩⟩
theorem places_congr {p q : List Sp → Bool} : ∀ (l : List (List Sp)) (i : Nat), (∀ x ∈ l, p x = q x) → placesF p l i = placesF q l i
  | [], _, _ => rfl
  | x :: l, i, h => by
    unfold placesF
    rw [h x (by simp), places_congr l (i + 1) (fun y hy => h y (by simp [hy]))]
end TermsM
namespace Go.Proofs.YtkphbjppmiefkaaDoor
open Go.RowKit Go.Shelf Go.Maps SetM TermsM
set_option maxRecDepth 100000 in
set_option maxHeartbeats 4000000 in
theorem rwhich_c {W : World} {A : Option Addr} {n c : Nat} {ls : List (List Sp)} {r : Int} (hn : n = ls.length) (h8 : n ≤ 1000000) (hR : Rs W A ls) (hl : ∀ s ∈ ls, s.length ≤ 1000000) :
    Calls Tryd.prog 16 #[.slice A n c, .int .i64 r] W fun e W' => e = .returned (.int .i64 (whichZ ls r)) ∧ Below W.heap.size W W' := by
  have HN := Lib.hid hn
  have HR := Lib.hid hR
  have HL := Lib.hid hl
  obtain ⟨p, hp⟩ : ∃ p : List Sp → Bool, p = fun s => decide (Tells s r) := ⟨_, rfl⟩
  have HP := Lib.hid hp
  have HZ : Hid (whichZ ls r = firstI p ls 0) := Lib.hid (by rw [hp]; rfl)
  clear hn hR hl hp
  go_enter Tryd.func16, Tryd.ntmps16
  go_wp2_with fail
  go_loopg [5] n (fun g s5 wx => ∃ k : Nat, k + g = n ∧ s5 = .int .i64 k ∧ Hid (firstI p ls 0 = firstI p (ls.drop k) (k : Int)) ∧ Hid (Below W.heap.size W wx))
  case atStart => exact ⟨0, by omega, rfl, Lib.hid rfl, Lib.hid (Below.refl _ _)⟩
  case round =>
    obtain ⟨k, hkg, rfl, HE, HB⟩ := hrel
    cases gk with
    | zero =>
      obtain rfl : k = n := by omega
      have hlt : ¬ (k : Int) < (k : Int) := by omega
      have HX : Hid (whichZ ls r = -1) := Lib.hid (by rw [HZ.out, HE.out, List.drop_of_length_le (by have := HN.out; omega)]; rfl)
      go_wp2_with fail
      go_ret
      exact ⟨by rw [HX.out]; rfl, HB.out⟩
    | succ g =>
      have hlt : (k : Int) < (n : Int) := by omega
      have hkl : k < ls.length := by have := HN.out; omega
      obtain ⟨b, off, rfl, hb, hrow⟩ := HR.out (by intro h; rw [h] at hkl; simp at hkl)
      obtain ⟨P, cp, h1, h2, h3⟩ := hrow k hkl
      have c0 := (HB.out.cell (p := ⟨b, off + k, none⟩) hb).trans h1
      have hwz := HB.out.size
      have hc := rhas_any P cp ls[k] r wr ((h2.below HB.out).mono hwz) (HL.out _ (List.getElem_mem hkl))
      have hst := firstI_drop p ls hkl
      rw [← HE.out, ← HZ.out] at hst
      have hpe : p ls[k] = decide (Tells ls[k] r) := by rw [HP.out]
      unfold HasPost at hc
      rw [← hpe] at hc
      obtain ⟨ns, hns⟩ : ∃ ns, ns = ls[k].length := ⟨_, rfl⟩
      rw [← hns] at c0 hc
      obtain ⟨q, hq⟩ : ∃ q, q = p ls[k] := ⟨_, rfl⟩
      rw [← hq] at hc hst
      have HC := Lib.hid hc
      clear hns hq hpe h1 h2 h3 hrow hc
      cases q with
      | true =>
        rw [if_pos rfl] at hst
        have HX := Lib.hid hst
        clear hst
        go_wp2_with fail
        refine HC.out.mono ?_
        intro e w2 hh
        obtain ⟨he, b2⟩ := hh
        subst he
        subst b2
        have HB2 := HB
        go_wp2_with fail
        go_ret
        exact ⟨by rw [HX.out]; rfl, HB2.out⟩
      | false =>
        rw [if_neg (by simp), HZ.out] at hst
        have HX := Lib.hid hst
        clear hst
        go_wp2_with fail
        refine HC.out.mono ?_
        intro e w2 hh
        obtain ⟨he, b2⟩ := hh
        subst he
        subst b2
        have HB2 := HB
        go_wp2_with fail
        go_roundg g
        case measure => omega
        case rel => exact ⟨k + 1, by omega, by go_num, HX, HB2⟩
set_option maxRecDepth 100000 in
set_option maxHeartbeats 4000000 in
theorem rparts_c {W : World} {A Q : Option Addr} {n c k d : Nat} {ls : List (List Sp)} {s : List Sp} (hn : n = ls.length) (h8 : n ≤ 10000) (hR : Rs W A ls) (hl : ∀ s ∈ ls, s.length ≤ 100000 ∧ Wide s) (hk : k = s.length) (hk8 : k ≤ 100000) (hS : Sl0 W Q s) (hw : Wide s) :
    Calls Tryd.prog 19 #[.slice A n c, .slice Q k d] W fun e W' => ∃ P cp l, e = .returned (.slice P (List.length l) cp) ∧ Zs W' P l ∧ l = placesF (fun x => comB x s) ls 0 ∧ Below W.heap.size W W' := by
  have HN := Lib.hid hn
  have HR := Lib.hid hR
  have HL := Lib.hid hl
  have HK := Lib.hid hk
  have HS := Lib.hid hS
  have HW := Lib.hid hw
  obtain ⟨p, hp⟩ : ∃ p : List Sp → Bool, p = fun x => comB x s := ⟨_, rfl⟩
  have HP := Lib.hid hp
  obtain ⟨i0, hi, hz0, hz1, hz2⟩ := info_parts infoI8
  clear hn hR hl hk hS hw hp
  go_enter Tryd.func19, Tryd.ntmps19
  go_wp2_with fail
  go_loopg [5, 6] n (fun g s5 s6 wx => ∃ (i : Nat) (l : List Int), i + g = n ∧ s6 = .int .i64 i ∧ Hid (placesF p ls 0 = l ++ placesF p (ls.drop i) i) ∧ wx.ownsRow W.heap.size 3 1 s5 l.length (l.map (Value.int .i64)) ∧ l.length ≤ i ∧ Hid (Below W.heap.size W wx))
  case atStart => exact ⟨0, [], by omega, rfl, Lib.hid rfl, World.ownsRow_nil _ _ _ _, Nat.le_refl _, Lib.hid (Below.refl _ _)⟩
  case round =>
    obtain ⟨i, l, hig, rfl, HE, hown, hli, HB⟩ := hrel
    have HIG := Lib.hid hig
    cases gk with
    | zero =>
      obtain rfl : i = n := by omega
      have hlt : ¬ (i : Int) < (i : Int) := by omega
      have hE : placesF p ls 0 = l := by
        rw [HE.out, List.drop_of_length_le (by have := HN.out; omega)]
        simp [placesF]
      obtain ⟨P9, c9, h9, hz9⟩ := ints_of hown
      subst h9
      have HF : Hid (Zs wr P9 l ∧ l = placesF p ls 0 ∧ Below W.heap.size W wr) := Lib.hid ⟨fun hne => by
        obtain ⟨b, off, k1, k2, k3⟩ := hz9.1 hne
        exact ⟨b, off, k1, k2, k3⟩, hE.symm, HB.out⟩
      obtain ⟨nl, hnl⟩ : ∃ nl, nl = l.length := ⟨_, rfl⟩
      rw [← hnl]
      have HNL := Lib.hid hnl
      clear hown hE hz9 hnl hli
      go_wp2_with fail
      go_ret
      exact ⟨P9, c9, l, by rw [← HNL.out]; rfl, HF.out.1, by rw [← HP.out]; exact HF.out.2.1, HF.out.2.2⟩
    | succ g =>
      have hlt : (i : Int) < (n : Int) := by omega
      have hil : i < ls.length := by have := HN.out; omega
      obtain ⟨b, off, rfl, hb, hrow⟩ := HR.out (by intro h; rw [h] at hil; simp at hil)
      obtain ⟨Px, cx, h1, h2, h3⟩ := hrow i hil
      have c0 := (HB.out.cell (p := ⟨b, off + i, none⟩) hb).trans h1
      have hzW := HB.out.size
      have hIN := rinter_c (W := wr) (c := cx) (d := d) (P := Px) (Q := Q) (l := ls[i]) (m := s) ((h2.below HB.out).mono hzW) ((Spans.below HB.out HS.out).mono hzW) (HL.out _ (List.getElem_mem hil)).1 (by have := HK.out; omega) (HL.out _ (List.getElem_mem hil)).2 HW.out
      rw [← HK.out] at hIN
      have HIN := Lib.hid hIN
      have hst := places_drop p ls hil
      have HPE : Hid (∀ o : List Sp, IsSet o (fun r => Tells ls[i] r ∧ Tells s r) → (p ls[i] = true ↔ 0 < o.length)) := Lib.hid (fun o ho => by
        rw [HP.out]
        show comB _ _ = true ↔ _
        rw [comB_iff]
        constructor
        · rintro ⟨r, hr⟩
          obtain ⟨u, hu, _⟩ := (ho.2 r).2 hr
          exact List.length_pos_of_mem hu
        · intro h
          have hne : o ≠ [] := List.length_pos_iff.1 h
          exact ⟨_, (ho.2 _).1 (lo_mem ho.1 hne)⟩)
      obtain ⟨q, hq⟩ : ∃ q, q = p ls[i] := ⟨_, rfl⟩
      rw [← hq] at HPE hst
      have hE := HE.out
      rw [hst] at hE
      obtain ⟨ns, hns⟩ : ∃ ns, ns = ls[i].length := ⟨_, rfl⟩
      rw [← hns] at c0 HIN
      have HEE := Lib.hid hE
      clear hns hq h1 h2 h3 hrow hst hIN hE
      go_wp2_with fail
      refine HIN.out.mono ?_
      rintro e w3 ⟨P3, c3, o, rfl, ho, _, _, _, b3⟩
      have hpo := HPE.out o ho
      have hown3 := own_below hown b3
      have HB3 := Lib.hid (HB.out.trans (b3.mono HB.out.size))
      have hz3 : W.heap.size ≤ w3.heap.size := HB3.out.size
      obtain ⟨no, hno⟩ : ∃ no, no = o.length := ⟨_, rfl⟩
      rw [← hno] at hpo ⊢
      clear hown b3 c0 hno ho HIN HPE
      by_cases hpos : 0 < no
      · have hposz : (0 : Int) < (no : Int) := by omega
        have hE := HEE.out
        rw [if_pos (hpo.2 hpos)] at hE
        have HE2 : Hid (placesF p ls 0 = (l ++ [(i : Int)]) ++ placesF p (ls.drop (i + 1)) (i + 1)) := Lib.hid (by rw [hE]; simp)
        clear hE hpo
        go_wp2_with (at_builtin; refine wpList_append_own _ rfl _ _ 35 rfl W.heap.size 3 i0 (.int .i64 0) 1 8 Tryd.underlying35 hi hz0 hz1 hz2 rfl (by decide) _ _ _ rfl (hown3.alloc _) ⟨w3.heap.size, 0, none⟩ 1 1 [.int .i64 (i : Int)] rfl rfl (cell_news _ _ _) (by simp [Value.oneCell']) (by unfold maxLen; omega) (by omega) (by rw [World.size_alloc]; omega) ?_; intro v' w4 hown4 hg4 _)
        have HBN : Hid (Below W.heap.size W w4) := Lib.hid (((HB3.out.alloc hz3 _).grown hg4 (by rw [World.size_alloc]; omega) (fun j hj => (hown3.lt j hj).1)))
        have HOW : Hid (w4.ownsRow W.heap.size 3 1 v' (l ++ [(i : Int)]).length ((l ++ [(i : Int)]).map (Value.int .i64))) := Lib.hid (by rw [List.map_append, List.length_append]; exact hown4)
        clear hown3 hown4 hg4
        go_wp2_with fail
        go_roundg g
        case measure => omega
        case rel => exact ⟨i + 1, l ++ [(i : Int)], by have := HIG.out; omega, by go_num, HE2, HOW.out, by rw [List.length_append]; simp; omega, HBN⟩
      · have hposz : ¬ (0 : Int) < (no : Int) := by omega
        have hE := HEE.out
        rw [if_neg (fun h => hpos (hpo.1 h))] at hE
        have HE2 := Lib.hid hE
        clear hE hpo
        go_wp2_with fail
        go_roundg g
        case measure => omega
        case rel => exact ⟨i + 1, l, by have := HIG.out; omega, by go_num, HE2, hown3, by omega, HB3⟩
set_option maxRecDepth 100000 in
set_option maxHeartbeats 4000000 in
/-- Two rows of the same numbers: the law's same says so. -/
theorem samez_c {W : World} {P Q : Option Addr} {n c d : Nat} {l : List Int} (hn : n = l.length) (hP : Zs W P l) (hQ : Zs W Q l) (h8 : n ≤ 1000000) :
    Calls Tryd.prog 17 #[.slice P n c, .slice Q n d] W fun e W' => e = .returned (.bool true) ∧ Below W.heap.size W W' := by
  have HN := Lib.hid hn
  have HP := Lib.hid hP
  have HQ := Lib.hid hQ
  clear hn hP hQ
  go_enter Tryd.func17, Tryd.ntmps17
  go_wp2_with fail
  go_loopg [5] n (fun g s5 wx => ∃ k : Nat, k + g = n ∧ s5 = .int .i64 k ∧ Hid (Below W.heap.size W wx))
  case atStart => exact ⟨0, by omega, rfl, Lib.hid (Below.refl _ _)⟩
  case round =>
    obtain ⟨k, hkg, rfl, HB⟩ := hrel
    cases gk with
    | zero =>
      obtain rfl : k = n := by omega
      have hlt : ¬ (k : Int) < (k : Int) := by omega
      go_wp2_with fail
      go_ret
      exact ⟨rfl, HB.out⟩
    | succ g =>
      have hlt : (k : Int) < (n : Int) := by omega
      have hkl : k < l.length := by have := HN.out; omega
      obtain ⟨b, off, rfl, hb, hc⟩ := HP.out (by intro h; rw [h] at hkl; simp at hkl)
      obtain ⟨b', off', rfl, hb', hc'⟩ := HQ.out (by intro h; rw [h] at hkl; simp at hkl)
      have c0 := (HB.out.cell (p := ⟨b, off + k, none⟩) hb).trans (hc k hkl)
      have c1 := (HB.out.cell (p := ⟨b', off' + k, none⟩) hb').trans (hc' k hkl)
      obtain ⟨x, hx⟩ : ∃ x, x = l[k] := ⟨_, rfl⟩
      rw [← hx] at c0 c1
      have c0 : wr.drew.cell? ⟨b, off + k, none⟩ = some (.int .i64 x) := c0
      have c1 : wr.drew.cell? ⟨b', off' + k, none⟩ = some (.int .i64 x) := c1
      have hk0 : (0 : Int) ≤ (k : Int) := by omega
      have HBD := Lib.hid HB.out.drew
      clear hx hc hc'
      go_wp2_with fail
      go_region
      all_goals
        go_wp2_with fail
        go_roundg g
        case measure => omega
        case rel => exact ⟨k + 1, by omega, by go_num, HBD⟩
end Go.Proofs.YtkphbjppmiefkaaDoor
end
section
/- TermsWhich: the walk. -/
namespace Go.Proofs.YtkphbjppmiefkaaDoor
open Go.RowKit Go.Shelf Go.Maps SetM TermsM
/-- How heavy rows are, as the laws reckon it. -/
def sumL (ls : List (List Sp)) : Nat := (ls.map (fun x => 1 + x.length)).sum
theorem sumL_succ {ls : List (List Sp)} {i : Nat} (h : i < ls.length) : sumL (ls.take (i + 1)) = sumL (ls.take i) + (1 + ls[i].length) := by
  unfold sumL
  rw [List.take_succ_eq_append_getElem h]
  simp only [List.map_append, List.sum_append, List.map_cons, List.map_nil, List.sum_cons, List.sum_nil, Nat.add_zero]
theorem sumL_take (ls : List (List Sp)) (i : Nat) : sumL (ls.take i) ≤ sumL ls := by
  have e : sumL ls = sumL (ls.take i) + sumL (ls.drop i) := by
    unfold sumL
    rw [← List.sum_append, ← List.map_append, List.take_append_drop]
  omega
theorem sumL_len (ls : List (List Sp)) : ls.length ≤ sumL ls := by
  induction ls with
  | nil => simp
  | cons a t ih => unfold sumL at *; simp only [List.map_cons, List.sum_cons, List.length_cons]; omega
theorem sumL_mem {ls : List (List Sp)} {x : List Sp} (h : x ∈ ls) : x.length ≤ sumL ls := by
  induction ls with
  | nil => cases h
  | cons a t ih =>
    have e : sumL (a :: t) = 1 + a.length + sumL t := by simp [sumL]
    rcases List.mem_cons.1 h with rfl | h
    · omega
    · have := ih h; omega
theorem places_len {p : List Sp → Bool} : ∀ (l : List (List Sp)) (i : Nat), (placesF p l i).length ≤ l.length
  | [], _ => by simp [placesF]
  | x :: l, i => by
    have := places_len (p := p) l (i + 1)
    unfold placesF
    split <;> simp <;> omega
/-- What the program and the document answer of rows, alike. -/
def Ans (W : World) (A : Option Addr) (n c : Nat) (Q : Option Addr) (k d : Nat) (r : Int) : Prop :=
  ∃ (z : Int) (l : List Int) (m : Nat), m = l.length ∧ m ≤ 1000000 ∧ ∀ V, Below W.heap.size W V →
    Calls Tryd.prog 15 #[.slice A n c, .int .i64 r] V (fun e V' => e = .returned (.int .i64 z) ∧ Below V.heap.size V V') ∧
    Calls Tryd.prog 16 #[.slice A n c, .int .i64 r] V (fun e V' => e = .returned (.int .i64 z) ∧ Below V.heap.size V V') ∧
    Calls Tryd.prog 18 #[.slice A n c, .slice Q k d] V (fun e V' => ∃ P cp, e = .returned (.slice P m cp) ∧ Zs V' P l ∧ Below V.heap.size V V') ∧
    Calls Tryd.prog 19 #[.slice A n c, .slice Q k d] V (fun e V' => ∃ P cp, e = .returned (.slice P m cp) ∧ Zs V' P l ∧ Below V.heap.size V V')
theorem ans_of {W : World} {A Q : Option Addr} {n c k d : Nat} {ls : List (List Sp)} {s : List Sp} (r : Int) (h0 : 0 < W.heap.size) (hA : Areas W) (hn : n = ls.length) (h8 : n ≤ 10000) (hR : Rs W A ls) (hl : ∀ x ∈ ls, x.length ≤ 100000 ∧ Wide x) (hk : k = s.length) (hk8 : k ≤ 100000) (hS : Sl0 W Q s) (hw : Wide s) : Ans W A n c Q k d r := by
  refine ⟨whichZ ls r, placesF (fun x => comB x s) ls 0, _, rfl, by have := places_len (p := fun x => comB x s) ls 0; omega, fun V hV => ?_⟩
  have hz := hV.size
  have hA' := hA.below hV h0
  have hR' := hR.step hV
  have hS' : Sl0 V Q s := (Spans.below hV hS).mono hz
  refine ⟨which_c (by omega) hA' hn (by omega) hR' (fun x hx => by have := (hl x hx).1; omega), rwhich_c hn (by omega) hR' (fun x hx => by have := (hl x hx).1; omega), ?_, ?_⟩
  · refine (parts_c (by omega) hA' hn h8 hR' (fun x hx => by have := (hl x hx).1; omega) hk hk8 hS').mono ?_
    rintro e V' ⟨P, cp, o, l, rfl, hZ, _, hm, rfl, hb⟩
    have he := places_congr (q := fun x => comB x s) ls 0 (fun x _ => meet_iff (x := x) hm)
    rw [he] at hZ ⊢
    exact ⟨P, cp, rfl, hZ, hb⟩
  · refine (rparts_c hn h8 hR' hl hk hk8 hS' hw).mono ?_
    rintro e V' ⟨P, cp, l, rfl, hZ, rfl, hb⟩
    exact ⟨P, cp, rfl, hZ, hb⟩
set_option maxRecDepth 100000 in
set_option maxHeartbeats 8000000 in
theorem termsWhich_any {W : World} {A B Q D : Option Addr} {n ca m cb k cd q0 ce : Nat} {ls : List (List Sp)} {cs : List (List Int)} {s : List Sp} {ds : List Int} {r : Int} (h0 : 0 < W.heap.size) (hA : Areas W)
    (hn : n = ls.length) (hR : Rs W A ls) (hl : ∀ x ∈ ls, Wide x) (hm : m = cs.length) (hm8 : m ≤ 9223372036854775807) (hC : Css W B cs) (hk : k = s.length) (hS : Sl0 W Q s) (hw : Wide s) (hq : q0 = ds.length) (hD : U16s W.heap.size W D ds) (hsum : k + sumL ls ≤ 1048576) :
    Calls Tryd.prog 5 #[.slice A n ca, .slice B m cb, .slice Q k cd, .slice D q0 ce, .int .i64 r] W fun e W' => e = .returned (.bool true) ∧ Below W.heap.size W W' := by
  have HK : Hid (∀ V, Below W.heap.size W V → Calls Tryd.prog 9 #[] V fun e W' => e = .returned (.bool true) ∧ Below V.heap.size V W') := Lib.hid (fun V hV => known10 (by have := hV.size; omega) (hA.below hV h0))
  have HN := Lib.hid hn
  have HR := Lib.hid hR
  have HW := Lib.hid hl
  have HM := Lib.hid (And.intro hm hm8)
  have HC := Lib.hid hC
  have HS := Lib.hid (And.intro hk (And.intro hS hw))
  have HD := Lib.hid (And.intro hq hD)
  have HA := Lib.hid (And.intro h0 hA)
  have HT := Lib.hid hsum
  clear h0 hA hn hR hl hm hm8 hC hk hS hw hq hD hsum
  go_enter Tryd.func5, Tryd.ntmps5
  go_wp2_with fail
  go_loopg [11, 12] n (fun g s11 s12 wx => ∃ i T : Nat, i + g = n ∧ s12 = .int .i64 i ∧ s11 = .int .i64 T ∧ Hid (T = k + sumL (ls.take i)) ∧ Hid (Below W.heap.size W wx))
  case atStart => exact ⟨0, k, by omega, rfl, rfl, Lib.hid (by simp [sumL]), Lib.hid (Below.refl _ _)⟩
  case round =>
    obtain ⟨i, T, hig, rfl, rfl, HE, HB⟩ := hrel
    cases gk with
    | succ g =>
      have hlt : (i : Int) < (n : Int) := by omega
      have hil : i < ls.length := by have := HN.out; omega
      obtain ⟨b, off, rfl, hb, hrow⟩ := HR.out (by intro h; rw [h] at hil; simp at hil)
      obtain ⟨P, cp, h1, h2, h3⟩ := hrow i hil
      have c0 := (HB.out.cell (p := ⟨b, off + i, none⟩) hb).trans h1
      have hT1 := sumL_succ hil
      have hT2 := sumL_take ls (i + 1)
      obtain ⟨u, hu⟩ : ∃ u, u = ls[i].length := ⟨_, rfl⟩
      rw [← hu] at c0 hT1
      have HE2 : Hid (T + (1 + u) = k + sumL (ls.take (i + 1))) := Lib.hid (by have := HE.out; omega)
      have hb1 : T + (1 + u) ≤ 1048576 := by have := HT.out; have := HE2.out; omega
      have hi8 : i + 1 ≤ 1048576 := by have := HT.out; have := sumL_len ls; have := HN.out; omega
      clear hu h1 h2 h3 hrow hT1 hT2 hil
      go_wp2_with fail
      go_roundg g
      case measure => omega
      case rel => exact ⟨i + 1, T + (1 + u), by omega, by go_num, by go_num, HE2, HB⟩
    | zero =>
      obtain rfl : i = n := by omega
      have hlt : ¬ (i : Int) < (i : Int) := by omega
      have hTT : T = k + sumL ls := by have := HE.out; rw [HN.out, List.take_length] at this; exact this
      have HTT := Lib.hid hTT
      clear hTT
      by_cases h40 : 40 < T
      · have hz : (40 : Int) < (T : Int) := by omega
        go_wp2_with fail
        refine (HK.out _ HB.out).mono ?_
        rintro e w1 ⟨rfl, b1⟩
        go_wp2_with fail
        go_ret
        exact ⟨rfl, HB.out.trans (b1.mono HB.out.size)⟩
      · have hz : ¬ (40 : Int) < (T : Int) := by omega
        by_cases h12 : 12 < q0
        · have hz2 : (12 : Int) < (q0 : Int) := by omega
          go_wp2_with fail
          refine (HK.out _ HB.out).mono ?_
          rintro e w1 ⟨rfl, b1⟩
          go_wp2_with fail
          go_ret
          exact ⟨rfl, HB.out.trans (b1.mono HB.out.size)⟩
        · have hz2 : ¬ (12 : Int) < (q0 : Int) := by omega
          have H40 := Lib.hid (And.intro h40 h12)
          clear h40 h12
          go_wp2_with fail
          refine (HK.out _ HB.out).mono ?_
          rintro e w1 ⟨rfl, b1⟩
          have HB1 := Lib.hid (HB.out.trans (b1.mono HB.out.size))
          clear b1
          have HLI := Lib.hid (list_c (W := w1) (A := B) (n := m) (ca := cb) (cs := cs) HM.out.1 HM.out.2 (HC.out.step HB1.out))
          go_wp2_with fail
          refine HLI.out.mono ?_
          rintro e w2 ⟨P2, c2, rfl, hR2, hP2, hc2, b2⟩
          obtain ⟨x, hx⟩ : ∃ x, x = listF cs 8 := ⟨_, rfl⟩
          rw [← hx] at hR2 hc2 ⊢
          have HX : Hid (x.length ≤ 8 ∧ ∀ y ∈ x, y.length ≤ 100000 ∧ Wide y) := Lib.hid (by
            refine ⟨?_, fun y hy => ?_⟩
            · rw [hx]; unfold listF; rw [List.length_map]; exact Nat.le_trans (List.length_filter_le _ _) (by rw [List.length_take]; omega)
            · rw [hx] at hy
              obtain ⟨a, ha, rfl⟩ := List.mem_map.1 hy
              have ha2 := List.mem_of_mem_take (List.mem_filter.1 ha).1
              obtain ⟨j, hj, rfl⟩ := List.mem_iff_getElem.1 ha2
              obtain ⟨_, _, _, _, _, _, _, hu⟩ := HC.out j hj
              exact ⟨by have := makeF_len cs[j]; omega, wide_make (fun c hc => (hu.1 c hc).1)⟩)
          obtain ⟨nx, hnx⟩ : ∃ nx, nx = x.length := ⟨_, rfl⟩
          rw [← hnx]
          have HNX := Lib.hid hnx
          have HB2 := Lib.hid (HB1.out.trans (b2.mono HB1.out.size))
          have hmk := make_any D ce ds w2 ((HD.out.2.below HB2.out).mono HB2.out.size)
          rw [← HD.out.1] at hmk
          have HMK := Lib.hid hmk
          have HR2 := Lib.hid hR2
          clear hx hnx hP2 hc2 b2 hmk hR2 HLI
          go_wp2_with fail
          refine HMK.out.mono ?_
          rintro e w3 ⟨v, rfl, ho, b3⟩
          obtain ⟨P3, c3, rfl, hs3⟩ := spans_of ho
          have HB3 := Lib.hid (HB2.out.trans (b3.mono HB2.out.size))
          have hsz3 := HB3.out.size
          have hA3 := HA.out.2.below HB3.out HA.out.1
          have h03 : 0 < w3.heap.size := by have := HA.out.1; omega
          have hlen := sumL_len ls
          have ha1 := ans_of (W := w3) (A := A) (Q := Q) (n := i) (c := ca) (k := k) (d := cd) (ls := ls) (s := s) r h03 hA3 HN.out (by have := H40.out.1; have := HTT.out; have := HN.out; omega) (HR.out.step HB3.out)
            (fun y hy => ⟨by have := sumL_mem hy; have := H40.out.1; have := HTT.out; omega, HW.out y hy⟩) HS.out.1 (by have := H40.out.1; have := HTT.out; omega) ((Spans.below HB3.out HS.out.2.1).mono hsz3) HS.out.2.2
          obtain ⟨ny, hny⟩ : ∃ ny, ny = (makeF ds).length := ⟨_, rfl⟩
          rw [← hny]
          have ha2 := ans_of (W := w3) (A := P2) (Q := P3) (n := nx) (c := c2) (k := ny) (d := c3) (ls := x) (s := makeF ds) r h03 hA3 HNX.out (by have := HX.out.1; have := HNX.out; omega) (HR2.out.step b3) HX.out.2 hny (by have := makeF_len ds; omega) hs3 (wide_make (fun c hc => (HD.out.2.1 c hc).1))
          clear ho b3 hs3 hsz3 hA3 h03 hlen hny HMK
          obtain ⟨z1, l1, m1, hm1, hm1b, hf1⟩ := ha1
          obtain ⟨z2, l2, m2, hm2, hm2b, hf2⟩ := ha2
          have HF1 := Lib.hid hf1
          have HF2 := Lib.hid hf2
          have HM1 := Lib.hid (And.intro hm1 hm1b)
          have HM2 := Lib.hid (And.intro hm2 hm2b)
          clear hm1 hm1b hf1 hm2 hm2b hf2
          go_wp2_with fail
          refine (HF1.out _ (Below.refl _ _)).1.mono ?_
          rintro e w4 ⟨rfl, b4⟩
          have HV4 := Lib.hid b4
          clear b4
          go_wp2_with fail
          refine (HF1.out _ HV4.out).2.1.mono ?_
          rintro e w5 ⟨rfl, b5⟩
          have HV5 := Lib.hid (HV4.out.trans (b5.mono HV4.out.size))
          clear b5 HV4
          go_wp2_with fail
          refine (HF1.out _ HV5.out).2.2.1.mono ?_
          rintro e w6 ⟨P6, c6, rfl, hZ6, b6⟩
          have HZ6 := Lib.hid hZ6
          have HV6 := Lib.hid (HV5.out.trans (b6.mono HV5.out.size))
          clear b6 HV5 hZ6
          go_wp2_with fail
          refine (HF1.out _ HV6.out).2.2.2.mono ?_
          rintro e w7 ⟨P7, c7, rfl, hZ7, b7⟩
          have HS7 := Lib.hid (samez_c (W := w7) (P := P6) (Q := P7) (n := m1) (c := c6) (d := c7) HM1.out.1 (HZ6.out.step b7) hZ7 HM1.out.2)
          have HV7 := Lib.hid (HV6.out.trans (b7.mono HV6.out.size))
          clear b7 HV6 hZ7 HZ6
          go_wp2_with fail
          refine HS7.out.mono ?_
          rintro e w8 ⟨rfl, b8⟩
          have HV8 := Lib.hid (HV7.out.trans (b8.mono HV7.out.size))
          clear b8 HV7 HS7
          go_wp2_with fail
          refine (HF2.out _ HV8.out).1.mono ?_
          rintro e w9 ⟨rfl, b9⟩
          have HV9 := Lib.hid (HV8.out.trans (b9.mono HV8.out.size))
          clear b9 HV8
          go_wp2_with fail
          refine (HF2.out _ HV9.out).2.1.mono ?_
          rintro e w10 ⟨rfl, b10⟩
          have HV10 := Lib.hid (HV9.out.trans (b10.mono HV9.out.size))
          clear b10 HV9
          go_wp2_with fail
          refine (HF2.out _ HV10.out).2.2.1.mono ?_
          rintro e w11 ⟨P11, c11, rfl, hZ11, b11⟩
          have HZ11 := Lib.hid hZ11
          have HV11 := Lib.hid (HV10.out.trans (b11.mono HV10.out.size))
          clear b11 HV10 hZ11
          go_wp2_with fail
          refine (HF2.out _ HV11.out).2.2.2.mono ?_
          rintro e w12 ⟨P12, c12, rfl, hZ12, b12⟩
          have HS12 := Lib.hid (samez_c (W := w12) (P := P11) (Q := P12) (n := m2) (c := c11) (d := c12) HM2.out.1 (HZ11.out.step b12) hZ12 HM2.out.2)
          have HV12 := Lib.hid (HV11.out.trans (b12.mono HV11.out.size))
          clear b12 HV11 hZ12 HZ11
          go_wp2_with fail
          refine HS12.out.mono ?_
          rintro e w13 ⟨rfl, b13⟩
          have HV13 := Lib.hid (HB3.out.trans ((HV12.out.trans (b13.mono HV12.out.size)).mono HB3.out.size))
          clear b13 HV12 HS12
          go_wp2_with fail
          go_ret
          exact ⟨rfl, HV13.out⟩
end Go.Proofs.YtkphbjppmiefkaaDoor
end
