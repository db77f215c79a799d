/- The document's reader: a class by its name. -/
import Derived.Test.YtdcnfflleaplnaaGreatDoorQHex
import Derived.Test.YtdcnfflleaplnaaGreatDoorQOf
import Derived.Test.YtdcnfflleaplnaaGreatDoorRA
namespace Go.Proofs.YtdcnfflleaplnaaGreatDoor
open Go.RowKit Go.Shelf Go.Maps SetM PropsM RxM
section
variable {R : Nat} {W W' : World} {s : ByteArray} {dv : Value} {rest r : List Int} {d f n : Nat} {z c : Int} {σ : Out Unit}
def propQ (r0 r1 : List Int) : Out Nat :=
  match needF 125 (r1.dropWhile not125) with
    | .err e x => .err e x
    | .ok _ r2 => match whichF (looseL (bytesOf (r1.takeWhile not125))) with
      | none => .err 62 r0
      | some i => .ok i r2
/-- The reader at a byte. -/
def Ra (R : Nat) (W : World) (s : ByteArray) (dv : Value) (d f i : Nat) : Prop := W.heap[R]? = some (.cells #[.string s, .int .i64 i, dv, .int .i64 d, .int .i64 f, .int .i64 0, .int .i64 0] 56 (0, 0))
theorem Ra.lt {i : Nat} (h : Ra R W s dv d f i) : R < W.heap.size := (Array.getElem?_eq_some_iff.1 h).1
theorem Ra.kept {i : Nat} (h : Ra R W s dv d f i) (hb : Below W.heap.size W W') : Ra R W' s dv d f i := (hb.block R h.lt).trans h
theorem Ra.cell {i : Nat} (h : Ra R W s dv d f i) (j : Nat) : W.cell? ⟨R, j, none⟩ = (#[.string s, .int .i64 i, dv, .int .i64 d, .int .i64 f, .int .i64 0, .int .i64 0] : Array Value)[j]? := cell_of_row W R j _ _ _ h
theorem Ra.fz {i : Nat} (h : Ra R W s dv d f i) (j : Nat) : W.frozen? ⟨R, j, none⟩ = false := by have h' := h; unfold Ra at h'; simp [World.frozen?, h']
theorem Ra.next {i : Nat} (h : Ra R W s dv d f i) (j : Nat) : Ra R (W.setCell ⟨R, 1, none⟩ (.int .i64 j)) s dv d f j := heap_setR W R _ _ h 1 _
theorem Rr.toRa (h : Rr R W s dv rest d f) : Ra R W s dv d f (s.size - (U.UtfM.wr rest).length) := by
  have hl := h.len
  have e : (((s.size - (U.UtfM.wr rest).length : Nat) : Nat) : Int) = (s.size : Int) - ((U.UtfM.wr rest).length : Nat) := by omega
  unfold Ra
  rw [e]
  exact h.blk
set_option maxRecDepth 100000 in
set_option maxHeartbeats 1000000 in
theorem see_raw {i : Nat} (b : Int) (hi : i < s.size) (hb : (bs s)[i]? = some b) (h : Ra R W s dv d f i) : Calls Tryz.prog 50 #[.pointer (some ⟨R, 0, none⟩)] W fun e W' => e = .returned (.int .i64 b) ∧ Below W.heap.size W W' := by
  have c0 : W.cell? ⟨R, 0, none⟩ = some (.string s) := h.cell 0
  have c1 : W.cell? ⟨R, 1, none⟩ = some (.int .i64 i) := h.cell 1
  have c5 : W.cell? ⟨R, 5, none⟩ = some (.int .i64 0) := h.cell 5
  have hr := bs_rng s b (List.mem_of_getElem? hb)
  have hix : ∀ w, (Instr.index 9 (.string s) (.int .i64 (i : Int))).run Tryz.prog w = .ok (.int .u8 b) w := by
    intro w
    have hk : i < s.data.toList.length := by have : s.size = s.data.toList.length := rfl; omega
    rw [str_ix s i hk w]
    have e3 : (bs s)[i]? = some ((s.data.toList[i].toNat : Nat) : Int) := by
      unfold bs
      rw [List.getElem?_map, List.getElem?_eq_getElem hk]; rfl
    rw [hb] at e3
    cases e3
    rfl
  have g : ¬ (i : Int) ≥ (s.size : Int) := by omega
  have g' : ¬ (s.size : Int) ≤ (i : Int) := g
  have g2 : (i : Int) < (s.size : Int) := by omega
  have i0 : (0 : Int) ≤ (i : Int) := by omega
  have hwb : wrap64 b = b := IntWalk.wrap64_in _ (by omega)
  clear h hb
  go_enter Tryz.func50, Tryz.ntmps50
  go_wp2_with fail
  go_quiet (fail)
  go_wp2_with fail
  go_quiet (fail)
  go_wp2
  go_ret
  exact ⟨by simp, by rw [World.drewN_drewN]; exact drewN_below _⟩
set_option maxRecDepth 100000 in
set_option maxHeartbeats 1000000 in
theorem see_rawe {i : Nat} (hi : i = s.size) (h : Ra R W s dv d f i) : Calls Tryz.prog 50 #[.pointer (some ⟨R, 0, none⟩)] W fun e W' => e = .returned (.int .i64 (-1)) ∧ Below W.heap.size W W' := by
  have c0 : W.cell? ⟨R, 0, none⟩ = some (.string s) := h.cell 0
  have c1 : W.cell? ⟨R, 1, none⟩ = some (.int .i64 i) := h.cell 1
  have c5 : W.cell? ⟨R, 5, none⟩ = some (.int .i64 0) := h.cell 5
  have g : (i : Int) ≥ (s.size : Int) := by omega
  clear h hi
  go_enter Tryz.func50, Tryz.ntmps50
  go_wp2_with fail
  go_quiet (fail)
  go_wp2
  go_ret
  exact ⟨rfl, drewN_below _⟩
theorem while_take (P : Int → Bool) : ∀ (l : List Int) (j : Nat), j ≤ l.length → (∀ x ∈ l.take j, P x = true) → (j = l.length ∨ ∃ b, l[j]? = some b ∧ P b = false) → l.takeWhile P = l.take j
  | [], j, _, _, _ => by simp
  | c :: t, 0, _, _, h => by
    rcases h with h | ⟨b, h1, h2⟩
    · simp at h
    · simp at h1
      subst h1
      simp [h2]
  | c :: t, j + 1, hj, hp, h => by
    have hc : P c = true := hp c (by simp)
    rw [List.takeWhile_cons, if_pos hc, List.take_succ_cons, while_take P t j (by simpa using hj) (fun x hx => hp x (by simp [hx])) (by simpa using h)]
theorem prop_cut {rest : List Int} (hs : ∀ c ∈ rest, U.UtfM.Sc c) {j : Nat} (hj : j ≤ (U.UtfM.wr rest).length) (hno : ∀ x ∈ (U.UtfM.wr rest).take j, x ≠ 125) (hend : j = (U.UtfM.wr rest).length ∨ (U.UtfM.wr rest)[j]? = some 125) :
    (U.UtfM.wr rest).take j = U.UtfM.wr (rest.takeWhile not125) ∧ (U.UtfM.wr rest).length = j + (U.UtfM.wr (rest.dropWhile not125)).length := by
  have h1 := (Hx.wr_while rest hs).1
  have h2 := while_take not125 (U.UtfM.wr rest) j hj (fun x hx => by simp [not125]; exact hno x hx) (hend.imp id (fun h => ⟨125, h, rfl⟩))
  have h3 : (U.UtfM.wr rest).take j = U.UtfM.wr (rest.takeWhile not125) := h2.symm.trans h1
  refine ⟨h3, ?_⟩
  have h4 := congrArg (fun l => (U.UtfM.wr l).length) (List.takeWhile_append_dropWhile (p := not125) (l := rest))
  simp only [U.UtfM.wr_append, List.length_append, ← h3, List.length_take] at h4
  omega
theorem bytesq_back {t : ByteArray} {l : List Int} (h : bs t = U.UtfM.wr l) : t.data.toList = bytesOf l := by
  unfold bytesOf
  rw [← h]
  unfold bs
  rw [List.map_map]
  have : ((fun n : Int => UInt8.ofNat n.toNat) ∘ fun b : UInt8 => (b.toNat : Int)) = id := by
    funext b; simp
  rw [this, List.map_id]
theorem gath_wide {out : List Sp} {i : Nat} (h : IsSet out (fun r => Tells (gathOf i) r)) : Wide out := wide_set h (fun _ h => h.1)
theorem propq_none {r0 rest dw : List Int} {o : Option Nat} (hq : propQ r0 rest = match needF 125 dw with
        | .err e x => .err e x
        | .ok _ r2 => match o with
          | none => .err 62 r0
          | some i => .ok i r2) (ho : o = none) : Out.u (propQ r0 rest) = failS 62 r0 (Out.u (needF 125 dw)) ∧ ∀ i x, propQ r0 rest = .ok i x → False := by
  subst ho
  rw [hq]
  cases needF 125 dw with
  | err e x => exact ⟨rfl, fun i x h => by cases h⟩
  | ok u r2 => exact ⟨rfl, fun i x h => by cases h⟩
theorem propq_some {r0 rest dw : List Int} {o : Option Nat} {i : Nat} (hq : propQ r0 rest = match needF 125 dw with
        | .err e x => .err e x
        | .ok _ r2 => match o with
          | none => .err 62 r0
          | some i => .ok i r2) (ho : o = some i) : Out.u (propQ r0 rest) = Out.u (needF 125 dw) ∧ ∀ k x, propQ r0 rest = .ok k x → i = k := by
  subst ho
  rw [hq]
  cases needF 125 dw with
  | err e x => exact ⟨rfl, fun i x h => by cases h⟩
  | ok u r2 => exact ⟨rfl, fun i x h => by cases h; rfl⟩
def PropPost (R : Nat) (s : ByteArray) (dv : Value) (d f : Nat) (r0 r1 : List Int) (W : World) (e : Ending) (W' : World) : Prop :=
  ∃ P c l, e = .returned (.slice P (List.length l) c) ∧ l.length ≤ 104 ∧ Wide l ∧ Sl W' P l ∧ (P = none → c = 0) ∧ (∀ a, P = some a → W.heap.size ≤ a.block) ∧ (∀ i x, propQ r0 r1 = .ok i x → ∀ r, Tells l r ↔ Tells (gathOf i) r) ∧ Rs R W' s dv d f (Out.u (propQ r0 r1)) ∧ Gr R W W'
set_option maxRecDepth 100000 in
set_option maxHeartbeats 4000000 in
theorem propq_c (r0 : List Int) (h : Rr R W s dv rest d f) : Calls Tryz.prog 91 #[.pointer (some ⟨R, 0, none⟩), .int .i64 ((s.size : Int) - ((U.UtfM.wr r0).length : Nat))] W (PropPost R s dv d f r0 rest W) := by
  have hsm := h.small
  have hlen := h.len
  have HSC := Lib.hid h.sc
  have HTL := Lib.hid h.tl
  have HSM := Lib.hid h.small
  have hbyte : ∀ (j : Nat) (b : Int), (U.UtfM.wr rest)[j]? = some b → (bs s)[s.size - (U.UtfM.wr rest).length + j]? = some b := fun j b hb => by
    obtain ⟨pre, e⟩ := HTL.out
    have hl := congrArg List.length e
    rw [bs_len, List.length_append] at hl
    rw [e, List.getElem?_append_right (by omega), show s.size - (U.UtfM.wr rest).length + j - pre.length = j from by omega]
    exact hb
  have HBY := Lib.hid hbyte
  have hext : ∀ k, bs (s.extract (s.size - (U.UtfM.wr rest).length) (s.size - (U.UtfM.wr rest).length + k)) = (U.UtfM.wr rest).take k := fun k => ext_bs h _ k (by omega)
  have HEX := Lib.hid hext
  have HRA := Lib.hid h.toRa
  obtain ⟨zp, hzp⟩ : ∃ zp, zp = (s.size : Int) - ((U.UtfM.wr r0).length : Nat) := ⟨_, rfl⟩
  rw [← hzp]
  have HZP := Lib.hid hzp
  have hRl := h.lt
  obtain ⟨i0, hi0⟩ : ∃ i0, i0 = s.size - (U.UtfM.wr rest).length := ⟨_, rfl⟩
  rw [← hi0] at HBY HEX HRA
  obtain ⟨L, hL⟩ : ∃ L, L = (U.UtfM.wr rest).length := ⟨_, rfl⟩
  rw [← hL] at hi0 hlen
  have HL := Lib.hid hL
  have hia : i0 + L ≤ s.size := by omega
  have hib : s.size ≤ i0 + L := by omega
  clear hi0
  have c1 : W.cell? ⟨R, 1, none⟩ = some (.int .i64 i0) := HRA.out.cell 1
  clear hzp h hbyte hext hL
  go_enter Tryz.func91, Tryz.ntmps91
  go_wp2_with fail
  go_loopg [] L (fun g wx => ∃ j : Nat, j + g = L ∧ Hid (∀ x ∈ (U.UtfM.wr rest).take j, x ≠ 125) ∧ Hid (Ra R wx s dv d f (i0 + j)) ∧ Hid (Gr R W wx))
  case atStart => exact ⟨0, by omega, Lib.hid (by simp), HRA, Lib.hid (Gr.refl _ _)⟩
  case round =>
    obtain ⟨j, hjg, HNO, HR, HG⟩ := hrel
    clear c1
    by_cases hgo : j < L ∧ (U.UtfM.wr rest)[j]? ≠ some 125
    · obtain ⟨hjl, hnb⟩ := hgo
      obtain ⟨g, rfl⟩ : ∃ g, gk = g + 1 := ⟨gk - 1, by omega⟩
      obtain ⟨b, hb⟩ : ∃ b, (U.UtfM.wr rest)[j]? = some b := ⟨_, List.getElem?_eq_getElem (by have := HL.out; omega)⟩
      have hb125 : b ≠ 125 := fun e => hnb (by rw [hb, e])
      have hbs := HBY.out j b hb
      have hrg := bs_rng s b (List.mem_of_getElem? hbs)
      have g1 : b ≥ 0 := hrg.1
      have g2 : (b == 125) = false := by simp [hb125]
      have g3 : (b != 125) = true := by simp [hb125]
      have HSEE := Lib.hid (fun Y (hY : Ra R Y s dv d f (i0 + j)) => see_raw b (by omega) hbs hY)
      have HN2 : Hid (∀ x ∈ (U.UtfM.wr rest).take (j + 1), x ≠ 125) := Lib.hid (fun x hx => by
        rw [List.take_add_one, hb] at hx
        rcases List.mem_append.1 hx with h | h
        · exact HNO.out x h
        · simp at h; rw [h]; exact hb125)
      clear hnb hb hbs hrg
      go_wp2_with fail
      refine (HSEE.out _ HR.out).mono ?_
      rintro e w1 ⟨rfl, b1⟩
      have HR1 := Lib.hid (HR.out.kept b1)
      have HG1 := Lib.hid (HG.out.trans (Gr.of b1))
      clear b1
      go_wp2_with fail
      refine (HSEE.out _ HR1.out).mono ?_
      rintro e w2 ⟨rfl, b1⟩
      have HR2 := Lib.hid (HR1.out.kept b1)
      have HG2 := Lib.hid (HG1.out.trans (Gr.of b1))
      have c1 : w2.cell? ⟨R, 1, none⟩ = some (.int .i64 ((i0 + j : Nat) : Int)) := HR2.out.cell 1
      have kz := HR2.out.fz 1
      have ew : IntKind.i64.wrap (((i0 + j : Nat) : Int) + 1) = ((i0 + j : Nat) : Int) + 1 := IntWalk.i64_in _ (by omega)
      have HNX : Hid (Ra R (w2.setCell ⟨R, 1, none⟩ (.int .i64 (((i0 + j : Nat) : Int) + 1))) s dv d f (i0 + (j + 1))) := Lib.hid (by
        have := HR2.out.next (i0 + (j + 1))
        have e : (((i0 + (j + 1) : Nat) : Nat) : Int) = ((i0 + j : Nat) : Int) + 1 := by omega
        rw [e] at this
        exact this)
      obtain ⟨q, hq⟩ : ∃ q : Int, q = ((i0 + j : Nat) : Int) := ⟨_, rfl⟩
      rw [← hq] at c1 ew HNX
      clear b1 hq
      go_wp2
      go_roundg g
      case measure => omega
      case rel => exact ⟨j + 1, by omega, HN2, HNX, Lib.hid (HG2.out.trans (Gr.set _ 1 _))⟩
    · have hend : j = L ∨ (j < L ∧ (U.UtfM.wr rest)[j]? = some 125) := by
        by_cases hjl : j < L
        · exact .inr ⟨hjl, Classical.byContradiction (fun e => hgo ⟨hjl, e⟩)⟩
        · exact .inl (by omega)
      have hcut := prop_cut HSC.out (j := j) (by have := HL.out; omega) HNO.out (hend.imp (fun h => h.trans HL.out) (fun h => h.2))
      have HCUT := Lib.hid hcut
      have HRR : Hid (∀ Y, Ra R Y s dv d f (i0 + j) → Rr R Y s dv (rest.dropWhile not125) d f) := Lib.hid (fun Y hY => by
        have e : (((i0 + j : Nat) : Nat) : Int) = (s.size : Int) - ((U.UtfM.wr (rest.dropWhile not125)).length : Nat) := by have := HCUT.out.2; have := HL.out; omega
        refine ⟨by rw [← e]; exact hY, ?_, fun c hc => HSC.out c ((List.dropWhile_sublist _).subset hc), HSM.out⟩
        obtain ⟨pre, e⟩ := HTL.out
        refine ⟨pre ++ U.UtfM.wr (rest.takeWhile not125), ?_⟩
        rw [e, List.append_assoc, ← U.UtfM.wr_append, List.takeWhile_append_dropWhile])
      have HU : Hid ((s.extract i0 (i0 + j)).data.toList = bytesOf (rest.takeWhile not125)) := Lib.hid (bytesq_back ((HEX.out j).trans HCUT.out.1))
      have hj : j ≤ L := by omega
      have HQ : Hid (propQ r0 rest = match needF 125 (rest.dropWhile not125) with
        | .err e x => .err e x
        | .ok _ r2 => match whichF (looseL (s.extract i0 (i0 + j)).data.toList) with
          | none => .err 62 r0
          | some i => .ok i r2) := Lib.hid (by unfold propQ; rw [HU.out])
      have hus : (s.extract i0 (i0 + j)).data.toList.length ≤ 1000000 := by
        have : (s.extract i0 (i0 + j)).size = (s.extract i0 (i0 + j)).data.toList.length := rfl
        rw [← this, ByteArray.size_extract]
        omega
      have l1 : (0 : Int) ≤ (i0 : Int) := by omega
      have l2 : (i0 : Int) ≤ ((i0 + j : Nat) : Int) := by omega
      have l3 : ((i0 + j : Nat) : Int) ≤ (s.size : Int) := by omega
      obtain ⟨q, hq⟩ : ∃ q : Nat, q = i0 + j := ⟨_, rfl⟩
      have hx1 : ((i0 : Int)).toNat = i0 := by omega
      have hx2 : ((q : Int)).toNat = q := by omega
      rw [← hq] at HR HRR HQ hus l2 l3
      have HUS := Lib.hid hus
      have HQ0 := Lib.hid hq
      have hqa : q ≤ i0 + j := by omega
      have hqb : i0 + j ≤ q := by omega
      have HB2 := HBY
      clear hcut HCUT HU HEX HBY hgo HNO hus hq
      rcases hend with hend | ⟨_, hend⟩
      · have HSEE := Lib.hid (fun Y (hY : Ra R Y s dv d f q) => see_rawe (i := q) (by omega) hY)
        clear hend
        go_wp2_with fail
        refine (HSEE.out _ HR.out).mono ?_
        rintro e w3 ⟨rfl, b1⟩
        have HR3 := Lib.hid (HR.out.kept b1)
        have HG3 := Lib.hid (HG.out.trans (Gr.of b1))
        clear b1 HSEE
        have c0 : w3.cell? ⟨R, 0, none⟩ = some (.string s) := HR3.out.cell 0
        have c1 : w3.cell? ⟨R, 1, none⟩ = some (.int .i64 (q : Int)) := HR3.out.cell 1
        go_wp2_with fail
        go_quiet (fail)
        have HR4 := Lib.hid (HRR.out _ (HR3.out.kept (drewN_below nq)))
        have HG4 := Lib.hid (HG3.out.trans (Gr.of (drewN_below nq)))
        clear c0 c1
        generalize w3.drewN nq = w4 at *
        have HMU := Lib.hid (mu_c 125 (by decide) HR4.out)
        go_wp2_with fail
        refine HMU.out.mono ?_
        rintro e w6 ⟨rfl, h6, g6⟩
        replace h6 : Rs R w6 s dv d f (Out.u (needF 125 (rest.dropWhile not125))) := h6
        have H6 := Lib.hid h6
        have G6 := Lib.hid (HG4.out.trans g6)
        clear h6 g6 HMU
        cases hw : whichF (looseL (s.extract i0 q).data.toList) with
        | none =>
          have HPQ := Lib.hid (propq_none HQ.out hw)
          have HOF := Lib.hid (rof_none (s.extract i0 q) HUS.out hw w6)
          clear hw
          go_wp2_with fail
          refine HOF.out.mono ?_
          rintro e w7 ⟨rfl, b7⟩
          have H7 := Lib.hid (H6.out.kept b7)
          have G7 := Lib.hid (G6.out.trans (Gr.of b7))
          have HF := Lib.hid (fail_c 62 zp r0 (by omega) (fun _ _ _ => HZP.out) H7.out)
          clear b7
          go_wp2_with fail
          refine HF.out.mono ?_
          rintro e w8 ⟨rfl, h8, g8⟩
          have H8 := Lib.hid h8
          have G8 := Lib.hid (G7.out.trans g8)
          clear h8 g8
          go_wp2
          go_ret
          exact ⟨none, 0, [], rfl, by simp, (fun s h => by simp at h), (fun h => absurd rfl h), (fun _ => rfl), (fun a h => by cases h), fun i x h => (HPQ.out.2 i x h).elim, by rw [HPQ.out.1]; exact H8.out, G8.out⟩
        | some i =>
          have HPQ := Lib.hid (propq_some HQ.out hw)
          have HOF := Lib.hid (rofn_any (s.extract i0 q) HUS.out i hw w6)
          clear hw
          go_wp2_with fail
          refine HOF.out.mono ?_
          rintro e w7 ⟨P7, c7, o7, rfl, i7, n7, s7, z7, f7, b7⟩
          have H7 := Lib.hid (H6.out.kept b7)
          have G7 := Lib.hid (G6.out.trans (Gr.of b7))
          have HO7 := Lib.hid (And.intro i7 (And.intro s7 (And.intro n7 (And.intro z7 (fun a h => Nat.le_trans G6.out.size (f7 a h))))))
          clear b7 i7 s7 z7 f7 n7
          go_wp2
          go_ret
          exact ⟨P7, c7, o7, rfl, HO7.out.2.2.1, gath_wide HO7.out.1, HO7.out.2.1, HO7.out.2.2.2.1, HO7.out.2.2.2.2, fun k x h => (by rw [← HPQ.out.2 k x h]; exact HO7.out.1.tells (fun _ h => h.1)), by rw [HPQ.out.1]; exact H7.out, G7.out⟩
      · have HSEE := Lib.hid (fun Y (hY : Ra R Y s dv d f q) => see_raw (i := q) 125 (by omega) (by rw [HQ0.out]; exact HB2.out j 125 hend) hY)
        clear hend
        go_wp2_with fail
        refine (HSEE.out _ HR.out).mono ?_
        rintro e w2 ⟨rfl, b1⟩
        have HR2 := Lib.hid (HR.out.kept b1)
        have HG2 := Lib.hid (HG.out.trans (Gr.of b1))
        clear b1
        go_wp2_with fail
        refine (HSEE.out _ HR2.out).mono ?_
        rintro e w3 ⟨rfl, b1⟩
        have HR3 := Lib.hid (HR2.out.kept b1)
        have HG3 := Lib.hid (HG2.out.trans (Gr.of b1))
        clear b1 HSEE
        have c0 : w3.cell? ⟨R, 0, none⟩ = some (.string s) := HR3.out.cell 0
        have c1 : w3.cell? ⟨R, 1, none⟩ = some (.int .i64 (q : Int)) := HR3.out.cell 1
        go_wp2_with fail
        go_quiet (fail)
        have HR4 := Lib.hid (HRR.out _ (HR3.out.kept (drewN_below nq)))
        have HG4 := Lib.hid (HG3.out.trans (Gr.of (drewN_below nq)))
        clear c0 c1
        generalize w3.drewN nq = w4 at *
        have HMU := Lib.hid (mu_c 125 (by decide) HR4.out)
        go_wp2_with fail
        refine HMU.out.mono ?_
        rintro e w6 ⟨rfl, h6, g6⟩
        replace h6 : Rs R w6 s dv d f (Out.u (needF 125 (rest.dropWhile not125))) := h6
        have H6 := Lib.hid h6
        have G6 := Lib.hid (HG4.out.trans g6)
        clear h6 g6 HMU
        cases hw : whichF (looseL (s.extract i0 q).data.toList) with
        | none =>
          have HPQ := Lib.hid (propq_none HQ.out hw)
          have HOF := Lib.hid (rof_none (s.extract i0 q) HUS.out hw w6)
          clear hw
          go_wp2_with fail
          refine HOF.out.mono ?_
          rintro e w7 ⟨rfl, b7⟩
          have H7 := Lib.hid (H6.out.kept b7)
          have G7 := Lib.hid (G6.out.trans (Gr.of b7))
          have HF := Lib.hid (fail_c 62 zp r0 (by omega) (fun _ _ _ => HZP.out) H7.out)
          clear b7
          go_wp2_with fail
          refine HF.out.mono ?_
          rintro e w8 ⟨rfl, h8, g8⟩
          have H8 := Lib.hid h8
          have G8 := Lib.hid (G7.out.trans g8)
          clear h8 g8
          go_wp2
          go_ret
          exact ⟨none, 0, [], rfl, by simp, (fun s h => by simp at h), (fun h => absurd rfl h), (fun _ => rfl), (fun a h => by cases h), fun i x h => (HPQ.out.2 i x h).elim, by rw [HPQ.out.1]; exact H8.out, G8.out⟩
        | some i =>
          have HPQ := Lib.hid (propq_some HQ.out hw)
          have HOF := Lib.hid (rofn_any (s.extract i0 q) HUS.out i hw w6)
          clear hw
          go_wp2_with fail
          refine HOF.out.mono ?_
          rintro e w7 ⟨P7, c7, o7, rfl, i7, n7, s7, z7, f7, b7⟩
          have H7 := Lib.hid (H6.out.kept b7)
          have G7 := Lib.hid (G6.out.trans (Gr.of b7))
          have HO7 := Lib.hid (And.intro i7 (And.intro s7 (And.intro n7 (And.intro z7 (fun a h => Nat.le_trans G6.out.size (f7 a h))))))
          clear b7 i7 s7 z7 f7 n7
          go_wp2
          go_ret
          exact ⟨P7, c7, o7, rfl, HO7.out.2.2.1, gath_wide HO7.out.1, HO7.out.2.1, HO7.out.2.2.2.1, HO7.out.2.2.2.2, fun k x h => (by rw [← HPQ.out.2 k x h]; exact HO7.out.1.tells (fun _ h => h.1)), by rw [HPQ.out.1]; exact H7.out, G7.out⟩
end
end Go.Proofs.YtdcnfflleaplnaaGreatDoor
