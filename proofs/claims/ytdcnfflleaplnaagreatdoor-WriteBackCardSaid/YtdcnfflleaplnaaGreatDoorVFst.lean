/- The document's Chars and First. -/
import Derived.Test.YtdcnfflleaplnaaGreatDoorURdec
import Derived.Laws.StructEq
namespace Go.Proofs.YtdcnfflleaplnaaGreatDoor.U.UtfM
def DecOk (b : List Int) : Prop :=
  1 ≤ (dec b).2 ∧ (dec b).2 ≤ b.length ∧ ((dec b).1 = -1 ∧ (dec b).2 ≤ 3 ∨ Sc (dec b).1 ∧ enc (dec b).1 = b.take (dec b).2)
theorem dec_ok {b : List Int} (hb : IsBytes b) (hne : b ≠ []) : DecOk b := by
  unfold DecOk
  match b, hne with
  | a :: t, _ =>
    have ha := hb a (by simp)
    rcases lead_cases a with h | h | ⟨h1, h2⟩ | ⟨h1, h2⟩ | ⟨h1, h2⟩
    · rw [dec_some (lead1 h), goOn_zero]
      have hs : Sc a := by unfold Sc; omega
      exact ⟨by simp, by simp, .inr ⟨hs, by rw [enc1 hs h]; rfl⟩⟩
    · rw [dec_none h]; exact ⟨by simp, by simp, .inl ⟨rfl, by simp⟩⟩
    · rw [dec_some (lead2 h1 h2)]
      match t with
      | [] => rw [goOn_end]; exact ⟨by simp, by simp, .inl ⟨rfl, by simp⟩⟩
      | c :: t =>
        by_cases hc : 128 ≤ c ∧ c ≤ 191
        · rw [goOn_yes hc.1 hc.2, goOn_zero]
          have hs : Sc ((a - 192) * 64 + (c - 128)) := by unfold Sc; omega
          exact ⟨by simp, by simp, .inr ⟨hs, by rw [enc2 hs (by omega) (by omega)]; simp; omega⟩⟩
        · rw [goOn_no (by simp only; omega)]; exact ⟨by simp, by simp, .inl ⟨rfl, by simp⟩⟩
    · obtain ⟨lo, hi, hl, e1, e2⟩ := lead3 h1 h2
      rw [dec_some hl]
      match t with
      | [] => rw [goOn_end]; exact ⟨by simp, by simp, .inl ⟨rfl, by simp⟩⟩
      | c :: t =>
        by_cases hc : lo ≤ c ∧ c ≤ hi
        · have hlo : 128 ≤ lo ∧ (a = 224 → lo = 160) := by rw [e1]; split <;> omega
          have hhi : hi ≤ 191 ∧ (a = 237 → hi = 159) := by rw [e2]; split <;> omega
          rw [goOn_yes hc.1 hc.2]
          match t with
          | [] => rw [goOn_end]; exact ⟨by simp, by simp, .inl ⟨rfl, by simp⟩⟩
          | d :: t =>
            by_cases hd : 128 ≤ d ∧ d ≤ 191
            · rw [goOn_yes hd.1 hd.2, goOn_zero]
              have hs : Sc (((a - 224) * 64 + (c - 128)) * 64 + (d - 128)) := by unfold Sc; omega
              exact ⟨by simp, by simp, .inr ⟨hs, by rw [enc3 hs (by omega) (by omega)]; simp; omega⟩⟩
            · rw [goOn_no (by omega)]; exact ⟨by simp, by simp, .inl ⟨rfl, by simp⟩⟩
        · rw [goOn_no (by simp only; omega)]; exact ⟨by simp, by simp, .inl ⟨rfl, by simp⟩⟩
    · obtain ⟨lo, hi, hl, e1, e2⟩ := lead4 h1 h2
      rw [dec_some hl]
      match t with
      | [] => rw [goOn_end]; exact ⟨by simp, by simp, .inl ⟨rfl, by simp⟩⟩
      | c :: t =>
        by_cases hc : lo ≤ c ∧ c ≤ hi
        · have hlo : 128 ≤ lo ∧ (a = 240 → lo = 144) := by rw [e1]; split <;> omega
          have hhi : hi ≤ 191 ∧ (a = 244 → hi = 143) := by rw [e2]; split <;> omega
          rw [goOn_yes hc.1 hc.2]
          match t with
          | [] => rw [goOn_end]; exact ⟨by simp, by simp, .inl ⟨rfl, by simp⟩⟩
          | d :: t =>
            by_cases hd : 128 ≤ d ∧ d ≤ 191
            · rw [goOn_yes hd.1 hd.2]
              match t with
              | [] => rw [goOn_end]; exact ⟨by simp, by simp, .inl ⟨rfl, by simp⟩⟩
              | f :: t =>
                by_cases hf : 128 ≤ f ∧ f ≤ 191
                · rw [goOn_yes hf.1 hf.2, goOn_zero]
                  have hs : Sc ((((a - 240) * 64 + (c - 128)) * 64 + (d - 128)) * 64 + (f - 128)) := by unfold Sc; omega
                  exact ⟨by simp, by simp, .inr ⟨hs, by rw [enc4 hs (by omega)]; simp; omega⟩⟩
                · rw [goOn_no (by omega)]; exact ⟨by simp, by simp, .inl ⟨rfl, by simp⟩⟩
            · rw [goOn_no (by omega)]; exact ⟨by simp, by simp, .inl ⟨rfl, by simp⟩⟩
        · rw [goOn_no (by simp only; omega)]; exact ⟨by simp, by simp, .inl ⟨rfl, by simp⟩⟩

theorem chars_nil (at0 : Nat) : chars at0 [] = [] := by rw [chars]; simp
theorem chars_step {b : List Int} (hb : IsBytes b) (hne : b ≠ []) (at0 : Nat) : chars at0 b = ((dec b).1, at0, (dec b).2) :: chars (at0 + (dec b).2) (b.drop (dec b).2) := by
  rw [chars, dif_neg hne]
  have := (dec_ok hb hne).1
  rw [show max 1 (dec b).2 = (dec b).2 from by omega]
theorem bytes_rec {P : List Int → Prop} (h0 : P []) (h1 : ∀ b, IsBytes b → b ≠ [] → P (b.drop (dec b).2) → P b) : ∀ b, IsBytes b → P b := by
  intro b
  generalize hn : b.length = n
  induction n using Nat.strongRecOn generalizing b with
  | _ n ih =>
    intro hb
    by_cases hne : b = []
    · rw [hne]; exact h0
    · have hd := dec_ok hb hne
      unfold DecOk at hd
      exact h1 b hb hne (ih (b.drop (dec b).2).length (by rw [List.length_drop]; omega) _ rfl (hb.drop _))
theorem chars_len_le : ∀ b, IsBytes b → ∀ at0 : Nat, (chars at0 b).length ≤ b.length := by
  apply bytes_rec
  · intro at0; rw [chars_nil]; simp
  · intro b hb hne ih at0
    have hd := dec_ok hb hne
    unfold DecOk at hd
    have := ih (at0 + (dec b).2)
    rw [chars_step hb hne, List.length_cons]
    rw [List.length_drop] at this
    omega
theorem firstOf_nil : firstOf [] = -1 := rfl
theorem firstOf_bad {c : Ch} {l : List Ch} (h : c.1 < 0) : firstOf (c :: l) = c.2.1 := by
  unfold firstOf; rw [List.find?_cons_of_pos (by simpa using h)]
theorem firstOf_good {c : Ch} {l : List Ch} (h : 0 ≤ c.1) : firstOf (c :: l) = firstOf l := by
  unfold firstOf; rw [List.find?_cons_of_neg (by simp; omega)]
theorem wr_bytes (xs : List Int) : IsBytes (wr xs) := by
  intro c hc
  obtain ⟨x, _, h⟩ := List.mem_flatMap.1 hc
  exact enc_bytes x c h
theorem chars_wr (b : List Int) (hb : IsBytes b) : ∀ (xs : List Int) (at0 : Nat), chars at0 (wr xs ++ b) = chars at0 (wr xs) ++ chars (at0 + (wr xs).length) b := by
  intro xs
  induction xs with
  | nil => intro at0; simp [wr_nil, chars_nil]
  | cons x t ih =>
    intro at0
    rw [wr_cons]
    by_cases hs : Sc x
    · have hne : enc x ++ wr t ≠ [] := by intro h; have := enc_pos hs; rw [List.append_eq_nil_iff] at h; rw [h.1] at this; simp at this
      have hne2 : enc x ++ wr t ++ b ≠ [] := by intro h; exact hne (List.append_eq_nil_iff.1 h).1
      rw [chars_step (((enc_bytes x).append (wr_bytes t)).append hb) hne2, chars_step ((enc_bytes x).append (wr_bytes t)) hne, List.append_assoc, dec_enc hs, dec_enc hs]
      dsimp only
      rw [List.drop_left, List.drop_left, ih, List.length_append, List.cons_append, Nat.add_assoc]
    · rw [enc0 hs]; simpa using ih at0
theorem chars_wr_scalars : ∀ (xs : List Int) (at0 : Nat), (chars at0 (wr xs)).map (·.1) = xs.filter (fun x => decide (Sc x)) := by
  intro xs
  induction xs with
  | nil => intro at0; simp [wr_nil, chars_nil]
  | cons x t ih =>
    intro at0
    rw [wr_cons]
    by_cases hs : Sc x
    · have hne : enc x ++ wr t ≠ [] := by intro h; have := enc_pos hs; rw [List.append_eq_nil_iff] at h; rw [h.1] at this; simp at this
      rw [chars_step ((enc_bytes x).append (wr_bytes t)) hne, dec_enc hs]
      dsimp only
      rw [List.drop_left, List.map_cons, ih, List.filter_cons_of_pos (by simpa using hs)]
    · rw [enc0 hs, List.filter_cons_of_neg (by simpa using hs)]; simpa using ih at0
theorem firstOf_all {l : List Ch} (h : ∀ c ∈ l, 0 ≤ c.1) : firstOf l = -1 := by
  induction l with
  | nil => rfl
  | cons c t ih => rw [firstOf_good (h c (by simp))]; exact ih (fun c hc => h c (by simp [hc]))
theorem first_wr (xs : List Int) : first (wr xs) = -1 := by
  apply firstOf_all
  intro c hc
  have : c.1 ∈ (chars 0 (wr xs)).map (·.1) := List.mem_map.2 ⟨c, hc, rfl⟩
  rw [chars_wr_scalars, List.mem_filter] at this
  have h := this.2
  simp [Sc] at h
  omega
end Go.Proofs.YtdcnfflleaplnaaGreatDoor.U.UtfM
namespace Go.Proofs.YtdcnfflleaplnaaGreatDoor.U
open Go.RowKit Go.Shelf UtfM
def encC (c : Ch) : List Value := [.int .i64 c.1, .int .i64 (c.2.1 : Int), .int .i64 (c.2.2 : Int)]
def cellsC (l : List Ch) : List Value := l.flatMap encC
theorem cellsC_append (a b : List Ch) : cellsC (a ++ b) = cellsC a ++ cellsC b := by simp [cellsC]
theorem infoC : (Tryz.prog.info? 83).map (fun i => (i.zero, i.size, i.bytes)) = some (some (.agg #[.int .i64 0, .int .i64 0, .int .i64 0]), 3, 24) := by kernel_rfl
theorem cellsC_get : ∀ (l : List Ch) (j : Nat), j < l.length * 3 → (cellsC l)[j]? = (encC (l[j / 3]?.getD default))[j % 3]?
  | [], j, h => by simp at h
  | m :: t, j, h => by
    have e : cellsC (m :: t) = encC m ++ cellsC t := rfl
    rw [e]
    by_cases hj : j < 3
    · rw [List.getElem?_append_left (by simpa [encC] using hj), Nat.div_eq_of_lt hj, Nat.mod_eq_of_lt hj]; simp
    · rw [List.getElem?_append_right (by simp [encC]; omega)]
      have h3 : (encC m).length = 3 := rfl
      rw [h3, cellsC_get t (j - 3) (by simp at h; omega), show j / 3 = (j - 3) / 3 + 1 from by omega, show (j - 3) % 3 = j % 3 from by omega]
      simp
/-- A slice of chars. -/
theorem chars_of {W : World} {base : Nat} {v : Value} {l : List Ch} (h : W.ownsRow base 83 3 v l.length (cellsC l)) : ∃ P c, v = .slice P l.length c ∧ Cs W P l := by
  rcases h.2 with ⟨rfl, h0⟩ | ⟨g, cap, cur, rfl, hb, hg, h1, h2, h3, h4⟩
  · exact ⟨none, 0, by rw [h0], fun hne => absurd (List.eq_nil_of_length_eq_zero h0) hne⟩
  · refine ⟨_, cap, rfl, fun _ => ⟨g, 0, rfl, (Array.getElem?_eq_some_iff.1 hg).1, fun j hj => ?_⟩⟩
    have key : ∀ i, i < l.length * 3 → W.cell? ⟨g, i, none⟩ = (cellsC l)[i]? := fun i hi => by
      rw [cell_of_row W g i cur _ _ hg, ← h4, List.getElem?_take_of_lt hi, Array.getElem?_toList]
    have hd : ∀ i, i < 3 → W.cell? ⟨g, 0 + j * 3 + i, none⟩ = (encC l[j])[i]? := fun i hi => by
      rw [key _ (by omega), cellsC_get l _ (by omega), show (0 + j * 3 + i) / 3 = j from by omega, show (0 + j * 3 + i) % 3 = i from by omega, List.getElem?_eq_getElem hj]; rfl
    exact ⟨hd 0 (by omega), hd 1 (by omega), hd 2 (by omega)⟩
def CharsPost (w : World) (l : List Int) (e : Ending) (w' : World) : Prop :=
  ∃ P c, e = .returned (.slice P (chars 0 l).length c) ∧ Cs w' P (chars 0 l) ∧ Below w.heap.size w w'
theorem own_below {W W' : World} {base : Nat} {t : TypeId} {size n : Nat} {v : Value} {xs : List Value} (h : W.ownsRow base t size v n xs) (hb : Below W.heap.size W W') : W'.ownsRow base t size v n xs := by
  obtain ⟨h0, h⟩ := h
  refine ⟨h0, ?_⟩
  rcases h with h | ⟨g, cap, cur, e, hbase, hg, h1, h2, h3, h4⟩
  · exact .inl h
  · exact .inr ⟨g, cap, cur, e, hbase, (hb.block g (Array.getElem?_eq_some_iff.1 hg).1).trans hg, h1, h2, h3, h4⟩

theorem rdecode_at {W : World} {b off c k : Nat} {l : List Int} (hs : By W (some ⟨b, off, none⟩) l) (_hk : k ≤ l.length) : Calls Tryz.prog 49 #[.slice (some ⟨b, off + k, none⟩) (l.length - k) c] W (DecPost W (l.drop k)) := by
  have := rdec_c (c := c) (hs.drop k)
  rwa [List.length_drop] at this
set_option maxRecDepth 100000 in
set_option maxHeartbeats 2000000 in
theorem rchars_c {W : World} {A : Option Addr} {c : Nat} {l : List Int} (hs : By W A l) (hl : l.length ≤ 1000000) (hlc : l.length ≤ c) : Calls Tryz.prog 37 #[.slice A l.length c] W (CharsPost W l) := by
  obtain ⟨i0, hi, hz0, hz1, hz2⟩ := info_parts infoC
  obtain ⟨w, hwW⟩ : ∃ w, w = W := ⟨_, rfl⟩
  rw [← hwW] at hs ⊢
  clear hwW
  have HS := Lib.hid hs
  clear hs
  go_enter Tryz.func37, Tryz.ntmps37
  go_wp2
  go_loopg [3, 4] l.length (fun g s3 s4 wx => ∃ (k : Nat) (done : List Ch), k + g = l.length ∧ s4 = .int .i64 k ∧ done.length ≤ k ∧ Hid (chars 0 l = done ++ chars k (l.drop k)) ∧ wx.ownsRow w.heap.size 83 3 s3 done.length (cellsC done) ∧ Below w.heap.size w wx)
  case atStart => exact ⟨0, [], by omega, rfl, by simp, Lib.hid (by simp), World.ownsRow_nil _ _ _ _, Below.refl _ _⟩
  case round =>
    obtain ⟨k, done, hkg, rfl, hdk, HE, hown, hb⟩ := hrel
    by_cases hk : k < l.length
    · have hkz : (k : Int) < (l.length : Int) := by omega
      have hs := HS.out.step hb
      obtain ⟨b, off, rfl, hbb, _⟩ := hs.2 (by intro h; rw [h] at hk; simp at hk)
      have hkl : k ≤ l.length := by omega
      have hkc : ¬ (c = k) := by omega
      have hne : l.drop k ≠ [] := by intro h; have := congrArg List.length h; simp at this; omega
      have hok := dec_ok (hs.1.drop k) hne
      have hst := chars_step (hs.1.drop k) hne k
      unfold DecOk at hok
      rw [List.length_drop] at hok
      have HST := Lib.hid hst
      have HSB := Lib.hid hs
      have hdc := rdecode_at (c := c - k) (k := k) hs hkl
      have HDC := Lib.hid hdc
      clear hst hs hne hdc
      go_wp2_with fail
      refine HDC.out.mono ?_
      rintro e w1 ⟨rfl, b1⟩
      unfold decV
      obtain ⟨p, hp⟩ : ∃ p, dec (l.drop k) = p := ⟨_, rfl⟩
      rw [hp] at HST hok ⊢
      obtain ⟨r, n⟩ := p
      dsimp only at *
      have hn1 := hok.1
      have hn2 := hok.2.1
      have HP := Lib.hid hp
      have hb1 := hb.trans (b1.mono hb.size)
      have hsz := hb1.size
      have hown1 := own_below hown b1
      clear hp hok hown hb b1 HDC
      go_wp2_with (at_builtin; refine wpList_append_own _ rfl _ _ 80 rfl w.heap.size 83 i0 (.agg #[.int .i64 0, .int .i64 0, .int .i64 0]) 3 24 Tryz.underlying80 hi hz0 hz1 hz2 rfl (by decide) _ _ _ rfl (hown1.alloc _) ⟨w1.heap.size, 0, none⟩ 1 1 [.int .i64 r, .int .i64 k, .int .i64 n] rfl rfl (cell_news _ _ _) (by simp [Value.oneCell']) (by unfold maxLen; omega) (by omega) (by rw [World.size_alloc]; omega) ?_; intro v' w2 hown' hgrow _)
      go_roundg (gk - n)
      case measure => omega
      case rel => exact ⟨k + n, done ++ [(r, k, n)], by omega, by go_num, by simp; omega, Lib.hid (by rw [HE.out, HST.out, List.drop_drop]; simp), by rw [cellsC_append, List.length_append]; exact hown', (hb1.alloc hsz _).grown hgrow (by rw [World.size_alloc]; omega) (fun j hj => (hown1.lt j hj).1)⟩
    · have hkz : ¬ ((k : Int) < (l.length : Int)) := by omega
      have hfin : chars 0 l = done := by rw [HE.out, show l.drop k = [] from List.drop_eq_nil_of_le (by omega), chars_nil]; simp
      have HF := Lib.hid hfin
      clear hfin
      go_wp2
      go_ret
      rw [← HF.out] at hown
      obtain ⟨P, cp, rfl, hcs⟩ := chars_of hown
      exact ⟨P, cp, rfl, hcs, hb⟩

set_option maxRecDepth 100000 in
set_option maxHeartbeats 2000000 in
theorem rfirst_c {W : World} {A : Option Addr} {c : Nat} {l : List Int} (hs : By W A l) (hl : l.length ≤ 1000000) (hlc : l.length ≤ c) : Calls Tryz.prog 23 #[.slice A l.length c] W fun e W' => e = .returned (.int .i64 (first l)) ∧ Below W.heap.size W W' := by
  obtain ⟨w, hwW⟩ : ∃ w, w = W := ⟨_, rfl⟩
  rw [← hwW] at hs ⊢
  clear hwW
  have hcl := chars_len_le l hs.1 0
  have HS := Lib.hid hs
  clear hs
  go_enter Tryz.func23, Tryz.ntmps23
  go_wp2_with fail
  refine (rchars_c HS.out hl hlc).mono ?_
  rintro e w1 ⟨P, cp, rfl, hcs, b1⟩
  have HCS := Lib.hid hcs
  have HFI : Hid (first l = firstOf ((chars 0 l).drop 0)) := Lib.hid rfl
  clear hcs
  generalize chars 0 l = cs at *
  go_wp2
  go_loopg [4] cs.length (fun g s4 wx => ∃ (k : Nat), k + g = cs.length ∧ s4 = .int .i64 k ∧ Hid (first l = firstOf (cs.drop k)) ∧ w1 = wx)
  case atStart => exact ⟨0, by omega, rfl, HFI, rfl⟩
  case round =>
    obtain ⟨k, hkg, rfl, HF, rfl⟩ := hrel
    cases gk with
    | zero =>
      have hkz : ¬ ((k : Int) < (cs.length : Int)) := by omega
      have hfin : first l = -1 := by rw [HF.out, List.drop_eq_nil_of_le (by omega)]; rfl
      have HR := Lib.hid hfin
      clear hfin
      go_wp2
      go_ret
      refine ⟨?_, b1⟩
      rw [HR.out]; rfl
    | succ g =>
      have hk : k < cs.length := by omega
      have hkz : (k : Int) < (cs.length : Int) := by omega
      obtain ⟨b, off, rfl, hbb, hc⟩ := HCS.out (by intro h; rw [h] at hk; simp at hk)
      obtain ⟨c0, c1, _⟩ := hc k hk
      have hdr : cs.drop k = cs[k] :: cs.drop (k + 1) := (List.getElem_cons_drop hk).symm
      have HDR := Lib.hid hdr
      clear hc hdr
      generalize cs[k] = y at *
      obtain ⟨r, at0, n0⟩ := y
      dsimp only at *
      by_cases hr : r < 0
      · have HR : Hid (first l = at0) := Lib.hid (by rw [HF.out, HDR.out, firstOf_bad hr])
        go_wp2
        go_ret
        refine ⟨?_, b1⟩
        rw [HR.out]; rfl
      · have HN : Hid (first l = firstOf (cs.drop (k + 1))) := Lib.hid (by rw [HF.out, HDR.out, firstOf_good (by simp only; omega)])
        go_wp2
        go_roundg g
        case measure => omega
        case rel => exact ⟨k + 1, by omega, by go_num, HN, rfl⟩
end Go.Proofs.YtdcnfflleaplnaaGreatDoor.U
