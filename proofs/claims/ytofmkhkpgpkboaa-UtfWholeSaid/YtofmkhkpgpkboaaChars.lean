/- utf.Chars: all chars of bytes. -/
import Derived.Test.YtofmkhkpgpkboaaDec
namespace Go.Proofs.Ytofmkhkpgpkboaa
open Go.RowKit Go.Shelf UtfM

def encC (c : Ch) : List Value := [.int .i64 c.1, .int .i64 (c.2.1 : Int), .int .i64 (c.2.2 : Int)]
def cellsC (l : List Ch) : List Value := l.flatMap encC
theorem cellsC_append (a b : List Ch) : cellsC (a ++ b) = cellsC a ++ cellsC b := by simp [cellsC]
theorem infoC : (Try.prog.info? 30).map (fun i => (i.zero, i.size, i.bytes)) = some (some (.agg #[.int .i64 0, .int .i64 0, .int .i64 0]), 3, 24) := by kernel_rfl
theorem cell_news (w : World) (l : List Value) (t : TypeId) : ∀ j u, l[j]? = some u → (w.alloc (.cells l.toArray t)).cell? ((⟨w.heap.size, 0, none⟩ : Addr).add j) = some u := by
  intro j u hj
  have : ((⟨w.heap.size, 0, none⟩ : Addr).add j) = ⟨w.heap.size, j, none⟩ := by unfold Addr.add; split <;> simp_all
  rw [this, cell_of_row _ w.heap.size j l.toArray t (0, 0) (heap_alloc_new w _)]
  simpa using hj
theorem cellsC_get : ∀ (l : List Ch) (j : Nat), j < l.length * 3 → (cellsC l)[j]? = (encC (l[j / 3]?.getD default))[j % 3]?
  | [], j, h => by simp at h
  | m :: t, j, h => by
    have e : cellsC (m :: t) = encC m ++ cellsC t := rfl
    rw [e]
    by_cases hj : j < 3
    · rw [List.getElem?_append_left (by simpa [encC] using hj), Nat.div_eq_of_lt hj, Nat.mod_eq_of_lt hj]; simp
    · rw [List.getElem?_append_right (by simp [encC]; omega)]
      have h3 : (encC m).length = 3 := rfl
      rw [h3, cellsC_get t (j - 3) (by simp at h; omega), show j / 3 = (j - 3) / 3 + 1 from by omega, show (j - 3) % 3 = j % 3 from by omega]
      simp
/-- A slice of chars. -/
def Cs (W : World) (P : Option Addr) (l : List Ch) : Prop :=
  l ≠ [] → ∃ b off, P = some ⟨b, off, none⟩ ∧ b < W.heap.size ∧ ∀ j (h : j < l.length), W.cell? ⟨b, off + j * 3, none⟩ = some (.int .i64 l[j].1) ∧ W.cell? ⟨b, off + j * 3 + 1, none⟩ = some (.int .i64 (l[j].2.1 : Int)) ∧ W.cell? ⟨b, off + j * 3 + 2, none⟩ = some (.int .i64 (l[j].2.2 : Int))
theorem Cs.step {W W' : World} {P : Option Addr} {l : List Ch} (h : Cs W P l) (hb : Below W.heap.size W W') : Cs W' P l := fun hne => by
  obtain ⟨b, off, e, hbb, hc⟩ := h hne
  have := hb.size
  exact ⟨b, off, e, by omega, fun j hj => ⟨(hb.cell (p := ⟨b, off + j * 3, none⟩) hbb).trans (hc j hj).1, (hb.cell (p := ⟨b, off + j * 3 + 1, none⟩) hbb).trans (hc j hj).2.1, (hb.cell (p := ⟨b, off + j * 3 + 2, none⟩) hbb).trans (hc j hj).2.2⟩⟩
theorem chars_of {W : World} {base : Nat} {v : Value} {l : List Ch} (h : W.ownsRow base 30 3 v l.length (cellsC l)) : ∃ P c, v = .slice P l.length c ∧ Cs W P l := by
  rcases h.2 with ⟨rfl, h0⟩ | ⟨g, cap, cur, rfl, hb, hg, h1, h2, h3, h4⟩
  · exact ⟨none, 0, by rw [h0], fun hne => absurd (List.eq_nil_of_length_eq_zero h0) hne⟩
  · refine ⟨_, cap, rfl, fun _ => ⟨g, 0, rfl, (Array.getElem?_eq_some_iff.1 hg).1, fun j hj => ?_⟩⟩
    have key : ∀ i, i < l.length * 3 → W.cell? ⟨g, i, none⟩ = (cellsC l)[i]? := fun i hi => by
      rw [cell_of_row W g i cur _ _ hg, ← h4, List.getElem?_take_of_lt hi, Array.getElem?_toList]
    have hd : ∀ i, i < 3 → W.cell? ⟨g, 0 + j * 3 + i, none⟩ = (encC l[j])[i]? := fun i hi => by
      rw [key _ (by omega), cellsC_get l _ (by omega), show (0 + j * 3 + i) / 3 = j from by omega, show (0 + j * 3 + i) % 3 = i from by omega, List.getElem?_eq_getElem hj]; rfl
    exact ⟨hd 0 (by omega), hd 1 (by omega), hd 2 (by omega)⟩
def CharsPost (w : World) (l : List Int) (e : Ending) (w' : World) : Prop :=
  ∃ P c, e = .returned (.slice P (chars 0 l).length c) ∧ Cs w' P (chars 0 l) ∧ Below w.heap.size w w'
theorem own_below {W W' : World} {base : Nat} {t : TypeId} {size n : Nat} {v : Value} {xs : List Value} (h : W.ownsRow base t size v n xs) (hb : Below W.heap.size W W') : W'.ownsRow base t size v n xs := by
  obtain ⟨h0, h⟩ := h
  refine ⟨h0, ?_⟩
  rcases h with h | ⟨g, cap, cur, e, hbase, hg, h1, h2, h3, h4⟩
  · exact .inl h
  · exact .inr ⟨g, cap, cur, e, hbase, (hb.block g (Array.getElem?_eq_some_iff.1 hg).1).trans hg, h1, h2, h3, h4⟩
theorem decode_at {W : World} {b off c k : Nat} {l : List Int} (hs : By W (some ⟨b, off, none⟩) l) (_hk : k ≤ l.length) : Calls Try.prog 15 #[.slice (some ⟨b, off + k, none⟩) (l.length - k) c] W (DecPost W (l.drop k)) := by
  have := decode_c (c := c) (hs.drop k)
  rwa [List.length_drop] at this

set_option maxRecDepth 100000 in
set_option maxHeartbeats 2000000 in
theorem chars_c {W : World} {A : Option Addr} {c : Nat} {l : List Int} (hs : By W A l) (hl : l.length ≤ 1000000) (hlc : l.length ≤ c) : Calls Try.prog 13 #[.slice A l.length c] W (CharsPost W l) := by
  obtain ⟨i0, hi, hz0, hz1, hz2⟩ := info_parts infoC
  obtain ⟨w, hwW⟩ : ∃ w, w = W := ⟨_, rfl⟩
  rw [← hwW] at hs ⊢
  clear hwW
  have HS := Lib.hid hs
  clear hs
  go_enter Try.func13, Try.ntmps13
  go_wp2
  go_loopg [3, 4] l.length (fun g s3 s4 wx => ∃ (k : Nat) (done : List Ch), k + g = l.length ∧ s4 = .int .i64 k ∧ done.length ≤ k ∧ Hid (chars 0 l = done ++ chars k (l.drop k)) ∧ wx.ownsRow w.heap.size 30 3 s3 done.length (cellsC done) ∧ Below w.heap.size w wx)
  case atStart => exact ⟨0, [], by omega, rfl, by simp, Lib.hid (by simp), World.ownsRow_nil _ _ _ _, Below.refl _ _⟩
  case round =>
    obtain ⟨k, done, hkg, rfl, hdk, HE, hown, hb⟩ := hrel
    by_cases hk : k < l.length
    · have hkz : (k : Int) < (l.length : Int) := by omega
      have hs := HS.out.step hb
      obtain ⟨b, off, rfl, hbb, _⟩ := hs.2 (by intro h; rw [h] at hk; simp at hk)
      have hkl : k ≤ l.length := by omega
      have hkc : ¬ (c = k) := by omega
      have hne : l.drop k ≠ [] := by intro h; have := congrArg List.length h; simp at this; omega
      have hok := dec_ok (hs.1.drop k) hne
      have hst := chars_step (hs.1.drop k) hne k
      unfold DecOk at hok
      rw [List.length_drop] at hok
      have HST := Lib.hid hst
      have HSB := Lib.hid hs
      have hdc := decode_at (c := c - k) (k := k) hs hkl
      have HDC := Lib.hid hdc
      clear hst hs hne hdc
      go_wp2_with fail
      refine HDC.out.mono ?_
      rintro e w1 ⟨rfl, b1⟩
      unfold decV
      obtain ⟨p, hp⟩ : ∃ p, dec (l.drop k) = p := ⟨_, rfl⟩
      rw [hp] at HST hok ⊢
      obtain ⟨r, n⟩ := p
      dsimp only at *
      have hn1 := hok.1
      have hn2 := hok.2.1
      have HP := Lib.hid hp
      have hb1 := hb.trans (b1.mono hb.size)
      have hsz := hb1.size
      have hown1 := own_below hown b1
      clear hp hok hown hb b1 HDC
      go_wp2_with (at_builtin; refine wpList_append_own _ rfl _ _ 27 rfl w.heap.size 30 i0 (.agg #[.int .i64 0, .int .i64 0, .int .i64 0]) 3 24 Try.underlying27 hi hz0 hz1 hz2 rfl (by decide) _ _ _ rfl (hown1.alloc _) ⟨w1.heap.size, 0, none⟩ 1 1 [.int .i64 r, .int .i64 k, .int .i64 n] rfl rfl (cell_news _ _ _) (by simp [Value.oneCell']) (by unfold maxLen; omega) (by omega) (by rw [World.size_alloc]; omega) ?_; intro v' w2 hown' hgrow _)
      go_roundg (gk - n)
      case measure => omega
      case rel => exact ⟨k + n, done ++ [(r, k, n)], by omega, by go_num, by simp; omega, Lib.hid (by rw [HE.out, HST.out, List.drop_drop]; simp), by rw [cellsC_append, List.length_append]; exact hown', (hb1.alloc hsz _).grown hgrow (by rw [World.size_alloc]; omega) (fun j hj => (hown1.lt j hj).1)⟩
    · have hkz : ¬ ((k : Int) < (l.length : Int)) := by omega
      have hfin : chars 0 l = done := by rw [HE.out, show l.drop k = [] from List.drop_eq_nil_of_le (by omega), chars_nil]; simp
      have HF := Lib.hid hfin
      clear hfin
      go_wp2
      go_ret
      rw [← HF.out] at hown
      obtain ⟨P, cp, rfl, hcs⟩ := chars_of hown
      exact ⟨P, cp, rfl, hcs, hb⟩

set_option maxRecDepth 100000 in
set_option maxHeartbeats 2000000 in
theorem first_c {W : World} {A : Option Addr} {c : Nat} {l : List Int} (hs : By W A l) (hl : l.length ≤ 1000000) (hlc : l.length ≤ c) : Calls Try.prog 19 #[.slice A l.length c] W fun e W' => e = .returned (.int .i64 (first l)) ∧ Below W.heap.size W W' := by
  obtain ⟨w, hwW⟩ : ∃ w, w = W := ⟨_, rfl⟩
  rw [← hwW] at hs ⊢
  clear hwW
  have HS := Lib.hid hs
  clear hs
  go_enter Try.func19, Try.ntmps19
  go_wp2
  go_loopg [3] l.length (fun g s3 wx => ∃ (k : Nat), k + g = l.length ∧ s3 = .int .i64 k ∧ Hid (first l = firstOf (chars k (l.drop k))) ∧ Below w.heap.size w wx)
  case atStart => exact ⟨0, by omega, rfl, Lib.hid (by simp [first]), Below.refl _ _⟩
  case round =>
    obtain ⟨k, hkg, rfl, HE, hb⟩ := hrel
    by_cases hk : k < l.length
    · have hkz : (k : Int) < (l.length : Int) := by omega
      have hs := HS.out.step hb
      obtain ⟨b, off, rfl, hbb, _⟩ := hs.2 (by intro h; rw [h] at hk; simp at hk)
      have hkl : k ≤ l.length := by omega
      have hkc : ¬ (c = k) := by omega
      have hne : l.drop k ≠ [] := by intro h; have := congrArg List.length h; simp at this; omega
      have hok := dec_ok (hs.1.drop k) hne
      have hst := chars_step (hs.1.drop k) hne k
      unfold DecOk at hok
      rw [List.length_drop] at hok
      have HST := Lib.hid hst
      have hdc := decode_at (c := c - k) (k := k) hs hkl
      have HDC := Lib.hid hdc
      clear hst hs hne hdc
      go_wp2_with fail
      refine HDC.out.mono ?_
      rintro e w1 ⟨rfl, b1⟩
      unfold decV
      obtain ⟨p, hp⟩ : ∃ p, dec (l.drop k) = p := ⟨_, rfl⟩
      rw [hp] at HST hok ⊢
      obtain ⟨r, n⟩ := p
      dsimp only at *
      have hn1 := hok.1
      have hn2 := hok.2.1
      have hb1 := hb.trans (b1.mono hb.size)
      rcases hok.2.2 with hr | hr
      · have hr1 := hr.1
        subst hr1
        have HF : Hid (first l = k) := Lib.hid (by rw [HE.out, HST.out, firstOf_bad (by simp)])
        clear hok hb b1 HDC hr hp
        go_wp2
        go_ret
        refine ⟨?_, hb1⟩
        rw [HF.out]; rfl
      · have hr0 : 0 ≤ r := by have := hr.1; unfold Sc at this; omega
        have hr1 : (r == -1) = false := by rw [beq_eq_false_iff_ne]; omega
        have HF : Hid (first l = firstOf (chars (k + n) (l.drop (k + n)))) := Lib.hid (by rw [HE.out, HST.out, firstOf_good (by simpa using hr0), List.drop_drop])
        clear hok hb b1 HDC hr hp
        go_wp2
        go_roundg (gk - n)
        case measure => omega
        case rel => exact ⟨k + n, by omega, by go_num, HF, hb1⟩
    · have hkz : ¬ ((k : Int) < (l.length : Int)) := by omega
      have hfin : first l = -1 := by rw [HE.out, show l.drop k = [] from List.drop_eq_nil_of_le (by omega), chars_nil]; rfl
      have HF := Lib.hid hfin
      clear hfin
      go_wp2
      go_ret
      refine ⟨?_, hb⟩
      rw [HF.out]; rfl
end Go.Proofs.Ytofmkhkpgpkboaa
