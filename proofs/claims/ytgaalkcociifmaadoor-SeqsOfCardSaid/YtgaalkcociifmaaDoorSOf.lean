/- seqs.Of: the rows of what spans tell. -/
import Derived.Test.YtgaalkcociifmaaDoorSRows
namespace Go.Proofs.YtgaalkcociifmaaDoor
open Go.RowKit Go.Shelf SeqM
open U.UtfM (enc)
attribute [local go_sem] Oper.semAt_some

theorem infoR : (Tryd.prog.info? 37).map (fun i => (i.zero, i.size, i.bytes)) = some (some (.slice none 0 0), 1, 24) := by kernel_rfl
theorem rowOf_rg (s : Sp) : ∀ x ∈ rowOf s, IsRg x := fun x hx => by
  unfold rowOf at hx
  have h1 := List.of_mem_zip (a := x.1) (b := x.2) hx
  have a := U.UtfM.enc_bytes s.1 x.1 h1.1
  have b := U.UtfM.enc_bytes s.2 x.2 h1.2
  exact ⟨a.1, a.2, b.1, b.2⟩
theorem rgs_of {X : World} {x : RowEl} (h : RowIn x X) : Rgs X (some ⟨x.1, 0, none⟩) (rowOf x.2.2) := by
  refine ⟨rowOf_rg _, fun _ => ⟨x.1, 0, rfl, (Array.getElem?_eq_some_iff.1 h).1, fun j hj => ?_⟩⟩
  have hd : ∀ i, i < 2 → X.cell? ⟨x.1, 0 + j * 2 + i, none⟩ = (encR (rowOf x.2.2)[j])[i]? := fun i hi => by
    rw [cell_of_row X x.1 _ _ _ _ h, List.getElem?_toArray, cellsR_get _ _ (by omega), show (0 + j * 2 + i) / 2 = j from by omega, show (0 + j * 2 + i) % 2 = i from by omega, List.getElem?_eq_getElem hj]; rfl
  exact ⟨hd 0 (by omega), hd 1 (by omega)⟩
def sv (x : RowEl) : Value := .slice (some ⟨x.1, 0, none⟩) (rowOf x.2.2).length x.2.1
/-- A slice of the call's own, read as rows. -/
theorem rws_of {X : World} {base : Nat} {v : Value} {zs : List RowEl} {L : List Sp} (h : X.ownsRow base 37 1 v zs.length (zs.map sv)) (hin : ∀ x ∈ zs, RowIn x X) (hL : zs.map (·.2.2) = L) :
    ∃ P c, v = .slice P (L.map rowOf).length c ∧ Rws X P (L.map rowOf) := by
  subst hL
  rcases h.2 with ⟨rfl, h0⟩ | ⟨g, cap, cur, rfl, hb, hg, h1, h2, h3, h4⟩
  · refine ⟨none, 0, by simp [h0], fun hne => absurd ?_ hne⟩
    rw [List.eq_nil_of_length_eq_zero h0]; rfl
  · refine ⟨_, cap, by simp, fun _ => ⟨g, 0, rfl, (Array.getElem?_eq_some_iff.1 hg).1, fun j hj => ?_⟩⟩
    have hjz : j < zs.length := by simpa using hj
    refine ⟨some ⟨zs[j].1, 0, none⟩, zs[j].2.1, ?_, ?_⟩
    · rw [cell_of_row X g _ cur _ _ hg, ← Array.getElem?_toList, Nat.zero_add]
      have h5 := congrArg (fun (l : List Value) => l[j]?) h4
      simp only [Nat.mul_one] at h5
      rw [List.getElem?_take_of_lt hjz, List.getElem?_map, List.getElem?_eq_getElem hjz] at h5
      rw [h5]
      simp [sv]
    · have := rgs_of (hin zs[j] (List.getElem_mem hjz))
      simpa using this
theorem keepC {B : Nat} {X Y : World} {row : Option Nat} {k : Nat} {cs : Array Value} {t : TypeId} {fr : Nat × Nat} (e : X.heap[k]? = some (.cells cs t fr)) (ht : t ≠ 43) (hg : X.grownBy Y row)
    (hr : ∀ r, row = some r → B ≤ r ∧ ∃ o : Obj, X.heap[r]? = some o ∧ (o.isCells = false ∨ ∃ cs fr, o = .cells cs 43 fr)) : Y.heap[k]? = some (.cells cs t fr) := by
  refine (hg.block k (Array.getElem?_eq_some_iff.1 e).1 (fun he => ?_)).trans e
  obtain ⟨_, o, h1, h2⟩ := hr k he.symm
  rw [e] at h1
  cases h1
  rcases h2 with h | ⟨_, _, h⟩
  · cases h
  · cases h; exact ht rfl
/-- What has come lies in the box's row. -/
def OI (w : World) (Bo : Nat) (pre : List RowEl) (X : World) : Prop :=
  (∃ v, Boxed X Bo 27 v ∧ X.ownsRow w.heap.size 37 1 v pre.length (pre.map sv)) ∧ (∀ x ∈ pre, RowIn x X) ∧ Below w.heap.size w X
theorem OI_abide {w : World} {Bo B : Nat} (hB : w.heap.size ≤ B) : AbideR B (OI w Bo) := fun s X Y row ⟨⟨v, h1, h2⟩, h3, h4⟩ hg hr => by
  refine ⟨⟨v, keepC h1 (by decide) hg hr, h2.1, ?_⟩, fun x hx => keepC (h3 x hx) (by decide) hg hr, h4.grown hg h4.size (fun k e => by have := (hr k e).1; omega)⟩
  rcases h2.2 with h | ⟨g, cap, cur, e, hb, hgb, h5⟩
  · exact .inl h
  · exact .inr ⟨g, cap, cur, e, hb, keepC hgb (by decide) hg hr, h5⟩
/-- A row more: what a round keeps. -/
theorem kr_appended {W w1 : World} {n₀ B Bo k : Nat} {v v' : Value} {xs : List Value} {tmp : Obj} (hv : Boxed W Bo 27 v) (hrow : W.ownsRow n₀ 37 1 v k xs)
    (hgrow : (W.alloc tmp).grownBy w1 v.ownBlock) (hb : Below n₀ W (w1.setCell ⟨Bo, 0, none⟩ v')) (hk : KeepsOthers W (w1.setCell ⟨Bo, 0, none⟩ v')) : Kr n₀ B W (w1.setCell ⟨Bo, 0, none⟩ v') := by
  refine ⟨hb, fun j cs t fr ht e => ?_, hk.from B⟩
  have hlt : j < W.heap.size := (Array.getElem?_eq_some_iff.1 e).1
  have e1 : (W.alloc tmp).heap[j]? = some (.cells cs t fr) := (Below.heap_alloc W tmp j hlt).trans e
  have hne : some j ≠ v.ownBlock := fun he => by
    rcases hrow.2 with ⟨rfl, _⟩ | ⟨g, cap, cur, rfl, _, hgb, _⟩
    · simp [Value.ownBlock] at he
    · obtain rfl : j = g := by simpa [Value.ownBlock] using he
      rw [e] at hgb
      cases hgb
      rcases ht with h | h <;> exact absurd h (by decide)
  have e2 := (hgrow.block j (by simp; omega) hne).trans e1
  have hjb : j ≠ Bo := fun he => by
    subst he
    have h2 : W.heap[j]? = _ := hv
    rw [e] at h2
    cases h2
    rcases ht with h | h <;> exact absurd h (by decide)
  exact ((grownBy_setCell' w1 Bo v').block j (Array.getElem?_eq_some_iff.1 e2).1 (by simpa using hjb)).trans e2
theorem rowIn_kept {W W' : World} {row : Option Nat} {x : RowEl} (h : RowIn x W) (hg : W.grownBy W' row) (hr : ∀ r, row = some r → ∃ cs t fr, W.heap[r]? = some (.cells cs t fr) ∧ t ≠ 64) : RowIn x W' := by
  refine (hg.block x.1 (Array.getElem?_eq_some_iff.1 h).1 (fun he => ?_)).trans h
  obtain ⟨cs, t, fr, h1, h2⟩ := hr x.1 he.symm
  have h3 : W.heap[x.1]? = _ := h
  rw [h1] at h3
  cases h3
  exact h2 rfl
theorem rowIn_put {x : RowEl} {X : World} {l : Nat} {o : Obj} (o' : Obj) (hl : X.heap[l]? = some o) (ho : o.isCells = false) (h : RowIn x X) : RowIn x (X.putObj l o') :=
  (World.putObj_heap_other (fun e => by subst e; have h2 : X.heap[x.1]? = _ := h; rw [hl] at h2; cases h2; cases ho)).trans h
theorem rowIn_appended {W w1 : World} {n₀ Bo k : Nat} {v v' : Value} {xs : List Value} {tmp : Obj} {x : RowEl} (hv1 : Boxed w1 Bo 27 v) (hrow : W.ownsRow n₀ 37 1 v k xs)
    (hgrow : (W.alloc tmp).grownBy w1 v.ownBlock) (h : RowIn x W) : RowIn x (w1.setCell ⟨Bo, 0, none⟩ v') := by
  have h1 : RowIn x (W.alloc tmp) := rowIn_kept h (World.grownBy_alloc W tmp none) (fun _ e => by cases e)
  have h2 : RowIn x w1 := rowIn_kept h1 hgrow (fun r e => by
    rcases (hrow.alloc tmp).2 with ⟨rfl, _⟩ | ⟨g, cap, cur, rfl, _, hgb, _⟩
    · simp [Value.ownBlock] at e
    · obtain rfl : g = r := by simpa [Value.ownBlock] using e
      exact ⟨_, _, _, hgb, by decide⟩)
  exact rowIn_kept h2 (grownBy_setCell' w1 Bo v') (fun r e => by cases e; exact ⟨_, _, _, hv1, by decide⟩)
theorem partsTo_len (s : Sp) (k : Nat) : (partsTo s k).length ≤ k := by
  induction k with
  | zero => simp [partsTo]
  | succ k ih =>
    rw [partsTo_succ, List.length_append]
    have : (pieceAt s k).length ≤ 1 := by unfold pieceAt; split <;> simp
    omega
theorem parts_len (l : List Sp) : (parts l).length ≤ 4 * l.length := by
  induction l with
  | nil => simp [parts]
  | cons s t ih =>
    have e : parts (s :: t) = partsOf s ++ parts t := by unfold parts; rw [List.flatMap_cons]
    have := partsTo_len s 4
    rw [e, List.length_append, List.length_cons]
    unfold partsOf
    omega

def OfPost (w : World) (xs : List SetM.Sp) (e : Ending) (w' : World) : Prop :=
  ∃ P c, e = .returned (.slice P (rowsOf (nrm xs)).length c) ∧ Rws w' P (rowsOf (nrm xs)) ∧ Below w.heap.size w w'

set_option maxRecDepth 100000 in
set_option maxHeartbeats 2000000 in
theorem of_in (A : Option Addr) (cap : Nat) (xs : List SetM.Sp) (hlen : xs.length ≤ 1000) (w : World) (h0 : 1 < w.heap.size) (h1 : 0 < w.heap.size) (hA : Areas w) (hL : Lens w) (hS : Spans w.heap.size w A xs) :
    CallsIn Fence.wide 6 Tryd.prog 13 #[.slice A xs.length cap] w (OfPost w xs) := by
  obtain ⟨F, hFw⟩ : ∃ F, F = Fence.wide := ⟨_, rfl⟩
  have hro : F.round = none := by rw [hFw]; rfl
  have hF : ∀ f, F.fn f := fun f => by rw [hFw]; trivial
  rw [← hFw]
  have hf13 := hF 13
  have hf35 := hF 35
  have hf55 := hF 55
  have HFw := Lib.hid hFw
  clear hF hFw
  obtain ⟨i0, hi, hz0, hz1, hz2⟩ := info_parts infoR
  have hN : (parts (nrm xs)).length * 1114112 ≤ 10000000000 := by
    have := parts_len (nrm xs)
    have := nrm_len xs
    omega
  refine callsIn_of_wp_marks Tryd.func13 rfl hf13 ?_ hro
  simp only [Tryd.ntmps13, List.size_toArray, List.length_cons, List.length_nil, Nat.reduceAdd, Nat.reduceSub, Array.replicate_succ, Array.replicate_zero, List.push_toArray, List.append_toArray, List.nil_append, List.cons_append]
  gi_wp2_with (gi_at_call 35; refine (toIn (n := 5) HFw (eachRow_c _ _ _ _)).mono ?_; rintro e w' ⟨rfl, rfl⟩)
  have bO := Boxed.new w 27 (.slice none 0 0)
  have bN := Boxed.new (w.alloc (.cells #[.slice none 0 0] 27)) 25 (.slice A xs.length cap)
  rw [World.size_alloc] at bN
  have bO2 := bO.alloc (.cells #[.slice A xs.length cap] 25)
  have b2 : Below w.heap.size w ((w.alloc (.cells #[.slice none 0 0] 27)).alloc (.cells #[.slice A xs.length cap] 25)) := ((Below.refl _ w).alloc (Nat.le_refl _) _).alloc (by simp) _
  clear bO
  generalize ((w.alloc (.cells #[.slice none 0 0] 27)).alloc (.cells #[.slice A xs.length cap] 25)) = W2 at *
  have hz : w.heap.size ≤ W2.heap.size := b2.size
  generalize hNN : (parts (nrm xs)).length * 1114112 = N at *
  refine wpIn_range_all (α := RowEl) hro (by omega) (gf := 55) (lb := #[.pointer (some ⟨w.heap.size + 1, 0, none⟩)]) rfl hf55 (enters_of Tryd.func55 (by kernel_rfl) rfl)
    (hNN ▸ rows_all HFw 5 (by omega) (w.heap.size + 1) w.heap.size h0 h1 A cap xs hlen W2 bN.lt hz bN.cell (hA.below b2 h0) (hL.below b2 h1) (hS.below b2))
    (fun x X l o o' hl ho hx => rowIn_put o' hl ho hx) hz (Below.refl _ _) (fun _ => rfl)
    (OI w w.heap.size) (OI_abide hz) ⟨⟨_, bO2, World.ownsRow_nil _ _ _ _⟩, fun x hx => by simp at hx, b2⟩
    (fun x => { tmps := #[.slice A xs.length cap, undef, .slice none 0 0, .pointer (some ⟨w.heap.size, 0, none⟩), sv x, .slice A xs.length cap, .func (.func 55) #[] #[.pointer (some ⟨w.heap.size + 1, 0, none⟩)], sv x, undef, undef, undef, undef, undef], defers := [] }) ?assign ?body ?done
  case assign =>
    intro l x X K hK
    simp only [rowE]
    simp only [sv] at hK
    gi_wp2
    exact hK
  case body =>
    rintro l pre x X ⟨⟨v, bO, hrow⟩, hin, hB⟩ hx hpl
    have hco := bO.cell
    have hfo := bO.frozen
    simp only [sv]
    gi_wp2_with (gi_at_builtin; refine wpListIn_append_own _ rfl _ _ 27 rfl w.heap.size 37 i0 (.slice none 0 0) 1 24 Tryd.underlying27 hi hz0 hz1 hz2 rfl (by decide) _ _ _ rfl (hrow.alloc _) ⟨X.heap.size, 0, none⟩ 1 1 [.slice (some ⟨x.1, 0, none⟩) (rowOf x.2.2).length x.2.1] rfl rfl (cell_news _ _ _) (by simp [Value.oneCell']) (by unfold maxLen; omega) (by omega) (by have := hB.size; simp; omega) ?_; intro v' w1 hown' hgrow _; obtain ⟨g', cap', rfl⟩ := ownsRow_succ hown'; obtain ⟨hv1, hv2, hr2, hk2, hb2⟩ := bO.appended (by decide) hrow hB.size (Nat.le_refl _) hown' hgrow; have hc1 := hv1.cell; have hf1 := hv1.frozen)
    refine ⟨kr_appended bO hrow hgrow hb2 hk2, ⟨_, hv2, by rw [List.length_append, List.map_append]; exact hr2⟩, fun y hy => rowIn_appended hv1 hrow hgrow ?_, hB.trans hb2⟩
    rcases List.mem_append.1 hy with hy | hy
    · exact hin y hy
    · rw [List.mem_singleton.1 hy]; exact hx
  case done =>
    rintro D zs X hD hS' ⟨⟨v, bO, hrow⟩, hin, hB⟩ hK
    obtain ⟨P, c, rfl, hR⟩ := rws_of (ownsRow_putObj hrow (.deferred none) hK rfl) (fun x hx => rowIn_put _ hK rfl (hin x hx)) hS'
    have hco := bO.cell
    have hRW := rowsOf_leaves (nrm_scal xs)
    rw [← hRW] at hR hco
    have HR := Lib.hid hR
    clear hRW hR hrow hin bO
    gi_wp2
    refine ⟨by simp, .inl ⟨_, _, rfl, run_takeDeferred hK, ?_⟩⟩
    exact ⟨_, results_tmp rfl _ _ _, P, c, rfl, HR.out, hB.trans (belowK_b (w := w) (Nat.le_refl _) X D _ _ (by omega) hK rfl rfl)⟩
theorem of_any (A : Option Addr) (cap : Nat) (xs : List SetM.Sp) (hlen : xs.length ≤ 1000) (w : World) (h0 : 1 < w.heap.size) (h1 : 0 < w.heap.size) (hA : Areas w) (hL : Lens w) (hS : Spans w.heap.size w A xs) :
    Calls Tryd.prog 13 #[.slice A xs.length cap] w (OfPost w xs) := callsIn_wide.1 (of_in A cap xs hlen w h0 h1 hA hL hS)
end Go.Proofs.YtgaalkcociifmaaDoor
