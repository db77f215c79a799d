/- Layer 3's calls as steps of a law's walk; the chapter's examples hold. -/
import Derived.Test.YtgaalkcociifmaaDoorSOf
import Derived.Test.YtgaalkcociifmaaDoorSCount
import Derived.Test.YtgaalkcociifmaaDoorSRowM
import Derived.Test.YtgaalkcociifmaaDoorKnown
import Derived.Test.YtgaalkcociifmaaDoorSteps
namespace Go.Proofs.YtgaalkcociifmaaDoor
open Go.RowKit Go.Shelf SeqM
open U.UtfM (enc)

/-- Where a law's walk stands: both tables are there. -/
structure Ctl (w W : World) : Prop where
  ctx : Ctx w W
  lens : Lens W
  pos : 0 < W.heap.size
theorem Ctl.start {w : World} (h0 : 1 < w.heap.size) (hA : Areas w) (h1 : 0 < w.heap.size) (hL : Lens w) : Ctl w w := ⟨Ctx.start h0 hA, hL, h1⟩
theorem Ctl.step {w W W' : World} (h : Ctl w W) (hb : Below W.heap.size W W') : Ctl w W' := ⟨h.ctx.step hb, h.lens.below hb h.pos, by have := hb.size; have := h.pos; omega⟩
theorem Ctl.below {w W : World} (h : Ctl w W) : Below w.heap.size w W := h.ctx.below
theorem nrm_set {l : List SetM.Sp} {K : Int → Prop} (h : IsSet l K) (hs : ∀ r, K r → SetM.Sc r) : nrm l = l := (nrm_eq h.1 (fun r => by rw [h.tells hs, h.2])).symm

def RowsStep (W : World) (rs : List (List Rg)) (e : Ending) (W' : World) : Prop := ∃ P c, e = .returned (.slice P rs.length c) ∧ Rws W' P rs ∧ Below W.heap.size W W'
theorem of_c {w W : World} {A : Option Addr} {ca : Nat} {l : List SetM.Sp} (hC : Ctl w W) (hs : Sl W A l) (hl : l.length ≤ 1000) : Calls Tryd.prog 13 #[.slice A l.length ca] W (RowsStep W (rowsOf (nrm l))) :=
  (of_any A ca l hl W hC.ctx.pos hC.pos hC.ctx.areas hC.lens hs).mono fun _ _ ⟨P, c, h1, h2, h3⟩ => ⟨P, c, h1, h2, h3⟩
theorem rows_len (l : List SetM.Sp) (hl : l.length ≤ 1000) : (rowsOf (nrm l)).length ≤ 10000000000 := by
  rw [rowsOf_leaves (nrm_scal l), List.length_map]
  have h1 := leavesP_len (parts (nrm l)) (good_parts (nrm_scal l))
  have h2 := parts_len (nrm l)
  have h3 := nrm_len l
  unfold leavesOf
  omega
theorem ups_of {l : List SetM.Sp} (h : SetM.Nf l) : Ups l := by
  induction l with
  | nil => exact List.Pairwise.nil
  | cons s t ih => exact List.pairwise_cons.2 ⟨fun u hu => by have := h.2.1 u hu; omega, ih h.2.2⟩
theorem ups_many : ∀ (L : List Sp) (lo hi : Int), Ups L → (∀ s ∈ L, lo ≤ s.1 ∧ s.1 ≤ s.2 ∧ s.2 ≤ hi) → 0 ≤ many L ∧ many L ≤ max 0 (hi - lo + 1)
  | [], lo, hi, _, _ => by simp [many]; omega
  | s :: t, lo, hi, hu, hs => by
    obtain ⟨h1, h2⟩ := List.pairwise_cons.1 hu
    obtain ⟨a, b, c⟩ := hs s (by simp)
    obtain ⟨h3, h4⟩ := ups_many t (s.2 + 1) hi h2 (fun u hu => by have := h1 u hu; obtain ⟨_, q, r⟩ := hs u (by simp [hu]); exact ⟨by omega, q, r⟩)
    rw [many_cons]
    omega
theorem leaf_in {s : Sp} (h : ∃ n, Leaf n s) : 0 ≤ s.1 ∧ s.1 ≤ s.2 ∧ s.2 ≤ 1114111 := by
  obtain ⟨n, hg, _⟩ := h
  exact SeqM.Good.in (n := n) (a := s.1) (b := s.2) hg
theorem rows_few (l : List SetM.Sp) (hl : l.length ≤ 1000) : Few (rowsOf (nrm l)) := by
  have hsc := nrm_scal l
  have hlf := leavesOf_leaf hsc
  have hup := leavesOf_ups hsc (ups_of (nrm_nf l))
  refine ⟨fun k => ?_, fun r hr k => ?_, by have := rows_len l hl; omega, fun r hr => by have := (rows_short hsc r hr).1; omega⟩
  · have e : countR ((rowsOf (nrm l)).take k) = many ((leavesOf (nrm l)).take k) := by
      rw [rowsOf_leaves hsc, ← List.map_take]
      unfold countR
      rw [countR_leaves _ (fun s hs => hlf s (List.mem_of_mem_take hs))]; omega
    rw [e]
    obtain ⟨h1, h2⟩ := ups_many _ 0 1114111 (hup.sublist (List.take_sublist k _)) (fun s hs => leaf_in (hlf s (List.mem_of_mem_take hs)))
    exact ⟨h1, by omega⟩
  · obtain ⟨h1, _, h3⟩ := rows_short hsc r hr
    obtain ⟨h4, h5⟩ := prodR_in (r.take k) (fun x hx => h3 x (List.mem_of_mem_take hx))
    have h6 : (r.take k).length ≤ 4 := by have := List.length_take_le' k r; omega
    have h7 := Bd_mono h6
    have e : Bd 4 = 4294967296 := by decide
    rw [e] at h7
    exact ⟨h4, by omega⟩
def CountStep (W : World) (n : Int) (e : Ending) (W' : World) : Prop := e = .returned (.int .i64 n) ∧ Below W.heap.size W W'
theorem count_c {W : World} {P : Option Addr} {c : Nat} (l : List SetM.Sp) (hl : l.length ≤ 1000) (hR : Rws W P (rowsOf (nrm l))) : Calls Tryd.prog 16 #[.slice P (rowsOf (nrm l)).length c] W (CountStep W (many (nrm l))) := by
  have h := count_any P c _ (rows_few l hl) W hR
  rw [count_rows (nrm_scal l)] at h
  exact h
theorem match_c {W : World} {P Q : Option Addr} {c d : Nat} (l : List SetM.Sp) (hl : l.length ≤ 1000) (b : List Int) (hR : Rws W P (rowsOf (nrm l))) (hB : U.By W Q b) : Calls Tryd.prog 17 #[.slice P (rowsOf (nrm l)).length c, .slice Q b.length d] W (MatchPost W (rowsOf (nrm l)) b) :=
  match_any P Q c d _ b (rows_few l hl).len (fun r hr => by have := (rows_few l hl).lens r hr; omega) W hR hB
/-- Which bytes the rows of a set take. -/
theorem takes_iff (l : List SetM.Sp) (b : List Int) : anyFits (rowsOf (nrm l)) b = true ↔ ∃ r, SetM.Tells l r ∧ b = enc r := by
  rw [match_rows (nrm_scal l)]
  constructor
  · rintro ⟨r, h, e⟩; exact ⟨r, (nrm_mem l r).1 h, e⟩
  · rintro ⟨r, h, e⟩; exact ⟨r, (nrm_mem l r).2 h, e⟩

/-! The examples. -/
theorem ka : nrm [(127, 128)] = [(127, 128)] := (nrm_eq (by simp [SetM.Nf]) (fun r => by simp [SetM.Tells, SetM.Mem, SetM.Sc]; omega)).symm
theorem kb : nrm [(2048, 65535)] = [(2048, 55295), (57344, 65535)] := (nrm_eq (by simp [SetM.Nf]) (fun r => by simp [SetM.Tells, SetM.Mem, SetM.Sc]; omega)).symm
theorem ka_rows : rowsOf [(127, 128)] = [[(127, 127)], [(194, 194), (128, 128)]] := by
  have e : parts [(127, 128)] = [(1, (127, 127)), (2, (128, 128))] := by decide
  unfold rowsOf
  rw [e, rowsP_cons, rowsP_cons, rowsP_nil, rows_none (show cutAt 1 127 127 = none by decide), rows_none (show cutAt 2 128 128 = none by decide)]
  decide
theorem kb_len : (rowsOf [(2048, 55295), (57344, 65535)]).length = 4 := by
  have e : parts [(2048, 55295), (57344, 65535)] = [(3, (2048, 55295)), (3, (57344, 65535))] := by decide
  unfold rowsOf
  rw [e, rowsP_cons, rowsP_cons, rowsP_nil]
  rw [rows_some (by decide) (show cutAt 3 2048 55295 = some 4096 by decide), rows_none (show cutAt 3 2048 (4096 - 1) = none by decide), rows_some (by decide) (show cutAt 3 4096 55295 = some 53248 by decide), rows_none (show cutAt 3 4096 (53248 - 1) = none by decide), rows_none (show cutAt 3 53248 55295 = none by decide), rows_none (show cutAt 3 57344 65535 = none by decide)]
  rfl
theorem km1 : anyFits [[(127, 127)], [(194, 194), (128, 128)]] [194, 128] = true := by decide
theorem km2 : anyFits [[(127, 127)], [(194, 194), (128, 128)]] [194] = false := by decide
theorem kc : many [(127, 128)] = 2 := by decide
theorem sl_lit (w : World) (x : SetM.Sp) : Sl (w.alloc (.cells #[.int .i64 x.1, .int .i64 x.2] 43)) (some ⟨w.heap.size, 0, none⟩) [x] := by
  have h := spans_new w [x]
  have e : (cellsS [x]).toArray = #[.int .i64 x.1, .int .i64 x.2] := rfl
  rw [e] at h
  exact h.mono (by rw [World.size_alloc]; exact Nat.le_refl _)

set_option maxRecDepth 100000 in
set_option maxHeartbeats 4000000 in
theorem known3_c {w W : World} (hC : Ctl w W) : Calls Tryd.prog 11 #[] W fun e W' => e = .returned (.bool true) ∧ Below W.heap.size W W' := by
  have hb0 : Below W.heap.size W (W.alloc (.cells #[.int .i64 127, .int .i64 128] 43)) := (Below.refl _ _).alloc (Nat.le_refl _) _
  have hs0 := sl_lit W (127, 128)
  have HC1 := Lib.hid (of_c (ca := 1) (hC.step hb0) hs0 (by simp))
  have HST := Lib.hid (fun W' (h : Below (W.alloc (.cells #[.int .i64 127, .int .i64 128] 43)).heap.size (W.alloc (.cells #[.int .i64 127, .int .i64 128] 43)) W') => (⟨(hC.step hb0).step h, hb0.trans (h.mono hb0.size)⟩ : Ctl w W' ∧ Below W.heap.size W W'))
  rw [ka] at HC1
  clear hb0 hs0 hC
  go_enter Tryd.func11, Tryd.ntmps11
  go_wp2_with fail
  refine HC1.out.mono ?_
  rintro e W1 ⟨P1, c1, rfl, hR1, b1⟩
  obtain ⟨hC1, hb1⟩ := HST.out W1 b1
  rw [ka_rows] at hR1 ⊢
  have HR1 := Lib.hid hR1
  clear b1 HC1 HST hR1
  go_wp2_with fail
  have hb1a : Below W1.heap.size W1 (W1.alloc (.cells #[.int .i64 2048, .int .i64 65535] 43)) := (Below.refl _ _).alloc (Nat.le_refl _) _
  have HC2 := of_c (ca := 1) (hC1.step hb1a) (sl_lit W1 (2048, 65535)) (by simp)
  rw [kb] at HC2
  refine HC2.mono ?_
  rintro e W2 ⟨P2, c2, rfl, _, b2⟩
  rw [kb_len]
  have hb2 := hb1.trans ((hb1a.trans (b2.mono hb1a.size)).mono hb1.size)
  have hR2 := HR1.out.step (hb1a.trans (b2.mono hb1a.size))
  have HR2 := Lib.hid hR2
  obtain ⟨g, off, rfl, _, hc⟩ := hR2 (by simp)
  obtain ⟨Q0, d0, e0, _⟩ := hc 0 (by simp)
  obtain ⟨Q1, d1, e1, _⟩ := hc 1 (by simp)
  simp only [List.getElem_cons_zero, List.getElem_cons_succ, Nat.add_zero, List.length_cons, List.length_nil, Nat.zero_add, Nat.reduceAdd] at e0 e1
  clear hc hb1a HC2 b2 hC1 hb1 HR1
  have hbm : Below W2.heap.size W2 (W2.alloc (.cells #[.int .u8 194, .int .u8 128] 5)) := (Below.refl _ _).alloc (Nat.le_refl _) _
  have HM1 := Lib.hid (match_any (some ⟨g, off, none⟩) (some ⟨W2.heap.size, 0, none⟩) c1 2 [[(127, 127)], [(194, 194), (128, 128)]] [194, 128] (by decide) (by decide) _ (HR2.out.step hbm) (U.by_new W2 5 [194, 128] (fun c hc => by simp at hc; omega)))
  have HB1 := Lib.hid (fun X (h : Below (W2.alloc (.cells #[.int .u8 194, .int .u8 128] 5)).heap.size (W2.alloc (.cells #[.int .u8 194, .int .u8 128] 5)) X) => hbm.trans (h.mono hbm.size))
  clear hbm
  go_wp2_with fail
  refine HM1.out.mono ?_
  rintro e W3 ⟨rfl, b3⟩
  rw [km1]
  have h23 := HB1.out W3 b3
  have HR3 := Lib.hid (HR2.out.step h23)
  have hb3 := hb2.trans (h23.mono hb2.size)
  clear HM1 HB1 b3 h23 e0 e1 HR2 hb2
  have hbm : Below W3.heap.size W3 (W3.alloc (.cells #[.int .u8 194] 5)) := (Below.refl _ _).alloc (Nat.le_refl _) _
  have HM1 := Lib.hid (match_any (some ⟨g, off, none⟩) (some ⟨W3.heap.size, 0, none⟩) c1 1 [[(127, 127)], [(194, 194), (128, 128)]] [194] (by decide) (by decide) _ (HR3.out.step hbm) (U.by_new W3 5 [194] (fun c hc => by simp at hc; omega)))
  have HB1 := Lib.hid (fun X (h : Below (W3.alloc (.cells #[.int .u8 194] 5)).heap.size (W3.alloc (.cells #[.int .u8 194] 5)) X) => hbm.trans (h.mono hbm.size))
  clear hbm
  go_wp2_with fail
  refine HM1.out.mono ?_
  rintro e W4 ⟨rfl, b4⟩
  rw [km2]
  have h34 := HB1.out W4 b4
  have HR4 := Lib.hid (HR3.out.step h34)
  have hb4 := hb3.trans (h34.mono hb3.size)
  clear HM1 HB1 b4 h34 HR3 hb3
  have HF : Few [[((127 : Int), (127 : Int))], [(194, 194), (128, 128)]] := by
    have := rows_few [(127, 128)] (by simp)
    rwa [ka, ka_rows] at this
  have HCN := Lib.hid (count_any (some ⟨g, off, none⟩) c1 _ HF W4 HR4.out)
  have hk2 : countR [[((127 : Int), (127 : Int))], [(194, 194), (128, 128)]] = 2 := by decide
  rw [hk2] at HCN
  clear HF hk2
  go_wp2_with fail
  refine HCN.out.mono ?_
  rintro e W5 ⟨rfl, b5⟩
  have hb5 := hb4.trans (b5.mono hb4.size)
  go_wp2
  go_ret
  exact ⟨rfl, hb5⟩
end Go.Proofs.YtgaalkcociifmaaDoor
