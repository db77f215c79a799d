/- RR6a, RR6b, RR6c, in one text. -/
import Derived.Test.YtahgljglleeloaaGreatDoorRA
import Derived.BigQuiet
import Derived.Test.YtahgljglleeloaaGreatDoorRF
import Derived.Test.YtahgljglleeloaaGreatDoorRefC
import Derived.Test.YtahgljglleeloaaGreatDoorUC
/- The document's reader of patterns at the text of the law's definition: what it sees, what it takes. -/
namespace Go.Proofs.YtahgljglleeloaaGreatDoor
open Go.RowKit Go.Shelf Go.Maps SetM PropsM RxM

/-- The definition's text: ab|[K-M]. -/
def S8 : ByteArray := ⟨#[97, 98, 124, 91, 75, 45, 77, 93]⟩
theorem s8_bs : bs S8 = [97, 98, 124, 91, 75, 45, 77, 93] := rfl
theorem s8_size : S8.size = 8 := rfl
def b8 (i : Nat) : Int := (bs S8).getD i 0
theorem b8_fin : ∀ i : Fin 8, 0 ≤ b8 i ∧ b8 i ≤ 255 := by decide
theorem b8_in (i : Nat) (hi : i < 8) : 0 ≤ b8 i ∧ b8 i ≤ 255 := b8_fin ⟨i, hi⟩
/-- The document's reader at block R, at a place; nothing was wrong. -/
def R6 (R : Nat) (W : World) (i : Nat) : Prop := W.heap[R]? = some (.cells #[.string S8, .int .i64 i, .slice none 0 0, .int .i64 0, .int .i64 0, .int .i64 0, .int .i64 0] 69 (0, 0))
section
variable {R : Nat} {W : World} {i : Nat}
theorem R6.lt (h : R6 R W i) : R < W.heap.size := (Array.getElem?_eq_some_iff.1 h).1
theorem R6.kept {W' : World} (h : R6 R W i) (hb : Below W.heap.size W W') : R6 R W' i := (hb.block R h.lt).trans h
theorem R6.cell (h : R6 R W i) (j : Nat) : W.cell? ⟨R, j, none⟩ = (#[.string S8, .int .i64 i, .slice none 0 0, .int .i64 0, .int .i64 0, .int .i64 0, .int .i64 0] : Array Value)[j]? := cell_of_row W R j _ _ _ h
theorem R6.c0 (h : R6 R W i) : W.cell? ⟨R, 0, none⟩ = some (.string S8) := h.cell 0
theorem R6.c1 (h : R6 R W i) : W.cell? ⟨R, 1, none⟩ = some (.int .i64 i) := h.cell 1
theorem R6.c4 (h : R6 R W i) : W.cell? ⟨R, 4, none⟩ = some (.int .i64 0) := h.cell 4
theorem R6.c5 (h : R6 R W i) : W.cell? ⟨R, 5, none⟩ = some (.int .i64 0) := h.cell 5
theorem R6.z (h : R6 R W i) (j : Nat) : W.frozen? ⟨R, j, none⟩ = false := by have h' := h; unfold R6 at h'; simp [World.frozen?, h']
theorem R6.move (h : R6 R W i) (j : Nat) : R6 R (W.setCell ⟨R, 1, none⟩ (.int .i64 j)) j := heap_setR W R _ _ h 1 _
theorem ix8 (i : Nat) (hi : i < 8) : ∀ w, (Instr.index 9 (.string S8) (.int .i64 (i : Int))).run Tryz.prog w = .ok (.int .u8 (b8 i)) w := by
  intro w
  rw [str_ix S8 i (by exact hi) w]
  have h : (bs S8)[i]? = some (((S8.data.toList[i]'(by exact hi)).toNat : Nat) : Int) := by
    unfold bs
    rw [List.getElem?_map, List.getElem?_eq_getElem (by exact hi)]; rfl
  unfold b8
  rw [List.getD_eq_getElem?_getD, h]
  rfl
set_option maxRecDepth 100000 in
set_option maxHeartbeats 1000000 in
theorem see6_q (h : R6 R W i) (hi : i < 8) : Calls Tryz.prog 48 #[.pointer (some ⟨R, 0, none⟩)] W fun e W' => e = .returned (.int .i64 (b8 i)) ∧ ∃ m, W' = W.drewN m := by
  have c0 := h.c0
  have c1 := h.c1
  have c5 := h.c5
  have hix := ix8 i hi
  have hsz : (S8.size : Int) = 8 := rfl
  have hge : ¬ (i : Int) ≥ 8 := by omega
  have hge2 : ¬ (8 : Int) ≤ (i : Int) := by omega
  have hlt : (i : Int) < 8 := by omega
  have h0 : (0 : Int) ≤ (i : Int) := by omega
  have hwb : wrap64 (b8 i) = b8 i := IntWalk.wrap64_in _ (by have := b8_in i hi; omega)
  generalize S8 = s at *
  generalize b8 i = b at *
  clear h
  go_enter Tryz.func48, Tryz.ntmps48
  go_wp2_with fail
  go_quiet (fail)
  go_wp2_with fail
  go_quiet (fail)
  go_wp2
  go_ret
  exact ⟨by simp [hwb], _, World.drewN_drewN _ _ _⟩
set_option maxRecDepth 100000 in
set_option maxHeartbeats 1000000 in
theorem see6_qe (h : R6 R W 8) : Calls Tryz.prog 48 #[.pointer (some ⟨R, 0, none⟩)] W fun e W' => e = .returned (.int .i64 (-1)) ∧ ∃ m, W' = W.drewN m := by
  have c0 := h.c0
  have c1 := h.c1
  have c5 := h.c5
  have hsz : (S8.size : Int) = 8 := rfl
  have hge : ((8 : Nat) : Int) ≥ 8 := by omega
  generalize S8 = s at *
  clear h
  go_enter Tryz.func48, Tryz.ntmps48
  go_wp2_with fail
  go_quiet (fail)
  go_wp2
  go_ret
  exact ⟨rfl, _, rfl⟩
theorem see6_c (h : R6 R W i) (hi : i < 8) : Calls Tryz.prog 48 #[.pointer (some ⟨R, 0, none⟩)] W fun e W' => e = .returned (.int .i64 (b8 i)) ∧ Below W.heap.size W W' :=
  (see6_q h hi).mono (fun e W' ⟨h1, m, h2⟩ => ⟨h1, by rw [h2]; exact drewN_below m⟩)
theorem see6_end (h : R6 R W 8) : Calls Tryz.prog 48 #[.pointer (some ⟨R, 0, none⟩)] W fun e W' => e = .returned (.int .i64 (-1)) ∧ Below W.heap.size W W' :=
  (see6_qe h).mono (fun e W' ⟨h1, m, h2⟩ => ⟨h1, by rw [h2]; exact drewN_below m⟩)
/-- Does the sign stand at the place? -/
def hit (i : Nat) (b : UInt8) : Bool := decide (S8.extract i (i + 1) = ⟨#[b]⟩)
set_option maxRecDepth 100000 in
set_option maxHeartbeats 1000000 in
theorem takes6_end (b : UInt8) (h : R6 R W 8) : Calls Tryz.prog 42 #[.pointer (some ⟨R, 0, none⟩), .string ⟨#[b]⟩] W fun e W' => e = .returned (.bool false) ∧ Below W.heap.size W W' := by
  have c0 := h.c0
  have c1 := h.c1
  have c5 := h.c5
  have hsz : (S8.size : Int) = 8 := rfl
  have hbz : ((⟨#[b]⟩ : ByteArray).size : Int) = 1 := rfl
  have hge : (8 : Int) - ((8 : Nat) : Int) < 1 := by omega
  generalize S8 = s at *
  generalize (⟨#[b]⟩ : ByteArray) = bb at *
  clear h
  go_enter Tryz.func42, Tryz.ntmps42
  go_wp2_with fail
  go_quiet (fail)
  go_wp2
  go_ret
  exact ⟨rfl, drewN_below _⟩
set_option maxRecDepth 100000 in
set_option maxHeartbeats 1000000 in
theorem takes6_no (b : UInt8) (h : R6 R W i) (hi : i < 8) (hb : hit i b = false) : Calls Tryz.prog 42 #[.pointer (some ⟨R, 0, none⟩), .string ⟨#[b]⟩] W fun e W' => e = .returned (.bool false) ∧ Below W.heap.size W W' := by
  have c0 := h.c0
  have c1 := h.c1
  have c5 := h.c5
  have hsz : (S8.size : Int) = 8 := rfl
  have hbz : ((⟨#[b]⟩ : ByteArray).size : Int) = 1 := rfl
  have hge : ¬ (8 : Int) - (i : Int) < 1 := by omega
  have hw1 : IntKind.i64.wrap ((8 : Int) - (i : Int)) = (8 : Int) - (i : Int) := IntWalk.i64_in _ (by omega)
  have hw2 : IntKind.i64.wrap ((i : Int) + 1) = (i : Int) + 1 := IntWalk.i64_in _ (by omega)
  have l1 : (0 : Int) ≤ (i : Int) := by omega
  have l2 : (i : Int) ≤ (i : Int) + 1 := by omega
  have l3 : (i : Int) + 1 ≤ 8 := by omega
  have l4 : ((i : Int) + 1).toNat = i + 1 := by omega
  have hne : ((S8.extract i (i + 1)).toList == (⟨#[b]⟩ : ByteArray).toList) = false := by
    have := of_decide_eq_false hb
    rw [beq_eq_false_iff_ne]
    intro e
    apply this
    rw [Lib.toList_data, Lib.toList_data] at e
    exact ByteArray.ext (Array.toList_inj.1 e)
  generalize S8 = s at *
  generalize (⟨#[b]⟩ : ByteArray) = bb at *
  clear h hb
  go_enter Tryz.func42, Tryz.ntmps42
  go_wp2_with fail
  go_quiet (fail)
  go_wp2
  go_ret
  exact ⟨rfl, drewN_below _⟩
set_option maxRecDepth 100000 in
set_option maxHeartbeats 1000000 in
theorem takes6_yes (b : UInt8) (h : R6 R W i) (hi : i < 8) (hb : hit i b = true) : Calls Tryz.prog 42 #[.pointer (some ⟨R, 0, none⟩), .string ⟨#[b]⟩] W fun e W' => e = .returned (.bool true) ∧ R6 R W' (i + 1) ∧ Gr R W W' := by
  have c0 := h.c0
  have c1 := h.c1
  have c5 := h.c5
  have k1 : ∀ n, (W.drewN n).cell? ⟨R, 1, none⟩ = some (.int .i64 (i : Int)) := fun _ => h.c1
  have kz : ∀ n, (W.drewN n).frozen? ⟨R, 1, none⟩ = false := fun _ => h.z 1
  have hsz : (S8.size : Int) = 8 := rfl
  have hbz : ((⟨#[b]⟩ : ByteArray).size : Int) = 1 := rfl
  have hge : ¬ (8 : Int) - (i : Int) < 1 := by omega
  have hw1 : IntKind.i64.wrap ((8 : Int) - (i : Int)) = (8 : Int) - (i : Int) := IntWalk.i64_in _ (by omega)
  have hw2 : IntKind.i64.wrap ((i : Int) + 1) = (i : Int) + 1 := IntWalk.i64_in _ (by omega)
  have l1 : (0 : Int) ≤ (i : Int) := by omega
  have l2 : (i : Int) ≤ (i : Int) + 1 := by omega
  have l3 : (i : Int) + 1 ≤ 8 := by omega
  have l4 : ((i : Int) + 1).toNat = i + 1 := by omega
  have heq : (S8.extract i (i + 1)).toList = (⟨#[b]⟩ : ByteArray).toList := by rw [of_decide_eq_true hb]
  have HR := Lib.hid h
  have HM := Lib.hid (fun U (hU : R6 R U i) => hU.move (i + 1))
  generalize S8 = s at c0 hsz heq
  generalize (⟨#[b]⟩ : ByteArray) = bb at *
  clear h hb
  go_enter Tryz.func42, Tryz.ntmps42
  go_wp2_with fail
  go_quiet (fail)
  go_wp2
  go_ret
  exact ⟨rfl, HM.out _ (HR.out.kept (drewN_below _)), (Gr.of (drewN_below nq)).trans (Gr.set _ 1 _)⟩
end
end Go.Proofs.YtahgljglleeloaaGreatDoor

/- The document's reader at the definition's text: signs that must stand, scalars, sets of them. -/
namespace Go.Proofs.YtahgljglleeloaaGreatDoor
open Go.RowKit Go.Shelf Go.Maps SetM PropsM RxM
variable {R : Nat} {W : World} {i : Nat}

theorem dec8 : ∀ i : Fin 8, U.UtfM.dec ((bs S8).drop i) = (b8 i, 1) := by decide
set_option maxRecDepth 100000 in
set_option maxHeartbeats 1000000 in
theorem rnorm_n {W : World} {P : Option Addr} {c : Nat} {l : List Sp} (hs : Sl W P l) (hl : l.length ≤ 100000) (hw : Wide l) : Calls Tryz.prog 21 #[.slice P l.length c] W (SetNew W (fun r => Tells l r) (4 + 2 * l.length)) := by
  obtain ⟨w, hwW⟩ : ∃ w, w = W := ⟨_, rfl⟩
  rw [← hwW] at hs ⊢
  clear hwW
  have hc := rmake_any P none c 0 l [] 2 (by simp) hl (by simp) hw (fun s h => by simp at h) w hs Spans.nil
  have HC := Lib.hid hc
  clear hc hs hw
  go_enter Tryz.func21, Tryz.ntmps21
  go_wp2_with fail
  refine HC.out.mono ?_
  rintro e w' h
  obtain ⟨v, out, rfl, h2, h3, h4, h5, h6⟩ := h
  go_wp2
  go_ret
  exact SetPost.toNew ⟨v, out, rfl, h2, fun r => (h3 r).trans (by rw [kf2]; have h0 : Tells l r → Sc r := fun h => h.1; have h1 := tells_nil r; simp [h1]; exact h0), by simpa using h4, h5, h6⟩
theorem sl_new (W : World) (x y : Int) : Sl (W.alloc (.cells #[.int .i64 x, .int .i64 y] 53)) (some ⟨W.heap.size, 0, none⟩) [(x, y)] := fun _ => ⟨W.heap.size, 0, rfl, by rw [World.size_alloc]; exact Nat.lt_succ_self _, fun j hj => by
  have : j = 0 := by simpa using hj
  subst this
  exact ⟨cell_of_row _ W.heap.size 0 _ _ _ (heap_alloc_new W _), cell_of_row _ W.heap.size 1 _ _ _ (heap_alloc_new W _)⟩⟩
theorem must6_yes (b : UInt8) (h : R6 R W i) (hi : i < 8) (hb : hit i b = true) : Calls Tryz.prog 80 #[.pointer (some ⟨R, 0, none⟩), .string ⟨#[b]⟩] W fun e W' => e = .returned (.tuple #[]) ∧ R6 R W' (i + 1) ∧ Gr R W W' := by
  have HT := Lib.hid (takes6_yes b h hi hb)
  clear h hb
  go_enter Tryz.func80, Tryz.ntmps80
  go_wp2_with fail
  refine HT.out.mono ?_
  rintro e w1 ⟨rfl, h1, g1⟩
  have H1 := Lib.hid h1
  have G1 := Lib.hid g1
  clear h1 g1
  go_wp2
  go_returns
  exact ⟨rfl, H1.out, G1.out⟩
set_option maxRecDepth 100000 in
set_option maxHeartbeats 1000000 in
theorem in6_no (c : Int) (l : ByteArray) (hl : l.size ≤ 100) (hc : ∀ x ∈ bs l, x ≠ c) : Calls Tryz.prog 77 #[.int .i64 c, .string l] W fun e W' => e = .returned (.bool false) ∧ W = W' := by
  obtain ⟨n, hn⟩ : ∃ n, n = l.size := ⟨_, rfl⟩
  have HX : Hid (∀ k, k < n → ∃ x : Int, (∀ w, (Instr.index 9 (.string l) (.int .i64 (k : Int))).run Tryz.prog w = .ok (.int .u8 x) w) ∧ wrap64 x = x ∧ (c == x) = false) := Lib.hid (by
    intro k hk
    have hk' : k < l.data.toList.length := by simp; exact hn ▸ hk
    refine ⟨_, str_ix l k hk', IntWalk.wrap64_in _ (by have := (l.data.toList[k]'hk').toNat_lt; omega), ?_⟩
    rw [beq_eq_false_iff_ne]
    intro e
    exact hc _ (List.mem_map_of_mem (List.getElem_mem hk')) e.symm)
  have hnz : (l.size : Int) = (n : Int) := by omega
  clear hc hn
  go_enter Tryz.func77, Tryz.ntmps77
  go_wp2_with fail
  go_loopg [5] n (fun g s5 wx => ∃ (k : Nat), k + g = n ∧ s5 = .int .i64 k ∧ W = wx)
  case atStart => exact ⟨0, by omega, rfl, rfl⟩
  case round =>
    obtain ⟨k, hkg, rfl, rfl⟩ := hrel
    cases gk with
    | zero =>
      have hl : ¬ ((k : Int) < (n : Int)) := by omega
      go_wp2
      go_ret
      exact ⟨rfl, rfl⟩
    | succ gk =>
      have hl : (k : Int) < (n : Int) := by omega
      obtain ⟨x, hx, hwx, hne⟩ := HX.out k (by omega)
      go_wp2
      go_roundg gk
      case measure => omega
      case rel => exact ⟨k + 1, by omega, rfl, rfl⟩
set_option maxRecDepth 100000 in
set_option maxHeartbeats 2000000 in
theorem chars6_c {P : Option Addr} {c : Nat} {l : List Sp} {K : Int → Prop} (h : R6 R W i) (hs : Sl W P l) (hl : l.length ≤ 10) (hw : Wide l) (hK : ∀ r, Tells l r ↔ K r) :
    Calls Tryz.prog 73 #[.pointer (some ⟨R, 0, none⟩), .slice P l.length c] W fun e W' => ∃ v, e = .returned v ∧ NV W' (Old 0 W.heap.size) v (.mk 1 K [] 0 0) ∧ Below W.heap.size W W' := by
  have hRW := h.lt
  have hb0 := (Below.refl W.heap.size W).alloc (Nat.le_refl _) (.cells #[.int .u8 0, .slice none 0 0, .slice none 0 0, .int .i64 0, .int .i64 0] 27)
  have hz0 := World.size_alloc W (.cells #[.int .u8 0, .slice none 0 0, .slice none 0 0, .int .i64 0, .int .i64 0] 27)
  have h5 := B5.new W (.int .u8 0) (.slice none 0 0) (.slice none 0 0) (.int .i64 0) (.int .i64 0)
  have hs0 := hs.step hb0
  have HN := Lib.hid (rnorm_n (c := c) hs0 (by omega) hw)
  have HB := Lib.hid hb0
  have HZ := Lib.hid hz0
  have HK := Lib.hid hK
  have H5 := Lib.hid h5
  have HR := Lib.hid (h.kept hb0)
  clear hs hs0 hz0 hb0 h hK h5
  go_enter Tryz.func73, Tryz.ntmps73
  go_wp2_with fail
  refine HN.out.mono ?_
  rintro e w1 ⟨P1, c1, o1, rfl, i1, n1, s1, z1, a1, b1⟩
  have h5 := H5.out.gr (R := W.heap.size + 1) (Gr.of b1) (by omega)
  obtain ⟨⟨x0, x1, x2, x3, x4, k0, k1, k2, k3, k4⟩, f0, f1, f2, f3, f4⟩ := h5.cells
  have HNV : Hid (NV w1 (Old 0 (W.heap.size + 1)) (.agg #[.int .u8 1, .slice P1 o1.length c1, .slice none 0 0, .int .i64 0, .int .i64 0]) (.mk 1 K [] 0 0)) :=
    Lib.hid (chars_nv (i1.congr HK.out) (by omega) s1 z1 (fun a ha => .inr (by have := a1 a ha; rw [HZ.out] at this; exact this)))
  have HB1 := Lib.hid (HB.out.trans (b1.mono HB.out.size))
  have H51 := Lib.hid h5
  have cf := (HR.out.kept b1).c4
  clear i1 s1 z1 a1 b1 h5
  go_wp2
  exact ret_node rfl rfl H51.out ⟨_, rfl, put5_nv (R := 0) _ _ _ _ _ HNV.out (Nat.lt_succ_self _) (by omega) (Nat.le_succ _), put5_below _ _ _ _ _ HB1.out (Nat.le_refl _)⟩
set_option maxRecDepth 100000 in
set_option maxHeartbeats 2000000 in
theorem scalar6_c (h : R6 R W i) (hi : i < 8) :
    Calls Tryz.prog 78 #[.pointer (some ⟨R, 0, none⟩)] W fun e W' => ∃ g, e = .returned (.slice (some ⟨g, 0, none⟩) 1 1) ∧ W.heap.size ≤ g ∧ Sl W' (some ⟨g, 0, none⟩) [(b8 i, b8 i)] ∧ R6 R W' (i + 1) ∧ Gr R W W' := by
  have l1 : (0 : Int) ≤ (i : Int) := by omega
  have l2 : (i : Int) ≤ (S8.size : Int) := by rw [show (S8.size : Int) = 8 from rfl]; omega
  have hdec : U.UtfM.dec (bs (S8.extract i S8.size)) = (b8 i, 1) := by rw [extract_bytes]; exact dec8 ⟨i, hi⟩
  have HM := Lib.hid (fun V (hV : R6 R V i) => hV.move (i + 1))
  have ew : IntKind.i64.wrap ((i : Int) + 1) = (i : Int) + 1 := IntWalk.i64_in _ (by omega)
  have HK : Hid (∀ V, R6 R V i → V.cell? ⟨R, 0, none⟩ = some (.string S8) ∧ V.cell? ⟨R, 1, none⟩ = some (.int .i64 (i : Int))) := Lib.hid (fun V hV => ⟨hV.c0, hV.c1⟩)
  have HR := Lib.hid h
  obtain ⟨u, hu⟩ : ∃ u, u = S8.extract i S8.size := ⟨_, rfl⟩
  rw [← hu] at hdec
  have HD : Hid (∀ V, Calls Tryz.prog 47 #[.slice (some ⟨V.heap.size, 0, none⟩) u.size (capB V u)] (V.drew.alloc (objB V u)) fun e W' => e = .returned (.tuple #[.int .i64 (b8 i), .int .i64 1]) ∧ Below V.heap.size V W') := Lib.hid (fun V => by
    have hd := U.rdec_c (c := capB V u) (by_conv u V)
    rw [bs_len] at hd
    refine hd.mono ?_
    rintro e w' ⟨rfl, hb⟩
    refine ⟨?_, (below_conv _ V).trans (hb.mono (below_conv _ V).size)⟩
    unfold U.decV
    rw [hdec]
    rfl)
  have hcv : ∀ w, (convert 9 38 (.string (S8.extract i S8.size))).run Tryz.prog w = .ok (.slice (some ⟨w.heap.size, 0, none⟩) u.size (capB w u)) (w.drew.alloc (objB w u)) := by rw [← hu]; exact conv_b u
  have k0 : ∀ V, Below W.heap.size W V → V.cell? ⟨R, 0, none⟩ = some (.string S8) := fun V hV => (HK.out V (h.kept hV)).1
  have k1 : ∀ V, Below W.heap.size W V → V.cell? ⟨R, 1, none⟩ = some (.int .i64 (i : Int)) := fun V hV => (HK.out V (h.kept hV)).2
  have c0 := k0 W (Below.refl _ _)
  have c1 := k1 W (Below.refl _ _)
  clear h hdec hu
  go_enter Tryz.func78, Tryz.ntmps78
  go_wp2_with fail
  have hr : Below W.heap.size W W.drew := (Below.refl _ _).drew
  refine wp_region_held_drew (S := (fun U => U.cell? ⟨R, 0, none⟩ = some (.string S8) ∧ U.cell? ⟨R, 1, none⟩ = some (.int .i64 (i : Int)))) (by kernel_rfl) (⟨k0 _ hr, k1 _ hr⟩) (fun hHeld => ?_)
  refine wpAnyH_take (i := 0) (oi := { dst := some 6, op := Op.move (Operand.tmp 0), type := 67, pos := "ref.go:241", after := #[], guard := none }) (v := ?_) rfl (by kernel_rfl) (by kernel_rfl) (by kernel_rfl) (fun _ _ _ h => h) (Or.inl ⟨by rfl, ?hy0⟩) (by assumption) ?_
  case hy0 => (intro ww hSw; (try dsimp only at hSw); first | (go_simp; done) | (go_simp; with_reducible rfl))
  try simp only [Act.put, List.setIfInBounds_toArray, List.set_cons_zero, List.set_cons_succ]
  refine wpAnyH_take (i := 1) (oi := { dst := some 7, op := Op.nilCheck (Operand.tmp 6), type := 0, pos := "ref.go:241", after := #[{ on := 0, ground := Ground.data }], guard := none }) (v := ?_) rfl (by kernel_rfl) (by kernel_rfl) (by kernel_rfl) (fun _ _ _ h => h) (Or.inl ⟨by rfl, ?hy1⟩) (by assumption) ?_
  case hy1 => (intro ww hSw; (try dsimp only at hSw); first | (go_simp; done) | (go_simp; with_reducible rfl))
  try simp only [Act.put, List.setIfInBounds_toArray, List.set_cons_zero, List.set_cons_succ]
  refine wpAnyH_take (i := 2) (oi := { dst := some 8, op := Op.fieldAddr 69 (Operand.tmp 7) 0, type := 0, pos := "ref.go:241", after := #[{ on := 1, ground := Ground.data }], guard := none }) (v := ?_) rfl (by kernel_rfl) (by kernel_rfl) (by kernel_rfl) (fun _ _ _ h => h) (Or.inl ⟨by rfl, ?hy2⟩) (by assumption) ?_
  case hy2 => (intro ww hSw; (try dsimp only at hSw); first | (go_simp; done) | (go_simp; with_reducible rfl))
  try simp only [Act.put, List.setIfInBounds_toArray, List.set_cons_zero, List.set_cons_succ]
  refine wpAnyH_take (i := 3) (oi := { dst := some 9, op := Op.load 9 (Operand.tmp 8), type := 9, pos := "ref.go:241", after := #[{ on := 2, ground := Ground.data }], guard := none }) (v := ?_) rfl (by kernel_rfl) (by kernel_rfl) (by kernel_rfl) (fun _ _ _ h => h) (Or.inl ⟨by rfl, ?hy3⟩) (by assumption) ?_
  case hy3 => (intro ww hSw; (try dsimp only at hSw); first | (go_simp; done) | (go_simp; with_reducible rfl))
  try simp only [Act.put, List.setIfInBounds_toArray, List.set_cons_zero, List.set_cons_succ]
  refine wpAnyH_take (i := 4) (oi := { dst := some 10, op := Op.move (Operand.tmp 0), type := 67, pos := "ref.go:241", after := #[], guard := none }) (v := ?_) rfl (by kernel_rfl) (by kernel_rfl) (by kernel_rfl) (fun _ _ _ h => h) (Or.inl ⟨by rfl, ?hy4⟩) (by assumption) ?_
  case hy4 => (intro ww hSw; (try dsimp only at hSw); first | (go_simp; done) | (go_simp; with_reducible rfl))
  try simp only [Act.put, List.setIfInBounds_toArray, List.set_cons_zero, List.set_cons_succ]
  refine wpAnyH_take (i := 5) (oi := { dst := some 11, op := Op.nilCheck (Operand.tmp 10), type := 0, pos := "ref.go:241", after := #[{ on := 4, ground := Ground.data }], guard := none }) (v := ?_) rfl (by kernel_rfl) (by kernel_rfl) (by kernel_rfl) (fun _ _ _ h => h) (Or.inl ⟨by rfl, ?hy5⟩) (by assumption) ?_
  case hy5 => (intro ww hSw; (try dsimp only at hSw); first | (go_simp; done) | (go_simp; with_reducible rfl))
  try simp only [Act.put, List.setIfInBounds_toArray, List.set_cons_zero, List.set_cons_succ]
  refine wpAnyH_take (i := 6) (oi := { dst := some 12, op := Op.fieldAddr 69 (Operand.tmp 11) 1, type := 0, pos := "ref.go:241", after := #[{ on := 5, ground := Ground.data }], guard := none }) (v := ?_) rfl (by kernel_rfl) (by kernel_rfl) (by kernel_rfl) (fun _ _ _ h => h) (Or.inl ⟨by rfl, ?hy6⟩) (by assumption) ?_
  case hy6 => (intro ww hSw; (try dsimp only at hSw); first | (go_simp; done) | (go_simp; with_reducible rfl))
  try simp only [Act.put, List.setIfInBounds_toArray, List.set_cons_zero, List.set_cons_succ]
  refine wpAnyH_take (i := 7) (oi := { dst := some 13, op := Op.load 3 (Operand.tmp 12), type := 3, pos := "ref.go:241", after := #[{ on := 6, ground := Ground.data }], guard := none }) (v := ?_) rfl (by kernel_rfl) (by kernel_rfl) (by kernel_rfl) (fun _ _ _ h => h) (Or.inl ⟨by rfl, ?hy7⟩) (by assumption) ?_
  case hy7 => (intro ww hSw; (try dsimp only at hSw); first | (go_simp; done) | (go_simp; with_reducible rfl))
  try simp only [Act.put, List.setIfInBounds_toArray, List.set_cons_zero, List.set_cons_succ]
  refine wpAnyH_take (i := 8) (oi := { dst := some 14, op := Op.slice 9 (Operand.tmp 9) (some (Operand.tmp 13)) none none, type := 9, pos := "ref.go:241", after := #[{ on := 3, ground := Ground.data }, { on := 7, ground := Ground.data }], guard := none }) (v := ?_) rfl (by kernel_rfl) (by kernel_rfl) (by kernel_rfl) (fun _ _ _ h => h) (Or.inl ⟨by rfl, ?hy8⟩) (by assumption) ?_
  case hy8 => (intro ww hSw; (try dsimp only at hSw); first | (go_simp; done) | (go_simp; with_reducible rfl))
  try simp only [Act.put, List.setIfInBounds_toArray, List.set_cons_zero, List.set_cons_succ]
  refine wpAnyH_ready (rs := [9]) (by kernel_rfl) (by simp) ?_
  refine AllReadyH.cons (o := { dst := some 15, op := Op.convert 9 38 (Operand.tmp 14), type := 38, pos := "ref.go:241", after := #[{ on := 8, ground := Ground.data }], guard := none }) rfl (fun K hK => ?_) ?more9
  case more9 => exact AllReadyH.nil
  go_simp
  have hr : Below W.heap.size W (W.drew.drew.alloc (objB W.drew u)) := hr.trans ((below_conv u _).mono hr.size); have HDX : Calls Tryz.prog 47 #[.slice (some ⟨W.heap.size, 0, none⟩) u.size (capB W.drew u)] (W.drew.drew.alloc (objB W.drew u)) fun e W2 => e = Ending.returned (Value.tuple #[Value.int IntKind.i64 (b8 i), Value.int IntKind.i64 1]) ∧ Below W.heap.size W W2 := (HD.out W.drew).mono (fun e W2 h => ⟨h.1, ⟨h.2.os, h.2.tape, h.2.output, h.2.size, h.2.block⟩⟩); rw [show (W.alloc (objB W.drew u)).drew.drew = W.drew.drew.alloc (objB W.drew u) from rfl]; clear hHeld; generalize W.drew.drew.alloc (objB W.drew u) = W2 at *; generalize capB W.drew u = cap at *; have HDX := Lib.hid HDX
  refine hK.out _ _ (⟨k0 _ hr, k1 _ hr⟩) (fun hHeld => ?_)
  clear hK K
  try simp only [Act.put, List.setIfInBounds_toArray, List.set_cons_zero, List.set_cons_succ]
  refine wpAnyH_ready (rs := [10]) (by kernel_rfl) (by simp) ?_
  refine AllReadyH.cons (o := { dst := some 16, op := Op.call { callee := Callee.value (Operand.func 47), args := #[Operand.tmp 15], argTypes := #[38] }, type := 61, pos := "ref.go:241", after := #[{ on := 9, ground := Ground.data }], guard := none }) rfl (fun K hK => ?_) ?more10
  case more10 => exact AllReadyH.nil
  go_simp
  go_at_call 47; (refine (HDX.out).mono ?_); rintro e w3 ⟨rfl, hr⟩
  refine hK.out _ _ (⟨k0 _ hr, k1 _ hr⟩) (fun hHeld => ?_)
  clear hK K
  try simp only [Act.put, List.setIfInBounds_toArray, List.set_cons_zero, List.set_cons_succ]
  refine wpAnyH_take (i := 11) (oi := { dst := some 5, op := Op.move (Operand.tmp 16), type := 61, pos := "ref.go:241", after := #[{ on := 10, ground := Ground.data }], guard := none }) (v := ?_) rfl (by kernel_rfl) (by kernel_rfl) (by kernel_rfl) (fun _ _ _ h => h) (Or.inl ⟨by rfl, ?hy11⟩) (by assumption) ?_
  case hy11 => (intro ww hSw; (try dsimp only at hSw); first | (go_simp; done) | (go_simp; with_reducible rfl))
  try simp only [Act.put, List.setIfInBounds_toArray, List.set_cons_zero, List.set_cons_succ]
  refine wpAnyH_take (i := 12) (oi := { dst := some 17, op := Op.extract (Operand.tmp 5) 0, type := 3, pos := "ref.go:241", after := #[{ on := 11, ground := Ground.data }], guard := none }) (v := ?_) rfl (by kernel_rfl) (by kernel_rfl) (by kernel_rfl) (fun _ _ _ h => h) (Or.inl ⟨by rfl, ?hy12⟩) (by assumption) ?_
  case hy12 => (intro ww hSw; (try dsimp only at hSw); first | (go_simp; done) | (go_simp; with_reducible rfl))
  try simp only [Act.put, List.setIfInBounds_toArray, List.set_cons_zero, List.set_cons_succ]
  refine wpAnyH_take (i := 13) (oi := { dst := some 18, op := Op.extract (Operand.tmp 5) 1, type := 3, pos := "ref.go:241", after := #[{ on := 11, ground := Ground.data }, { on := 14, ground := Ground.gcOnly Departure.lateStores }], guard := none }) (v := ?_) rfl (by kernel_rfl) (by kernel_rfl) (by kernel_rfl) (fun _ _ _ h => h) (Or.inl ⟨by rfl, ?hy13⟩) (by assumption) ?_
  case hy13 => (intro ww hSw; (try dsimp only at hSw); first | (go_simp; done) | (go_simp; with_reducible rfl))
  try simp only [Act.put, List.setIfInBounds_toArray, List.set_cons_zero, List.set_cons_succ]
  refine wpAnyH_take (i := 14) (oi := { dst := some 3, op := Op.assign (Operand.tmp 17), type := 3, pos := "ref.go:241", after := #[{ on := 12, ground := Ground.data }, { on := 10, ground := Ground.chain }, { on := 0, ground := Ground.phase }, { on := 1, ground := Ground.phase }, { on := 2, ground := Ground.phase }, { on := 3, ground := Ground.phase }, { on := 4, ground := Ground.phase }, { on := 5, ground := Ground.phase }, { on := 6, ground := Ground.phase }, { on := 7, ground := Ground.phase }, { on := 8, ground := Ground.phase }, { on := 9, ground := Ground.phase }, { on := 10, ground := Ground.phase }, { on := 11, ground := Ground.phase }, { on := 12, ground := Ground.phase }, { on := 13, ground := Ground.textOnly Departure.lateStores }], guard := none }) (v := ?_) rfl (by kernel_rfl) (by kernel_rfl) (by kernel_rfl) (fun _ _ _ h => h) (Or.inl ⟨by rfl, ?hy14⟩) (by assumption) ?_
  case hy14 => (intro ww hSw; (try dsimp only at hSw); first | (go_simp; done) | (go_simp; with_reducible rfl))
  try simp only [Act.put, List.setIfInBounds_toArray, List.set_cons_zero, List.set_cons_succ]
  refine wpAnyH_take (i := 15) (oi := { dst := some 4, op := Op.assign (Operand.tmp 18), type := 3, pos := "ref.go:241", after := #[{ on := 13, ground := Ground.data }, { on := 14, ground := Ground.chain }, { on := 0, ground := Ground.phase }, { on := 1, ground := Ground.phase }, { on := 2, ground := Ground.phase }, { on := 3, ground := Ground.phase }, { on := 4, ground := Ground.phase }, { on := 5, ground := Ground.phase }, { on := 6, ground := Ground.phase }, { on := 7, ground := Ground.phase }, { on := 8, ground := Ground.phase }, { on := 9, ground := Ground.phase }, { on := 10, ground := Ground.phase }, { on := 11, ground := Ground.phase }, { on := 12, ground := Ground.phase }, { on := 13, ground := Ground.phase }, { on := 14, ground := Ground.phase }], guard := none }) (v := ?_) rfl (by kernel_rfl) (by kernel_rfl) (by kernel_rfl) (fun _ _ _ h => h) (Or.inl ⟨by rfl, ?hy15⟩) (by assumption) ?_
  case hy15 => (intro ww hSw; (try dsimp only at hSw); first | (go_simp; done) | (go_simp; with_reducible rfl))
  try simp only [Act.put, List.setIfInBounds_toArray, List.set_cons_zero, List.set_cons_succ]
  refine wpAnyH_done (by kernel_rfl) ?_ _
  have HR3 := Lib.hid (HR.out.kept hr)
  have q1 := (HK.out _ HR3.out).2
  have qz := HR3.out.z 1
  have HB3 := Lib.hid hr
  clear k0 k1 hr hHeld
  go_wp2
  go_ret
  have g3 := (Gr.of HB3.out).trans (Gr.set (R := R) w3 1 (.int .i64 ((i : Int) + 1)))
  have hal := (Below.refl _ (w3.setCell ⟨R, 1, none⟩ (.int .i64 ((i : Int) + 1)))).alloc (Nat.le_refl _) (.cells #[.int .i64 (b8 i), .int .i64 (b8 i)] 53)
  exact ⟨w3.heap.size, rfl, HB3.out.size, by have h := sl_new (w3.setCell ⟨R, 1, none⟩ (.int .i64 ((i : Int) + 1))) (b8 i) (b8 i); rwa [World.size_setCell] at h, (HM.out _ HR3.out).kept hal, g3.trans (Gr.of hal)⟩
end Go.Proofs.YtahgljglleeloaaGreatDoor

/- The document's reader at the definition's text: an atom. -/
namespace Go.Proofs.YtahgljglleeloaaGreatDoor
open Go.RowKit Go.Shelf Go.Maps SetM PropsM RxM
variable {R : Nat} {W : World} {i : Nat}

theorem tkno (b : UInt8) (h : R6 R W i) (hi : i ≤ 8) (hb : hit i b = false) : Calls Tryz.prog 42 #[.pointer (some ⟨R, 0, none⟩), .string ⟨#[b]⟩] W fun e W' => e = .returned (.bool false) ∧ Below W.heap.size W W' := by
  rcases Nat.lt_or_ge i 8 with h8 | h8
  · exact takes6_no b h h8 hb
  · have : i = 8 := by omega
    subst this
    exact takes6_end b h
theorem R6.put5 {B : Nat} (h : R6 R W i) (hne : R ≠ B) (a b c d e : Value) : R6 R (put5 W B a b c d e) i := (put5_block _ _ _ _ _ _ _ R hne).trans h
/-- The reader's function reads a node from one place to another. -/
def NodeAt (f : Nat) (R i j : Nat) (t : Nd) : Prop := ∀ W, R6 R W i → Calls Tryz.prog f #[.pointer (some ⟨R, 0, none⟩)] W fun e W' => ∃ v, e = .returned v ∧ NV W' (Old 0 W.heap.size) v t ∧ R6 R W' j ∧ Gr R W W'
def signs7 : ByteArray := ⟨#[124, 41, 93, 125, 42, 43, 63]⟩
theorem wide_one {c : Int} (h0 : 0 ≤ c) (h1 : c ≤ 255) : Wide [(c, c)] := fun s h => by
  simp at h
  subst h
  simp
  omega
set_option maxRecDepth 100000 in
set_option maxHeartbeats 2000000 in
theorem atom6_plain (hi8 : i < 8) (h40 : hit i 40 = false) (h123 : hit i 123 = false) (h46 : hit i 46 = false) (h91 : hit i 91 = false) (h92 : hit i 92 = false) (hin : ∀ x ∈ bs signs7, x ≠ b8 i) :
    NodeAt 58 R i (i + 1) (.mk 1 (Tells [(b8 i, b8 i)]) [] 0 0) := by
  intro W h
  have hi : i ≤ 8 := by omega
  have hRW := h.lt
  obtain ⟨V, hV⟩ : ∃ V, V = W.alloc (.cells #[.int .u8 0, .slice none 0 0, .slice none 0 0, .int .i64 0, .int .i64 0] 27) := ⟨_, rfl⟩
  have hb0 : Below W.heap.size W V := by rw [hV]; exact (Below.refl W.heap.size W).alloc (Nat.le_refl _) _
  have HZ : Hid (V.heap.size = W.heap.size + 1) := Lib.hid (by rw [hV]; exact World.size_alloc _ _)
  have HB5 : Hid (B5 V W.heap.size) := Lib.hid (by rw [hV]; exact B5.new W _ _ _ _ _)
  have HR := Lib.hid (h.kept hb0)
  have HB := Lib.hid (Below.refl V.heap.size V)
  have HB0 := Lib.hid hb0
  clear h hb0
  have c1 : (W.alloc (.cells #[.int .u8 0, .slice none 0 0, .slice none 0 0, .int .i64 0, .int .i64 0] 27)).cell? ⟨R, 1, none⟩ = some (.int .i64 (i : Int)) := by rw [← hV]; exact HR.out.c1
  have hb8 := b8_in i hi8
  have hlt : ¬ b8 i < 0 := by omega
  have hlt2 : decide (b8 i < 0) = false := decide_eq_false hlt
  go_enter Tryz.func58, Tryz.ntmps58
  go_wp2_with fail
  rw [← hV]
  clear hV
  refine (tkno 40 HR.out hi h40).mono ?_
  rintro e w1 ⟨rfl, b1⟩
  have HR := Lib.hid (HR.out.kept b1)
  have HB := Lib.hid (HB.out.trans (b1.mono HB.out.size))
  clear b1
  go_wp2_with fail
  refine (tkno 123 HR.out hi h123).mono ?_
  rintro e w1 ⟨rfl, b1⟩
  have HR := Lib.hid (HR.out.kept b1)
  have HB := Lib.hid (HB.out.trans (b1.mono HB.out.size))
  clear b1
  go_wp2_with fail
  refine (tkno 46 HR.out hi h46).mono ?_
  rintro e w1 ⟨rfl, b1⟩
  have HR := Lib.hid (HR.out.kept b1)
  have HB := Lib.hid (HB.out.trans (b1.mono HB.out.size))
  clear b1
  go_wp2_with fail
  refine (tkno 91 HR.out hi h91).mono ?_
  rintro e w1 ⟨rfl, b1⟩
  have HR := Lib.hid (HR.out.kept b1)
  have HB := Lib.hid (HB.out.trans (b1.mono HB.out.size))
  clear b1
  go_wp2_with fail
  refine (tkno 92 HR.out hi h92).mono ?_
  rintro e w1 ⟨rfl, b1⟩
  have HR := Lib.hid (HR.out.kept b1)
  have HB := Lib.hid (HB.out.trans (b1.mono HB.out.size))
  clear b1
  go_wp2_with fail
  refine (see6_c HR.out hi8).mono ?_
  rintro e w1 ⟨rfl, b1⟩
  have HR := Lib.hid (HR.out.kept b1)
  have HB := Lib.hid (HB.out.trans (b1.mono HB.out.size))
  clear b1
  go_wp2_with fail
  refine (see6_c HR.out hi8).mono ?_
  rintro e w1 ⟨rfl, b1⟩
  have HR := Lib.hid (HR.out.kept b1)
  have HB := Lib.hid (HB.out.trans (b1.mono HB.out.size))
  clear b1
  go_wp2_with fail
  refine (in6_no (b8 i) signs7 (by decide) hin).mono ?_
  rintro e w1 ⟨rfl, rfl⟩
  go_wp2_with fail
  refine (scalar6_c HR.out hi8).mono ?_
  rintro e w2 ⟨g, rfl, hg, hs, hr, gr⟩
  have HR2 := Lib.hid hr
  have HG := Lib.hid ((Gr.of (R := R) HB.out).trans gr)
  have HS := Lib.hid hs
  have hwd := wide_one hb8.1 hb8.2
  have HC := Lib.hid (chars6_c (c := 1) (K := Tells [(b8 i, b8 i)]) HR2.out HS.out (by simp) hwd (fun _ => Iff.rfl))
  have hz2 := HG.out.size
  clear hr gr hs
  go_wp2_with fail
  refine HC.out.mono ?_
  rintro e w3 ⟨v, rfl, hv, b3⟩
  have HG3 := Lib.hid (HG.out.trans (Gr.of b3))
  have HR3 := Lib.hid (HR2.out.kept b3)
  have HV := Lib.hid hv
  have h5 := HB5.out.gr HG3.out (by omega)
  obtain ⟨⟨x0, x1, x2, x3, x4, k0, k1, k2, k3, k4⟩, f0, f1, f2, f3, f4⟩ := h5.cells
  have H5 := Lib.hid h5
  obtain ⟨k, sp, sn, sc, kp, kn, kc, mn, mx, rfl⟩ := NV.form5 hv
  have hzv := HZ.out
  clear hv b3 h5 HC
  go_wp2
  exact ret_node rfl rfl H5.out ⟨_, rfl, put5_nv (R := R) _ _ _ _ _ HV.out (by omega) hRW (by omega), HR3.out.put5 (by omega) _ _ _ _ _, put5_grR _ _ _ _ _ ((Gr.of HB0.out).trans HG3.out) (Nat.le_refl _)⟩
end Go.Proofs.YtahgljglleeloaaGreatDoor
