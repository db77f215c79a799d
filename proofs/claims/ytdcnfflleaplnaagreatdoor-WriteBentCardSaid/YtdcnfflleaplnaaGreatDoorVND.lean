/- QDefs, VText, VNodeP, VNodeF, VKn, VWrites, in one text. -/
import Derived.Test.YtdcnfflleaplnaaGreatDoorQParse
import Derived.Test.YtdcnfflleaplnaaGreatDoorRText
import Derived.Test.YtdcnfflleaplnaaGreatDoorVM
import Derived.Test.YtdcnfflleaplnaaGreatDoorVREF
import Derived.Test.YtdcnfflleaplnaaGreatDoorVSH
import Derived.Deep.RegionHeld3
/- The law's definition: what its text comes to; Parse of long texts. -/
namespace RxM
open SetM
def S8x : List Int := [97, 98, 124, 91, 75, 45, 77, 93]
def t8 : Nd := .mk 3 none0 [.mk 2 none0 [.mk 1 (Tells [(97, 97)]) [] 0 0, .mk 1 (Tells [(98, 98)]) [] 0 0] 0 0, .mk 1 (Tells [(75, 77)]) [] 0 0] 0 0
theorem whole8 : WrM.wholeF [] S8x = .ok t8 [] := by rfl
def D8 : List Df := [([68], t8, clF t8)]
end RxM
namespace Go.Proofs.YtdcnfflleaplnaaGreatDoor
open Go.RowKit Go.Shelf Go.Maps SetM PropsM RxM
theorem few_one {a b : Int} (h0 : 0 ≤ a) (h1 : a ≤ b) (h2 : b ≤ 1000) : (∀ r, Tells [(a, b)] r → Sc r) ∧ ∀ o, IsSet o (Tells [(a, b)]) → o.length ≤ 43000 := by
  refine ⟨fun r h => h.1, fun o ho => ?_⟩
  have : o = [(a, b)] := nf_unique o [(a, b)] ho.1 (by simp [Nf]; omega) (fun r => by
    rw [ho.2]
    constructor
    · exact fun h => h.2
    · rintro ⟨s, hs, h3, h4⟩
      simp at hs
      subst hs
      exact ⟨by unfold Sc; simp at h3 h4; omega, _, by simp, h3, h4⟩)
  rw [this]; simp
theorem few8 : Few t8 := by
  have h1 := few_one (a := 97) (b := 97) (by omega) (by omega) (by omega)
  have h2 := few_one (a := 98) (b := 98) (by omega) (by omega) (by omega)
  have h3 := few_one (a := 75) (b := 77) (by omega) (by omega) (by omega)
  unfold t8
  simp only [Few, FewL, and_true]
  exact ⟨fun h => absurd h (by decide), ⟨fun h => absurd h (by decide), fun _ => h1, fun _ => h2⟩, fun _ => h3⟩
set_option maxRecDepth 100000 in
set_option maxHeartbeats 2000000 in
theorem parse_long {W : World} {s : ByteArray} {dv : Value} (h : 200 < s.size) : Calls Tryz.prog 14 #[.string s, dv] W fun e W' => e = .returned (.tuple #[.agg #[.int .u8 0, .slice none 0 0, .slice none 0 0, .int .i64 0, .int .i64 0], .int .i64 63, .int .i64 0]) ∧ Below W.heap.size W W' := by
  obtain ⟨V, hV⟩ : ∃ V, V = W.alloc (.cells #[.int .u8 0, .slice none 0 0, .slice none 0 0, .int .i64 0, .int .i64 0] 26) := ⟨_, rfl⟩
  have hb0 : Below W.heap.size W V := by rw [hV]; exact (Below.refl W.heap.size W).alloc (Nat.le_refl _) _
  have H5 : Hid (V.heap[W.heap.size]? = some (.cells #[.int .u8 0, .slice none 0 0, .slice none 0 0, .int .i64 0, .int .i64 0] 26 (0, 0))) := Lib.hid (by rw [hV]; exact heap_alloc_new W _)
  have HB0 := Lib.hid hb0
  have hl : (200 : Int) < (s.size : Int) := by omega
  have hl2 : (s.size : Int) > 200 := hl
  clear hb0
  go_enter Tryz.func14, Tryz.ntmps14
  go_wp2
  rw [← hV]
  exact bodyPost_ret (results6 rfl rfl rfl H5.out) rfl ⟨rfl, HB0.out⟩
abbrev s8 : ByteArray := ⟨#[97, 98, 124, 91, 75, 45, 77, 93]⟩
theorem s8_bs : bs s8 = U.UtfM.wr S8x := by
  rw [wr_low S8x (by intro c hc; simp [S8x] at hc; omega)]
  rfl
set_option maxRecDepth 100000 in
set_option maxHeartbeats 4000000 in
/-- The law's definition, in new memory. -/
theorem defs_q (W : World) : Calls Tryz.prog 17 #[] W fun e W' => ∃ dv, e = .returned dv ∧ DefQ (W.heap.size, W'.heap.size) W' dv D8 ∧ Below W.heap.size W W' := by
  have HP := Lib.hid (parse_q (W := W) (s := s8) (xs := S8x) s8_bs (by intro c hc; simp [S8x] at hc; unfold U.UtfM.Sc; omega) (by decide) (DefQ.nil W))
  go_enter Tryz.func17, Tryz.ntmps17
  go_wp2_with fail
  refine HP.out.mono ?_
  rintro e w1 ⟨v, ez, pz, rfl, hpa, b1⟩
  rw [whole8] at hpa
  obtain ⟨hv, rfl, rfl⟩ := hpa
  obtain ⟨kk, sp, sn, sc, kp, kn, kc, mn, mx, rfl⟩ := NV.form5 hv
  have HV := Lib.hid hv
  have HB := Lib.hid b1
  have hal := ((Below.refl w1.heap.size w1).alloc (Nat.le_refl _) (.cells #[.int .u8 kk, .slice sp sn sc, .slice kp kn kc, .int .i64 mn, .int .i64 mx] 26)).alloc (by rw [World.size_alloc]; omega) (.cells #[.string ⟨#[68]⟩, .int .u8 kk, .slice sp sn sc, .slice kp kn kc, .int .i64 mn, .int .i64 mx] 62)
  obtain ⟨X, hX⟩ : ∃ X, X = (w1.alloc (.cells #[.int .u8 kk, .slice sp sn sc, .slice kp kn kc, .int .i64 mn, .int .i64 mx] 26)).alloc (.cells #[.string ⟨#[68]⟩, .int .u8 kk, .slice sp sn sc, .slice kp kn kc, .int .i64 mn, .int .i64 mx] 62) := ⟨_, rfl⟩
  have hn := heap_alloc_new (w1.alloc (.cells #[.int .u8 kk, .slice sp sn sc, .slice kp kn kc, .int .i64 mn, .int .i64 mx] 26)) (.cells #[.string ⟨#[68]⟩, .int .u8 kk, .slice sp sn sc, .slice kp kn kc, .int .i64 mn, .int .i64 mx] 62)
  rw [World.size_alloc, ← hX] at hn
  rw [← hX] at hal
  have hXz : w1.heap.size + 1 < X.heap.size := (Array.getElem?_eq_some_iff.1 hn).1
  have HQ : Hid (DefQ (W.heap.size, X.heap.size) X (.slice (some ⟨w1.heap.size + 1, 0, none⟩) 1 1) D8 ∧ Below W.heap.size W X) := Lib.hid (by
    refine ⟨⟨by simp [D8], Nat.le_refl _, some ⟨w1.heap.size + 1, 0, none⟩, 1, rfl, fun i hi => ?_⟩, b1.trans (hal.mono b1.size)⟩
    obtain rfl : i = 0 := by simp [D8] at hi; exact hi
    have q : ∀ j, X.cell? ⟨w1.heap.size + 1, j, none⟩ = _ := fun j => cell_of_row X _ j _ _ _ hn
    exact ⟨w1.heap.size + 1, ⟨#[68]⟩, .int .u8 kk, .slice sp sn sc, .slice kp kn kc, .int .i64 mn, .int .i64 mx, rfl, ⟨by have := b1.size; show W.heap.size ≤ w1.heap.size + 1; omega, hXz⟩, rfl, ⟨q 0, q 1, q 2, q 3, q 4, q 5⟩, hv.imp (fun b hA hlt => ⟨⟨(by rcases hA with h | h <;> first | exact h | exact absurd h.2 (by simp)), (by show b < X.heap.size; omega)⟩, hal.block b hlt⟩) hal.size, rfl, few8⟩)
  clear hv b1 HP hal hn hXz
  go_wp2
  rw [← hX]
  go_ret
  exact ⟨_, rfl, HQ.out⟩
end Go.Proofs.YtdcnfflleaplnaaGreatDoor

/- The law's Text, as a function of the choices. -/
namespace Go.Proofs.YtdcnfflleaplnaaGreatDoor
open Go.RowKit Go.Shelf Go.Maps SetM PropsM RxM
def wdN (c : Int) : Nat := (c.tmod 30).toNat
def stB (t : ByteArray) (c : Int) : ByteArray := t ++ wordsL.getD (wdN c) ⟨#[]⟩
def stL (l : List Int) (c : Int) : List Int := l ++ wordsS.getD (wdN c) []
/-- The text of choices, and its scalars. -/
def tB (cs : List Int) : ByteArray := (cs.take 40).foldl stB ⟨#[]⟩
def tL (cs : List Int) : List Int := (cs.take 40).foldl stL []
theorem fold_take {α : Type} (f : α → Int → α) (a : α) (cs : List Int) (k : Nat) (h : k < cs.length) : (cs.take (k + 1)).foldl f a = f ((cs.take k).foldl f a) cs[k] := by
  rw [List.take_succ_eq_append_getElem h, List.foldl_append]; rfl
set_option maxRecDepth 100000 in
set_option maxHeartbeats 2000000 in
theorem text_f (A : Option Addr) (ca : Nat) (cs : List Int) (w : World) (hU : U8s w.heap.size w A cs) :
    Calls Tryz.prog 16 #[.slice A cs.length ca] w fun e w' => e = .returned (.string (tB cs)) ∧ TextIs (tB cs) (tL cs) ∧ (tB cs).size ≤ 400 ∧ Below w.heap.size w w' := by
  obtain ⟨n, hn⟩ : ∃ n, n = cs.length := ⟨_, rfl⟩
  rw [← hn]
  have HU : Hid (∀ V, Below w.heap.size w V → ∀ i, i < n → ∃ c : Int, ∃ b off, (∃ h : i < cs.length, cs[i] = c) ∧ A = some ⟨b, off, none⟩ ∧ (0 ≤ c ∧ c ≤ 255) ∧ V.cell? ⟨b, off + i, none⟩ = some (.int .u8 c)) := Lib.hid (by
    intro V hV i hi
    obtain ⟨b, off, e, hb, hc⟩ := hU.2 (by intro e; subst e; simp at hn; omega)
    refine ⟨cs[i], b, off, ⟨by omega, rfl⟩, e, hU.1 _ (List.getElem_mem (by omega)), ?_⟩
    have := hc i (by omega)
    exact (hV.cell (p := ⟨b, off + i, none⟩) hb).trans this)
  clear hU
  obtain ⟨V, hV⟩ : ∃ V, V = w.alloc (.cells wordsV 9) := ⟨_, rfl⟩
  have HB0 : Hid (Below w.heap.size w V) := Lib.hid (by rw [hV]; exact (Below.refl w.heap.size w).alloc (Nat.le_refl _) _)
  have HW : Hid (∀ k, k < 30 → V.cell? ⟨w.heap.size, k, none⟩ = some (.string (wordsL.getD k ⟨#[]⟩))) := Lib.hid (fun k hk => by
    rw [hV, cell_of_row _ w.heap.size k _ _ _ (heap_alloc_new w _)]
    exact word_v k hk)
  go_enter Tryz.func16, Tryz.ntmps16
  go_wp2_with fail
  rw [← hV]
  clear hV
  have HNN := Lib.hid hn
  clear hn
  go_loopg [4, 5] n (fun g s4 s5 wx => ∃ (k : Nat) (t : ByteArray) (l : List Int), k + g = n ∧ k ≤ 40 ∧ s5 = .int .i64 k ∧ s4 = .string t ∧ Hid (TextIs t l ∧ t = (cs.take k).foldl stB ⟨#[]⟩ ∧ l = (cs.take k).foldl stL []) ∧ t.size ≤ 10 * k ∧ V = wx)
  case atStart => exact ⟨0, ⟨#[]⟩, [], by omega, by omega, rfl, rfl, Lib.hid ⟨⟨rfl, ⟨fun c h => (by cases h), NI.nil⟩⟩, by simp, by simp⟩, by decide, rfl⟩
  case round =>
    obtain ⟨k, t, l, hkg, hk40, rfl, rfl, HT, hts, rfl⟩ := hrel
    rcases (show k = n ∨ (k < n ∧ k = 40) ∨ (k < n ∧ k < 40) by omega) with rfl | ⟨hlt, rfl⟩ | ⟨hlt, h40⟩
    · have hnl : ¬ ((k : Int) < (k : Int)) := by omega
      have HE : Hid (t = tB cs ∧ l = tL cs) := Lib.hid (by
        unfold tB tL
        rw [List.take_of_length_le (by have := HNN.out; omega)]
        obtain ⟨_, e1, e2⟩ := HT.out
        rw [List.take_of_length_le (by have := HNN.out; omega)] at e1 e2
        exact ⟨e1, e2⟩)
      go_wp2
      go_ret
      rw [← HE.out.1, ← HE.out.2]
      exact ⟨rfl, HT.out.1, by omega, HB0.out⟩
    · have HE : Hid (t = tB cs ∧ l = tL cs) := Lib.hid HT.out.2
      have h1 : ((40 : Nat) : Int) < (n : Int) := by omega
      have h2 : ¬ (((40 : Nat) : Int) < 40) := by omega
      go_wp2
      go_ret
      rw [← HE.out.1, ← HE.out.2]
      exact ⟨rfl, HT.out.1, by omega, HB0.out⟩
    · obtain ⟨c, b, off, ⟨hkc, hcc⟩, rfl, ⟨hc0, hc1⟩, hc⟩ := HU.out V HB0.out k hlt
      have HCC := Lib.hid hcc
      clear hcc
      have hwc : wrap64 c = c := IntWalk.wrap64_in _ (by omega)
      obtain ⟨m, hm, hm30⟩ : ∃ m : Nat, c.tmod 30 = (m : Int) ∧ m < 30 := ⟨(c.tmod 30).toNat, by rw [Int.tmod_eq_emod_of_nonneg hc0]; omega, by rw [Int.tmod_eq_emod_of_nonneg hc0]; omega⟩
      have HMD : Hid (wdN c = m) := Lib.hid (by unfold wdN; rw [hm]; rfl)
      have hwm : wrap64 (m : Int) = (m : Int) := IntWalk.wrap64_in _ (by omega)
      have hw := HW.out m hm30
      obtain ⟨HN, hwz⟩ := HT.out.1.next m hm30
      have hsz : (t ++ wordsL.getD m ⟨#[]⟩).size = t.size + (wordsL.getD m ⟨#[]⟩).size := ByteArray.size_append
      have HN' : Hid (TextIs (t ++ wordsL.getD m ⟨#[]⟩) (l ++ wordsS.getD m []) ∧ (t ++ wordsL.getD m ⟨#[]⟩) = (cs.take (k + 1)).foldl stB ⟨#[]⟩ ∧ (l ++ wordsS.getD m []) = (cs.take (k + 1)).foldl stL []) := Lib.hid (by
        refine ⟨HN, ?_, ?_⟩
        · rw [fold_take _ _ _ _ hkc, HCC.out, ← HT.out.2.1]
          unfold stB
          rw [HMD.out]
        · rw [fold_take _ _ _ _ hkc, HCC.out, ← HT.out.2.2]
          unfold stL
          rw [HMD.out])
      clear HN
      generalize wordsL.getD m ⟨#[]⟩ = u at *
      generalize wordsS.getD m [] = lu at *
      have hsx : ¬ 9223372036854775807 < t.size + u.size := by omega
      have h1 : (k : Int) < (n : Int) := by omega
      have h2 : (k : Int) < 40 := by omega
      have h3 : (0 : Int) ≤ (k : Int) := by omega
      have h4 : (0 : Int) ≤ (m : Int) := by omega
      have h5 : (m : Int) < 30 := by omega
      cases gk with
      | zero => exfalso; omega
      | succ gk =>
        go_wp2
        go_roundg gk
        case measure => omega
        case rel => exact ⟨k + 1, t ++ u, l ++ lu, by omega, by omega, rfl, rfl, HN', by omega, rfl⟩
end Go.Proofs.YtdcnfflleaplnaaGreatDoor

/- What the law's node of choices is: its tree, with its spans. Nothing of a program's walk stands here. -/
namespace Go.Proofs.YtdcnfflleaplnaaGreatDoor
open Go.RowKit Go.Shelf Go.Maps SetM PropsM RxM WrM
def outN : Out Nd → Nd
  | .ok y _ => y
  | .err _ _ => .mk 0 none0 [] 0 0
/-- The tree of choices. -/
noncomputable def ndF (cs : List Int) : Nd := if (tB cs).size ≤ 200 then outN (WrM.wholeF D8 (tL cs)) else .mk 0 none0 [] 0 0
theorem few_wr : ∀ (r : List Int), (∀ c ∈ r, U.UtfM.Sc c) → r.length ≤ (U.UtfM.wr r).length
  | [], _ => Nat.zero_le _
  | c :: t, h => by
    have := wr_len_pos (h c (by simp)) t
    have := few_wr t (fun x hx => h x (by simp [hx]))
    rw [List.length_cons]; omega
theorem t8_sc : ScN t8 ∧ ScN (clF t8) := by
  have h : ∀ l r, Tells l r → Sc r := fun _ _ h => h.1
  have h2 : ∀ K r, ClosedK K r → Sc r := fun _ _ h => h.1
  have h3 : ∀ r, none0 r → Sc r := fun _ h => h.elim
  constructor
  · unfold t8
    simp only [scN_mk, scL_cons, scL_nil, and_true]
    exact ⟨h3, ⟨h3, h _, h _⟩, h _⟩
  · unfold t8
    simp only [clF_mk, List.map_cons, List.map_nil, scN_mk, scL_cons, scL_nil, and_true]
    exact ⟨h3, ⟨h3, h2 _, h2 _⟩, h2 _⟩
theorem t8_cnt : cntN t8 ≤ 5 ∧ cntN (clF t8) ≤ 5 := by
  constructor
  · unfold t8
    simp only [cntN_mk, cntL_cons, cntL_nil]
    omega
  · unfold t8
    simp only [clF_mk, List.map_cons, List.map_nil, cntN_mk, cntL_cons, cntL_nil]
    omega
theorem outN_ok {Q : Nd → Prop} {o : Out Nd} (h0 : Q (.mk 0 none0 [] 0 0)) (h : ∀ x r, o = .ok x r → Q x) : Q (outN o) := by
  cases o with
  | ok x r => exact h x r rfl
  | err m r => exact h0
theorem ndF_sc (cs : List Int) : ScN (ndF cs) := by
  unfold ndF
  split
  · exact outN_ok sc_empty (fun x r h => sc_whole (fun d hd => by simp [D8] at hd; subst hd; exact t8_sc) h)
  · exact sc_empty
theorem wdN_lt (c : Int) : wdN c < 30 := by
  unfold wdN
  rcases Int.le_total 0 c with h | h
  · rw [Int.tmod_eq_emod_of_nonneg h]; omega
  · have h1 : c.tmod 30 = -((-c).tmod 30) := by rw [Int.neg_tmod]; omega
    rw [h1, Int.tmod_eq_emod_of_nonneg (by omega)]; omega
theorem fold_is : ∀ (l : List Int) (t : ByteArray) (u : List Int), TextIs t u → TextIs (l.foldl stB t) (l.foldl stL u)
  | [], _, _, h => h
  | c :: l, _, _, h => fold_is l _ _ (h.next (wdN c) (wdN_lt c)).1
theorem text_is (cs : List Int) : TextIs (tB cs) (tL cs) := fold_is _ _ _ ⟨rfl, ⟨fun c h => (by cases h), NI.nil⟩⟩
theorem ndF_cnt (cs : List Int) : cntN (ndF cs) ≤ 1401 := by
  have hT := text_is cs
  have h0 : cntN (.mk 0 none0 [] 0 0) ≤ 1401 := by rw [cntN_mk, cntL_nil]; omega
  unfold ndF
  split
  · rename_i h
    have hl : (tL cs).length ≤ 200 := by
      have h1 := few_wr (tL cs) hT.2.1
      rw [← hT.1, bs_len] at h1
      omega
    exact outN_ok (Q := fun x => cntN x ≤ 1401) h0 (fun x r h => by have := bd_whole (fun d hd => by simp [D8] at hd; subst hd; exact t8_cnt) h; omega)
  · exact h0
mutual
theorem ends_wd : ∀ (u : Ns), EndsN u → WdT u
  | .mk k sl kids mn mx, h => by
    rw [EndsN] at h
    rw [wd_mk]
    exact ⟨fun s hs => by have := (h.1 s hs).2.1; unfold Sc at this; omega, endsL_wd kids h.2⟩
theorem endsL_wd : ∀ (l : List Ns), EndsL l → WdL l
  | [], _ => by rw [WdL]; trivial
  | x :: l, h => by
    rw [EndsL] at h
    rw [WdL]
    exact ⟨ends_wd x h.1, endsL_wd l h.2⟩
end
/-- What is known of the tree of a text's node, with its spans. -/
structure NodeU (t : Nd) (u : Ns) : Prop where
  eq : nd u = t
  nf : Nfs u
  lim : Lim 100000 u
  wd : WdT u
  cnt : cntN (nd u) ≤ 1401
theorem NodeU.same {t : Nd} {u v : Ns} (h : NodeU t u) (k : NodeU t v) : u = v := nd_inj _ _ h.nf k.nf (by rw [h.eq, k.eq])
theorem NodeU.len {t : Nd} {u : Ns} (h : NodeU t u) (hs : SndAt u 0) : (txt u).length ≤ 140737488355328 := by
  have h1 := txt_len 100000 u hs.1 h.lim
  have h2 : cntN (nd u) * wid 100000 ≤ 1401 * wid 100000 := Nat.mul_le_mul_right _ h.cnt
  have h3 : (1401 : Nat) * wid 100000 ≤ 140737488355328 := by decide
  omega
end Go.Proofs.YtdcnfflleaplnaaGreatDoor

/- The law's node of choices: the tree its text comes to. -/
namespace Go.Proofs.YtdcnfflleaplnaaGreatDoor
open Go.RowKit Go.Shelf Go.Maps SetM PropsM RxM WrM
theorem U8s.up {n m : Nat} {W : World} {A : Option Addr} {cs : List Int} (h : U8s n W A cs) (hm : n ≤ m) : U8s m W A cs :=
  ⟨h.1, fun hne => let ⟨b, off, e, hb, hc⟩ := h.2 hne; ⟨b, off, e, Nat.lt_of_lt_of_le hb hm, hc⟩⟩
theorem PaR.node {N : Nat × Nat} {n : Nat} {s : ByteArray} {W' : World} {v : Value} {ez pz : Int} {o : Out Nd} (h : PaR N n s W' v ez pz o) (hN : N.1 ≤ n) : NV W' (fun b => N.1 ≤ b) v (outN o) := by
  cases o with
  | ok y r => exact h.1.imp (fun b hA _ => ⟨(by rcases hA with h | h <;> omega), rfl⟩) (Nat.le_refl _)
  | err m r => rw [h.1]; exact empty_nv
theorem parse_f {W : World} {cs : List Int} {dv : Value} {m : Nat} (hT : TextIs (tB cs) (tL cs)) (hDQ : DefQ (m, W.heap.size) W dv D8) (hm : m ≤ W.heap.size) : Calls Tryz.prog 14 #[.string (tB cs), dv] W fun e W' => ∃ v ez pz, e = .returned (.tuple #[v, .int .i64 ez, .int .i64 pz]) ∧ NV W' (fun b => m ≤ b) v (ndF cs) ∧ Below W.heap.size W W' := by
  unfold ndF
  by_cases h : (tB cs).size ≤ 200
  · rw [if_pos h]
    exact (parse_q hT.1 hT.2.1 h hDQ).mono (fun e W' ⟨v, ez, pz, h1, h2, h3⟩ => ⟨v, ez, pz, h1, h2.node hm, h3⟩)
  · rw [if_neg h]
    exact (parse_long (by omega)).mono (fun e W' ⟨h1, h2⟩ => ⟨_, _, _, h1, empty_nv, h2⟩)
set_option maxRecDepth 100000 in
set_option maxHeartbeats 2000000 in
theorem node_f (A : Option Addr) (ca : Nat) (cs : List Int) (w : World) (hU : U8s w.heap.size w A cs) :
    Calls Tryz.prog 8 #[.slice A cs.length ca] w fun e w' => ∃ v, e = .returned v ∧ NV w' (fun b => w.heap.size ≤ b) v (ndF cs) ∧ Below w.heap.size w w' := by
  obtain ⟨V, hV⟩ : ∃ V, V = w.alloc (.cells #[.int .u8 0, .slice none 0 0, .slice none 0 0, .int .i64 0, .int .i64 0] 26) := ⟨_, rfl⟩
  have hb0 : Below w.heap.size w V := by rw [hV]; exact (Below.refl w.heap.size w).alloc (Nat.le_refl _) _
  have hVz : V.heap.size = w.heap.size + 1 := by rw [hV]; exact World.size_alloc _ _
  have HB5 : Hid (B5 V w.heap.size) := Lib.hid (by rw [hV]; exact B5.new w _ _ _ _ _)
  have HTX := Lib.hid (text_f A ca cs V ((hU.below hb0).up hb0.size))
  have HB0 := Lib.hid hb0
  clear hU hb0
  go_enter Tryz.func8, Tryz.ntmps8
  go_wp2_with fail
  rw [← hV]
  clear hV
  refine HTX.out.mono ?_
  rintro e w1 ⟨rfl, ht, _, b1⟩
  have HT := Lib.hid ht
  have HB1 := Lib.hid b1
  clear ht b1 HTX
  go_wp2_with fail
  refine (defs_q w1).mono ?_
  rintro e w2 ⟨dv, rfl, hq, b2⟩
  have HP := Lib.hid (parse_f HT.out hq b2.size)
  have HB2 := Lib.hid (HB1.out.trans (b2.mono HB1.out.size))
  obtain ⟨P, c, rfl⟩ : ∃ P c, dv = .slice P D8.length c := let ⟨_, _, P, c, e, _⟩ := hq; ⟨P, c, e⟩
  clear hq b2
  generalize tB cs = t at *
  go_wp2_with fail
  refine HP.out.mono ?_
  rintro e w3 ⟨v, ez, pz, rfl, hv, b3⟩
  have hb3 := HB2.out.trans (b3.mono HB2.out.size)
  obtain ⟨kk, sp, sn, sc, kp, kn, kc, mn, mx, rfl⟩ := NV.form5 hv
  have hal := (Below.refl w3.heap.size w3).alloc (Nat.le_refl _) (.cells #[.int .u8 kk, .slice sp sn sc, .slice kp kn kc, .int .i64 mn, .int .i64 mx] 26)
  have hx3 := heap_alloc_new w3 (.cells #[.int .u8 kk, .slice sp sn sc, .slice kp kn kc, .int .i64 mn, .int .i64 mx] 26)
  have a0 := cell_of_row _ w3.heap.size 0 _ _ _ hx3
  have a1 := cell_of_row _ w3.heap.size 1 _ _ _ hx3
  have a2 := cell_of_row _ w3.heap.size 2 _ _ _ hx3
  have a3 := cell_of_row _ w3.heap.size 3 _ _ _ hx3
  have a4 := cell_of_row _ w3.heap.size 4 _ _ _ hx3
  have hb4 := hb3.trans (hal.mono hb3.size)
  have h5 := HB5.out.gr (R := V.heap.size + 1) (Gr.of hb4) (by omega)
  obtain ⟨⟨x0, x1, x2, x3, x4, k0, k1, k2, k3, k4⟩, f0, f1, f2, f3, f4⟩ := h5.cells
  have H5 := Lib.hid h5
  have HV := Lib.hid (hv.imp (B := fun b => V.heap.size ≤ b) (fun b hA hlt => ⟨Nat.le_trans HB1.out.size hA, hal.block b hlt⟩) hal.size)
  have HB4 := Lib.hid (HB0.out.trans (hb4.mono HB0.out.size))
  have HV2 := Lib.hid (fun (x0 x1 x2 x3 x4 : Value) => (HV.out.imp (W' := put5 (w3.alloc (.cells #[.int .u8 kk, .slice sp sn sc, .slice kp kn kc, .int .i64 mn, .int .i64 mx] 26)) w.heap.size x0 x1 x2 x3 x4) (B := fun b => w.heap.size ≤ b) (fun k hA _ => ⟨by show w.heap.size ≤ k; omega, put5_block _ _ _ _ _ _ _ k (by omega)⟩) (by rw [put5_size]; exact Nat.le_refl _)))
  clear h5 hv hal hb3 hb4 b3 HP hx3 hVz HV HT HB1 HB2 HB5
  go_wp2
  exact ret_node rfl rfl H5.out ⟨_, rfl, HV2.out _ _ _ _ _, put5_below _ _ _ _ _ HB4.out (Nat.le_refl _)⟩
/-- The law's node, with its spans. -/
theorem node_u (A : Option Addr) (ca : Nat) (cs : List Int) (w : World) (hU : U8s w.heap.size w A cs) :
    Calls Tryz.prog 8 #[.slice A cs.length ca] w fun e w' => ∃ v u, e = .returned v ∧ RV w' v u ∧ NodeU (ndF cs) u ∧ NV w' (fun b => w.heap.size ≤ b) v (ndF cs) ∧ Below w.heap.size w w' :=
  (node_f A ca cs w hU).mono (fun e w' ⟨v, h1, h2, h4⟩ => by
    obtain ⟨u, e1, e2, e3, e4⟩ := h2.toR
    exact ⟨v, u, h1, e2, ⟨e1, e3, e4, ends_wd u (sc_ends u e3 (by rw [e1]; exact ndF_sc cs)), by rw [e1]; exact ndF_cnt cs⟩, h2, h4⟩)
end Go.Proofs.YtdcnfflleaplnaaGreatDoor

/- The law's known: the chapter's example. Write and Sound handing back one string, one answer. -/
namespace WrM
open SetM RxM
def uK : Ns := .mk 3 [] [.mk 1 [(97, 97)] [] 0 0, .mk 4 [] [.mk 1 [(98, 98)] [] 0 0] 0 (-1)] 0 0
def tK : Nd := .mk 3 none0 [.mk 1 (Tells [(97, 97)]) [] 0 0, .mk 4 none0 [.mk 1 (Tells [(98, 98)]) [] 0 0] 0 (-1)] 0 0
theorem wholeK : wholeF [] [97, 124, 98, 42] = .ok tK [] := by rfl
theorem mem_one (a : Int) (h : Sc a) : Mem [(a, a)] = Tells [(a, a)] := funext fun r => propext ⟨fun hm => ⟨by
    obtain ⟨s, hs, h1, h2⟩ := hm
    simp at hs
    subst hs
    have : r = a := by simp at h1 h2; omega
    rw [this]; exact h, hm⟩, fun h => h.2⟩
theorem ndK : nd uK = tK := by
  unfold uK tK
  simp only [nd_mk, ndL, memNil, mem_one 97 (by unfold Sc; omega), mem_one 98 (by unfold Sc; omega)]
theorem norml_one (a : Int) (h : Sc a) : Norml [(a, a)] := ⟨by simp [Nf], fun r hr => by rw [mem_one a h] at hr; exact hr.1⟩
theorem sndK : SndAt uK 0 := by
  have h1 := norml_one 97 (by unfold Sc; omega)
  have h2 := norml_one 98 (by unfold Sc; omega)
  constructor
  · unfold uK
    simp only [shp_mk, ShpL, Shape, List.length_cons, List.length_nil, and_true]
    refine ⟨?_, ?_, ?_, ?_⟩
    · simp
    · simp [h1]
    · simp
    · simp [h2]
  · unfold uK
    simp only [dep_mk, depL_cons, depL_nil]
    omega
theorem nfsK : Nfs uK := shp_nfs _ sndK.1
def lK : List Int := [91, 92, 120, 123, 54, 49, 125, 45, 92, 120, 123, 54, 49, 125, 93, 124, 91, 92, 120, 123, 54, 50, 125, 45, 92, 120, 123, 54, 50, 125, 93, 123, 48, 44, 125]
theorem txtK : txt uK = lK := by
  have d1 : digF 16 97 = [54, 49] := by rw [dig_step (by omega) (by omega), dig_low (by omega)]; rfl
  have d2 : digF 16 98 = [54, 50] := by rw [dig_step (by omega) (by omega), dig_low (by omega)]; rfl
  have d3 : digF 10 0 = [48] := by rw [dig_low (by omega)]; rfl
  have e1 : clsT [(97, 97)] = [91, 92, 120, 123, 54, 49, 125, 45, 92, 120, 123, 54, 49, 125, 93] := by
    simp [clsT, spT, scT, d1]
  have e2 : clsT [(98, 98)] = [91, 92, 120, 123, 54, 50, 125, 45, 92, 120, 123, 54, 50, 125, 93] := by
    simp [clsT, spT, scT, d2]
  have e3 : timesT 0 (-1) = [123, 48, 44, 125] := by simp [timesT, d3]
  unfold uK lK
  simp [txt_mk, kidsT_cons, kidsT_nil, inT, Ns.kind, e1, e2, e3]
theorem wrK : wrT uK = lK := by unfold wrT; rw [if_pos (sndB_true.2 sndK), txtK]
theorem snd9 : sndB (.mk 9 [] [] 0 0) 0 = false := sndB_false.2 (fun h => by
  have := h.1
  rw [shp_mk] at this
  unfold Shape at this
  omega)
theorem snd0 : SndAt (.mk 0 [] [] 0 0) 0 := ⟨by rw [shp_mk]; exact ⟨.inl ⟨rfl, rfl, rfl, rfl, rfl⟩, by rw [ShpL]; trivial⟩, by rw [dep_mk, depL_nil]; omega⟩
theorem wr0 : wrT (.mk 0 [] [] 0 0) = [40, 41] := by unfold wrT; rw [if_pos (sndB_true.2 snd0), txt_mk]; rfl
end WrM
namespace Go.Proofs.YtdcnfflleaplnaaGreatDoor
open Go.RowKit Go.Shelf Go.Maps SetM PropsM RxM WrM
/-- The string of a list of bytes. -/
def strOf (l : List Int) : ByteArray := ⟨(l.map (fun c => c.toNat.toUInt8)).toArray⟩
theorem strOf_bs {s : ByteArray} {l : List Int} (h : bs s = l) : s = strOf l := by
  subst h
  unfold strOf bs
  rw [List.map_map]
  have : (fun c : Int => c.toNat.toUInt8) ∘ (fun b : UInt8 => (b.toNat : Int)) = id := funext fun b => by simp
  rw [this, List.map_id]
theorem write_s {W : World} {v : Value} {t : Ns} (hv : RV W v t) (hT : Tb W) (hl : SndAt t 0 → (txt t).length ≤ 140737488355328) :
    Calls Tryz.prog 10 #[v] W fun e W' => e = .returned (.string (strOf (wrT t))) ∧ Below W.heap.size W W' :=
  (write_p hv hT hl).mono fun e W' ⟨s, h1, h2, h3⟩ => ⟨by rw [h1, strOf_bs h2], h3⟩
theorem rwrite_s {W : World} {v : Value} {t : Ns} (hv : RV W v t) (hw : WdT t) (hl : SndAt t 0 → (txt t).length ≤ 140737488355328) :
    Calls Tryz.prog 11 #[v] W fun e W' => e = .returned (.string (strOf (wrT t))) ∧ Below W.heap.size W W' :=
  (rwrite_c hv hw hl).mono fun e W' ⟨s, h1, h2, h3⟩ => ⟨by rw [h1, strOf_bs h2], h3⟩
theorem rv_none (W : World) (k : Nat) : RV W (.agg #[.int .u8 k, .slice none 0 0, .slice none 0 0, .int .i64 0, .int .i64 0]) (.mk k [] [] 0 0) :=
  ⟨1, none, 0, none, 0, rfl, by simp, fun h => absurd rfl h, fun _ => rfl, fun h => absurd rfl h⟩
abbrev sK : ByteArray := ⟨#[97, 124, 98, 42]⟩
theorem sK_bs : bs sK = U.UtfM.wr [97, 124, 98, 42] := by
  rw [wr_low [97, 124, 98, 42] (by intro c hc; simp at hc; omega)]
  rfl
set_option maxRecDepth 100000 in
set_option maxHeartbeats 4000000 in
theorem known7 {W : World} (hT : Tb W) : Calls Tryz.prog 9 #[] W fun e W' => e = .returned (.bool true) ∧ Below W.heap.size W W' := by
  have HP := Lib.hid (parse_q (W := W) (s := sK) (xs := [97, 124, 98, 42]) sK_bs (by intro c hc; simp at hc; unfold U.UtfM.Sc; omega) (by decide) (DefQ.nil W))
  have HT := Lib.hid hT
  clear hT
  go_enter Tryz.func9, Tryz.ntmps9
  go_wp2_with fail
  refine HP.out.mono ?_
  rintro e w1 ⟨v, ez, pz, rfl, hpa, b1⟩
  rw [wholeK] at hpa
  obtain ⟨hv, rfl, rfl⟩ := hpa
  obtain ⟨u, e1, e2, e3, e4⟩ := hv.toR
  obtain rfl : u = uK := nd_inj _ _ e3 nfsK (by rw [e1, ndK])
  obtain ⟨kk, sp, sn, sc, kp, kn, kc, mn, mx, rfl⟩ := NV.form5 hv
  have hT1 := HT.out.step b1
  have hal := (Below.refl w1.heap.size w1).alloc (Nat.le_refl _) (.cells #[.int .u8 kk, .slice sp sn sc, .slice kp kn kc, .int .i64 mn, .int .i64 mx] 26)
  have hx1 := heap_alloc_new w1 (.cells #[.int .u8 kk, .slice sp sn sc, .slice kp kn kc, .int .i64 mn, .int .i64 mx] 26)
  obtain ⟨V, hV⟩ : ∃ V, V = w1.alloc (.cells #[.int .u8 kk, .slice sp sn sc, .slice kp kn kc, .int .i64 mn, .int .i64 mx] 26) := ⟨_, rfl⟩
  rw [← hV] at hal hx1
  have hlt := (Array.getElem?_eq_some_iff.1 hx1).1
  have HX := Lib.hid (fun (U : World) (hU : Below V.heap.size V U) => (⟨(hU.cell (p := ⟨w1.heap.size, 0, none⟩) hlt).trans (cell_of_row V _ 0 _ _ _ hx1), (hU.cell (p := ⟨w1.heap.size, 1, none⟩) hlt).trans (cell_of_row V _ 1 _ _ _ hx1), (hU.cell (p := ⟨w1.heap.size, 2, none⟩) hlt).trans (cell_of_row V _ 2 _ _ _ hx1), (hU.cell (p := ⟨w1.heap.size, 3, none⟩) hlt).trans (cell_of_row V _ 3 _ _ _ hx1), (hU.cell (p := ⟨w1.heap.size, 4, none⟩) hlt).trans (cell_of_row V _ 4 _ _ _ hx1)⟩ : U.cell? ⟨w1.heap.size, 0, none⟩ = some (.int .u8 kk) ∧ U.cell? ⟨w1.heap.size, 1, none⟩ = some (.slice sp sn sc) ∧ U.cell? ⟨w1.heap.size, 2, none⟩ = some (.slice kp kn kc) ∧ U.cell? ⟨w1.heap.size, 3, none⟩ = some (.int .i64 mn) ∧ U.cell? ⟨w1.heap.size, 4, none⟩ = some (.int .i64 mx)))
  have hl9 : SndAt (.mk 9 [] [] 0 0) 0 → (txt (.mk 9 [] [] 0 0)).length ≤ 140737488355328 := fun h => absurd (sndB_true.2 h) (by rw [snd9]; decide)
  have HW : Hid (∀ U, Below V.heap.size V U → Calls Tryz.prog 10 #[.agg #[.int .u8 kk, .slice sp sn sc, .slice kp kn kc, .int .i64 mn, .int .i64 mx]] U fun e U' => e = .returned (.string ⟨#[91, 92, 120, 123, 54, 49, 125, 45, 92, 120, 123, 54, 49, 125, 93, 124, 91, 92, 120, 123, 54, 50, 125, 45, 92, 120, 123, 54, 50, 125, 93, 123, 48, 44, 125]⟩) ∧ Below U.heap.size U U') := Lib.hid (fun U hU => by
    have h := write_s (e2.step (hal.trans (hU.mono hal.size))) (hT1.step (hal.trans (hU.mono hal.size))) (fun _ => by rw [txtK]; decide)
    rw [wrK] at h
    exact h)
  have HS : Hid (∀ U, Below V.heap.size V U → Calls Tryz.prog 12 #[.agg #[.int .u8 kk, .slice sp sn sc, .slice kp kn kc, .int .i64 mn, .int .i64 mx]] U fun e U' => e = .returned (.bool true) ∧ Below U.heap.size U U') := Lib.hid (fun U hU => by
    have h := sound_c (e2.step (hal.trans (hU.mono hal.size))) (hT1.step (hal.trans (hU.mono hal.size))).ar
    rw [sndB_true.2 sndK] at h
    exact h)
  have HS9 : Hid (∀ U, Below V.heap.size V U → Calls Tryz.prog 12 #[.agg #[.int .u8 9, .slice none 0 0, .slice none 0 0, .int .i64 0, .int .i64 0]] U fun e U' => e = .returned (.bool false) ∧ Below U.heap.size U U') := Lib.hid (fun U hU => by
    have h := sound_c (rv_none U 9) (hT1.step (hal.trans (hU.mono hal.size))).ar
    rw [snd9] at h
    exact h)
  have HW0 : Hid (∀ U, Below V.heap.size V U → Calls Tryz.prog 10 #[.agg #[.int .u8 0, .slice none 0 0, .slice none 0 0, .int .i64 0, .int .i64 0]] U fun e U' => e = .returned (.string ⟨#[40, 41]⟩) ∧ Below U.heap.size U U') := Lib.hid (fun U hU => by
    have h := write_s (rv_none U 0) (hT1.step (hal.trans (hU.mono hal.size))) (fun _ => by rw [txt_mk]; decide)
    rw [wr0] at h
    exact h)
  have HBV := Lib.hid (b1.trans (hal.mono b1.size))
  clear hv e1 e2 e3 e4 hT1 hal hx1 hlt hl9 b1 HP HT
  go_upto_region 2 with fail
  rw [← hV]
  obtain ⟨k0, k1, k2, k3, k4⟩ := HX.out V (Below.refl _ _)
  clear hV
  go_wp2_with fail
  refine (HW.out V (Below.refl _ _)).mono ?_
  rintro e w2 ⟨rfl, b2⟩
  obtain ⟨k0, k1, k2, k3, k4⟩ := HX.out w2 b2
  have HB2 := Lib.hid b2
  clear b2 HW
  go_wp2_with fail
  refine (HS.out w2 HB2.out).mono ?_
  rintro e w3 ⟨rfl, b3⟩
  have HB3 := Lib.hid (HB2.out.trans (b3.mono HB2.out.size))
  clear b3 HS k0 k1 k2 k3 k4
  go_wp2_with fail
  refine (HS9.out w3 HB3.out).mono ?_
  rintro e w4 ⟨rfl, b4⟩
  have HB4 := Lib.hid (HB3.out.trans (b4.mono HB3.out.size))
  clear b4 HS9
  go_wp2_with fail
  refine (HW0.out w4 HB4.out).mono ?_
  rintro e w5 ⟨rfl, b5⟩
  have HB5 := Lib.hid (HBV.out.trans ((HB4.out.trans (b5.mono HB4.out.size)).mono HBV.out.size))
  clear b5 HW0
  go_wp2
  go_ret
  exact ⟨rfl, HB5.out⟩
end Go.Proofs.YtdcnfflleaplnaaGreatDoor

/- The walk of WriteWrites. -/
namespace Go.Proofs.YtdcnfflleaplnaaGreatDoor
open Go.RowKit Go.Shelf Go.Maps SetM PropsM RxM WrM
/-- A node's five cells. -/
def Nd5 (B : Nat) (k : Int) (sp : Option Addr) (sn sc : Nat) (kp : Option Addr) (kn kc : Nat) (mn mx : Int) (U : World) : Prop :=
  U.cell? ⟨B, 0, none⟩ = some (.int .u8 k) ∧ U.cell? ⟨B, 1, none⟩ = some (.slice sp sn sc) ∧ U.cell? ⟨B, 2, none⟩ = some (.slice kp kn kc) ∧ U.cell? ⟨B, 3, none⟩ = some (.int .i64 mn) ∧ U.cell? ⟨B, 4, none⟩ = some (.int .i64 mx)
theorem Nd5.of {V : World} {B : Nat} {k : Int} {sp : Option Addr} {sn sc : Nat} {kp : Option Addr} {kn kc : Nat} {mn mx : Int} (hx : V.heap[B]? = some (.cells #[.int .u8 k, .slice sp sn sc, .slice kp kn kc, .int .i64 mn, .int .i64 mx] 26 (0, 0))) {U : World} (hU : Below V.heap.size V U) : Nd5 B k sp sn sc kp kn kc mn mx U :=
  have hlt := (Array.getElem?_eq_some_iff.1 hx).1
  ⟨(hU.cell (p := ⟨B, 0, none⟩) hlt).trans (cell_of_row V _ 0 _ _ _ hx), (hU.cell (p := ⟨B, 1, none⟩) hlt).trans (cell_of_row V _ 1 _ _ _ hx), (hU.cell (p := ⟨B, 2, none⟩) hlt).trans (cell_of_row V _ 2 _ _ _ hx), (hU.cell (p := ⟨B, 3, none⟩) hlt).trans (cell_of_row V _ 3 _ _ _ hx), (hU.cell (p := ⟨B, 4, none⟩) hlt).trans (cell_of_row V _ 4 _ _ _ hx)⟩
/-- What the two packages say of one node, in any later world. -/
structure Both (V : World) (v : Value) (u : Ns) : Prop where
  kn : ∀ U, Below V.heap.size V U → Calls Tryz.prog 9 #[] U fun e U' => e = .returned (.bool true) ∧ Below U.heap.size U U'
  w : ∀ U, Below V.heap.size V U → Calls Tryz.prog 10 #[v] U fun e U' => e = .returned (.string (strOf (wrT u))) ∧ Below U.heap.size U U'
  rw' : ∀ U, Below V.heap.size V U → Calls Tryz.prog 11 #[v] U fun e U' => e = .returned (.string (strOf (wrT u))) ∧ Below U.heap.size U U'
  s : ∀ U, Below V.heap.size V U → Calls Tryz.prog 12 #[v] U fun e U' => e = .returned (.bool (sndB u 0)) ∧ Below U.heap.size U U'
  rs : ∀ U, Below V.heap.size V U → Calls Tryz.prog 13 #[v] U fun e U' => e = .returned (.bool (sndB u 0)) ∧ Below U.heap.size U U'
theorem Both.of {V : World} {v : Value} {u : Ns} (hT : Tb V) (hv : RV V v u) (hw : WdT u) (hl : SndAt u 0 → (txt u).length ≤ 140737488355328) : Both V v u :=
  ⟨fun _ hU => known7 (hT.step hU), fun _ hU => write_s (hv.step hU) (hT.step hU) hl, fun _ hU => rwrite_s (hv.step hU) hw hl, fun _ hU => sound_c (hv.step hU) (hT.step hU).ar, fun _ hU => rsound_c (hv.step hU) hw⟩
set_option maxRecDepth 100000 in
set_option maxHeartbeats 8000000 in
theorem writeWrites_any (A : Option Addr) (cs : List Int) (ca : Nat) (w : World) (hU : U8s w.heap.size w A cs) (hT : Tb w) :
    Calls Tryz.prog 3 #[.slice A cs.length ca] w fun e w' => e = .returned (.bool true) ∧ Below w.heap.size w w' := by
  have HN := Lib.hid (node_u A ca cs w hU)
  have HT := Lib.hid hT
  clear hU hT
  go_enter Tryz.func3, Tryz.ntmps3
  go_wp2_with fail
  refine HN.out.mono ?_
  rintro e w1 ⟨v, u, rfl, hv, hu, _, b1⟩
  obtain ⟨kk, sp, sn, sc, kp, kn, kc, mn, mx, rfl⟩ := hv.form5
  have hal := (Below.refl w1.heap.size w1).alloc (Nat.le_refl _) (.cells #[.int .u8 kk, .slice sp sn sc, .slice kp kn kc, .int .i64 mn, .int .i64 mx] 26)
  have hx1 := heap_alloc_new w1 (.cells #[.int .u8 kk, .slice sp sn sc, .slice kp kn kc, .int .i64 mn, .int .i64 mx] 26)
  obtain ⟨V, hV⟩ : ∃ V, V = w1.alloc (.cells #[.int .u8 kk, .slice sp sn sc, .slice kp kn kc, .int .i64 mn, .int .i64 mx] 26) := ⟨_, rfl⟩
  rw [← hV] at hal hx1
  have HC := Lib.hid (fun U (hU : Below V.heap.size V U) => Nd5.of hx1 hU)
  have HBO := Lib.hid (Both.of ((HT.out.step b1).step hal) (hv.step hal) hu.wd hu.len)
  have HB := Lib.hid (b1.trans (hal.mono b1.size))
  clear hv hu b1 hal hx1 HN HT
  go_upto_region 2 with fail
  rw [← hV]
  clear hV
  have hr : Below V.heap.size V V.drew := (Below.refl _ _).drew
  go_region_held3 (fun U => U.cell? ⟨w1.heap.size, 0, none⟩ = some (.int .u8 kk) ∧ U.cell? ⟨w1.heap.size, 1, none⟩ = some (.slice sp sn sc) ∧ U.cell? ⟨w1.heap.size, 2, none⟩ = some (.slice kp kn kc) ∧ U.cell? ⟨w1.heap.size, 3, none⟩ = some (.int .i64 mn) ∧ U.cell? ⟨w1.heap.size, 4, none⟩ = some (.int .i64 mx))
    (exact HC.out _ hr)
    (first
      | (go_at_call 9; (refine (HBO.out.kn _ hr).mono ?_); rintro e w3 ⟨rfl, b3⟩; have hr := hr.trans (b3.mono hr.size))
      | (go_at_call 10; (refine (HBO.out.w _ hr).mono ?_); rintro e w3 ⟨rfl, b3⟩; have hr := hr.trans (b3.mono hr.size))
      | (go_at_call 11; (refine (HBO.out.rw' _ hr).mono ?_); rintro e w3 ⟨rfl, b3⟩; have hr := hr.trans (b3.mono hr.size))
      | (go_at_call 12; (refine (HBO.out.s _ hr).mono ?_); rintro e w3 ⟨rfl, b3⟩; have hr := hr.trans (b3.mono hr.size))
      | (go_at_call 13; (refine (HBO.out.rs _ hr).mono ?_); rintro e w3 ⟨rfl, b3⟩; have hr := hr.trans (b3.mono hr.size)))
  have HE := Lib.hid (HB.out.trans (hr.mono HB.out.size))
  clear hr b3
  go_wp2
  go_ret
  exact ⟨rfl, HE.out⟩
end Go.Proofs.YtdcnfflleaplnaaGreatDoor
