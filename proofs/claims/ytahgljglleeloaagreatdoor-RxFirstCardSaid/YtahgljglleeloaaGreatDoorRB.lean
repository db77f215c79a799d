/- RNum, RTimes, RTimesB, in one text. -/
import Derived.Test.YtahgljglleeloaaGreatDoorRA
import Derived.Test.YtahgljglleeloaaGreatDoorRM
import Derived.Laws.IdiomStrings
/- The reader reads numbers, and how often. -/
namespace Go.Proofs.YtahgljglleeloaaGreatDoor
open Go.RowKit Go.Shelf SetM RxM
variable {R : Nat} {W : World} {s : ByteArray} {dv : Value} {rest : List Int} {d : Nat} {cl : Bool}

/-- What a reader's call comes to. -/
def Post {α : Type} (R : Nat) (s : ByteArray) (dv : Value) (d : Nat) (cl : Bool) (W : World) (val : α → Value → World → Prop) (o : Out α) (e : Ending) (W' : World) : Prop :=
  Gr R W W' ∧ match o with
  | .ok a r => ∃ v, e = .returned v ∧ val a v W' ∧ Rd R W' s dv r d cl
  | .err n r => Bad s n r e
def strV (a : List Int) (v : Value) (_ : World) : Prop := ∃ t, v = .string t ∧ bs t = a
def intV (a : Int) (v : Value) (_ : World) : Prop := v = .int .i64 a
def someF (P : Int → Bool) (k : Nat) (r : List Int) : Out (List Int) := if (runF P k r).1 = [] then .err 60 r else .ok (runF P k r).1 (runF P k r).2
theorem bs_nil {t : ByteArray} (h : bs t = []) : t = ⟨#[]⟩ := by
  have : t.data.toList = [] := by simpa [bs] using h
  apply ByteArray.ext
  exact Array.toList_inj.1 this
theorem bs_ne {t : ByteArray} (h : bs t ≠ []) : t.toList.isEmpty = false := by
  cases hq : t.toList.isEmpty with
  | false => rfl
  | true =>
    rw [List.isEmpty_iff, Lib.toList_data] at hq
    exact absurd (by simp [bs, hq]) h
set_option maxRecDepth 100000 in
set_option maxHeartbeats 1000000 in
theorem some_c (k : Nat) (hk : k ≤ 1000) (v : Value) (P : Int → Bool) (hA : Asc P) (hv : Am R W v P) (h : Rd R W s dv rest d cl) :
    Calls Tryz.prog 83 #[.pointer (some ⟨R, 0, none⟩), .int .i64 k, v] W (Post R s dv d cl W strV (someF P k rest)) := by
  have HC := Lib.hid (run_c k hk v P hA hv h)
  have HM := Lib.hid (fun V (hV : Rd R V s dv rest d cl) => misplaced_c hV)
  obtain ⟨g0, lb0, rfl⟩ := hv.form
  unfold someF
  by_cases h0 : (runF P k rest).1 = []
  · rw [if_pos h0]
    have h2 := run_none h0
    rw [h0, h2] at HC
    clear h hv h0 h2
    go_enter Tryz.func83, Tryz.ntmps83
    go_wp2_with fail
    refine HC.out.mono ?_
    rintro e w1 ⟨t, rfl, ht, hr, hg⟩
    obtain rfl := bs_nil ht
    have HR := Lib.hid hr
    clear ht hr
    go_wp2_with fail
    refine (HM.out _ HR.out).mono ?_
    rintro e w2 ⟨rfl, b2⟩
    go_wp2
    exact ⟨rfl, hg.trans (Gr.of b2), rfl⟩
  · rw [if_neg h0]
    have H0 := Lib.hid h0
    clear h hv h0
    go_enter Tryz.func83, Tryz.ntmps83
    go_wp2_with fail
    refine HC.out.mono ?_
    rintro e w1 ⟨t, rfl, ht, hr, hg⟩
    have hne := bs_ne (show bs t ≠ [] by rw [ht]; exact H0.out)
    have hne := bs_ne (show bs t ≠ [] by rw [ht]; exact H0.out)
    have HR := Lib.hid hr
    have HT := Lib.hid ht
    clear ht hr
    go_wp2
    go_ret
    exact ⟨hg, _, rfl, ⟨t, rfl, HT.out⟩, HR.out⟩

/-! A string's bytes in new memory. -/
def capB (w : World) (t : ByteArray) : Nat := grownCap w t.size 0 5
def objB (w : World) (t : ByteArray) : Obj := .cells (bytesRow t (capB w t)) 5 ((bytesRow t (capB w t)).size, (bytesRow t (capB w t)).size + 1)
theorem conv_b (t : ByteArray) (w : World) : (convert 9 38 (.string t)).run Tryz.prog w = .ok (.slice (some ⟨w.heap.size, 0, none⟩) t.size (capB w t)) (w.drew.alloc (objB w t)) :=
  run_bytes_of_string w _ _ _ t Tryz.underlying9 Tryz.underlying38 Tryz.underlying5
theorem bs_bytes (t : ByteArray) : U.UtfM.IsBytes (bs t) := fun c hc => by
  obtain ⟨b, _, rfl⟩ := List.mem_map.1 hc
  have := b.toNat_lt
  omega
theorem by_conv (t : ByteArray) (w : World) : U.By (w.drew.alloc (objB w t)) (some ⟨w.heap.size, 0, none⟩) (bs t) :=
  ⟨bs_bytes t, fun _ => ⟨w.heap.size, 0, rfl, by rw [World.size_alloc]; exact Nat.lt_succ_self _, fun j hj => by
    rw [bs_len] at hj
    rw [show (w.drew.alloc (objB w t)).cell? ⟨w.heap.size, 0 + j, none⟩ = (bytesRow t (capB w t))[0 + j]? from cell_of_row _ w.heap.size _ _ _ _ (heap_alloc_new w.drew _), Nat.zero_add]
    unfold bytesRow bs
    have hj' : j < t.data.size := hj
    rw [Array.getElem?_append_left (by simp; omega)]
    have hj2 : (bs t)[j]? = some (bs t)[j] := List.getElem?_eq_getElem _
    unfold bs at hj2
    rw [List.getElem?_map, Array.getElem?_toList, Array.getElem?_eq_getElem hj'] at hj2
    rw [Array.getElem?_map, Array.getElem?_eq_getElem hj']
    exact congrArg some (congrArg (Value.int .u8) (by simpa using hj2))⟩⟩
theorem below_conv (t : ByteArray) (w : World) : Below w.heap.size w (w.drew.alloc (objB w t)) := (Below.refl _ _).drew.alloc (Nat.le_refl _) _

/-! A number. -/
theorem asc_D : Asc isD := fun b hb => by simp [isD]; omega
theorem asc_L : Asc isL := fun b hb => by simp [isL]; omega
theorem asc_H : Asc isH := fun b hb => by simp [isH, isD]; omega
theorem asc_LD : Asc isLD := fun b hb => by simp [isLD, isL, isD]; omega
theorem run_all (P : Int → Bool) : ∀ (k : Nat) (r : List Int), (runF P k r).1.length ≤ k ∧ ∀ c ∈ (runF P k r).1, P c = true
  | 0, r => by simp [runF]
  | k + 1, [] => by simp [runF]
  | k + 1, c :: r => by
    simp only [runF]
    split
    · rename_i h
      have := run_all P k r
      refine ⟨by simp; exact this.1, fun x hx => ?_⟩
      rcases List.mem_cons.1 hx with rfl | hx
      · exact h
      · exact this.2 x hx
    · simp
set_option maxRecDepth 100000 in
set_option maxHeartbeats 4000000 in
theorem number_c (h : Rd R W s dv rest d cl) :
    Calls Tryz.prog 98 #[.pointer (some ⟨R, 0, none⟩)] W (Post R s dv d cl W intV (numF rest)) := by
  have HS := Lib.hid (fun V v (hV : Rd R V s dv rest d cl) (hv : Am R V v isD) => some_c 2 (by omega) v isD asc_D hv hV)
  have HR := Lib.hid h
  have hRl := h.lt
  have HCV := Lib.hid conv_b
  obtain ⟨hlen, hall⟩ := run_all isD 2 rest
  unfold someF at HS
  obtain ⟨o, ho⟩ : ∃ o, o = numF rest := ⟨_, rfl⟩
  rw [← ho]
  have HO := Lib.hid ho
  clear h ho
  go_enter Tryz.func98, Tryz.ntmps98
  go_wp2_with fail
  refine (digit_c hRl).mono ?_
  rintro e w1 ⟨v, rfl, hv, b1⟩
  have HV := Lib.hid hv
  have HR1 := Lib.hid (HR.out.kept b1)
  obtain ⟨g0, lb0, rfl⟩ := hv.form
  clear hv
  go_wp2_with fail
  refine (HS.out _ _ HR1.out HV.out).mono ?_
  rintro e w2 ⟨g2, h2⟩
  have G2 := Lib.hid ((Gr.of (R := R) b1).trans g2)
  clear g2
  by_cases h0 : (runF isD 2 rest).1 = []
  · rw [if_pos h0] at h2
    obtain rfl := h2
    have H0 := Lib.hid h0
    clear hlen hall h0
    go_wp2
    refine ⟨rfl, G2.out, ?_⟩
    rw [HO.out, numF, if_pos H0.out]
    rfl
  · rw [if_neg h0] at h2
    obtain ⟨v, rfl, ⟨t, rfl, ht⟩, hr⟩ := h2
    have HR2 := Lib.hid hr
    have hsz := bs_len t
    have hcv := HCV.out t w2
    have hby := by_conv t w2
    have hbl := below_conv t w2
    rw [ht] at hby hsz
    rw [numF, if_neg h0] at HO
    generalize w2.drew.alloc (objB w2 t) = w3 at *
    generalize (runF isD 2 rest).2 = r at *
    generalize (runF isD 2 rest).1 = ds at *
    have HR3 := Lib.hid (HR2.out.kept hbl)
    have G3 := Lib.hid (G2.out.trans (Gr.of hbl))
    obtain ⟨b, off, e0, hbb, hc⟩ := hby.2 h0
    obtain ⟨rfl, rfl⟩ : w2.heap.size = b ∧ 0 = off := by cases e0; exact ⟨rfl, rfl⟩
    have fin : ∀ n : Int, n = ds.foldl (fun n c => n * 10 + (c - 48)) 0 → ∀ wy, Rd R wy s dv r d cl → Gr R W wy → Post R s dv d cl W intV o (.returned (.int .i64 n)) wy := by
      intro n hn wy hy hg
      refine ⟨hg, ?_⟩
      rw [HO.out]
      exact ⟨_, rfl, by rw [hn]; rfl, hy⟩
    have FIN := Lib.hid fin
    have HZ := Lib.hid hsz
    have H0 := Lib.hid h0
    clear fin hby hr hsz ht e0 h0 hbl
    match ds, hlen, hall with
    | [], _, _ => exact absurd rfl H0.out
    | [a], _, hall =>
      have hz1 : t.size = 1 := HZ.out.symm
      rw [hz1] at hcv
      have ha : 48 ≤ a ∧ a ≤ 57 := by simpa [isD] using hall a (by simp)
      have k0 : w3.cell? ⟨w2.heap.size, 0, none⟩ = some (.int .u8 a) := hc 0 (by simp)
      have e1 : IntKind.u8.wrap (a - 48) = a - 48 := IntWalk.u8_in _ (by omega)
      have e2 : IntKind.i64.wrap (a - 48) = a - 48 := IntWalk.i64_in _ (by omega)
      have F := Lib.hid (FIN.out (a - 48) (by simp) w3 HR3.out G3.out)
      clear hall hc HS hz1
      go_wp2
      go_rounds 2
      all_goals
        go_ret
        exact F.out
    | [a, b], _, hall =>
      have hz1 : t.size = 2 := HZ.out.symm
      rw [hz1] at hcv
      have ha : 48 ≤ a ∧ a ≤ 57 := by simpa [isD] using hall a (by simp)
      have hb : 48 ≤ b ∧ b ≤ 57 := by simpa [isD] using hall b (by simp)
      have k0 : w3.cell? ⟨w2.heap.size, 0, none⟩ = some (.int .u8 a) := hc 0 (by simp)
      have k1 : w3.cell? ⟨w2.heap.size, 1, none⟩ = some (.int .u8 b) := hc 1 (by simp)
      have e1 : IntKind.u8.wrap (a - 48) = a - 48 := IntWalk.u8_in _ (by omega)
      have e2 : IntKind.i64.wrap (a - 48) = a - 48 := IntWalk.i64_in _ (by omega)
      have e3 : IntKind.u8.wrap (b - 48) = b - 48 := IntWalk.u8_in _ (by omega)
      have e4 : IntKind.i64.wrap (b - 48) = b - 48 := IntWalk.i64_in _ (by omega)
      have e5 : IntKind.i64.wrap ((a - 48) * 10) = (a - 48) * 10 := IntWalk.i64_in _ (by omega)
      have e6 : IntKind.i64.wrap ((a - 48) * 10 + (b - 48)) = (a - 48) * 10 + (b - 48) := IntWalk.i64_in _ (by omega)
      have F := Lib.hid (FIN.out ((a - 48) * 10 + (b - 48)) (by simp) w3 HR3.out G3.out)
      clear hall hc HS hz1
      go_wp2
      go_rounds 3
      all_goals
        go_ret
        exact F.out
    | _ :: _ :: _ :: _, hl, _ => simp at hl
theorem inS_asc {l : List Int} (h : ∀ c ∈ l, c < 128) : Asc (inS l) := fun b hb => by
  unfold inS
  rw [← Bool.not_eq_true, List.contains_iff_mem]
  intro hm
  have := h b hm
  omega
theorem sees_one (c : Int) (r : List Int) : sees (inS [c]) r = at1 c r := by
  cases r with
  | nil => rfl
  | cons b t => simp [sees, inS, at1]
/-- Does a sign of one byte stand here? -/
theorem sees1_c (R : Nat) (v : Value) (c : Int) (hc : c < 128) (hv : Am R W v (inS [c])) (h : Rd R W s dv rest d cl) :
    Calls Tryz.prog 44 #[.pointer (some ⟨R, 0, none⟩), v] W fun e W' => e = .returned (.bool (at1 c rest)) ∧ Below W.heap.size W W' := by
  have := sees_c v (inS [c]) (inS_asc (by simpa using hc)) hv h
  rwa [sees_one] at this
end Go.Proofs.YtahgljglleeloaaGreatDoor

/- The reader reads how often. -/
namespace Go.Proofs.YtahgljglleeloaaGreatDoor
open Go.RowKit Go.Shelf SetM RxM
variable {R : Nat} {W : World} {s : ByteArray} {dv : Value} {rest : List Int} {d : Nat} {cl : Bool}

def unitV (_ : Unit) (v : Value) (_ : World) : Prop := v = .tuple #[]
def pairV (p : Int × Int) (v : Value) (_ : World) : Prop := v = .tuple #[.int .i64 p.1, .int .i64 p.2]
theorem low1 {c : Int} (h0 : 0 ≤ c) (h1 : c < 128) : Low [c] := fun x hx => by simp at hx; subst hx; exact ⟨h0, h1⟩
theorem need_err {c : Int} {r : List Int} (h : at1 c r = false) : needF c r = .err 60 r := by
  cases r with
  | nil => rfl
  | cons b t => simp [at1] at h; simp [needF, h]
theorem need_at {c : Int} {r : List Int} (h : at1 c r = true) : needF c r = .ok () r.tail := by
  rw [at1_true h]
  simp [needF]
theorem not_pre {c : Int} {r : List Int} (h : at1 c r = false) : ¬ [c] <+: r := by
  rw [at1_prefix] at h
  simpa using h
/-- A sign of one byte that must stand here. -/
theorem need1_c (b : UInt8) (c : Int) (hb : (b.toNat : Int) = c) (hc : c < 128) (h : Rd R W s dv rest d cl) :
    Calls Tryz.prog 82 #[.pointer (some ⟨R, 0, none⟩), .string ⟨#[b]⟩] W (Post R s dv d cl W unitV (needF c rest)) := by
  have hbs : bs ⟨#[b]⟩ = [c] := by simp [bs, hb]
  have hlow : Low (bs ⟨#[b]⟩) := by rw [hbs]; exact low1 (by omega) hc
  cases hq : at1 c rest with
  | false =>
    rw [need_err hq]
    refine (need_no ⟨#[b]⟩ hlow (by rw [hbs]; exact not_pre hq) h).mono ?_
    rintro e w1 ⟨hbad, hb1⟩
    exact ⟨Gr.of hb1, hbad⟩
  | true =>
    rw [need_at hq]
    have e := at1_true hq
    rw [e] at h
    refine (need_yes ⟨#[b]⟩ hlow rest.tail (by rw [hbs]; exact h)).mono ?_
    rintro e w1 ⟨rfl, hr, hg⟩
    exact ⟨hg, _, rfl, rfl, hr⟩
/-- A sign of one byte, if it stands here. -/
theorem take1_c (b : UInt8) (c : Int) (hb : (b.toNat : Int) = c) (hc : c < 128) (h : Rd R W s dv rest d cl) (q : Bool) (hq : at1 c rest = q) :
    Calls Tryz.prog 36 #[.pointer (some ⟨R, 0, none⟩), .string ⟨#[b]⟩] W fun e W' => e = .returned (.bool q) ∧ Rd R W' s dv (if q then rest.tail else rest) d cl ∧ Gr R W W' := by
  have hbs : bs ⟨#[b]⟩ = [c] := by simp [bs, hb]
  have hlow : Low (bs ⟨#[b]⟩) := by rw [hbs]; exact low1 (by omega) hc
  cases q with
  | false =>
    refine (take_no ⟨#[b]⟩ hlow (by rw [hbs]; exact not_pre hq) h).mono ?_
    rintro e w1 ⟨rfl, hb1⟩
    exact ⟨rfl, h.kept hb1, Gr.of hb1⟩
  | true =>
    have e := at1_true hq
    rw [e] at h
    refine (take_yes ⟨#[b]⟩ hlow rest.tail (by rw [hbs]; exact h)).mono ?_
    rintro e w1 ⟨rfl, hr, hg⟩
    exact ⟨rfl, hr, hg⟩
/-- One sign, and whether it stands here. -/
theorem one1_c (b : UInt8) (c : Int) (hb : (b.toNat : Int) = c) (hR : R < W.heap.size) :
    Calls Tryz.prog 43 #[.string ⟨#[b]⟩] W fun e W' => ∃ v, e = .returned v ∧ Am R W' v (inS [c]) ∧ Below W.heap.size W W' := by
  have hbs : bs ⟨#[b]⟩ = [c] := by simp [bs, hb]
  have := oneOf_c R ⟨#[b]⟩ W hR
  rwa [hbs] at this
set_option maxRecDepth 100000 in
set_option maxHeartbeats 8000000 in
theorem bounds_c {r : List Int} (h : Rd R W s dv (123 :: r) d cl) :
    Calls Tryz.prog 70 #[.pointer (some ⟨R, 0, none⟩)] W (Post R s dv d cl W pairV (boundsF r)) := by
  have HN := Lib.hid (need1_c 123 123 rfl (by decide) h)
  rw [show needF 123 (123 :: r) = .ok () r from rfl] at HN
  obtain ⟨o, ho⟩ : ∃ o, o = boundsF r := ⟨_, rfl⟩
  rw [← ho]
  have HO := Lib.hid ho
  unfold boundsF at HO
  clear h ho
  go_enter Tryz.func70, Tryz.ntmps70
  go_wp2_with fail
  refine HN.out.mono ?_
  rintro e w1 ⟨g1, v, rfl, rfl, hr⟩
  have HR1 := Lib.hid hr
  have c1 := hr.c1
  clear hr
  go_wp2_with fail
  refine (number_c HR1.out).mono ?_
  rintro e w2 ⟨g2, h2⟩
  have G := Lib.hid (Gr.trans g1 g2)
  clear g2
  cases hn : numF r with
  | err e x =>
    rw [hn] at h2 HO
    dsimp only at HO
    obtain rfl := h2
    clear hn
    go_wp2
    exact ⟨rfl, G.out, by rw [HO.out]; rfl⟩
  | ok a r1 =>
    rw [hn] at h2 HO
    dsimp only at HO
    obtain ⟨v, rfl, rfl, hr⟩ := h2
    have HR := Lib.hid hr
    clear hr hn
    unfold mostF at HO
    cases hq : at1 44 r1 with
    | false =>
      have HT := Lib.hid (take1_c 44 44 rfl (by decide) HR.out false hq)
      rw [hq] at HO
      simp only [Bool.false_eq_true, if_false] at HO HT
      clear hq
      go_wp2_with fail
      refine HT.out.mono ?_
      rintro e w3 ⟨rfl, hr, g3⟩
      have HR := Lib.hid hr
      have G := Lib.hid (G.out.trans g3)
      clear hr g3
      go_wp2_with fail
      refine (need1_c 125 125 rfl (by decide) HR.out).mono ?_
      rintro e wz ⟨gz, hz⟩
      have GZ := Lib.hid (G.out.trans gz)
      clear gz
      cases h9 : needF 125 r1 with
      | err e x =>
        rw [h9] at hz HO
        dsimp only at HO
        obtain rfl := hz
        clear h9
        go_wp2
        exact ⟨rfl, GZ.out, by rw [HO.out]; rfl⟩
      | ok u r3 =>
        rw [h9] at hz HO
        dsimp only at HO
        obtain ⟨v, rfl, rfl, hr3⟩ := hz
        have HR3 := Lib.hid hr3
        clear h9 hr3
        have HC := Lib.hid (show (20 < max a a ∨ (a ≠ -1 ∧ a < a)) ↔ 20 < a by omega)
        by_cases k1 : 20 < a
        · have hd : decide (20 < a) = true := decide_eq_true (by omega)
          have HK := Lib.hid k1
          clear k1
          go_wp2
          exact ⟨rfl, GZ.out, by rw [HO.out, if_pos (HC.out.2 HK.out)]; rfl⟩
        · have hd : decide (20 < a) = false := decide_eq_false (by omega)
          have HK := Lib.hid k1
          clear k1
          go_wp2
          all_goals
            go_ret2
            refine ⟨GZ.out, ?_⟩
            rw [HO.out, if_neg (fun h => by have := HK.out; have := HC.out.1 h; omega)]
            exact ⟨_, rfl, by simp_all [pairV], HR3.out⟩
    | true =>
      have HT := Lib.hid (take1_c 44 44 rfl (by decide) HR.out true hq)
      rw [hq] at HO
      simp only [if_true] at HO HT
      clear hq
      obtain ⟨r2, hr2⟩ : ∃ r2, r2 = r1.tail := ⟨_, rfl⟩
      rw [← hr2] at HO HT
      clear hr2
      go_wp2_with fail
      refine HT.out.mono ?_
      rintro e w3 ⟨rfl, hr, g3⟩
      have HR := Lib.hid hr
      have G := Lib.hid (G.out.trans g3)
      clear hr g3
      go_wp2_with fail
      refine (one1_c 125 125 rfl HR.out.lt).mono ?_
      rintro e w4 ⟨v, rfl, hv, b4⟩
      obtain ⟨g0, lb0, rfl⟩ := hv.form
      have HV := Lib.hid hv
      have HR := Lib.hid (HR.out.kept b4)
      have G := Lib.hid (G.out.trans (Gr.of b4))
      clear hv b4
      go_wp2_with fail
      refine (sees1_c R _ 125 (by decide) HV.out HR.out).mono ?_
      rintro e w5 ⟨rfl, b5⟩
      have HR := Lib.hid (HR.out.kept b5)
      have G := Lib.hid (G.out.trans (Gr.of b5))
      clear b5
      cases hq : at1 125 r2 with
      | true =>
        rw [hq] at HO
        simp only [if_true] at HO
        clear hq
        go_wp2_with fail
        refine (need1_c 125 125 rfl (by decide) HR.out).mono ?_
        rintro e wz ⟨gz, hz⟩
        have GZ := Lib.hid (G.out.trans gz)
        clear gz
        cases h9 : needF 125 r2 with
        | err e x =>
          rw [h9] at hz HO
          dsimp only at HO
          obtain rfl := hz
          clear h9
          go_wp2
          exact ⟨rfl, GZ.out, by rw [HO.out]; rfl⟩
        | ok u r3 =>
          rw [h9] at hz HO
          dsimp only at HO
          obtain ⟨v, rfl, rfl, hr3⟩ := hz
          have HR3 := Lib.hid hr3
          clear h9 hr3
          have HC := Lib.hid (show (20 < max a (-1) ∨ ((-1) ≠ -1 ∧ (-1) < a)) ↔ 20 < a by omega)
          by_cases k1 : 20 < a
          · have hd : decide (20 < max a (-1)) = true := decide_eq_true (by omega)
            have HK := Lib.hid k1
            clear k1
            go_wp2
            exact ⟨rfl, GZ.out, by rw [HO.out, if_pos (HC.out.2 HK.out)]; rfl⟩
          · have hd : decide (20 < max a (-1)) = false := decide_eq_false (by omega)
            have HK := Lib.hid k1
            clear k1
            go_wp2
            all_goals
              go_ret2
              refine ⟨GZ.out, ?_⟩
              rw [HO.out, if_neg (fun h => by have := HK.out; have := HC.out.1 h; omega)]
              exact ⟨_, rfl, by simp_all [pairV], HR3.out⟩
      | false =>
        rw [hq] at HO
        simp only [Bool.false_eq_true, if_false] at HO
        clear hq
        go_wp2_with fail
        refine (number_c HR.out).mono ?_
        rintro e w6 ⟨g6, h6⟩
        have G := Lib.hid (G.out.trans g6)
        clear g6
        cases hn : numF r2 with
        | err e x =>
          rw [hn] at h6 HO
          dsimp only at HO
          obtain rfl := h6
          clear hn
          go_wp2
          exact ⟨rfl, G.out, by rw [HO.out]; rfl⟩
        | ok b r3 =>
          rw [hn] at h6 HO
          dsimp only at HO
          obtain ⟨v, rfl, rfl, hr⟩ := h6
          have HR := Lib.hid hr
          clear hr hn
          go_wp2_with fail
          refine (need1_c 125 125 rfl (by decide) HR.out).mono ?_
          rintro e wz ⟨gz, hz⟩
          have GZ := Lib.hid (G.out.trans gz)
          clear gz
          cases h9 : needF 125 r3 with
          | err e x =>
            rw [h9] at hz HO
            dsimp only at HO
            obtain rfl := hz
            clear h9
            go_wp2
            exact ⟨rfl, GZ.out, by rw [HO.out]; rfl⟩
          | ok u r4 =>
            rw [h9] at hz HO
            dsimp only at HO
            obtain ⟨v, rfl, rfl, hr3⟩ := hz
            have HR3 := Lib.hid hr3
            clear h9 hr3
            by_cases k1 : 20 < max a b
            · have hd : decide (20 < max a b) = true := decide_eq_true k1
              have HK := Lib.hid k1
              clear k1
              go_wp2
              exact ⟨rfl, GZ.out, by rw [HO.out]; rw [if_pos (.inl HK.out)]; rfl⟩
            · have hd : decide (20 < max a b) = false := decide_eq_false k1
              have HK := Lib.hid k1
              clear k1
              by_cases k2 : b = -1
              · have hd2 : (b == -1) = true := by rw [k2]; rfl
                have HK2 := Lib.hid k2
                clear k2
                go_wp2
                go_ret2
                refine ⟨GZ.out, ?_⟩
                rw [HO.out]
                rw [if_neg (by have := HK.out; have := HK2.out; omega)]
                exact ⟨_, rfl, by have := HK2.out; simp [pairV, this], HR3.out⟩
              · have hd2 : (b == -1) = false := by rw [beq_eq_false_iff_ne]; exact k2
                have HK2 := Lib.hid k2
                clear k2
                by_cases k3 : b < a
                · have hd3 : decide (b < a) = true := decide_eq_true k3
                  have HK3 := Lib.hid k3
                  clear k3
                  go_wp2
                  exact ⟨rfl, GZ.out, by rw [HO.out]; rw [if_pos (.inr ⟨HK2.out, HK3.out⟩)]; rfl⟩
                · have hd3 : decide (b < a) = false := decide_eq_false k3
                  have HK3 := Lib.hid k3
                  clear k3
                  go_wp2
                  go_ret2
                  refine ⟨GZ.out, ?_⟩
                  rw [HO.out]
                  rw [if_neg (by have := HK.out; have := HK3.out; omega)]
                  exact ⟨_, rfl, rfl, HR3.out⟩
end Go.Proofs.YtahgljglleeloaaGreatDoor

/- The reader reads a sign that says how often. -/
namespace Go.Proofs.YtahgljglleeloaaGreatDoor
open Go.RowKit Go.Shelf SetM RxM
variable {R : Nat} {W : World} {s : ByteArray} {dv : Value} {rest : List Int} {d : Nat} {cl : Bool}

def optV (p : Option (Int × Int)) (v : Value) (_ : World) : Prop :=
  match p with
  | none => v = .tuple #[.int .i64 0, .int .i64 0, .bool false]
  | some p => v = .tuple #[.int .i64 p.1, .int .i64 p.2, .bool true]
set_option maxRecDepth 100000 in
set_option maxHeartbeats 8000000 in
theorem times_c (h : Rd R W s dv rest d cl) :
    Calls Tryz.prog 54 #[.pointer (some ⟨R, 0, none⟩)] W (Post R s dv d cl W optV (timesF rest)) := by
  obtain ⟨o, ho⟩ : ∃ o, o = timesF rest := ⟨_, rfl⟩
  rw [← ho]
  have HO := Lib.hid ho
  have HR := Lib.hid h
  unfold timesF at HO
  clear h ho
  go_enter Tryz.func54, Tryz.ntmps54
  cases hq42 : at1 42 rest with
  | true =>
    have HT := Lib.hid (take1_c 42 42 rfl (by decide) HR.out true hq42)
    simp only [hq42, if_true] at HO HT
    clear hq42
    go_wp2_with fail
    refine HT.out.mono ?_
    rintro e w1 ⟨rfl, hr, g⟩
    have HRz := Lib.hid hr
    have G := Lib.hid g
    clear hr g
    go_wp2
    go_ret3
    exact ⟨G.out, by rw [HO.out]; exact ⟨_, rfl, rfl, HRz.out⟩⟩
  | false =>
  have HT := Lib.hid (take1_c 42 42 rfl (by decide) HR.out false hq42)
  simp only [hq42, Bool.false_eq_true, if_false] at HO HT
  clear hq42
  go_wp2_with fail
  refine HT.out.mono ?_
  rintro e w1 ⟨rfl, hr, g⟩
  have HR := Lib.hid hr
  have G := Lib.hid g
  clear hr g HT
  cases hq43 : at1 43 rest with
  | true =>
    have HT := Lib.hid (take1_c 43 43 rfl (by decide) HR.out true hq43)
    simp only [hq43, if_true] at HO HT
    clear hq43
    go_wp2_with fail
    refine HT.out.mono ?_
    rintro e w2 ⟨rfl, hr, g⟩
    have HRz := Lib.hid hr
    have G := Lib.hid (G.out.trans g)
    clear hr g
    go_wp2
    go_ret3
    exact ⟨G.out, by rw [HO.out]; exact ⟨_, rfl, rfl, HRz.out⟩⟩
  | false =>
  have HT := Lib.hid (take1_c 43 43 rfl (by decide) HR.out false hq43)
  simp only [hq43, Bool.false_eq_true, if_false] at HO HT
  clear hq43
  go_wp2_with fail
  refine HT.out.mono ?_
  rintro e w2 ⟨rfl, hr, g⟩
  have HR := Lib.hid hr
  have G := Lib.hid (G.out.trans g)
  clear hr g HT
  cases hq63 : at1 63 rest with
  | true =>
    have HT := Lib.hid (take1_c 63 63 rfl (by decide) HR.out true hq63)
    simp only [hq63, if_true] at HO HT
    clear hq63
    go_wp2_with fail
    refine HT.out.mono ?_
    rintro e w3 ⟨rfl, hr, g⟩
    have HRz := Lib.hid hr
    have G := Lib.hid (G.out.trans g)
    clear hr g
    go_wp2
    go_ret3
    exact ⟨G.out, by rw [HO.out]; exact ⟨_, rfl, rfl, HRz.out⟩⟩
  | false =>
  have HT := Lib.hid (take1_c 63 63 rfl (by decide) HR.out false hq63)
  simp only [hq63, Bool.false_eq_true, if_false] at HO HT
  clear hq63
  go_wp2_with fail
  refine HT.out.mono ?_
  rintro e w3 ⟨rfl, hr, g⟩
  have HR := Lib.hid hr
  have G := Lib.hid (G.out.trans g)
  clear hr g HT
  go_wp2_with fail
  refine (one1_c 123 123 rfl HR.out.lt).mono ?_
  rintro e w4 ⟨v, rfl, hv, b4⟩
  obtain ⟨g0, lb0, rfl⟩ := hv.form
  have HV := Lib.hid hv
  have HR := Lib.hid (HR.out.kept b4)
  have G := Lib.hid (G.out.trans (Gr.of b4))
  clear hv b4
  have HS := Lib.hid (sees1_c R _ 123 (by decide) HV.out HR.out)
  cases hq : at1 123 rest with
  | false =>
    simp only [hq, Bool.false_eq_true, false_and, if_false] at HO HS
    clear hq
    go_wp2_with fail
    refine HS.out.mono ?_
    rintro e w5 ⟨rfl, b5⟩
    have HR := Lib.hid (HR.out.kept b5)
    have G := Lib.hid (G.out.trans (Gr.of b5))
    clear b5
    go_wp2
    go_ret3
    exact ⟨G.out, by rw [HO.out]; exact ⟨_, rfl, rfl, HR.out⟩⟩
  | true =>
    simp only [hq, true_and] at HO HS
    obtain ⟨r, hr⟩ : ∃ r, r = rest.tail := ⟨_, rfl⟩
    have he := at1_true hq
    rw [← hr] at he HO
    clear hq hr
    subst he
    go_wp2_with fail
    refine HS.out.mono ?_
    rintro e w5 ⟨rfl, b5⟩
    have HR := Lib.hid (HR.out.kept b5)
    have G := Lib.hid (G.out.trans (Gr.of b5))
    clear b5
    go_wp2_with fail
    refine (letter_c HR.out.lt).mono ?_
    rintro e w6 ⟨v, rfl, hv, b6⟩
    obtain ⟨g1, lb1, rfl⟩ := hv.form
    have HV := Lib.hid hv
    have HR := Lib.hid (HR.out.kept b6)
    have G := Lib.hid (G.out.trans (Gr.of b6))
    clear hv b6
    have HS := Lib.hid (ahead1_c 123 r (by decide) _ isL asc_L HV.out HR.out)
    cases hl : sees isL r with
    | true =>
      simp only [hl, Bool.true_eq_false, if_false] at HO HS
      clear hl
      go_wp2_with fail
      refine HS.out.mono ?_
      rintro e w7 ⟨rfl, b7⟩
      have HR := Lib.hid (HR.out.kept b7)
      have G := Lib.hid (G.out.trans (Gr.of b7))
      clear b7
      go_wp2
      go_ret3
      exact ⟨G.out, by rw [HO.out]; exact ⟨_, rfl, rfl, HR.out⟩⟩
    | false =>
      simp only [hl, if_true] at HO HS
      clear hl
      go_wp2_with fail
      refine HS.out.mono ?_
      rintro e w7 ⟨rfl, b7⟩
      have HR := Lib.hid (HR.out.kept b7)
      have G := Lib.hid (G.out.trans (Gr.of b7))
      clear b7
      go_wp2_with fail
      refine (bounds_c HR.out).mono ?_
      rintro e w8 ⟨g8, h8⟩
      have G := Lib.hid (G.out.trans g8)
      clear g8
      cases hb : boundsF r with
      | err e x =>
        rw [hb] at h8 HO
        dsimp only at HO
        obtain rfl := h8
        clear hb
        go_wp2
        exact ⟨rfl, G.out, by rw [HO.out]; rfl⟩
      | ok p r1 =>
        rw [hb] at h8 HO
        dsimp only at HO
        obtain ⟨v, rfl, rfl, hr⟩ := h8
        have HR := Lib.hid hr
        clear hb hr
        go_wp2
        go_ret3
        exact ⟨G.out, by rw [HO.out]; exact ⟨_, rfl, rfl, HR.out⟩⟩
end Go.Proofs.YtahgljglleeloaaGreatDoor
