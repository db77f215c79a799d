/- RxPlain's walk: a sign behind a stroke is that sign; a letter that is no sign's may not stand there. -/
import Derived.Test.YtahgljglleeloaaGreatDoorROne
namespace Go.Proofs.YtahgljglleeloaaGreatDoor
open Go.RowKit Go.Shelf Go.Maps SetM PropsM RxM

theorem conv_at (x : UInt8) (U : World) (g : Nat) (h : U.cell? ⟨g, 0, none⟩ = some (.int .u8 ((x.toNat : Nat) : Int))) : (convert 38 9 (.slice (some ⟨g, 0, none⟩) 1 1)).run Tryz.prog U = .ok (.string ⟨#[x]⟩) U := by
  have h1 := run_convert_bytes_arg U 38 5 Tryz.underlying38 Tryz.underlying5 g 0 1 1 [((x.toNat : Nat) : Int)] rfl (fun i hi => by
    match i, hi with
    | 0, _ => exact h) 9 Tryz.underlying9
  rw [h1]
  have e : strOfNums [((x.toNat : Nat) : Int)] = ⟨#[x]⟩ := by simp [strOfNums]
  rw [e]
theorem byte_of {x : Int} (h0 : 0 ≤ x) (h1 : x < 256) : ∃ b : UInt8, ((b.toNat : Nat) : Int) = x := ⟨UInt8.ofNat x.toNat, by simp; omega⟩
/-- The strokes' signs. -/
def signsL : List Int := [124, 40, 41, 91, 93, 123, 125, 42, 43, 63, 46, 92, 94, 45]
def sgn (i : Nat) : Int := signsL.getD i 0
theorem sgn_mem {i : Nat} (h : i < 14) : sgn i ∈ signsL := by
  unfold sgn
  rw [List.getD_eq_getElem?_getD, List.getElem?_eq_getElem (by exact h)]
  exact List.getElem_mem _
theorem signs_in (x : Int) : inS escS x = true ↔ x ∈ signsL := by unfold inS; rw [List.contains_iff_mem]; rfl
theorem plain_sign : ∀ x ∈ signsL, plainP x = some x := by decide
theorem signs_at (s : ByteArray) (hs : bs s = signsL) (i : Nat) (hi : i < 14) : ∀ w, (Instr.index 9 (.string s) (.int .i64 (i : Int))).run Tryz.prog w = .ok (.int .u8 (sgn i)) w := by
  intro w
  unfold sgn
  have hl : s.data.toList.length = 14 := by have := bs_len s; rw [hs] at this; exact this.symm
  rw [str_ix s i (by omega) w]
  have : (bs s)[i]? = some ((s.data.toList[i]'(by omega)).toNat : Int) := by unfold bs; rw [List.getElem?_map, List.getElem?_eq_getElem (by omega)]; rfl
  rw [hs] at this
  rw [List.getD_eq_getElem?_getD, this]
  rfl
theorem plain_sc {x k : Int} (h0 : 0 ≤ x) (h1 : x < 128) (h : plainP x = some k) : Sc k := by
  unfold plainP at h
  unfold Sc
  split at h
  · cases h; decide
  split at h
  · cases h; decide
  split at h
  · cases h; decide
  split at h
  · cases h; omega
  · cases h
theorem plain_letters {x k : Int} (h : plainP x = some k) (hn : x ∉ signsL) : x = 110 ∨ x = 114 ∨ x = 116 := by
  unfold plainP at h
  split at h
  · rename_i h1; exact .inl h1
  split at h
  · rename_i h1; exact .inr (.inl h1)
  split at h
  · rename_i h1; exact .inr (.inr h1)
  split at h
  · rename_i h1; exact absurd ((signs_in x).1 h1) hn
  · cases h
theorem not_letters {x : Int} (h : plainP x = none) : x ≠ 110 ∧ x ≠ 114 ∧ x ≠ 116 := by
  refine ⟨?_, ?_, ?_⟩ <;> (rintro rfl; cases h)
theorem below_dN {W0 W : World} {n : Nat} (h : Below n W0 W) (k : Nat) : Below n W0 (W.drewN k) := ⟨h.os, h.tape, h.output, h.size, h.block⟩
set_option maxRecDepth 100000 in
set_option maxHeartbeats 8000000 in
theorem rxPlain_any (n : Int) (h0 : 0 ≤ n) (w : World) (hC : Cf w w) :
    Calls Tryz.prog 5 #[.int .u8 n] w fun e w' => e = .returned (.bool true) ∧ Below w.heap.size w w' := by
  have HC := Lib.hid hC
  obtain ⟨b, hb⟩ : ∃ b : UInt8, n.tmod 128 = ((b.toNat : Nat) : Int) := by
    obtain ⟨b, hb⟩ := byte_of (x := n.tmod 128) (by rw [Int.tmod_eq_emod_of_nonneg h0]; omega) (by rw [Int.tmod_eq_emod_of_nonneg h0]; omega)
    exact ⟨b, hb.symm⟩
  have hb7 : b.toNat < 128 := by rw [Int.tmod_eq_emod_of_nonneg h0] at hb; omega
  obtain ⟨x, hx⟩ : ∃ x : Int, x = ((b.toNat : Nat) : Int) := ⟨_, rfl⟩
  have hcv := fun U g => conv_at b U g
  have hbs : bs (⟨#[92]⟩ ++ ⟨#[b]⟩ : ByteArray) = U.UtfM.wr [92, x] := by
    rw [bs_append, wr_low _ (by intro c hc; simp at hc; rcases hc with rfl | rfl <;> omega), hx]; rfl
  have hsc : ∀ c ∈ [92, x], U.UtfM.Sc c := by intro c hc; simp at hc; unfold U.UtfM.Sc; rcases hc with rfl | rfl <;> omega
  have hsz : (⟨#[92]⟩ ++ ⟨#[b]⟩ : ByteArray).size = 2 := by simp [ByteArray.size_append]; rfl
  have hx0 : 0 ≤ x := by omega
  have hx7 : x < 128 := by omega
  have hix := signs_at ⟨#[124, 40, 41, 91, 93, 123, 125, 42, 43, 63, 46, 92, 94, 45]⟩ rfl
  have hba := (Below.refl w.heap.size w).alloc (Nat.le_refl _) (.cells #[.int .u8 x] 5)
  have HBA := Lib.hid hba
  have HCA := Lib.hid (hC.step hba)
  rw [← hx] at hb hcv
  clear hx hba
  cases hp : plainP x with
  | none =>
    have hz : ((⟨#[92]⟩ ++ ⟨#[b]⟩ : ByteArray).size : Int) - ((U.UtfM.wr (if x = 120 ∨ x = 112 then [] else [x])).length : Nat) = if x = 120 ∨ x = 112 then 2 else 1 := by
      rw [hsz]
      split
      · rfl
      · rw [wr_low [x] (by intro c hc; simp at hc; subst hc; exact ⟨hx0, hx7⟩)]; rfl
    have HP := Lib.hid (parse_bad hbs hsc (by omega) HCA.out (plain_bad hp) _ hz)
    have HNL := Lib.hid (not_letters hp)
    have HNS : Hid (x ∉ signsL) := Lib.hid (fun h => by rw [plain_sign x h] at hp; cases hp)
    clear hbs hsc hC hz hp
    obtain ⟨z, hzz⟩ : ∃ z : Int, z = if x = 120 ∨ x = 112 then 2 else 1 := ⟨_, rfl⟩
    rw [← hzz] at HP
    have HZZ := Lib.hid hzz
    clear hzz
    go_enter Tryz.func5, Tryz.ntmps5
    go_wp2_with fail
    refine HP.out.mono ?_
    rintro e w1 ⟨rfl, b1⟩
    have hb1 := (Below.refl w1.heap.size w1).alloc (Nat.le_refl _) (.cells #[.int .u8 0, .slice none 0 0, .slice none 0 0, .int .i64 0, .int .i64 0] 27)
    have HBV := Lib.hid (HBA.out.trans ((b1.trans (hb1.mono b1.size)).mono HBA.out.size))
    have HCV := Lib.hid (HC.out.step HBV.out)
    obtain ⟨V1, hV1⟩ : ∃ V1, V1 = w1.alloc (.cells #[.int .u8 0, .slice none 0 0, .slice none 0 0, .int .i64 0, .int .i64 0] 27) := ⟨_, rfl⟩
    rw [← hV1] at HBV HCV
    clear b1 hb1 HP hcv
    go_wp2_with fail
    rw [← hV1]
    clear hV1
    go_loopg [7] 14 (fun g s7 wx => ∃ i : Nat, i + g = 14 ∧ s7 = .int .i64 i ∧ V1 = wx)
    case atStart => exact ⟨0, by omega, rfl, rfl⟩
    case round =>
      obtain ⟨i, hig, rfl, rfl⟩ := hrel
      cases gk with
      | zero =>
        have : i = 14 := by omega
        subst this
        obtain ⟨n1, n2, n3⟩ := HNL.out
        have HKN := Lib.hid (known_c HCV.out)
        by_cases hx1 : x = 120
        · have hz : z = 2 := by rw [HZZ.out, if_pos (.inl hx1)]
          subst hx1 hz
          clear HNL HNS HZZ hix
          go_wp2_with fail
          refine HKN.out.mono ?_
          rintro e wk ⟨rfl, bk⟩
          go_wp2
          go_ret
          exact ⟨rfl, HBV.out.trans (bk.mono HBV.out.size)⟩
        · by_cases hx2 : x = 112
          · have hz : z = 2 := by rw [HZZ.out, if_pos (.inr hx2)]
            subst hx2 hz
            clear HNL HNS HZZ hix
            go_wp2_with fail
            refine HKN.out.mono ?_
            rintro e wk ⟨rfl, bk⟩
            go_wp2
            go_ret
            exact ⟨rfl, HBV.out.trans (bk.mono HBV.out.size)⟩
          · have hz : z = 1 := by rw [HZZ.out, if_neg (by rintro (h | h) <;> contradiction)]
            subst hz
            clear HNL HNS HZZ hix
            go_wp2_with fail
            refine HKN.out.mono ?_
            rintro e wk ⟨rfl, bk⟩
            go_wp2
            go_ret
            exact ⟨rfl, HBV.out.trans (bk.mono HBV.out.size)⟩
      | succ g =>
        have hi : i < 14 := by omega
        have hiz : (i : Int) < 14 := by omega
        have hx2 := hix i hi
        have hne : ¬ x = sgn i := fun e => HNS.out (by rw [e]; exact sgn_mem hi)
        clear hix
        generalize sgn i = y at *
        go_wp2
        go_roundg g
        case measure => omega
        case rel => exact ⟨i + 1, by omega, by go_num, rfl⟩
  | some k =>
    have hk := plain_sc hx0 hx7 hp
    have HP := Lib.hid (parse_n hbs hsc (by omega) HCA.out (plain_ok hp))
    have HPL := Lib.hid (fun hn => plain_letters hp hn)
    have HPS : Hid (∀ y ∈ signsL, x = y → k = y) := Lib.hid (fun y hy e => by subst e; rw [plain_sign x hy] at hp; exact (Option.some.inj hp).symm)
    clear hbs hsc hC hp
    go_enter Tryz.func5, Tryz.ntmps5
    go_wp2_with fail
    refine HP.out.mono ?_
    rintro e w1 ⟨b1, v, rfl, hv⟩
    obtain ⟨sp, sl, sc, kp, kc, hve, hK, _, hs, _⟩ := hv.read
    obtain rfl := one_is hk hK
    have hve : v = .agg #[.int .u8 1, .slice sp 1 sc, .slice kp 0 kc, .int .i64 0, .int .i64 0] := hve
    subst hve
    obtain ⟨V1, hV1⟩ : ∃ V1, V1 = w1.alloc (.cells #[.int .u8 1, .slice sp 1 sc, .slice kp 0 kc, .int .i64 0, .int .i64 0] 27) := ⟨_, rfl⟩
    have hb1 : Below w1.heap.size w1 V1 := by rw [hV1]; exact (Below.refl w1.heap.size w1).alloc (Nat.le_refl _) _
    have HBV := Lib.hid (HBA.out.trans ((b1.trans (hb1.mono b1.size)).mono HBA.out.size))
    have HCV := Lib.hid (HC.out.step HBV.out)
    have hkb : V1.heap[w1.heap.size]? = some (.cells #[.int .u8 1, .slice sp 1 sc, .slice kp 0 kc, .int .i64 0, .int .i64 0] 27 (0, 0)) := by rw [hV1]; exact heap_alloc_new _ _
    have hlt : w1.heap.size < V1.heap.size := (Array.getElem?_eq_some_iff.1 hkb).1
    have HS := Lib.hid (hs.step hb1)
    have k0 : ∀ U, Below V1.heap.size V1 U → U.cell? ⟨w1.heap.size, 0, none⟩ = some (.int .u8 1) := fun U hU => cell_of_row U _ 0 _ _ _ ((hU.block _ hlt).trans hkb)
    have k1 : ∀ U, Below V1.heap.size V1 U → U.cell? ⟨w1.heap.size, 1, none⟩ = some (.slice sp 1 sc) := fun U hU => cell_of_row U _ 1 _ _ _ ((hU.block _ hlt).trans hkb)
    have HKN : Hid (∀ U, Below V1.heap.size V1 U → Calls Tryz.prog 10 #[] U fun e W' => e = .returned (.bool true) ∧ Below U.heap.size U W') := Lib.hid (fun U hU => known_c (HCV.out.step hU))
    have HHAS : Hid (∀ U, Below V1.heap.size V1 U → Calls Tryz.prog 11 #[.slice sp 1 sc, .int .i64 k] U fun e W' => e = .returned (.bool true) ∧ U = W') := Lib.hid (fun U hU => has_one hk (HS.out.step hU))
    have HSIZ : Hid (∀ U, Below V1.heap.size V1 U → Calls Tryz.prog 12 #[.slice sp 1 sc] U fun e W' => e = .returned (.int .i64 1) ∧ Below U.heap.size U W') := Lib.hid (fun U hU => size_one hk (HS.out.step hU))
    clear b1 hb1 HP hcv hv hs hK hkb hk
    go_wp2_with fail
    rw [← hV1]
    clear hV1
    go_loopg [7] 14 (fun g s7 wx => ∃ i : Nat, i + g = 14 ∧ s7 = .int .i64 i ∧ V1 = wx ∧ Hid (∀ j, j < i → x ≠ sgn j))
    case atStart => exact ⟨0, by omega, rfl, rfl, Lib.hid (fun j h => absurd h (Nat.not_lt_zero _))⟩
    case round =>
      obtain ⟨i, hig, rfl, rfl, HNO⟩ := hrel
      have hr : Below V1.heap.size V1 V1 := Below.refl _ _
      cases gk with
      | zero =>
        have : i = 14 := by omega
        subst this
        have HL := Lib.hid (HPL.out (fun hm => by
          obtain ⟨j, hj, hj2⟩ := List.mem_iff_getElem.1 hm
          exact HNO.out j hj (by unfold sgn; rw [List.getD_eq_getElem?_getD, List.getElem?_eq_getElem hj, hj2]; rfl)))
        clear HNO HPL HPS hix
        rcases HL.out with rfl | rfl | rfl
        all_goals
          clear HL
          go_wp2_with fail
          refine (HKN.out _ hr).mono ?_
          rintro e wk ⟨rfl, bk⟩
          have d1 := k1 _ bk
          have HSZ := Lib.hid (HSIZ.out _ bk)
          go_wp2_with fail
          refine HSZ.out.mono ?_
          rintro e wl ⟨rfl, bl⟩
          go_wp2
          go_ret
          exact ⟨rfl, HBV.out.trans ((bk.trans (bl.mono bk.size)).mono HBV.out.size)⟩
      | succ g =>
        have hi : i < 14 := by omega
        have hiz : (i : Int) < 14 := by omega
        have hx2 := hix i hi
        have HMY := Lib.hid (sgn_mem hi)
        by_cases he : x = sgn i
        · have hky := HPS.out _ HMY.out he
          rw [← he] at hx2 hky
          subst hky
          clear HNO HPL HPS he HMY
          clear hix
          have hwk : IntKind.i64.wrap k = k := IntWalk.i64_in _ (by omega)
          go_wp2
          go_region_held3 (fun U => U.cell? ⟨w1.heap.size, 0, none⟩ = some (.int .u8 1) ∧ U.cell? ⟨w1.heap.size, 1, none⟩ = some (.slice sp 1 sc))
            (first | exact ⟨k0 _ hr, k1 _ hr⟩ | exact ⟨k0 _ (below_drewN hr 1), k1 _ (below_drewN hr 1)⟩)
            (first
              | (go_at_call 10; (refine (HKN.out _ (by first | exact hr | exact below_drewN hr 1)).mono ?_); rintro e wk ⟨rfl, bk⟩; have hr := (show Below V1.heap.size V1 _ by first | exact hr | exact below_drewN hr 1).trans (bk.mono (by have := hr.size; (try simp only [World.size_drew]); omega)))
              | (go_at_call 11; (refine (HHAS.out _ (by first | exact hr | exact below_drewN hr 1)).mono ?_); rintro e wk ⟨rfl, rfl⟩)
              | (go_at_call 12; (refine (HSIZ.out _ (by first | exact hr | exact below_drewN hr 1)).mono ?_); rintro e wk ⟨rfl, bk⟩; have hr := (show Below V1.heap.size V1 _ by first | exact hr | exact below_drewN hr 1).trans (bk.mono (by have := hr.size; (try simp only [World.size_drew]); omega))))
          all_goals
            go_wp2
            go_ret
            exact ⟨rfl, HBV.out.trans (hr.mono HBV.out.size)⟩
        · have HN2 : Hid (∀ j, j < i + 1 → x ≠ sgn j) := Lib.hid (fun j hj => by
            rcases Nat.lt_or_ge j i with h | h
            · exact HNO.out j h
            · obtain rfl : j = i := by omega
              exact he)
          clear hix
          generalize sgn i = y at *
          clear HNO
          go_wp2
          go_roundg g
          case measure => omega
          case rel => exact ⟨i + 1, by omega, by go_num, rfl, HN2⟩
end Go.Proofs.YtahgljglleeloaaGreatDoor
