/- PropsLoose's walk: a class is told by its name however it is written: with signs between, great or small. -/
import Derived.Test.YtjhbjgpkpcfdmaaDoorPOfWalk
import Derived.Deep.RegionLaw
import Derived.IntWalk
namespace Go.Proofs.YtjhbjgpkpcfdmaaDoor
open Go.RowKit Go.Shelf SetM PropsM

/-- A slice holds the bytes cs. -/
def U8s (n₀ : Nat) (W : World) (A : Option Addr) (cs : List Int) : Prop :=
  (∀ c ∈ cs, 0 ≤ c ∧ c ≤ 255) ∧ (cs ≠ [] → ∃ b off, A = some ⟨b, off, none⟩ ∧ b < n₀ ∧ ∀ j (h : j < cs.length), W.cell? ⟨b, off + j, none⟩ = some (.int .u8 cs[j]))
theorem U8s.below {n₀ : Nat} {V W : World} (h : Below n₀ V W) {A : Option Addr} {cs : List Int} (hs : U8s n₀ V A cs) : U8s n₀ W A cs :=
  ⟨hs.1, fun hl => by
    obtain ⟨b, off, e, hb, hc⟩ := hs.2 hl
    exact ⟨b, off, e, hb, fun j hj => (h.cell (p := ⟨b, off + j, none⟩) hb).trans (hc j hj)⟩⟩
theorem small_names : ∀ i : Fin 13, ∀ c ∈ nameOf i, 97 ≤ c.toNat ∧ c.toNat ≤ 122 := by decide
theorem name_cut (i : Nat) (hi : i < 13) : cutIs (nameOf i) = nameOf i ∧ cutIs ([105, 115] ++ nameOf i) = nameOf i := by
  rcases (show i = 0 ∨ i = 1 ∨ i = 2 ∨ i = 3 ∨ i = 4 ∨ i = 5 ∨ i = 6 ∨ i = 7 ∨ i = 8 ∨ i = 9 ∨ i = 10 ∨ i = 11 ∨ i = 12 by omega) with rfl | rfl | rfl | rfl | rfl | rfl | rfl | rfl | rfl | rfl | rfl | rfl | rfl <;> decide
theorem sq1_small {c : UInt8} (h : 97 ≤ c.toNat) (h2 : c.toNat ≤ 122) : sq1 c = [c] := sq1_stay (by omega) (by omega) (by omega) (by omega)
theorem great_nat {c : UInt8} (h : 97 ≤ c.toNat) : (c - 32).toNat = c.toNat - 32 := by
  rw [UInt8.toNat_sub_of_le]
  · rfl
  · rw [UInt8.le_iff_toNat_le]; show 32 ≤ c.toNat; omega
theorem sq1_great {c : UInt8} (h : 97 ≤ c.toNat) (h2 : c.toNat ≤ 122) : sq1 (c - 32) = [c] := by
  have h3 := great_nat h
  have h4 := (sq1_low (x := c - 32) (by rw [h3]; omega) (by rw [h3]; omega)).1
  rw [h4]
  congr 1
  apply UInt8.toNat_inj.1
  rw [UInt8.toNat_add, h3]
  have : (32 : UInt8).toNat = 32 := rfl
  have := c.toNat_lt
  omega
/-- What stands ahead. -/
def preL (b : Bool) : Bs := if b then [105, 115] else []
def preS (b : Bool) : Bs := if b then [105, 83] else []
theorem loose_done (b : Bool) (i : Nat) (hi : i < 13) (acc : Bs) (h : sq acc = preL b ++ nameOf i) : looseL acc = nameOf i := by
  unfold looseL
  rw [h]
  cases b
  · exact (name_cut i hi).1
  · exact (name_cut i hi).2
theorem sq_next {acc e : Bs} {pre nm : Bs} {k : Nat} {c x : UInt8} (h : sq acc = pre ++ nm.take k) (he : sq e = []) (hx : sq1 x = [c]) (hk : k < nm.length) (hc : nm[k] = c) : sq (acc ++ e ++ [x]) = pre ++ nm.take (k + 1) := by
  rw [sq_append, sq_append, he, h, List.take_succ_eq_append_getElem hk, hc]
  simp [sq, hx]

theorem conv_at (x : UInt8) (U : World) (g : Nat) (h : U.cell? ⟨g, 0, none⟩ = some (.int .u8 ((x.toNat : Nat) : Int))) : (convert 36 9 (.slice (some ⟨g, 0, none⟩) 1 1)).run Tryd.prog U = .ok (.string ⟨#[x]⟩) U := by
  have h1 := run_convert_bytes_arg U 36 5 Tryd.underlying36 Tryd.underlying5 g 0 1 1 [((x.toNat : Nat) : Int)] rfl (fun i hi => by
    match i, hi with
    | 0, _ => exact h) 9 Tryd.underlying9
  rw [h1]
  have e : strOfNums [((x.toNat : Nat) : Int)] = ⟨#[x]⟩ := by simp [strOfNums]
  rw [e]

set_option maxRecDepth 100000 in
set_option maxHeartbeats 4000000 in
theorem propsLoose_any (a : Int) (A : Option Addr) (ca : Nat) (cs : List Int) (b : Bool) (h0 : 0 ≤ a) (h1 : a ≤ 255) (w : World) (hU : U8s w.heap.size w A cs) (hC : Ctx w w) :
    Calls Tryd.prog 7 #[.int .u8 a, .slice A cs.length ca, .bool b] w fun e w' => e = .returned (.bool true) ∧ Below w.heap.size w w' := by
  have HC := Lib.hid hC
  have HU := Lib.hid hU
  clear hC hU
  have hj := pickM_lt a
  have hta : a.tmod 13 = (pickM a : Int) := by rw [Int.tmod_eq_emod_of_nonneg h0]; unfold pickM; omega
  generalize pickM a = j at *
  have hjz : (j : Int) < 13 := by omega
  have HNM := Lib.hid (names_at' j hj)
  have HSN := Lib.hid (small_names ⟨j, hj⟩)
  have hjl : whichF (looseL (nameOf j)) = some j := by rw [loose_name _ hj, which_name _ hj]
  have hjn : (nameOf j).length ≤ 8 := (name_len j hj).2
  have HO2 : Hid (∀ W, Ctx w W → Calls Tryd.prog 12 #[.string ⟨(nameOf j).toArray⟩] W (OfIs W j)) := Lib.hid (fun W h => of_some_l (nameOf j) (by omega) j hjl h)
  have HO1 : Hid (∀ acc, sq acc = preL b ++ nameOf j → acc.length ≤ 1000 → ∀ W, Ctx w W → Calls Tryd.prog 12 #[.string ⟨acc.toArray⟩] W (OfIs W j)) := Lib.hid (fun acc h hl W hW => of_some_l acc (by omega) j (by rw [loose_done b j hj acc h, which_name j hj]) hW)
  clear hjl
  generalize nameOf j = nm at *
  have HST : Hid (sq (preS b) = preL b ∧ (preS b).length ≤ 2) := Lib.hid (by cases b <;> decide)
  have hix := Lib.hid (str_ix ⟨nm.toArray⟩)
  cases b
  · go_enter Tryd.func7, Tryd.ntmps7
    go_wp2_with fail
    refine (rnames_any _).mono ?_
    rintro e w1 ⟨PN, cN, rfl, sN, b1⟩
    have HC1 := Lib.hid (HC.out.step b1)
    have HB1 := Lib.hid b1
    obtain ⟨bN, oN, rfl, hbN, hcN⟩ := sN (by decide)
    have cN' := hcN j hj
    rw [HNM.out] at cN'
    clear b1 hcN sN
    go_wp2
    go_loopg [9, 10] nm.length (fun g s9 s10 wx => ∃ (k : Nat) (acc : Bs), k + g = nm.length ∧ s10 = .int .i64 k ∧ s9 = .string ⟨acc.toArray⟩ ∧ Hid (sq acc = preL false ++ nm.take k) ∧ acc.length ≤ 2 + 2 * k ∧ Below w1.heap.size w1 wx)
    case atStart => exact ⟨0, preS false, by omega, rfl, rfl, Lib.hid (by rw [HST.out.1]; simp), by have := HST.out.2; omega, Below.refl _ _⟩
    case round =>
      obtain ⟨k, acc, hkg, rfl, rfl, HA, hal, hb⟩ := hrel
      cases gk with
      | zero =>
        have hkz : ¬ ((k : Int) < (nm.length : Int)) := by omega
        have HA : Hid (sq acc = preL false ++ nm) := Lib.hid (by rw [HA.out, List.take_of_length_le (by omega)])
        have HCk := Lib.hid (HC1.out.step hb)
        clear hb
        go_wp2_with fail
        refine (HO1.out acc HA.out (by omega) _ HCk.out).mono ?_
        rintro e w2 ⟨P1, c1, o1, rfl, is1, l1, s1, _, b2⟩
        have HC2 := Lib.hid (HCk.out.step b2)
        have HI1 := Lib.hid is1
        have HL1 := Lib.hid l1
        have HS1 := Lib.hid s1
        clear is1 l1 s1 b2 HCk
        go_wp2_with fail
        refine (HO2.out _ HC2.out).mono ?_
        rintro e w3 ⟨P2, c2, o2, rfl, is2, l2, s2, _, b3⟩
        obtain rfl : o1 = o2 := HI1.out.eq is2 (fun _ => Iff.rfl)
        have HC3 := Lib.hid (HC2.out.step b3)
        have HS1 := Lib.hid (HS1.out.step b3)
        have HS2 := Lib.hid s2
        clear is2 l2 s2 b3 HC2
        go_wp2_with fail
        refine (known_c HC3.out).mono ?_
        rintro e w4 ⟨rfl, b4⟩
        have HC4 := Lib.hid (HC3.out.step b4)
        have HS1 := Lib.hid (HS1.out.step b4)
        have HS2 := Lib.hid (HS2.out.step b4)
        clear b4 HC3
        have hd : decide (o1 = o1) = true := decide_eq_true rfl
        go_wp2_with fail
        refine (alike_c HS1.out HS2.out (by have := HL1.out; omega) (by have := HL1.out; omega)).mono ?_
        rintro e w5 ⟨rfl, b5⟩
        have HC5 := Lib.hid (HC4.out.step b5)
        go_wp2
        go_ret
        exact ⟨rfl, HC5.out.below⟩
      | succ g =>
        have hk : k < nm.length := by omega
        have hkz : (k : Int) < (nm.length : Int) := by omega
        have hix2 := hix.out k hk
        have hsm := HSN.out nm[k] (List.getElem_mem hk)
        have HNX := Lib.hid (fun (e : Bs) (x : UInt8) (he : sq e = []) (hx : sq1 x = [nm[k]]) => sq_next HA.out he hx hk rfl)
        obtain ⟨hc1, hc2⟩ := hsm
        have HX1 := Lib.hid (sq1_small hc1 hc2)
        have HX2 := Lib.hid (sq1_great hc1 hc2)
        have hg32 := great_nat hc1
        have hbz := hb.size
        have hix2 : ∀ w, (Instr.index 9 (.string ⟨nm.toArray⟩) (.int .i64 (k : Int))).run Tryd.prog w = .ok (.int .u8 ((nm[k].toNat : Nat) : Int)) w := hix2
        have HUk := Lib.hid (U8s.below (hb.mono (Nat.le_refl _) |> fun h => (HB1.out.trans (h.mono HB1.out.size))) HU.out)
        have hwr : w.heap.size ≤ wr.heap.size := by have := HB1.out.size; omega
        generalize nm[k] = c at *
        rcases Nat.eq_zero_or_pos cs.length with hcs | hcs
        · have hcz : ¬ ((0 : Int) < (cs.length : Int)) := by omega
          clear hcs
          have hcv := conv_at c
          have hal2 : acc.length ≤ 1000 := by omega
          go_wp2
          go_region
          all_goals
            go_wp2
            go_roundg g
            case measure => omega
            case rel =>
              refine ⟨k + 1, acc ++ [] ++ [c], by omega, by go_num, congrArg Value.string ((congrArg (· ++ (⟨#[c]⟩ : ByteArray)) (ByteArray.mk_append_mk acc [])).trans (ByteArray.mk_append_mk (acc ++ []) [c])), Lib.hid (HNX.out [] c rfl HX1.out), by simp; omega, ((hb.alloc hbz _).alloc (by rw [World.size_alloc]; omega) _).drew⟩
        · obtain ⟨bA, oA, rfl, hbA, hcA⟩ := HUk.out.2 (List.length_pos_iff.1 hcs)
          have hkm : k % cs.length < cs.length := Nat.mod_lt _ hcs
          have cA := hcA (k % cs.length) hkm
          have hcb := HUk.out.1 cs[k % cs.length] (List.getElem_mem hkm)
          have htm : ((k : Nat) : Int).tmod (cs.length : Int) = ((k % cs.length : Nat) : Int) := by rw [Int.tmod_eq_emod_of_nonneg (by omega)]; rfl
          have hne : ¬ ((cs.length : Int) = 0) := by omega
          have hcz : (0 : Int) < (cs.length : Int) := by omega
          have hal2 : acc.length ≤ 1000 := by omega
          generalize cs[k % cs.length] = h at *
          have hkmz : ((k % cs.length : Nat) : Int) < (cs.length : Int) := by omega
          generalize k % cs.length = m at *
          clear hcA
          obtain ⟨hh0, hh1⟩ := hcb
          rcases (show h.tmod 2 = 0 ∨ h.tmod 2 = 1 by rw [Int.tmod_eq_emod_of_nonneg hh0]; omega) with hm2 | hm2
          · have hcv := conv_at c
            obtain ⟨d, hd⟩ : ∃ d, h.tdiv 2 = d := ⟨_, rfl⟩
            have hd0 : 0 ≤ d ∧ d ≤ 127 := by rw [← hd, Int.tdiv_eq_ediv_of_nonneg hh0]; omega
            have hwd : IntKind.u8.wrap d = d := by simp [IntKind.wrap, IntKind.signed, IntKind.bits]; omega
            rcases (show d.tmod 4 = 0 ∨ d.tmod 4 = 1 ∨ d.tmod 4 = 2 ∨ d.tmod 4 = 3 by rw [Int.tmod_eq_emod_of_nonneg hd0.1]; omega) with hq | hq | hq | hq
            · go_wp2
              go_region
              all_goals
                go_wp2
                go_roundg g
                case measure => omega
                case rel =>
                  refine ⟨k + 1, acc ++ [] ++ [c], by omega, by go_num, congrArg Value.string ((congrArg (· ++ (⟨#[c]⟩ : ByteArray)) (ByteArray.mk_append_mk acc [])).trans (ByteArray.mk_append_mk (acc ++ []) [c])), Lib.hid (HNX.out [] c rfl HX1.out), by simp; omega, ((hb.alloc hbz _).alloc (by rw [World.size_alloc]; omega) _).drew⟩
            · go_wp2
              go_region
              all_goals
                go_wp2
                go_roundg g
                case measure => omega
                case rel =>
                  refine ⟨k + 1, acc ++ [45] ++ [c], by omega, by go_num, congrArg Value.string ((congrArg (· ++ (⟨#[c]⟩ : ByteArray)) (ByteArray.mk_append_mk acc [45])).trans (ByteArray.mk_append_mk (acc ++ [45]) [c])), Lib.hid (HNX.out [45] c rfl HX1.out), by simp; omega, ((hb.alloc hbz _).alloc (by rw [World.size_alloc]; omega) _).drew⟩
            · go_wp2
              go_region
              all_goals
                go_wp2
                go_roundg g
                case measure => omega
                case rel =>
                  refine ⟨k + 1, acc ++ [95] ++ [c], by omega, by go_num, congrArg Value.string ((congrArg (· ++ (⟨#[c]⟩ : ByteArray)) (ByteArray.mk_append_mk acc [95])).trans (ByteArray.mk_append_mk (acc ++ [95]) [c])), Lib.hid (HNX.out [95] c rfl HX1.out), by simp; omega, ((hb.alloc hbz _).alloc (by rw [World.size_alloc]; omega) _).drew⟩
            · go_wp2
              go_region
              all_goals
                go_wp2
                go_roundg g
                case measure => omega
                case rel =>
                  refine ⟨k + 1, acc ++ [32] ++ [c], by omega, by go_num, congrArg Value.string ((congrArg (· ++ (⟨#[c]⟩ : ByteArray)) (ByteArray.mk_append_mk acc [32])).trans (ByteArray.mk_append_mk (acc ++ [32]) [c])), Lib.hid (HNX.out [32] c rfl HX1.out), by simp; omega, ((hb.alloc hbz _).alloc (by rw [World.size_alloc]; omega) _).drew⟩
          · have hcv : ∀ U g, U.cell? ⟨g, 0, none⟩ = some (.int .u8 (((c.toNat : Nat) : Int) - 32)) → (convert 36 9 (.slice (some ⟨g, 0, none⟩) 1 1)).run Tryd.prog U = .ok (.string ⟨#[c - 32]⟩) U := fun U g hc => conv_at (c - 32) U g (by rw [hc, hg32]; congr 2; omega)
            obtain ⟨d, hd⟩ : ∃ d, h.tdiv 2 = d := ⟨_, rfl⟩
            have hd0 : 0 ≤ d ∧ d ≤ 127 := by rw [← hd, Int.tdiv_eq_ediv_of_nonneg hh0]; omega
            have hwd : IntKind.u8.wrap d = d := by simp [IntKind.wrap, IntKind.signed, IntKind.bits]; omega
            rcases (show d.tmod 4 = 0 ∨ d.tmod 4 = 1 ∨ d.tmod 4 = 2 ∨ d.tmod 4 = 3 by rw [Int.tmod_eq_emod_of_nonneg hd0.1]; omega) with hq | hq | hq | hq
            · go_wp2
              go_region
              all_goals
                go_wp2
                go_roundg g
                case measure => omega
                case rel =>
                  refine ⟨k + 1, acc ++ [] ++ [(c - 32)], by omega, by go_num, congrArg Value.string ((congrArg (· ++ (⟨#[(c - 32)]⟩ : ByteArray)) (ByteArray.mk_append_mk acc [])).trans (ByteArray.mk_append_mk (acc ++ []) [(c - 32)])), Lib.hid (HNX.out [] (c - 32) rfl HX2.out), by simp; omega, ((hb.alloc hbz _).alloc (by rw [World.size_alloc]; omega) _).drew⟩
            · go_wp2
              go_region
              all_goals
                go_wp2
                go_roundg g
                case measure => omega
                case rel =>
                  refine ⟨k + 1, acc ++ [45] ++ [(c - 32)], by omega, by go_num, congrArg Value.string ((congrArg (· ++ (⟨#[(c - 32)]⟩ : ByteArray)) (ByteArray.mk_append_mk acc [45])).trans (ByteArray.mk_append_mk (acc ++ [45]) [(c - 32)])), Lib.hid (HNX.out [45] (c - 32) rfl HX2.out), by simp; omega, ((hb.alloc hbz _).alloc (by rw [World.size_alloc]; omega) _).drew⟩
            · go_wp2
              go_region
              all_goals
                go_wp2
                go_roundg g
                case measure => omega
                case rel =>
                  refine ⟨k + 1, acc ++ [95] ++ [(c - 32)], by omega, by go_num, congrArg Value.string ((congrArg (· ++ (⟨#[(c - 32)]⟩ : ByteArray)) (ByteArray.mk_append_mk acc [95])).trans (ByteArray.mk_append_mk (acc ++ [95]) [(c - 32)])), Lib.hid (HNX.out [95] (c - 32) rfl HX2.out), by simp; omega, ((hb.alloc hbz _).alloc (by rw [World.size_alloc]; omega) _).drew⟩
            · go_wp2
              go_region
              all_goals
                go_wp2
                go_roundg g
                case measure => omega
                case rel =>
                  refine ⟨k + 1, acc ++ [32] ++ [(c - 32)], by omega, by go_num, congrArg Value.string ((congrArg (· ++ (⟨#[(c - 32)]⟩ : ByteArray)) (ByteArray.mk_append_mk acc [32])).trans (ByteArray.mk_append_mk (acc ++ [32]) [(c - 32)])), Lib.hid (HNX.out [32] (c - 32) rfl HX2.out), by simp; omega, ((hb.alloc hbz _).alloc (by rw [World.size_alloc]; omega) _).drew⟩
  · go_enter Tryd.func7, Tryd.ntmps7
    go_wp2_with fail
    refine (rnames_any _).mono ?_
    rintro e w1 ⟨PN, cN, rfl, sN, b1⟩
    have HC1 := Lib.hid (HC.out.step b1)
    have HB1 := Lib.hid b1
    obtain ⟨bN, oN, rfl, hbN, hcN⟩ := sN (by decide)
    have cN' := hcN j hj
    rw [HNM.out] at cN'
    clear b1 hcN sN
    go_wp2
    go_loopg [9, 10] nm.length (fun g s9 s10 wx => ∃ (k : Nat) (acc : Bs), k + g = nm.length ∧ s10 = .int .i64 k ∧ s9 = .string ⟨acc.toArray⟩ ∧ Hid (sq acc = preL true ++ nm.take k) ∧ acc.length ≤ 2 + 2 * k ∧ Below w1.heap.size w1 wx)
    case atStart => exact ⟨0, preS true, by omega, rfl, rfl, Lib.hid (by rw [HST.out.1]; simp), by have := HST.out.2; omega, Below.refl _ _⟩
    case round =>
      obtain ⟨k, acc, hkg, rfl, rfl, HA, hal, hb⟩ := hrel
      cases gk with
      | zero =>
        have hkz : ¬ ((k : Int) < (nm.length : Int)) := by omega
        have HA : Hid (sq acc = preL true ++ nm) := Lib.hid (by rw [HA.out, List.take_of_length_le (by omega)])
        have HCk := Lib.hid (HC1.out.step hb)
        clear hb
        go_wp2_with fail
        refine (HO1.out acc HA.out (by omega) _ HCk.out).mono ?_
        rintro e w2 ⟨P1, c1, o1, rfl, is1, l1, s1, _, b2⟩
        have HC2 := Lib.hid (HCk.out.step b2)
        have HI1 := Lib.hid is1
        have HL1 := Lib.hid l1
        have HS1 := Lib.hid s1
        clear is1 l1 s1 b2 HCk
        go_wp2_with fail
        refine (HO2.out _ HC2.out).mono ?_
        rintro e w3 ⟨P2, c2, o2, rfl, is2, l2, s2, _, b3⟩
        obtain rfl : o1 = o2 := HI1.out.eq is2 (fun _ => Iff.rfl)
        have HC3 := Lib.hid (HC2.out.step b3)
        have HS1 := Lib.hid (HS1.out.step b3)
        have HS2 := Lib.hid s2
        clear is2 l2 s2 b3 HC2
        go_wp2_with fail
        refine (known_c HC3.out).mono ?_
        rintro e w4 ⟨rfl, b4⟩
        have HC4 := Lib.hid (HC3.out.step b4)
        have HS1 := Lib.hid (HS1.out.step b4)
        have HS2 := Lib.hid (HS2.out.step b4)
        clear b4 HC3
        have hd : decide (o1 = o1) = true := decide_eq_true rfl
        go_wp2_with fail
        refine (alike_c HS1.out HS2.out (by have := HL1.out; omega) (by have := HL1.out; omega)).mono ?_
        rintro e w5 ⟨rfl, b5⟩
        have HC5 := Lib.hid (HC4.out.step b5)
        go_wp2
        go_ret
        exact ⟨rfl, HC5.out.below⟩
      | succ g =>
        have hk : k < nm.length := by omega
        have hkz : (k : Int) < (nm.length : Int) := by omega
        have hix2 := hix.out k hk
        have hsm := HSN.out nm[k] (List.getElem_mem hk)
        have HNX := Lib.hid (fun (e : Bs) (x : UInt8) (he : sq e = []) (hx : sq1 x = [nm[k]]) => sq_next HA.out he hx hk rfl)
        obtain ⟨hc1, hc2⟩ := hsm
        have HX1 := Lib.hid (sq1_small hc1 hc2)
        have HX2 := Lib.hid (sq1_great hc1 hc2)
        have hg32 := great_nat hc1
        have hbz := hb.size
        have hix2 : ∀ w, (Instr.index 9 (.string ⟨nm.toArray⟩) (.int .i64 (k : Int))).run Tryd.prog w = .ok (.int .u8 ((nm[k].toNat : Nat) : Int)) w := hix2
        have HUk := Lib.hid (U8s.below (hb.mono (Nat.le_refl _) |> fun h => (HB1.out.trans (h.mono HB1.out.size))) HU.out)
        have hwr : w.heap.size ≤ wr.heap.size := by have := HB1.out.size; omega
        generalize nm[k] = c at *
        rcases Nat.eq_zero_or_pos cs.length with hcs | hcs
        · have hcz : ¬ ((0 : Int) < (cs.length : Int)) := by omega
          clear hcs
          have hcv := conv_at c
          have hal2 : acc.length ≤ 1000 := by omega
          go_wp2
          go_region
          all_goals
            go_wp2
            go_roundg g
            case measure => omega
            case rel =>
              refine ⟨k + 1, acc ++ [] ++ [c], by omega, by go_num, congrArg Value.string ((congrArg (· ++ (⟨#[c]⟩ : ByteArray)) (ByteArray.mk_append_mk acc [])).trans (ByteArray.mk_append_mk (acc ++ []) [c])), Lib.hid (HNX.out [] c rfl HX1.out), by simp; omega, ((hb.alloc hbz _).alloc (by rw [World.size_alloc]; omega) _).drew⟩
        · obtain ⟨bA, oA, rfl, hbA, hcA⟩ := HUk.out.2 (List.length_pos_iff.1 hcs)
          have hkm : k % cs.length < cs.length := Nat.mod_lt _ hcs
          have cA := hcA (k % cs.length) hkm
          have hcb := HUk.out.1 cs[k % cs.length] (List.getElem_mem hkm)
          have htm : ((k : Nat) : Int).tmod (cs.length : Int) = ((k % cs.length : Nat) : Int) := by rw [Int.tmod_eq_emod_of_nonneg (by omega)]; rfl
          have hne : ¬ ((cs.length : Int) = 0) := by omega
          have hcz : (0 : Int) < (cs.length : Int) := by omega
          have hal2 : acc.length ≤ 1000 := by omega
          generalize cs[k % cs.length] = h at *
          have hkmz : ((k % cs.length : Nat) : Int) < (cs.length : Int) := by omega
          generalize k % cs.length = m at *
          clear hcA
          obtain ⟨hh0, hh1⟩ := hcb
          rcases (show h.tmod 2 = 0 ∨ h.tmod 2 = 1 by rw [Int.tmod_eq_emod_of_nonneg hh0]; omega) with hm2 | hm2
          · have hcv := conv_at c
            obtain ⟨d, hd⟩ : ∃ d, h.tdiv 2 = d := ⟨_, rfl⟩
            have hd0 : 0 ≤ d ∧ d ≤ 127 := by rw [← hd, Int.tdiv_eq_ediv_of_nonneg hh0]; omega
            have hwd : IntKind.u8.wrap d = d := by simp [IntKind.wrap, IntKind.signed, IntKind.bits]; omega
            rcases (show d.tmod 4 = 0 ∨ d.tmod 4 = 1 ∨ d.tmod 4 = 2 ∨ d.tmod 4 = 3 by rw [Int.tmod_eq_emod_of_nonneg hd0.1]; omega) with hq | hq | hq | hq
            · go_wp2
              go_region
              all_goals
                go_wp2
                go_roundg g
                case measure => omega
                case rel =>
                  refine ⟨k + 1, acc ++ [] ++ [c], by omega, by go_num, congrArg Value.string ((congrArg (· ++ (⟨#[c]⟩ : ByteArray)) (ByteArray.mk_append_mk acc [])).trans (ByteArray.mk_append_mk (acc ++ []) [c])), Lib.hid (HNX.out [] c rfl HX1.out), by simp; omega, ((hb.alloc hbz _).alloc (by rw [World.size_alloc]; omega) _).drew⟩
            · go_wp2
              go_region
              all_goals
                go_wp2
                go_roundg g
                case measure => omega
                case rel =>
                  refine ⟨k + 1, acc ++ [45] ++ [c], by omega, by go_num, congrArg Value.string ((congrArg (· ++ (⟨#[c]⟩ : ByteArray)) (ByteArray.mk_append_mk acc [45])).trans (ByteArray.mk_append_mk (acc ++ [45]) [c])), Lib.hid (HNX.out [45] c rfl HX1.out), by simp; omega, ((hb.alloc hbz _).alloc (by rw [World.size_alloc]; omega) _).drew⟩
            · go_wp2
              go_region
              all_goals
                go_wp2
                go_roundg g
                case measure => omega
                case rel =>
                  refine ⟨k + 1, acc ++ [95] ++ [c], by omega, by go_num, congrArg Value.string ((congrArg (· ++ (⟨#[c]⟩ : ByteArray)) (ByteArray.mk_append_mk acc [95])).trans (ByteArray.mk_append_mk (acc ++ [95]) [c])), Lib.hid (HNX.out [95] c rfl HX1.out), by simp; omega, ((hb.alloc hbz _).alloc (by rw [World.size_alloc]; omega) _).drew⟩
            · go_wp2
              go_region
              all_goals
                go_wp2
                go_roundg g
                case measure => omega
                case rel =>
                  refine ⟨k + 1, acc ++ [32] ++ [c], by omega, by go_num, congrArg Value.string ((congrArg (· ++ (⟨#[c]⟩ : ByteArray)) (ByteArray.mk_append_mk acc [32])).trans (ByteArray.mk_append_mk (acc ++ [32]) [c])), Lib.hid (HNX.out [32] c rfl HX1.out), by simp; omega, ((hb.alloc hbz _).alloc (by rw [World.size_alloc]; omega) _).drew⟩
          · have hcv : ∀ U g, U.cell? ⟨g, 0, none⟩ = some (.int .u8 (((c.toNat : Nat) : Int) - 32)) → (convert 36 9 (.slice (some ⟨g, 0, none⟩) 1 1)).run Tryd.prog U = .ok (.string ⟨#[c - 32]⟩) U := fun U g hc => conv_at (c - 32) U g (by rw [hc, hg32]; congr 2; omega)
            obtain ⟨d, hd⟩ : ∃ d, h.tdiv 2 = d := ⟨_, rfl⟩
            have hd0 : 0 ≤ d ∧ d ≤ 127 := by rw [← hd, Int.tdiv_eq_ediv_of_nonneg hh0]; omega
            have hwd : IntKind.u8.wrap d = d := by simp [IntKind.wrap, IntKind.signed, IntKind.bits]; omega
            rcases (show d.tmod 4 = 0 ∨ d.tmod 4 = 1 ∨ d.tmod 4 = 2 ∨ d.tmod 4 = 3 by rw [Int.tmod_eq_emod_of_nonneg hd0.1]; omega) with hq | hq | hq | hq
            · go_wp2
              go_region
              all_goals
                go_wp2
                go_roundg g
                case measure => omega
                case rel =>
                  refine ⟨k + 1, acc ++ [] ++ [(c - 32)], by omega, by go_num, congrArg Value.string ((congrArg (· ++ (⟨#[(c - 32)]⟩ : ByteArray)) (ByteArray.mk_append_mk acc [])).trans (ByteArray.mk_append_mk (acc ++ []) [(c - 32)])), Lib.hid (HNX.out [] (c - 32) rfl HX2.out), by simp; omega, ((hb.alloc hbz _).alloc (by rw [World.size_alloc]; omega) _).drew⟩
            · go_wp2
              go_region
              all_goals
                go_wp2
                go_roundg g
                case measure => omega
                case rel =>
                  refine ⟨k + 1, acc ++ [45] ++ [(c - 32)], by omega, by go_num, congrArg Value.string ((congrArg (· ++ (⟨#[(c - 32)]⟩ : ByteArray)) (ByteArray.mk_append_mk acc [45])).trans (ByteArray.mk_append_mk (acc ++ [45]) [(c - 32)])), Lib.hid (HNX.out [45] (c - 32) rfl HX2.out), by simp; omega, ((hb.alloc hbz _).alloc (by rw [World.size_alloc]; omega) _).drew⟩
            · go_wp2
              go_region
              all_goals
                go_wp2
                go_roundg g
                case measure => omega
                case rel =>
                  refine ⟨k + 1, acc ++ [95] ++ [(c - 32)], by omega, by go_num, congrArg Value.string ((congrArg (· ++ (⟨#[(c - 32)]⟩ : ByteArray)) (ByteArray.mk_append_mk acc [95])).trans (ByteArray.mk_append_mk (acc ++ [95]) [(c - 32)])), Lib.hid (HNX.out [95] (c - 32) rfl HX2.out), by simp; omega, ((hb.alloc hbz _).alloc (by rw [World.size_alloc]; omega) _).drew⟩
            · go_wp2
              go_region
              all_goals
                go_wp2
                go_roundg g
                case measure => omega
                case rel =>
                  refine ⟨k + 1, acc ++ [32] ++ [(c - 32)], by omega, by go_num, congrArg Value.string ((congrArg (· ++ (⟨#[(c - 32)]⟩ : ByteArray)) (ByteArray.mk_append_mk acc [32])).trans (ByteArray.mk_append_mk (acc ++ [32]) [(c - 32)])), Lib.hid (HNX.out [32] (c - 32) rfl HX2.out), by simp; omega, ((hb.alloc hbz _).alloc (by rw [World.size_alloc]; omega) _).drew⟩
end Go.Proofs.YtjhbjgpkpcfdmaaDoor
