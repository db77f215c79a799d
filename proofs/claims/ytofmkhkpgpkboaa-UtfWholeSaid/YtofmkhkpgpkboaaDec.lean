/- utf.Decode: the first char of bytes. -/
import Derived.Test.YtofmkhkpgpkboaaShape
import Derived.StillTailTactics
import Derived.Deep.LoopGhost
namespace Go.Proofs.Ytofmkhkpgpkboaa
open Go.RowKit Go.Shelf UtfM

def decV (l : List Int) : Value := .tuple #[.int .i64 (dec l).1, .int .i64 ((dec l).2 : Int)]
def DecPost (w : World) (l : List Int) (e : Ending) (w' : World) : Prop := e = .returned (decV l) ∧ Below w.heap.size w w'
/-- Where the loop over the bytes behind the lead one stands. -/
def DecAt (l : List Int) (s : Shape) (k : Nat) (r : Int) : Prop :=
  dec l = goOn (s.more - k) (if k = 0 then s.lo else 128) (if k = 0 then s.hi else 191) r (k + 1) (l.drop (k + 1)) ∧ 0 ≤ r ∧ r < 128 * 64 ^ k
theorem DecAt.start {a : Int} {t : List Int} {s : Shape} (h : lead a = some s) (ha : 0 ≤ a) : DecAt (a :: t) s 0 s.bits := by
  refine ⟨by rw [dec_some h]; simp, (lead_in h ha).1, ?_⟩
  have := (lead_in h ha).2.1
  simp; omega
theorem DecAt.done {l : List Int} {s : Shape} {k : Nat} {r : Int} (h : DecAt l s k r) (hk : k = s.more) : dec l = (r, k + 1) := by
  rw [h.1, hk, Nat.sub_self, goOn_zero]
theorem DecAt.short {l : List Int} {s : Shape} {k : Nat} {r : Int} (h : DecAt l s k r) (hk : k < s.more) (hl : l.length = k + 1) : dec l = (-1, k + 1) := by
  obtain ⟨m, hm⟩ : ∃ m, s.more - k = m + 1 := ⟨s.more - k - 1, by omega⟩
  rw [h.1, hm, show l.drop (k + 1) = [] from List.drop_eq_nil_of_le (by omega), goOn_end]
theorem drop_cons {l : List Int} {k : Nat} (h : k < l.length) : l.drop k = l[k] :: l.drop (k + 1) := by
  rw [← List.getElem_cons_drop h]
theorem DecAt.bad {l : List Int} {s : Shape} {k : Nat} {r : Int} (h : DecAt l s k r) (hk : k < s.more) (hl : k + 1 < l.length) (hc : ¬ ((if k = 0 then s.lo else 128) ≤ l[k + 1] ∧ l[k + 1] ≤ (if k = 0 then s.hi else 191))) : dec l = (-1, k + 1) := by
  obtain ⟨m, hm⟩ : ∃ m, s.more - k = m + 1 := ⟨s.more - k - 1, by omega⟩
  rw [h.1, hm, drop_cons hl, goOn_no (by omega)]
theorem DecAt.next {l : List Int} {s : Shape} {k : Nat} {r : Int} (h : DecAt l s k r) (hk : k < s.more) (hl : k + 1 < l.length) (hc : (if k = 0 then s.lo else 128) ≤ l[k + 1] ∧ l[k + 1] ≤ (if k = 0 then s.hi else 191)) (h8 : 128 ≤ l[k + 1] ∧ l[k + 1] ≤ 191) : DecAt l s (k + 1) (r * 64 + (l[k + 1] - 128)) := by
  obtain ⟨m, hm⟩ : ∃ m, s.more - k = m + 1 := ⟨s.more - k - 1, by omega⟩
  refine ⟨?_, ?_, ?_⟩
  · rw [h.1, hm, drop_cons hl, goOn_yes hc.1 hc.2, show s.more - (k + 1) = m from by omega]; simp
  · have := h.2.1; omega
  · have := h.2.2; rw [Int.pow_succ]; omega

theorem dec_shut {w w' : World} {l : List Int} {r m : Int} {n : Nat} (h : dec l = (r, n)) (hm : m = (n : Int)) (hb : Below w.heap.size w w') : DecPost w l (.returned (.tuple #[.int .i64 r, .int .i64 m])) w' := by
  subst hm
  refine ⟨?_, hb⟩
  rw [decV, h]
theorem below_drewN {n₀ : Nat} {w w' : World} (hb : Below n₀ w w') (k : Nat) : Below n₀ w (w'.drewN k) := ⟨hb.os, hb.tape, hb.output, hb.size, hb.block⟩
/-- Whether a byte may come at the place behind k others. -/
def takeB (s : Shape) (k : Nat) (c : Int) : Bool := decide ((if k = 0 then s.lo else 128) ≤ c ∧ c ≤ (if k = 0 then s.hi else 191))
theorem takes_c (s : Shape) (k : Nat) (c : Int) (w : World) : Calls Try.prog 22 #[.agg #[.int .i64 s.bits, .int .i64 s.more, .int .u8 s.lo, .int .u8 s.hi], .int .i64 ((k : Int) + 1), .int .u8 c] w fun e w' => e = .returned (.bool (takeB s k c)) ∧ Below w.heap.size w w' := by
  by_cases hk : k = 0
  · subst hk
    have := takes_first s c w
    simpa [takeB, aggS] using this
  · have := takes_later s ((k : Int) + 1) c (by rw [beq_eq_false_iff_ne]; omega) w
    simpa [takeB, aggS, hk] using this
theorem dec_empty (A : Option Addr) (c : Nat) (w : World) : Calls Try.prog 15 #[.slice A 0 c] w (DecPost w []) := by
  go_enter Try.func15, Try.ntmps15
  go_wp2
  go_ret2
  exact ⟨rfl, Below.refl _ _⟩

set_option maxRecDepth 100000 in
set_option maxHeartbeats 2000000 in
theorem dec_full (b off c : Nat) (l : List Int) (hne : 0 < l.length) (w : World) (hs : By w (some ⟨b, off, none⟩) l) : Calls Try.prog 15 #[.slice (some ⟨b, off, none⟩) l.length c] w (DecPost w l) := by
  obtain ⟨b', off', he, hbb, hcell⟩ := hs.2 (List.length_pos_iff.1 hne)
  cases he
  have h0 := hcell 0 hne
  rw [Nat.add_zero] at h0
  have ha := hs.1 l[0] (List.getElem_mem hne)
  have hlz : ((l.length : Int) == 0) = false := by rw [beq_eq_false_iff_ne]; omega
  have hlp : (0 : Int) < (l.length : Int) := by omega
  have HC := Lib.hid hcell
  have HB := Lib.hid hs.1
  obtain ⟨t, ht⟩ : ∃ t, l = l[0] :: t := ⟨l.drop 1, by rw [← drop_cons hne]; simp⟩
  have HT := Lib.hid ht
  clear hs hcell ht
  generalize l[0] = a at *
  have HA := Lib.hid ha
  clear ha
  go_enter Try.func15, Try.ntmps15
  go_wp2_with fail
  refine (shape_c a HA.out.1 HA.out.2 _).mono ?_
  rintro e w1 ⟨rfl, b1⟩
  have hz1 := b1.size
  cases hl : lead a with
  | none =>
    have HN := Lib.hid hl
    clear hl
    unfold shapeV
    go_wp2
    go_ret2
    refine ⟨?_, b1.alloc hz1 _⟩
    rw [decV, HT.out, dec_none HN.out]
    rfl
  | some s =>
    have hst := DecAt.start (t := t) hl HA.out.1
    rw [← HT.out] at hst
    have hin := lead_in hl HA.out.1
    have HST := Lib.hid hst
    have HIN := Lib.hid hin
    clear hst hin hl
    unfold shapeV aggS
    go_wp2
    have q0 : (w1.alloc (.cells #[.int .i64 s.bits, .int .i64 s.more, .int .u8 s.lo, .int .u8 s.hi] 44)).cell? ⟨w1.heap.size, 0, none⟩ = some (.int .i64 s.bits) := by go_simp
    have q1 : (w1.alloc (.cells #[.int .i64 s.bits, .int .i64 s.more, .int .u8 s.lo, .int .u8 s.hi] 44)).cell? ⟨w1.heap.size, 1, none⟩ = some (.int .i64 s.more) := by go_simp
    have q2 : (w1.alloc (.cells #[.int .i64 s.bits, .int .i64 s.more, .int .u8 s.lo, .int .u8 s.hi] 44)).cell? ⟨w1.heap.size, 2, none⟩ = some (.int .u8 s.lo) := by go_simp
    have q3 : (w1.alloc (.cells #[.int .i64 s.bits, .int .i64 s.more, .int .u8 s.lo, .int .u8 s.hi] 44)).cell? ⟨w1.heap.size, 3, none⟩ = some (.int .u8 s.hi) := by go_simp
    have B1 := b1.alloc hz1 (.cells #[.int .i64 s.bits, .int .i64 s.more, .int .u8 s.lo, .int .u8 s.hi] 44)
    have hsz : (w1.alloc (.cells #[.int .i64 s.bits, .int .i64 s.more, .int .u8 s.lo, .int .u8 s.hi] 44)).heap.size = w1.heap.size + 1 := World.size_alloc _ _
    generalize w1.alloc (.cells #[.int .i64 s.bits, .int .i64 s.more, .int .u8 s.lo, .int .u8 s.hi] 44) = W1 at *
    have hsz2 : w1.heap.size < W1.heap.size := by omega
    generalize w1.heap.size = n1 at *
    have Q0 := Lib.hid q0
    have Q1 := Lib.hid q1
    have Q2 := Lib.hid q2
    have Q3 := Lib.hid q3
    have HB1 := Lib.hid B1
    clear q0 q1 q2 q3 hsz b1 B1 h0
    go_loopg [6, 25] s.more (fun g s6 s25 wx => ∃ (k : Nat) (r : Int), k + g = s.more ∧ k + 1 ≤ l.length ∧ s25 = .int .i64 k ∧ s6 = .int .i64 r ∧ Hid (DecAt l s k r) ∧ Below W1.heap.size W1 wx)
    case atStart => exact ⟨0, _, by omega, by omega, rfl, rfl, HST, Below.refl _ _⟩
    case round =>
      obtain ⟨k, r, hkg, hkl, rfl, rfl, HD, hb⟩ := hrel
      have q1 := (hb.cell (p := ⟨n1, 1, none⟩) hsz2).trans Q1.out
      have hm3 := HIN.out.2.2.1
      have hfin : Below w.heap.size w wr := HB1.out.trans (hb.mono HB1.out.size)
      have HFIN := Lib.hid hfin
      have HBB := Lib.hid hb
      clear hb hfin
      cases gk with
      | zero =>
        have hkz : ¬ ((k : Int) < (s.more : Int)) := by omega
        have hres := HD.out.done (by omega)
        have hkm : k = s.more := by omega
        have HR := Lib.hid hres
        clear hres
        go_wp2
        go_quiet (fail)
        go_wp2
        go_ret2
        exact dec_shut (m := (s.more : Int) + 1) HR.out (by omega) (below_drewN HFIN.out _)
      | succ g =>
        have hkz : (k : Int) < (s.more : Int) := by omega
        by_cases hlen : k + 1 = l.length
        · have hd : ((k : Int) + 1 == (l.length : Int)) = true := by rw [beq_iff_eq]; omega
          have hres := HD.out.short (by omega) (by omega)
          have HR := Lib.hid hres
          clear hres hlen
          go_wp2
          go_quiet (fail)
          go_wp2
          go_ret2
          exact dec_shut (m := (k : Int) + 1) HR.out (by omega) (below_drewN HFIN.out _)
        · have hd : ((k : Int) + 1 == (l.length : Int)) = false := by rw [beq_eq_false_iff_ne]; omega
          have hlt : k + 1 < l.length := by omega
          have hb := HBB.out
          have q0 := (hb.cell (p := ⟨n1, 0, none⟩) hsz2).trans Q0.out
          have q2 := (hb.cell (p := ⟨n1, 2, none⟩) hsz2).trans Q2.out
          have q3 := (hb.cell (p := ⟨n1, 3, none⟩) hsz2).trans Q3.out
          have hcb := (HFIN.out.cell (p := ⟨b, off + (k + 1), none⟩) hbb).trans (HC.out (k + 1) hlt)
          have hcb2 : Hid (w.cell? ⟨b, off + (k + 1), none⟩ = some (.int .u8 l[k + 1])) := Lib.hid (HC.out (k + 1) hlt)
          have hc8 := HB.out l[k + 1] (List.getElem_mem hlt)
          have hbad := HD.out.bad (by omega) hlt
          have hnext := HD.out.next (by omega) hlt
          have HBAD := Lib.hid hbad
          have HNX := Lib.hid hnext
          clear hbad hnext hb
          generalize l[k + 1] = ch at *
          have i0 : (0 : Int) ≤ (k : Int) + 1 := by omega
          have i1 : (k : Int) + 1 < (l.length : Int) := by omega
          have i2 : ((k : Int) + 1).toNat = k + 1 := by omega
          clear hlen
          go_wp2
          go_still_tail 11, (by kernel_rfl)
          change wpList _ _ _ _ _ wr.drew
          have hb2 : Below W1.heap.size W1 wr.drew := below_drewN HBB.out 1
          have hf2 : Below w.heap.size w wr.drew := below_drewN HFIN.out 1
          generalize wr.drew = w2 at *
          go_wp2_with fail
          refine (takes_c s k ch _).mono ?_
          rintro e w3 ⟨rfl, b3⟩
          have hb3 := hb2.trans (b3.mono hb2.size)
          have hf3 := hf2.trans (b3.mono hf2.size)
          have hcb3 := (b3.cell (p := ⟨b, off + (k + 1), none⟩) (by have := hf2.size; show b < _; omega)).trans ((hf2.cell (p := ⟨b, off + (k + 1), none⟩) hbb).trans hcb2.out)
          clear q0 q1 q2 q3 hcb hb2 hf2 b3
          cases hT : takeB s k ch with
          | false =>
            have hres := HBAD.out (by simpa [takeB] using hT)
            have HR := Lib.hid hres
            clear hres hT
            go_wp2
            go_ret2
            exact dec_shut (m := (k : Int) + 1) HR.out (by omega) hf3
          | true =>
            have hin2 : (if k = 0 then s.lo else 128) ≤ ch ∧ ch ≤ (if k = 0 then s.hi else 191) := by simpa [takeB] using hT
            have h88 : 128 ≤ ch ∧ ch ≤ 191 := by
              have hh := HIN.out.2.2.2 (by omega)
              by_cases hk0 : k = 0
              · simp only [if_pos hk0] at hin2; omega
              · simp only [if_neg hk0] at hin2; omega
            have hnx := HNX.out hin2 h88
            have HNN := Lib.hid hnx
            have hr0 := HD.out.2.1
            have hr1 : r ≤ 524287 := by
              have := HD.out.2.2
              rcases (by omega : k = 0 ∨ k = 1 ∨ k = 2) with rfl | rfl | rfl <;> simp at this <;> omega
            obtain ⟨h8a, h8b⟩ := h88
            have e1 : bits .and .u8 ch 63 = ch - 128 := by rw [u8_and63 ch (by omega) (by omega)]; omega
            have e2 : bits .or .i64 (r * 64) (ch - 128) = r * 64 + (ch - 128) := i64_or6 (r * 64) (ch - 128) (by omega) (by omega) (by omega) (by omega) (by omega)
            clear hin2 hnx hT
            go_wp2
            go_roundg g
            case measure => omega
            case rel => exact ⟨k + 1, _, by omega, by omega, by go_num, rfl, HNN, hb3⟩

theorem decode_c {W : World} {A : Option Addr} {c : Nat} {l : List Int} (hs : By W A l) : Calls Try.prog 15 #[.slice A l.length c] W (DecPost W l) := by
  by_cases h : l = []
  · subst h; exact dec_empty A c W
  · obtain ⟨b, off, rfl, _, _⟩ := hs.2 h
    exact dec_full b off c l (List.length_pos_iff.2 h) W hs
end Go.Proofs.Ytofmkhkpgpkboaa
