/- Parse with the law's definition: what it comes to. -/
import Derived.Test.YtahgljglleeloaaGreatDoorRTS
import Derived.Test.YtahgljglleeloaaGreatDoorRDef8
import Derived.Test.YtahgljglleeloaaGreatDoorRM
namespace Go.Proofs.YtahgljglleeloaaGreatDoor
open Go.RowKit Go.Shelf Go.Maps SetM PropsM RxM

theorem TextIs.more {t m : ByteArray} {l : List Int} (h : TextIs t l) (hm : ∀ c ∈ bs m, 0 ≤ c ∧ c < 127) : bs (t ++ m) = U.UtfM.wr (l ++ bs m) ∧ (∀ c ∈ l ++ bs m, U.UtfM.Sc c) := by
  have hlow : Low (bs m) := fun c hc => ⟨(hm c hc).1, by have := (hm c hc).2; omega⟩
  refine ⟨by rw [bs_append, h.1, U.UtfM.wr_append, wr_low _ hlow], fun c hc => ?_⟩
  rcases List.mem_append.1 hc with hc | hc
  · exact h.2.1 c hc
  · exact low_len _ hlow c hc
/-- Parse with the law's definition: what it comes to, in one sentence. -/
def Par (W : World) (s : ByteArray) (l : List Int) (e : Ending) (W' : World) : Prop :=
  Below W.heap.size W W' ∧ ∃ (k : Int) (sp : Option Addr) (sn sc : Nat) (kp : Option Addr) (kn kc : Nat) (mn mx : Int) (n : Nat) (z : Int),
    e = .returned (.tuple #[.agg #[.int .u8 k, .slice sp sn sc, .slice kp kn kc, .int .i64 mn, .int .i64 mx], .int .u16 n, .int .i64 z]) ∧
    match wholeF D8 l with
    | .ok x _ => n = 0 ∧ NV W' (fun _ => True) (.agg #[.int .u8 k, .slice sp sn sc, .slice kp kn kc, .int .i64 mn, .int .i64 mx]) x
    | .err m r => n = m ∧ z = (s.size : Int) - ((U.UtfM.wr r).length : Nat) ∧ k = 0 ∧ sp = none ∧ sn = 0 ∧ sc = 0 ∧ kp = none ∧ kn = 0 ∧ kc = 0 ∧ mn = 0 ∧ mx = 0
theorem par_c {W : World} {s : ByteArray} {l : List Int} {g : Nat} (hs : bs s = U.UtfM.wr l) (hsc : ∀ c ∈ l, U.UtfM.Sc c) (h200 : s.size ≤ 200) (hC : Cf W W) (hD : DefsIn W (some ⟨g, 0, none⟩) D8) :
    Calls Tryz.prog 9 #[.string s, .slice (some ⟨g, 0, none⟩) 1 1] W (Par W s l) := by
  refine (parse_any (c := 1) hs hsc h200 hC hD (by decide)).mono ?_
  rintro e W' ⟨hb, h⟩
  refine ⟨hb, ?_⟩
  revert h
  cases wholeF D8 l with
  | ok x r =>
    rintro ⟨v, rfl, hv⟩
    obtain ⟨k, sp, sn, sc, kp, kn, kc, mn, mx, rfl⟩ := NV.form5 hv
    exact ⟨k, sp, sn, sc, kp, kn, kc, mn, mx, 0, 0, rfl, rfl, hv⟩
  | err m r =>
    rintro rfl
    exact ⟨0, none, 0, 0, none, 0, 0, 0, 0, m, _, rfl, rfl, rfl, rfl, rfl, rfl, rfl, rfl, rfl, rfl, rfl, rfl⟩
abbrev N5 (k : Int) (sp : Option Addr) (sn sc : Nat) (kp : Option Addr) (kn kc : Nat) (mn mx : Int) : Obj := .cells #[.int .u8 k, .slice sp sn sc, .slice kp kn kc, .int .i64 mn, .int .i64 mx] 27
theorem alloc_below {w0 w : World} (h : Below w0.heap.size w0 w) (o : Obj) : Below w0.heap.size w0 (w.alloc o) := h.alloc h.size o
theorem len_wr0 : ∀ (r : List Int), (∀ c ∈ r, U.UtfM.Sc c) → r.length ≤ (U.UtfM.wr r).length
  | [], _ => by simp
  | c :: t, hr => by
    have := wr_len_pos (hr c (by simp)) t
    have := len_wr0 t (fun x hx => hr x (by simp [hx]))
    simp only [List.length_cons]; omega
theorem len_wr {t : ByteArray} {l : List Int} (h : bs t = U.UtfM.wr l) (hs : ∀ c ∈ l, U.UtfM.Sc c) (hz : t.size ≤ 200) : l.length ≤ 200 := by
  have h1 := len_wr0 l hs
  have h2 : (bs t).length = t.size := bs_len t
  rw [h] at h2
  omega
/-- .. of any length. -/
def ParG (W : World) (s : ByteArray) (l : List Int) (e : Ending) (W' : World) : Prop :=
  Below W.heap.size W W' ∧ ∃ (k : Int) (sp : Option Addr) (sn sc : Nat) (kp : Option Addr) (kn kc : Nat) (mn mx : Int) (n : Nat) (z : Int),
    e = .returned (.tuple #[.agg #[.int .u8 k, .slice sp sn sc, .slice kp kn kc, .int .i64 mn, .int .i64 mx], .int .u16 n, .int .i64 z]) ∧
    ((200 < s.size ∧ n = 63) ∨ (s.size ≤ 200 ∧ match wholeF D8 l with
    | .ok x _ => n = 0 ∧ NV W' (fun _ => True) (.agg #[.int .u8 k, .slice sp sn sc, .slice kp kn kc, .int .i64 mn, .int .i64 mx]) x
    | .err m _ => n = m ∧ k = 0 ∧ sp = none ∧ sn = 0 ∧ sc = 0 ∧ kp = none ∧ kn = 0 ∧ kc = 0 ∧ mn = 0 ∧ mx = 0))
theorem parG_c {W : World} {s : ByteArray} {l : List Int} {g : Nat} (hs : bs s = U.UtfM.wr l) (hsc : ∀ c ∈ l, U.UtfM.Sc c) (hC : Cf W W) (hD : DefsIn W (some ⟨g, 0, none⟩) D8) :
    Calls Tryz.prog 9 #[.string s, .slice (some ⟨g, 0, none⟩) 1 1] W (ParG W s l) := by
  by_cases h : s.size ≤ 200
  · refine (par_c hs hsc h hC hD).mono ?_
    rintro e W' ⟨hb, k, sp, sn, sc, kp, kn, kc, mn, mx, n, z, rfl, h3⟩
    refine ⟨hb, k, sp, sn, sc, kp, kn, kc, mn, mx, n, z, rfl, .inr ⟨h, ?_⟩⟩
    revert h3
    cases wholeF D8 l with
    | ok x r => exact id
    | err m r => rintro ⟨h1, _, h2⟩; exact ⟨h1, h2⟩
  · refine (parse_long s (.slice (some ⟨g, 0, none⟩) 1 1) W (by omega)).mono ?_
    rintro e W' ⟨rfl, hb⟩
    exact ⟨hb, 0, none, 0, 0, none, 0, 0, 0, 0, 63, 0, rfl, .inl ⟨by omega, rfl⟩⟩
end Go.Proofs.YtahgljglleeloaaGreatDoor
