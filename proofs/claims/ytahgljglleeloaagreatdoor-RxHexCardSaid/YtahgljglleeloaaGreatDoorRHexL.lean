/- RxHex's walk: a scalar's number in hexadecimal digits is that scalar; any other number is wrong at its sign. -/
import Derived.Test.YtahgljglleeloaaGreatDoorRTimesL
namespace Go.Proofs.YtahgljglleeloaaGreatDoor
open Go.RowKit Go.Shelf Go.Maps SetM PropsM RxM

/-- The digits that the law writes with. -/
def digS (g : Bool) : ByteArray := if g then ⟨#[48, 49, 50, 51, 52, 53, 54, 55, 56, 57, 65, 66, 67, 68, 69, 70]⟩ else ⟨#[48, 49, 50, 51, 52, 53, 54, 55, 56, 57, 97, 98, 99, 100, 101, 102]⟩
def digI (g : Bool) (m : Nat) : Int := (bs (digS g)).getD m 0
theorem digI_ok : ∀ (g : Bool) (m : Fin 16), isH (digI g m) = true ∧ hexV (digI g m) = m ∧ bs ((digS g).extract m (m + 1)) = [digI g m] := by decide
/-- What the digits so far are. -/
structure HexD (x : Nat) (n : Nat) (t : ByteArray) : Prop where
  all : ∀ c ∈ bs t, isH c = true
  num : Hx.hexA n (bs t) = x
theorem HexD.next {x n : Nat} {t : ByteArray} (h : HexD x n t) (g : Bool) : HexD x (n / 16) ((digS g).extract (n % 16) (n % 16 + 1) ++ t) := by
  obtain ⟨h1, h2, h3⟩ := digI_ok g ⟨n % 16, Nat.mod_lt _ (by decide)⟩
  dsimp only at h1 h2 h3
  have hb : bs ((digS g).extract (n % 16) (n % 16 + 1) ++ t) = digI g (n % 16) :: bs t := by rw [bs_append, h3]; rfl
  refine ⟨fun c hc => ?_, ?_⟩
  · rw [hb] at hc
    rcases List.mem_cons.1 hc with rfl | hc
    · exact h1
    · exact h.all c hc
  · rw [hb, Hx.hexA_cons, h2, ← h.num]
    congr 1
    omega
theorem ext_size (g : Bool) (m : Nat) (hm : m < 16) (t : ByteArray) : ((digS g).extract m (m + 1) ++ t).size = t.size + 1 := by
  have := (digI_ok g ⟨m, hm⟩).2.2
  have h := congrArg List.length this
  rw [bs_len] at h
  dsimp only at h
  rw [ByteArray.size_append, h]
  simp
  omega
theorem two_size {x : Int} (hx : Sc x) {out : List Sp} (h : Nf out) (hm : ∀ r, Mem out r ↔ (r = 98 ∨ r = x)) : sizeL out ≤ 2 := by
  unfold Sc at hx
  rcases (show x = 98 ∨ x = 97 ∨ x = 99 ∨ x < 97 ∨ 99 < x by omega) with rfl | rfl | rfl | hlt | hgt
  · have : out = [(98, 98)] := nf_unique out _ h (by simp [Nf]) (fun r => by rw [hm]; simp [Mem]; omega)
    subst this; decide
  · have : out = [(97, 98)] := nf_unique out _ h (by simp [Nf]) (fun r => by rw [hm]; simp [Mem]; omega)
    subst this; decide
  · have : out = [(98, 99)] := nf_unique out _ h (by simp [Nf]) (fun r => by rw [hm]; simp [Mem]; omega)
    subst this; decide
  · have : out = [(x, x), (98, 98)] := nf_unique out _ h (by simp [Nf]; omega) (fun r => by rw [hm]; simp [Mem]; omega)
    subst this; simp [sizeL]
  · have : out = [(98, 98), (x, x)] := nf_unique out _ h (by simp [Nf]; omega) (fun r => by rw [hm]; simp [Mem]; omega)
    subst this; simp [sizeL]
theorem two_mem {x r : Int} (hx : Sc x) : Tells [(98, 98), (x, x)] r ↔ (r = 98 ∨ r = x) := by
  rw [show Tells [(98, 98), (x, x)] r ↔ (Sc r ∧ Mem [(98, 98), (x, x)] r) from Iff.rfl]
  simp only [Mem, List.mem_cons, List.not_mem_nil, or_false, exists_eq_or_imp, exists_eq_left]
  unfold Sc at hx ⊢
  omega
theorem nf_short {x : Int} {sl : List Sp} (h : Nf sl) (hm : ∀ r, Mem sl r ↔ (r = 98 ∨ r = x)) : sl.length ≤ 10 := by
  rcases (show x = 98 ∨ x = 97 ∨ x = 99 ∨ x < 97 ∨ 99 < x by omega) with rfl | rfl | rfl | hlt | hgt
  · have : sl = [(98, 98)] := nf_unique sl _ h (by simp [Nf]) (fun r => by rw [hm]; simp [Mem]; omega)
    subst this; decide
  · have : sl = [(97, 98)] := nf_unique sl _ h (by simp [Nf]) (fun r => by rw [hm]; simp [Mem]; omega)
    subst this; decide
  · have : sl = [(98, 99)] := nf_unique sl _ h (by simp [Nf]) (fun r => by rw [hm]; simp [Mem]; omega)
    subst this; decide
  · have : sl = [(x, x), (98, 98)] := nf_unique sl _ h (by simp [Nf]; omega) (fun r => by rw [hm]; simp [Mem]; omega)
    subst this; simp
  · have : sl = [(98, 98), (x, x)] := nf_unique sl _ h (by simp [Nf]; omega) (fun r => by rw [hm]; simp [Mem]; omega)
    subst this; simp
theorem hex_low {hs m : List Int} (hh : ∀ c ∈ hs, isH c = true) (hm : Low m) : Low (hexT hs m) := by
  intro c hc
  unfold hexT at hc
  simp only [List.mem_cons, List.mem_append] at hc
  rcases hc with rfl | rfl | rfl | hc | rfl | hc
  · decide
  · decide
  · decide
  · have := Hx.isH_cases (hh c hc); omega
  · decide
  · exact hm c hc
theorem low_cons {c : Int} {l : List Int} (h0 : 0 ≤ c) (h1 : c < 128) (h : Low l) : Low (c :: l) := fun x hx => by
  rcases List.mem_cons.1 hx with rfl | hx
  · exact ⟨h0, h1⟩
  · exact h x hx
end Go.Proofs.YtahgljglleeloaaGreatDoor
