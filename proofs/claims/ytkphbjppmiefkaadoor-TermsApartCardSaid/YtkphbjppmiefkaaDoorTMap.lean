/- Maps by ints, or by another key's type, to numbers: what they say as a function; the operations on them. -/
import Derived.Maps.OwnOps
import Derived.Maps.OwnSet
import Derived.Maps.Views
import Derived.Sort.KeysCollected
import Derived.Lib.SlKeysI
import Derived.DeepKeys4
import Derived.Test.YtkphbjppmiefkaaDoorWords
namespace Go.Proofs.YtkphbjppmiefkaaDoor
open Go.RowKit Go.Shelf Go.Maps SetM

/-- One key's number is another one now. -/
def putF (f : Lit → Option Int) (kl : Lit) (v : Int) : Lit → Option Int := fun x => if x.sameKey kl = true then some v else f x
/-- Block b is a map by keys of type k to numbers of a kind: f says which. -/
def MapF (W : World) (k e : TypeId) (q : IntKind) (b n : Nat) (f : Lit → Option Int) : Prop :=
  ∃ D : DataW Unit, W.ownsMap Tryd.prog k (plainElem Tryd.prog e) b n D ∧ ∀ x, WideAt.IsKeyLit x → has D x = (f x).isSome ∧ D.atKey x (.lit (.int q 0)) = .lit (.int q ((f x).getD 0))
theorem MapF.made (W : World) (k e : TypeId) (q : IntKind) : MapF (W.alloc (.map #[] 0)) k e q W.heap.size 0 (fun _ => none) :=
  ⟨.map [], World.ownsMap_made W _ _ _, fun _ _ => ⟨rfl, rfl⟩⟩
theorem MapF.kept {W W' : World} {k e : TypeId} {q : IntKind} {b n : Nat} {f : Lit → Option Int} {row : Option Nat} (h : MapF W k e q b n f) (hg : W.grownBy W' row) (hne : some b ≠ row) : MapF W' k e q b n f :=
  let ⟨D, h1, h2⟩ := h; ⟨D, h1.kept hg hne, h2⟩
theorem MapF.of_block {W W' : World} {k e : TypeId} {q : IntKind} {b n : Nat} {f : Lit → Option Int} (h : MapF W k e q b n f) (hb : W'.heap[b]? = W.heap[b]?) : MapF W' k e q b n f := by
  obtain ⟨D, ⟨es, clock, h0, rest⟩, h2⟩ := h
  exact ⟨D, ⟨es, clock, hb.trans h0, rest⟩, h2⟩
theorem MapF.lt {W : World} {k e : TypeId} {q : IntKind} {b n : Nat} {f : Lit → Option Int} (h : MapF W k e q b n f) : b < W.heap.size := let ⟨_, h1, _⟩ := h; h1.lt
theorem MapF.drew {W : World} {k e : TypeId} {q : IntKind} {b n : Nat} {f : Lit → Option Int} (h : MapF W k e q b n f) : MapF W.drew k e q b n f := h
theorem MapF.mono {W : World} {k e : TypeId} {q : IntKind} {b n n' : Nat} {f : Lit → Option Int} (h : MapF W k e q b n f) (hn : n ≤ n') : MapF W k e q b n' f :=
  let ⟨D, h1, h2⟩ := h; ⟨D, h1.mono hn, h2⟩
theorem MapF.congr {W : World} {k e : TypeId} {q : IntKind} {b n : Nat} {f g : Lit → Option Int} (h : MapF W k e q b n f) (he : ∀ x, WideAt.IsKeyLit x → g x = f x) : MapF W k e q b n g := by
  obtain ⟨D, h1, h2⟩ := h
  exact ⟨D, h1, fun x hx => by rw [he x hx]; exact h2 x hx⟩
theorem MapF.look {W : World} {k e t : TypeId} {q : IntKind} {b n : Nat} {f : Lit → Option Int} (h : MapF W k e q b n f) (K : Keyed Tryd.prog k) (ht : Tryd.prog.underlying t = some (.map k e)) (he : Tryd.prog.underlying e = some (.int q)) (hz : ∀ w, (zeroValue e).run Tryd.prog w = .ok (.int q 0) w)
    {key : Value} {kl : Lit} (hkey : keyOf Tryd.prog k key = some kl) : (Instr.lookup t (.map (some b)) key false).run Tryd.prog W = .ok (.int q ((f kl).getD 0)) W := by
  obtain ⟨D, h1, h2⟩ := h
  obtain ⟨c, hrun, hat, hw⟩ := h1.lookup_int K ht he (hz W) hkey
  have := (h2 kl (K.key hkey)).2
  rw [hat, DataW.lit.injEq, Lit.int.injEq] at this
  rw [← this.2]
  exact hrun
theorem MapF.look_ok {W : World} {k e t : TypeId} {q : IntKind} {b n : Nat} {f : Lit → Option Int} (h : MapF W k e q b n f) (K : Keyed Tryd.prog k) (ht : Tryd.prog.underlying t = some (.map k e)) (he : Tryd.prog.underlying e = some (.int q)) (hz : ∀ w, (zeroValue e).run Tryd.prog w = .ok (.int q 0) w)
    {key : Value} {kl : Lit} (hkey : keyOf Tryd.prog k key = some kl) : (Instr.lookup t (.map (some b)) key true).run Tryd.prog W = .ok (.tuple #[.int q ((f kl).getD 0), .bool (f kl).isSome]) W := by
  obtain ⟨D, h1, h2⟩ := h
  obtain ⟨v, ps, hrun, hv⟩ := h1.look_ok K ht (hz W) (plainElem_int he (by cases q <;> decide)) hkey
  obtain ⟨c, rfl, hc, hwc⟩ := plainElem_int_inv he hv
  have h3 := h2 kl (K.key hkey)
  have h4 : D.atKey kl (.lit (.int q 0)) = .lit (.int q c) := congrArg Prod.fst hc
  rw [h3.2, DataW.lit.injEq, Lit.int.injEq] at h4
  rw [hrun, h3.1, h4.2]
theorem MapF.store {W : World} {k e t : TypeId} {q : IntKind} {b n : Nat} {f : Lit → Option Int} (h : MapF W k e q b n f) (K : Keyed Tryd.prog k) (ht : Tryd.prog.underlying t = some (.map k e)) (he : Tryd.prog.underlying e = some (.int q)) (hn : n < maxLen)
    {key : Value} {kl : Lit} (hkey : keyOf Tryd.prog k key = some kl) {v : Int} (hv : (Lit.int q v).wf = true) :
    ∃ w', (Instr.mapUpdate t (.map (some b)) key (.int q v)).run Tryd.prog W = .ok () w' ∧ MapF w' k e q b (n + 1) (putF f kl v) ∧ W.grownBy w' (some b) := by
  obtain ⟨D, h1, h2⟩ := h
  obtain ⟨w', hrun, hown, hg⟩ := h1.update K ht hn hkey (plainElem_int he hv)
  refine ⟨w', hrun, ⟨_, hown, fun x hx => ?_⟩, hg⟩
  unfold putF
  by_cases hxk : x = kl
  · subst hxk
    rw [if_pos (WideAt.sameKey_self hx), has_put_same h1.isMap hx, atKey_put_same h1.isMap hx]
    exact ⟨rfl, rfl⟩
  · rw [if_neg (fun h => hxk (WideAt.sameKey_eq h)), has_put_other hxk, atKey_put_other hxk]
    exact h2 x hx
section
variable {W : World} {ops : Array Oper} {rest : List Oper} {o : Oper} {a : Act} {Q : Exit → Act → World → Prop}
theorem wpList_lookF (hg : o.guard = none) (m x : Operand) (t : TypeId) (hop : o.op = Op.lookup t m x false) {k e : TypeId} {q : IntKind} {b n : Nat} {f : Lit → Option Int} (h : MapF W k e q b n f) (K : Keyed Tryd.prog k) (ht : Tryd.prog.underlying t = some (.map k e)) (he : Tryd.prog.underlying e = some (.int q)) (hz : ∀ w, (zeroValue e).run Tryd.prog w = .ok (.int q 0) w)
    (hm : a.eval m = .map (some b)) {key : Value} {kl : Lit} (hx : a.eval x = key) (hkey : keyOf Tryd.prog k key = some kl)
    (hK : wpList Tryd.prog ops Q rest (a.put o.dst (.int q ((f kl).getD 0))) W) : wpList Tryd.prog ops Q (o :: rest) a W := by
  refine wpList_plain hg fun K' hK' => ?_
  unfold Oper.wp
  simp [execOp, hop, hm, hx, h.look K ht he hz hkey, Result.andThen]
  exact hK' _ _ hK
theorem wpList_lookF_ok (hg : o.guard = none) (m x : Operand) (t : TypeId) (hop : o.op = Op.lookup t m x true) {k e : TypeId} {q : IntKind} {b n : Nat} {f : Lit → Option Int} (h : MapF W k e q b n f) (K : Keyed Tryd.prog k) (ht : Tryd.prog.underlying t = some (.map k e)) (he : Tryd.prog.underlying e = some (.int q)) (hz : ∀ w, (zeroValue e).run Tryd.prog w = .ok (.int q 0) w)
    (hm : a.eval m = .map (some b)) {key : Value} {kl : Lit} (hx : a.eval x = key) (hkey : keyOf Tryd.prog k key = some kl)
    (hK : wpList Tryd.prog ops Q rest (a.put o.dst (.tuple #[.int q ((f kl).getD 0), .bool (f kl).isSome])) W) : wpList Tryd.prog ops Q (o :: rest) a W := by
  refine wpList_plain hg fun K' hK' => ?_
  unfold Oper.wp
  simp [execOp, hop, hm, hx, h.look_ok K ht he hz hkey, Result.andThen]
  exact hK' _ _ hK
theorem wpList_storeF (hg : o.guard = none) (m x v : Operand) (t : TypeId) (hop : o.op = Op.mapUpdate t m x v) {k e : TypeId} {q : IntKind} {b n : Nat} {f : Lit → Option Int} (h : MapF W k e q b n f) (K : Keyed Tryd.prog k) (ht : Tryd.prog.underlying t = some (.map k e)) (he : Tryd.prog.underlying e = some (.int q)) (hn : n < maxLen)
    (hm : a.eval m = .map (some b)) {key : Value} {kl : Lit} (hx : a.eval x = key) (hkey : keyOf Tryd.prog k key = some kl) {u : Int} (hv : a.eval v = .int q u) (hu : (Lit.int q u).wf = true)
    (hK : ∀ w', MapF w' k e q b (n + 1) (putF f kl u) → W.grownBy w' (some b) → wpList Tryd.prog ops Q rest (a.put o.dst undef) w') : wpList Tryd.prog ops Q (o :: rest) a W := by
  refine wpList_plain hg fun K' hK' => ?_
  obtain ⟨w', hrun, h1, h2⟩ := h.store K ht he hn hkey hu
  unfold Oper.wp
  simp [execOp, hop, hm, hx, hv, hrun, Result.andThen]
  exact hK' _ _ (hK w' h1 h2)
end
/-- A map's block holds no cell. -/
theorem MapF.no_cell {W : World} {k e : TypeId} {q : IntKind} {b n : Nat} {f : Lit → Option Int} (h : MapF W k e q b n f) {i : Nat} {v : Value} (hc : W.cell? ⟨b, i, none⟩ = some v) : False := by
  obtain ⟨D, ⟨es, clock, hb, _⟩, _⟩ := h
  unfold World.cell? at hc
  simp [hb] at hc
/-! Keys that are ints. -/
theorem keyedI : Keyed Tryd.prog 3 := int_keyed Tryd.underlying3
theorem wf64 {x : Int} (h1 : -9223372036854775808 ≤ x) (h2 : x < 9223372036854775808) : (Lit.int .i64 x).wf = true := by
  simp only [Lit.wf, Bool.and_eq_true, decide_eq_true_eq, show IntKind.min .i64 = -9223372036854775808 by decide, show IntKind.max .i64 = 9223372036854775807 by decide]; omega
theorem keyI {x : Int} (hw : (Lit.int .i64 x).wf = true) : keyOf Tryd.prog 3 (.int .i64 x) = some (.int .i64 x) := keyOf_int_mk Tryd.underlying3 hw
theorem mapI_t : Tryd.prog.underlying 47 = some (.map 3 3) := by kernel_rfl
theorem mapS_t : Tryd.prog.underlying 74 = some (.map 3 95) := by kernel_rfl
theorem signU : Tryd.prog.underlying 95 = some (.int .u64) := by kernel_rfl
theorem zeroI8 : ∀ w, (zeroValue 3).run Tryd.prog w = .ok (.int .i64 0) w := fun w => by simp [zeroValue, go_sem]; rfl
theorem zeroS8 : ∀ w, (zeroValue 95).run Tryd.prog w = .ok (.int .u64 0) w := fun w => by simp [zeroValue, go_sem]; rfl
/-- A function of ints as one of keys. -/
def onI (f : Int → Option Int) : Lit → Option Int
  | .int .i64 x => f x
  | _ => none
theorem onI_put (f : Int → Option Int) (k v : Int) : putF (onI f) (.int .i64 k) v = onI (fun x => if x = k then some v else f x) := by
  funext x
  unfold putF
  cases x with
  | int q y => cases q <;> simp [onI, Lit.sameKey]
  | _ => simp [onI, Lit.sameKey]
/-- Its keys, in whatever order. -/
theorem MapF.keys {W : World} {e : TypeId} {q : IntKind} {b n : Nat} {f : Int → Option Int} (h : MapF W 3 e q b n (onI f)) : ∃ D : DataW Unit, W.ownsMap Tryd.prog 3 (plainElem Tryd.prog e) b n D ∧ (intKeys D).Nodup ∧ ∀ x, x ∈ intKeys D ↔ (f x).isSome = true := by
  obtain ⟨D, h1, h2⟩ := h
  refine ⟨D, h1, ?_⟩
  obtain ⟨es, hD, hpw, _⟩ := h1.entries keyedI
  obtain ⟨es', hD', hko⟩ := h1.keysOf
  obtain rfl : es = es' := by rw [hD] at hD'; simpa using hD'
  subst hD
  have hk : ∀ p ∈ es, ∃ x, p.1 = .int .i64 x := fun p hp => by obtain ⟨v, hv⟩ := hko p hp; obtain ⟨x, _, hx, _⟩ := Maps.keyOf_i64 Tryd.underlying3 hv; exact ⟨x, hx⟩
  constructor
  · show (es.map fun p => intOf p.1).Nodup
    refine List.pairwise_map.2 (hpw.imp_of_mem fun {p q} hp' hq' hne e => hne ?_)
    obtain ⟨a, ha⟩ := hk p hp'
    obtain ⟨b, hb⟩ := hk q hq'
    rw [ha, hb] at e ⊢
    exact congrArg _ e
  · intro x
    have h3 : has (.map es) (.int .i64 x) = (f x).isSome := (h2 (.int .i64 x) trivial).1
    rw [← h3, has_eq, List.any_eq_true]
    show x ∈ es.map (fun p => intOf p.1) ↔ _
    rw [List.mem_map]
    constructor
    · rintro ⟨p, hp', rfl⟩
      obtain ⟨a, ha⟩ := hk p hp'
      exact ⟨p, hp', by rw [ha]; simp [Lit.sameKey, intOf]⟩
    · rintro ⟨p, hp', hs⟩
      obtain ⟨a, ha⟩ := hk p hp'
      rw [ha] at hs
      exact ⟨p, hp', by rw [ha]; simpa [Lit.sameKey, intOf] using hs⟩
/-- How many there are. -/
theorem MapF.len {W : World} {t e : TypeId} {q : IntKind} {b n : Nat} {f : Int → Option Int} (h : MapF W 3 e q b n (onI f)) (ht : Tryd.prog.underlying t = some (.map 3 e)) {E : List Int} (hn : E.Nodup) (hE : ∀ x, x ∈ E ↔ (f x).isSome = true) (ty : TypeId) :
    (Builtin.len_ #[t] ty #[.map (some b)]).run Tryd.prog W = .ok (.int .i64 (E.length : Int)) W := by
  obtain ⟨D, h1, h2, h3⟩ := h.keys
  have hp : E.Perm (intKeys D) := (List.perm_ext_iff_of_nodup hn h2).2 (fun x => by rw [hE, h3])
  have h4 : Maps.size D = E.length := by
    obtain ⟨es, rfl, _⟩ := h1.entries keyedI
    rw [hp.length_eq]
    show es.length = (es.map _).length
    rw [List.length_map]
  rw [← h4]
  exact h1.len ht ty
end Go.Proofs.YtkphbjppmiefkaaDoor
