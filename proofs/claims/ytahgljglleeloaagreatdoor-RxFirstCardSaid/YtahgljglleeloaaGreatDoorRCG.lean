/- RMapK, RCopy, RCopyN, in one text. -/
import Derived.Test.YtahgljglleeloaaGreatDoorSA
import Derived.LaidEql
import Derived.Laws.StructEq
import Derived.MapKept
import Derived.WideKeyRuns
import Derived.Test.YtahgljglleeloaaGreatDoorRBox
import Derived.Deep.AppendLies
import Derived.Deep.RegionLaw
import Derived.BigQuiet
import Derived.Deep.QuietTactic
import Derived.Deep.RegionWith
/- A map whose keys are rows of nodes: an address and a number. -/
namespace Go.Proofs.YtahgljglleeloaaGreatDoor
open Go.RowKit Go.Shelf SetM

def keyV (g : Nat) : Value := .agg #[.pointer (some ⟨g, 0, none⟩), .int .i64 2]
abbrev rowFs : Array Field := #[{ name := "first", type := 172, offset := 0, embedded := false, tag := "", pkgPath := "glyphcutter/rx", byteOffset := 0 }, { name := "n", type := 3, offset := 1, embedded := false, tag := "", pkgPath := "glyphcutter/rx", byteOffset := 8 }]
theorem rowFields : Tryz.prog.fieldsOf 174 = rowFs := by kernel_rfl
theorem rowU : Tryz.prog.underlying 174 = some (.struct (Tryz.prog.fieldsOf 174)) := by kernel_rfl
theorem rowH : Tryz.prog.stoodInHeld 174 = false := by kernel_rfl
theorem ptrU : Tryz.prog.underlying 172 = some (.pointer 27) := by kernel_rfl
theorem intU : Tryz.prog.underlying 3 = some (.int .i64) := by kernel_rfl
theorem mapU : Tryz.prog.underlying 122 = some (.map 174 25) := by kernel_rfl
theorem sizeK : (Tryz.prog.info? 27).map (·.size) = some 5 := by kernel_rfl
theorem nodeI : ∃ j, Tryz.prog.info? 27 = some j ∧ j.size = 5 := by
  have := sizeK
  cases h : Tryz.prog.info? 27 with
  | none => rw [h] at this; cases this
  | some j => rw [h] at this; exact ⟨j, rfl, by simpa using this⟩
theorem partP (w : World) (g : Nat) : (part 172 #[.pointer (some ⟨g, 0, none⟩), .int .i64 2] 0).run Tryz.prog w = .ok (.pointer (some ⟨g, 0, none⟩)) w := by
  simp [part]
theorem partI (w : World) (g : Nat) : (part 3 #[.pointer (some ⟨g, 0, none⟩), .int .i64 2] 1).run Tryz.prog w = .ok (.int .i64 2) w := by
  simp [part]
theorem chkP (w : World) (e : Bool) (n g : Nat) : (Instr.checkKey e (n + 1) 172 (.pointer (some ⟨g, 0, none⟩))).run Tryz.prog w = .ok () w := by
  simp [Instr.checkKey, run_underlying ptrU]
theorem chkI (w : World) (e : Bool) (n : Nat) : (Instr.checkKey e (n + 1) 3 (.int .i64 2)).run Tryz.prog w = .ok () w := by
  simp [Instr.checkKey, run_underlying intU]
theorem chk (w : World) (e : Bool) (n g : Nat) : (Instr.checkKey e (n + 2) 174 (keyV g)).run Tryz.prog w = .ok () w := by
  unfold keyV
  rw [Instr.checkKey]
  simp only [Sem.run_bind, run_underlying rowU, Result.andThen_ok]
  rw [rowFields, ← Array.forIn_toList]
  simp [partP, partI, chkP, chkI]
theorem eqP {w : World} {a b : Nat} {ca cb : Array Value} {ta tb : TypeId} (d : Nat) (hne : a ≠ b) (ha : w.heap[a]? = some (.cells ca ta (0, 0))) (hb : w.heap[b]? = some (.cells cb tb (0, 0))) :
    (Op.equalIn (d + 1) 172 (.pointer (some ⟨a, 0, none⟩)) (.pointer (some ⟨b, 0, none⟩))).run Tryz.prog w = .ok false w := by
  obtain ⟨j, hj, hs⟩ := nodeI
  have h := run_sameAddr_other (P := Tryz.prog) w (a := ⟨a, 0, none⟩) (b := ⟨b, 0, none⟩) (by simp) ha hb
  simp [Op.equalIn, run_underlying ptrU, sizeOf, typeInfo, hj, hs, h]
theorem eqK {w : World} {a b : Nat} {ca cb : Array Value} {ta tb : TypeId} (d : Nat) (hne : a ≠ b) (ha : w.heap[a]? = some (.cells ca ta (0, 0))) (hb : w.heap[b]? = some (.cells cb tb (0, 0))) :
    (Op.equalIn (d + 2) 174 (keyV a) (keyV b)).run Tryz.prog w = .ok false w := by
  unfold keyV
  rw [run_equalIn_agg w (d + 1) _ _ _ rowU rowH, rowFields]
  simp [Op.eqFields, partP, eqP d hne ha hb]
theorem find0 (w : World) (g : Nat) : (Instr.findKey 174 (keyV g) []).run Tryz.prog w = .ok none w := by
  rw [run_findKey_eq w (by rw [rowU])]
  simp [Instr.findAsking]
theorem find1 {w : World} {a b : Nat} {ca cb : Array Value} {ta tb : TypeId} (v : Value) (n : Nat) (hne : a ≠ b) (ha : w.heap[a]? = some (.cells ca ta (0, 0))) (hb : w.heap[b]? = some (.cells cb tb (0, 0))) :
    (Instr.findKey 174 (keyV a) [{ key := keyV b, val := v, born := n }]).run Tryz.prog w = .ok none w := by
  rw [run_findKey_eq w (by rw [rowU])]
  have h := eqK (w := w) 9998 hne ha hb
  simp [Instr.findAsking, Op.equal, Op.maxDepth, h]
/-- The map has no such key, whatever the world draws. -/
def MissAt (es : Array MapEntry) (g : Nat) (w : World) : Prop := (Instr.findKey 174 (keyV g) es.toList).run Tryz.prog w = .ok none w
theorem lookK_c {w : World} {M g c : Nat} {es : Array MapEntry} (hb : w.heap[M]? = some (.map es c)) (hm : MissAt es g w) :
    (Instr.lookup 122 (.map (some M)) (keyV g) true).run Tryz.prog w = .ok (.tuple #[.slice none 0 0, .bool false]) w := by
  have hz : (zeroValue 25).run Tryz.prog w = .ok (.slice none 0 0) w := by
    simp [zeroValue, go_sem]
    rfl
  have hc := chk w es.isEmpty 9998 g
  simp only [Instr.lookup, Sem.run_bind, run_underlying mapU, Result.andThen_ok, MapKept.run_getObj_map hb]
  unfold MissAt at hm
  simp [hc, hm, hz]
theorem upd_c {w : World} {M g c : Nat} {es : Array MapEntry} (v : Value) (hb : w.heap[M]? = some (.map es c)) (hm : MissAt es g w) :
    (Instr.mapUpdate 122 (.map (some M)) (keyV g) v).run Tryz.prog w = .ok () { w with heap := w.heap.setIfInBounds M (.map (es.push { key := keyV g, val := v, born := c }) (c + 1)) } := by
  have hc := chk w false 9998 g
  unfold MissAt at hm
  simp only [Instr.mapUpdate, Sem.run_bind, run_underlying mapU, Result.andThen_ok, MapKept.run_getObj_map hb]
  simp [hc, hm, MapKept.run_setObj_map _ hb]
end Go.Proofs.YtahgljglleeloaaGreatDoor

/- rx's copier: the copy of a row of two nodes that is met for the first time. -/
namespace Go.Proofs.YtahgljglleeloaaGreatDoor
open Go.RowKit Go.Shelf Go.Maps SetM

/-- The world with another object at a block. -/
def setMap (W : World) (M : Nat) (o : Obj) : World := { W with heap := W.heap.setIfInBounds M o }
theorem setMap_size (W : World) (M : Nat) (o : Obj) : (setMap W M o).heap.size = W.heap.size := by simp [setMap]
theorem setMap_block (W : World) (M : Nat) (o : Obj) (k : Nat) (h : k ≠ M) : (setMap W M o).heap[k]? = W.heap[k]? := by
  unfold setMap
  exact Array.getElem?_setIfInBounds_ne (fun e => h e.symm)
theorem setMap_at (W : World) (M : Nat) (o : Obj) (h : M < W.heap.size) : (setMap W M o).heap[M]? = some o := by
  unfold setMap
  exact Array.getElem?_setIfInBounds_self_of_lt h
/-- What stands at other blocks than these stays. -/
structure Fr (A : Nat → Prop) (W W' : World) : Prop where
  os : W'.os = W.os
  tape : W'.tape = W.tape
  output : W'.output = W.output
  size : W.heap.size ≤ W'.heap.size
  block : ∀ k, k < W.heap.size → ¬ A k → W'.heap[k]? = W.heap[k]?
abbrev z10 : Array Value := #[.int .u8 0, .slice none 0 0, .slice none 0 0, .int .i64 0, .int .i64 0, .int .u8 0, .slice none 0 0, .slice none 0 0, .int .i64 0, .int .i64 0]
theorem infoJ' : (Tryz.prog.info? 127).map (fun i => (i.zero, i.size, i.bytes)) = some (some (.agg #[.slice none 0 0, .slice none 0 0]), 2, 48) := by kernel_rfl
theorem infoJ : ∃ i, Tryz.prog.info? 127 = some i ∧ i.zero = some (.agg #[.slice none 0 0, .slice none 0 0]) ∧ i.size = 2 ∧ i.bytes = 48 := by
  have h := infoJ'
  cases e : Tryz.prog.info? 127 with
  | none => rw [e] at h; cases h
  | some i =>
    rw [e] at h
    simp only [Option.map_some, Option.some.injEq, Prod.mk.injEq] at h
    exact ⟨i, rfl, h.1, h.2.1, h.2.2⟩
theorem row_at {W W' : World} {base e size n : Nat} {v : Value} {xs : List Value} (h : W.ownsRow base e size v n xs) (hb : ∀ k, v.ownBlock = some k → W'.heap[k]? = W.heap[k]?) : W'.ownsRow base e size v n xs := by
  refine ⟨h.1, ?_⟩
  rcases h.2 with h | ⟨g, cap, cur, rfl, h2, h3, h4⟩
  · exact .inl h
  · exact .inr ⟨g, cap, cur, rfl, h2, (hb g rfl).trans h3, h4⟩
theorem row_lt {W : World} {base e size n k : Nat} {v : Value} {xs : List Value} (h : W.ownsRow base e size v n xs) (hk : v.ownBlock = some k) : base ≤ k ∧ k < W.heap.size := by
  rcases h.2 with ⟨rfl, _⟩ | ⟨g, cap, cur, rfl, h2, h3, _⟩
  · cases hk
  · have : g = k := by cases hk; rfl
    subst this
    exact ⟨h2, (Array.getElem?_eq_some_iff.1 h3).1⟩
set_option maxRecDepth 100000 in
set_option maxHeartbeats 2000000 in
theorem kids_nil (C : Nat) (P : Option Addr) (c : Nat) (W : World) : Calls Tryz.prog 128 #[.pointer (some ⟨C, 0, none⟩), .slice P 0 c] W fun e W' => e = .returned (.slice none 0 0) ∧ W' = W := by
  go_enter Tryz.func128, Tryz.ntmps128
  go_wp2
  go_ret
  exact ⟨rfl, rfl⟩
set_option maxRecDepth 100000 in
set_option maxHeartbeats 4000000 in
theorem kids_new {W : World} {C M g kc clk base ln : Nat} {es : Array MapEntry} {lv : Value} {xs : List Value}
    (hC : W.heap[C]? = some (.cells #[.map (some M), lv] 125 (0, 0))) (hM : W.heap[M]? = some (.map es clk)) (hmiss : ∀ W', Below W.heap.size W W' → MissAt es g W')
    (hrow : W.ownsRow base 127 2 lv ln xs) (hCb : C < base) (hMb : M < base) (hCM : C ≠ M) (hbase : base ≤ W.heap.size) (hln : ln ≤ 10) :
    Calls Tryz.prog 128 #[.pointer (some ⟨C, 0, none⟩), .slice (some ⟨g, 0, none⟩) 2 kc] W fun e W' => ∃ T J cap, e = .returned (.slice (some ⟨T, 0, none⟩) 2 2) ∧ (W.heap.size ≤ T ∧ T ≠ J ∧ (lv.ownBlock = some J ∨ W.heap.size ≤ J)) ∧ W'.heap[T]? = some (.cells z10 27 (0, 0)) ∧
      W'.heap[C]? = some (.cells #[.map (some M), .slice (some ⟨J, 0, none⟩) (ln + 1) cap] 125 (0, 0)) ∧ W'.heap[M]? = some (.map (es.push { key := keyV g, val := .slice (some ⟨T, 0, none⟩) 2 2, born := clk }) (clk + 1)) ∧
      W'.ownsRow base 127 2 (.slice (some ⟨J, 0, none⟩) (ln + 1) cap) (ln + 1) (xs ++ [.slice (some ⟨g, 0, none⟩) 2 kc, .slice (some ⟨T, 0, none⟩) 2 2]) ∧ Fr (fun k => k = C ∨ k = M ∨ lv.ownBlock = some k) W W' := by
  obtain ⟨V, hV⟩ : ∃ V, V = W.alloc (.cells #[.pointer (some ⟨g, 0, none⟩), .int .i64 2] 174) := ⟨_, rfl⟩
  have hb : Below W.heap.size W V := by
    rw [hV]
    exact (Below.refl W.heap.size W).alloc (Nat.le_refl _) _
  have hKV : V.heap[W.heap.size]? = some (.cells #[.pointer (some ⟨g, 0, none⟩), .int .i64 2] 174 (0, 0)) := by rw [hV]; exact heap_alloc_new W _
  have q0 : V.cell? ⟨W.heap.size, 0, none⟩ = some (.pointer (some ⟨g, 0, none⟩)) := cell_of_row V W.heap.size 0 _ _ _ hKV
  have q1 : V.cell? ⟨W.heap.size, 1, none⟩ = some (.int .i64 2) := cell_of_row V W.heap.size 1 _ _ _ hKV
  have HB := Lib.hid hb
  have HZ : Hid (V.heap.size = W.heap.size + 1) := Lib.hid (by rw [hV]; exact World.size_alloc _ _)
  have hCl : C < W.heap.size := by omega
  have hMl : M < W.heap.size := by omega
  have hCV : V.heap[C]? = some (.cells #[.map (some M), lv] 125 (0, 0)) := (hb.block C hCl).trans hC
  have hMV : V.heap[M]? = some (.map es clk) := (hb.block M hMl).trans hM
  have k0 : V.cell? ⟨C, 0, none⟩ = some (.map (some M)) := cell_of_row V C 0 _ _ _ hCV
  have k1 : V.cell? ⟨C, 1, none⟩ = some lv := cell_of_row V C 1 _ _ _ hCV
  have hlk : ∀ n, (Instr.lookup 122 (.map (some M)) (.agg #[.pointer (some ⟨g, 0, none⟩), .int .i64 2]) true).run Tryz.prog (V.drewN n) = .ok (.tuple #[.slice none 0 0, .bool false]) (V.drewN n) := fun n =>
    lookK_c (w := V.drewN n) (M := M) hMV (hmiss _ ⟨hb.os, hb.tape, hb.output, hb.size, hb.block⟩)
  have HM := Lib.hid hmiss
  have HR := Lib.hid hrow
  clear hmiss hrow hb
  go_enter Tryz.func128, Tryz.ntmps128
  go_wp2_with fail
  rw [← hV]
  clear hV
  go_quiet (fail)
  obtain ⟨V2, hV2⟩ : ∃ V2, V2 = (V.drewN nq).alloc (.cells z10 27) := ⟨_, rfl⟩
  have hb1 : Below W.heap.size W (V.drewN nq) := ⟨HB.out.os, HB.out.tape, HB.out.output, HB.out.size, HB.out.block⟩
  have hb2 : Below W.heap.size W V2 := by rw [hV2]; exact hb1.alloc hb1.size _
  have hb3 : Below V.heap.size V V2 := by rw [hV2]; exact (⟨rfl, rfl, rfl, Nat.le_refl _, fun _ _ => rfl⟩ : Below V.heap.size V (V.drewN nq)).alloc (Nat.le_refl _) _
  have hz2 : V2.heap.size = V.heap.size + 1 := by rw [hV2]; exact World.size_alloc _ _
  have hT2 : V2.heap[V.heap.size]? = some (.cells z10 27 (0, 0)) := by rw [hV2]; exact heap_alloc_new (V.drewN nq) _
  have hmk : ∀ w, (Instr.makeSlice 25 (.int .i64 2) (.int .i64 2)).run Tryz.prog w = .ok (.slice (some ⟨w.heap.size, 0, none⟩) 2 2) (w.alloc (.cells z10 27)) := fun _ => by kernel_rfl
  have hVz : V.heap.size = W.heap.size + 1 := HZ.out
  clear hlk q0 q1 k0 k1
  have hC2 := (hb2.block C hCl).trans hC
  have hM2 := (hb2.block M hMl).trans hM
  have hK2 := (hb3.block _ (by omega)).trans hKV
  have q0 : V2.cell? ⟨W.heap.size, 0, none⟩ = some (.pointer (some ⟨g, 0, none⟩)) := cell_of_row V2 W.heap.size 0 _ _ _ hK2
  have q1 : V2.cell? ⟨W.heap.size, 1, none⟩ = some (.int .i64 2) := cell_of_row V2 W.heap.size 1 _ _ _ hK2
  have k0 : V2.cell? ⟨C, 0, none⟩ = some (.map (some M)) := cell_of_row V2 C 0 _ _ _ hC2
  have hup : (Instr.mapUpdate 122 (.map (some M)) (.agg #[.pointer (some ⟨g, 0, none⟩), .int .i64 2]) (.slice (some ⟨W.heap.size + 1, 0, none⟩) 2 2)).run Tryz.prog V2.drew = .ok () (setMap V2.drew M (.map (es.push { key := keyV g, val := .slice (some ⟨W.heap.size + 1, 0, none⟩) 2 2, born := clk }) (clk + 1))) :=
    upd_c (w := V2.drew) (M := M) _ hM2 (HM.out _ ⟨hb2.os, hb2.tape, hb2.output, hb2.size, hb2.block⟩)
  go_wp2_with fail
  rw [← hV2]
  clear hV2
  go_region
  obtain ⟨V3, hV3⟩ : ∃ V3, V3 = setMap V2.drew M (.map (es.push { key := keyV g, val := .slice (some ⟨W.heap.size + 1, 0, none⟩) 2 2, born := clk }) (clk + 1)) := ⟨_, rfl⟩
  rw [← hV3]
  have hz3 : V3.heap.size = V2.heap.size := by rw [hV3]; exact setMap_size _ _ _
  have hM3 : V3.heap[M]? = some (.map (es.push { key := keyV g, val := .slice (some ⟨W.heap.size + 1, 0, none⟩) 2 2, born := clk }) (clk + 1)) := by rw [hV3]; exact setMap_at _ _ _ (by show M < V2.heap.size; omega)
  have hb3' : ∀ k, k ≠ M → V3.heap[k]? = V2.heap[k]? := fun k hk => by rw [hV3]; exact setMap_block V2.drew M _ k hk
  have hC3 := (hb3' C hCM).trans hC2
  have hT3 := (hb3' V.heap.size (by omega)).trans hT2
  have hos : V3.os = W.os ∧ V3.tape = W.tape ∧ V3.output = W.output := by rw [hV3]; exact ⟨hb2.os, hb2.tape, hb2.output⟩
  have k0 : V3.cell? ⟨C, 0, none⟩ = some (.map (some M)) := cell_of_row V3 C 0 _ _ _ hC3
  have k1 : V3.cell? ⟨C, 1, none⟩ = some lv := cell_of_row V3 C 1 _ _ _ hC3
  obtain ⟨i0, hi, hi0, hi1, hi2⟩ := infoJ
  have hrow4 : (V3.alloc (.cells #[.slice (some ⟨g, 0, none⟩) 2 kc, .slice (some ⟨W.heap.size + 1, 0, none⟩) 2 2] 127)).ownsRow base 127 2 lv ln xs := by
    refine row_at HR.out (fun k hk => ?_)
    have hlt := row_lt HR.out hk
    rw [heap_alloc_old _ _ _ (by omega), hb3' k (by omega), hb2.block k hlt.2]
  have hnew := heap_alloc_new V3 (.cells #[.slice (some ⟨g, 0, none⟩) 2 kc, .slice (some ⟨W.heap.size + 1, 0, none⟩) 2 2] 127)
  have hsz4 := World.size_alloc V3 (.cells #[.slice (some ⟨g, 0, none⟩) 2 kc, .slice (some ⟨W.heap.size + 1, 0, none⟩) 2 2] 127)
  have HZ2 := Lib.hid hz2
  have HZ3 := Lib.hid hz3
  have HZV := Lib.hid hVz
  clear hV3 hup hmk hM2 hC2 hK2 q0 q1 hKV hCV hMV hz2 hz3 hVz
  go_wp2_with (at_builtin; refine wpList_append_lies _ rfl _ _ 123 rfl base 127 i0 _ 2 48 Tryz.underlying123 hi hi0 hi1 hi2 rfl (by decide) lv ln xs rfl hrow4 ⟨V3.heap.size, 0, none⟩ 1 1 [.slice (some ⟨g, 0, none⟩) 2 kc, .slice (some ⟨W.heap.size + 1, 0, none⟩) 2 2] rfl rfl (fun j y hy => World.news_of_block hnew j y (by simpa using hy)) (by simp [Value.oneCell']) (by omega) (by unfold maxLen; omega) (by omega) (by have := HZ2.out; have := HZ3.out; have := HZV.out; omega) _ rfl ?_; intro J cap w5 h1 h2 h3 h4; have hC5 := (h2.block C (by have := HZ2.out; have := HZ3.out; have := HZV.out; omega) (fun e => by have := row_lt HR.out e.symm; omega)).trans ((heap_alloc_old _ _ _ (by have := HZ2.out; have := HZ3.out; have := HZV.out; omega)).trans hC3); have c51 : w5.cell? ⟨C, 1, none⟩ = some lv := cell_of_row w5 C 1 _ _ _ hC5; have z51 : w5.frozen? ⟨C, 1, none⟩ = false := by simp [World.frozen?, hC5])
  have hs2 := HZ2.out
  have hs3 := HZ3.out
  have hsV := HZV.out
  have hT3' : V3.heap[W.heap.size + 1]? = some (.cells z10 27 (0, 0)) := by rw [← hsV]; exact hT3
  have hT5 := (h2.block (W.heap.size + 1) (by omega) (fun e => by have := row_lt HR.out e.symm; omega)).trans ((heap_alloc_old _ _ _ (by omega)).trans hT3')
  have hM5 := (h2.block M (by omega) (fun e => by have := row_lt HR.out e.symm; omega)).trans ((heap_alloc_old _ _ _ (by omega)).trans hM3)
  have hJ := row_lt h1 rfl
  have hsz := h2.size
  have hTJ : W.heap.size + 1 ≠ J := by
    rcases h3 with h3 | h3
    · have := row_lt HR.out h3
      omega
    · omega
  go_ret
  refine ⟨W.heap.size + 1, J, cap, rfl, ⟨by omega, hTJ, h3.imp id (fun e => by omega)⟩, (Below.heap_setCell _ _ _ _ (by show _ ≠ C; omega)).trans hT5, heap_setC w5 C _ _ hC5 1 _, (Below.heap_setCell _ _ _ _ (by show _ ≠ C; omega)).trans hM5, row_at h1 (fun k hk => Below.heap_setCell _ _ _ k (by have := row_lt h1 hk; show _ ≠ C; omega)), h2.os.trans hos.1, h2.tape.trans hos.2.1, h2.output.trans hos.2.2, by rw [World.size_setCell]; omega, fun k hk hA => ?_⟩
  have hkC : k ≠ C := fun e => hA (.inl e)
  have hkM : k ≠ M := fun e => hA (.inr (.inl e))
  exact (Below.heap_setCell _ _ _ k hkC).trans ((h2.block k (by omega) (fun e => hA (.inr (.inr e.symm)))).trans ((heap_alloc_old _ _ _ (by omega)).trans ((hb3' k hkM).trans (hb2.block k hk))))
end Go.Proofs.YtahgljglleeloaaGreatDoor

/- rx's copier: a copy of a node, its Set closed, its Kids by the copier's rows. -/
namespace Go.Proofs.YtahgljglleeloaaGreatDoor
open Go.RowKit Go.Shelf Go.Maps SetM

/-- The worlds are the same but at two blocks. -/
structure Ag (B : Nat) (W W' : World) : Prop where
  os : W'.os = W.os
  tape : W'.tape = W.tape
  output : W'.output = W.output
  size : W'.heap.size = W.heap.size
  block : ∀ b, b ≠ B → b ≠ B + 1 → W'.heap[b]? = W.heap[b]?
set_option maxRecDepth 100000 in
set_option maxHeartbeats 4000000 in
theorem node_any {W : World} {C n c qn qc : Nat} {k mn mx : Int} {p q : Option Addr} {Q K : Value → World → World → Prop}
    (HF : ∀ U, Below W.heap.size W U → Calls Tryz.prog 91 #[.slice p n c] U fun e U' => ∃ p1 m1 d1, e = .returned (.slice p1 m1 d1) ∧ Q (.slice p1 m1 d1) U U' ∧ Below U.heap.size U U')
    (HK : ∀ U, Below W.heap.size W U → Calls Tryz.prog 128 #[.pointer (some ⟨C, 0, none⟩), .slice q qn qc] U fun e U' => ∃ p2 m2 d2, e = .returned (.slice p2 m2 d2) ∧ K (.slice p2 m2 d2) U U' ∧ ∀ b, W.heap.size ≤ b → b < U.heap.size → U'.heap[b]? = U.heap[b]?) :
    Calls Tryz.prog 107 #[.pointer (some ⟨C, 0, none⟩), .agg #[.int .u8 k, .slice p n c, .slice q qn qc, .int .i64 mn, .int .i64 mx]] W fun e W' => ∃ p1 m1 d1 p2 m2 d2 W1 W2 W3 W4,
      e = .returned (.agg #[.int .u8 k, .slice p1 m1 d1, .slice p2 m2 d2, .int .i64 mn, .int .i64 mx]) ∧ Below W.heap.size W W1 ∧ W.heap.size + 2 ≤ W1.heap.size ∧ Q (.slice p1 m1 d1) W1 W2 ∧ Below W1.heap.size W1 W2 ∧ Below W2.heap.size W2 W3 ∧ K (.slice p2 m2 d2) W3 W4 ∧ Ag W.heap.size W4 W' := by
  obtain ⟨V, hV⟩ : ∃ V, V = (W.alloc (.cells #[.int .u8 k, .slice p n c, .slice q qn qc, .int .i64 mn, .int .i64 mx] 27)).alloc (.cells #[.int .u8 0, .slice none 0 0, .slice none 0 0, .int .i64 0, .int .i64 0] 27) := ⟨_, rfl⟩
  have hz1 := World.size_alloc W (.cells #[.int .u8 k, .slice p n c, .slice q qn qc, .int .i64 mn, .int .i64 mx] 27)
  have hb : Below W.heap.size W V := by rw [hV]; exact ((Below.refl W.heap.size W).alloc (Nat.le_refl _) _).alloc (by omega) _
  have hVz : V.heap.size = W.heap.size + 2 := by rw [hV, World.size_alloc, hz1]
  have hN : V.heap[W.heap.size]? = some (.cells #[.int .u8 k, .slice p n c, .slice q qn qc, .int .i64 mn, .int .i64 mx] 27 (0, 0)) := by
    rw [hV, heap_alloc_old _ _ _ (by omega)]; exact heap_alloc_new W _
  have hR : V.heap[W.heap.size + 1]? = some (.cells #[.int .u8 0, .slice none 0 0, .slice none 0 0, .int .i64 0, .int .i64 0] 27 (0, 0)) := by
    have := heap_alloc_new (W.alloc (.cells #[.int .u8 k, .slice p n c, .slice q qn qc, .int .i64 mn, .int .i64 mx] 27)) (.cells #[.int .u8 0, .slice none 0 0, .slice none 0 0, .int .i64 0, .int .i64 0] 27)
    rw [hz1, ← hV] at this
    exact this
  have q1 : V.cell? ⟨W.heap.size, 1, none⟩ = some (.slice p n c) := cell_of_row V W.heap.size 1 _ _ _ hN
  have q2 : V.cell? ⟨W.heap.size, 2, none⟩ = some (.slice q qn qc) := cell_of_row V W.heap.size 2 _ _ _ hN
  have hrf : Below V.heap.size V V.drew := ⟨rfl, rfl, rfl, Nat.le_refl _, fun _ _ => rfl⟩
  have hrb : Below W.heap.size W V.drew := ⟨hb.os, hb.tape, hb.output, hb.size, hb.block⟩
  have HFA := Lib.hid (HF V.drew hrb)
  have HKK := Lib.hid HK
  have HBD := Lib.hid hrb
  have HVZ := Lib.hid hVz
  have HNN := Lib.hid hN
  have HRR := Lib.hid hR
  clear HF HK hz1 hVz hN hR hb hrb hrf
  go_enter Tryz.func107, Tryz.ntmps107
  go_wp2_with fail
  rw [← hV]
  clear hV
  go_region_with (first | (go_at_call 91; (with_reducible refine (HFA.out).mono ?_); rintro e w1 ⟨p1, m1, d1, rfl, h1, b1⟩; have HB1 := Lib.hid b1; have HQ := Lib.hid h1; have q3 : w1.cell? ⟨W.heap.size, 2, none⟩ = some (.slice q qn qc) := (b1.cell (p := ⟨W.heap.size, 2, none⟩) (by have := HVZ.out; show W.heap.size < V.heap.size; omega)).trans q2; have HBW := Lib.hid (HBD.out.trans (b1.mono HBD.out.size)); clear b1 h1 q1 q2) | (go_at_call 128; (with_reducible refine (HKK.out _ HBW.out).mono ?_); rintro e w2 ⟨p2, m2, d2, rfl, h2, f2⟩; have HK2 := Lib.hid h2; have hs1 : V.heap.size ≤ w1.heap.size := HB1.out.size; have hsz := HVZ.out; have hN2 := (f2 W.heap.size (Nat.le_refl _) (by omega)).trans ((HB1.out.block W.heap.size (by show _ < V.heap.size; omega)).trans HNN.out); have hR2 := (f2 (W.heap.size + 1) (by omega) (by omega)).trans ((HB1.out.block (W.heap.size + 1) (by show _ < V.heap.size; omega)).trans HRR.out); have HN2 := Lib.hid hN2; have HR2 := Lib.hid hR2; have z : ∀ i, w2.frozen? ⟨W.heap.size, i, none⟩ = false := (fun i => by simp [World.frozen?, hN2]); have a1 : w2.cell? ⟨W.heap.size, 1, none⟩ = some (.slice p n c) := cell_of_row w2 W.heap.size 1 _ _ _ hN2; have a2 : w2.cell? ⟨W.heap.size, 2, none⟩ = some (.slice q qn qc) := cell_of_row w2 W.heap.size 2 _ _ _ hN2; clear h2 f2 hN2 hR2 hs1 hsz q3))
  all_goals
    obtain ⟨V4, hV4⟩ : ∃ V4, V4 = (w2.setCell ⟨W.heap.size, 1, none⟩ (.slice p1 m1 d1)).setCell ⟨W.heap.size, 2, none⟩ (.slice p2 m2 d2) := ⟨_, rfl⟩
    have hN4 : V4.heap[W.heap.size]? = some (.cells #[.int .u8 k, .slice p1 m1 d1, .slice p2 m2 d2, .int .i64 mn, .int .i64 mx] 27 (0, 0)) := by
      rw [hV4]; exact heap_setC _ _ _ _ (heap_setC _ _ _ _ HN2.out 1 _) 2 _
    have hA4 : ∀ b, b ≠ W.heap.size → V4.heap[b]? = w2.heap[b]? := fun b hb => by rw [hV4, Below.heap_setCell _ _ _ b hb, Below.heap_setCell _ _ _ b hb]
    have hz4 : V4.heap.size = w2.heap.size := by rw [hV4, World.size_setCell, World.size_setCell]
    have ho4 : V4.os = w2.os ∧ V4.tape = w2.tape ∧ V4.output = w2.output := by rw [hV4]; exact ⟨rfl, rfl, rfl⟩
    have hR4 := (hA4 (W.heap.size + 1) (by omega)).trans HR2.out
    have H5 : Hid (B5 V4 (W.heap.size + 1)) := Lib.hid ⟨_, _, _, _, _, hR4⟩
    obtain ⟨⟨x0, x1, x2, x3, x4, k0, k1, k2, k3, k4⟩, f0, f1, f2, f3, f4⟩ := H5.out.cells
    have a0 : V4.cell? ⟨W.heap.size, 0, none⟩ = some (.int .u8 k) := cell_of_row V4 W.heap.size 0 _ _ _ hN4
    have a1 : V4.cell? ⟨W.heap.size, 1, none⟩ = some (.slice p1 m1 d1) := cell_of_row V4 W.heap.size 1 _ _ _ hN4
    have a2 : V4.cell? ⟨W.heap.size, 2, none⟩ = some (.slice p2 m2 d2) := cell_of_row V4 W.heap.size 2 _ _ _ hN4
    have a3 : V4.cell? ⟨W.heap.size, 3, none⟩ = some (.int .i64 mn) := cell_of_row V4 W.heap.size 3 _ _ _ hN4
    have a4 : V4.cell? ⟨W.heap.size, 4, none⟩ = some (.int .i64 mx) := cell_of_row V4 W.heap.size 4 _ _ _ hN4
    have HA4 := Lib.hid hA4
    have HZ4 := Lib.hid hz4
    rw [← hV4]
    clear hV4 z hR4 hA4 hz4 hN4
    go_wp2
    refine ret_node rfl rfl H5.out ⟨p1, m1, d1, p2, m2, d2, V.drew, w1, w1, w2, rfl, HBD.out, by have := HVZ.out; show _ ≤ V.heap.size; omega, HQ.out, HB1.out, Below.refl _ _, HK2.out, ?_⟩
    have hB := put5_below (n := 0) (.int .u8 k) (.slice p1 m1 d1) (.slice p2 m2 d2) (.int .i64 mn) (.int .i64 mx) (Below.refl 0 V4) (Nat.zero_le (W.heap.size + 1))
    exact ⟨hB.os.trans ho4.1, hB.tape.trans ho4.2.1, hB.output.trans ho4.2.2, by rw [put5_size]; exact HZ4.out, fun b h1 h2 => (put5_block _ _ _ _ _ _ _ b h2).trans (HA4.out b h1)⟩
end Go.Proofs.YtahgljglleeloaaGreatDoor
