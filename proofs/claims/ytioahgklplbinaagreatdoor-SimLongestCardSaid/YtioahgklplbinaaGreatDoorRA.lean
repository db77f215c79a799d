/- RWords, RAmong, RSee, RNum, RHex, RCut, RR6a, in one text. -/
import Derived.Test.YtioahgklplbinaaGreatDoorFO
import Derived.Test.YtioahgklplbinaaGreatDoorWE
import Derived.Test.YtioahgklplbinaaGreatDoorPURE
import Derived.Test.YtioahgklplbinaaGreatDoorPA
import Derived.Lib.IndexAny
import Derived.Deep.RegionHeld3
import Derived.WalkSmall
import Derived.IntWalk
import Derived.Shelf.SlicesQ.IndexFunc
import Derived.Laws.IdiomStrings
import Derived.Lib.Hide
import Derived.Laws.Strings3
import Derived.Laws.BytesArg
import Derived.WalkKit
import Derived.BigCall
import Derived.BigGuard
import Derived.BigQuiet
namespace Go.Proofs.YtioahgklplbinaaGreatDoor
open Go.RowKit Go.Shelf SetM RxM
open U.UtfM (wr enc)
def bs (s:ByteArray):List Int:=s.data.toList.map fun b=>(b.toNat:Int)
theorem bs_len (s:ByteArray):(bs s).length=s.size:=by simp [bs]
abbrev Gr (R:Nat) (W W':World):Prop:=W.grownBy W' (some R)
theorem Gr.refl (R:Nat) (W:World):Gr R W W:=⟨rfl,rfl,rfl,Nat.le_refl _,fun _ _ _=>rfl⟩
theorem Gr.trans {R:Nat} {a b c:World} (h:Gr R a b) (k:Gr R b c):Gr R a c :=
 ⟨k.os.trans h.os,k.tape.trans h.tape,k.output.trans h.output,Nat.le_trans h.size k.size,fun i hi hr=>(k.block i (Nat.lt_of_lt_of_le hi h.size) hr).trans (h.block i hi hr)⟩
theorem Gr.of {R:Nat} {a b:World} (h:Below a.heap.size a b):Gr R a b:=⟨h.os,h.tape,h.output,h.size,fun k hk _=>h.block k hk⟩
theorem Gr.set {R:Nat} (W:World) (i:Nat) (v:Value):Gr R W (W.setCell ⟨R,i,none⟩ v) :=
 ⟨rfl,rfl,rfl,by simp [World.setCell],fun k _ hk=>Below.heap_setCell _ _ _ k (fun e=>hk (by rw [e]))⟩
theorem Gr.below {R:Nat} {a b c:World} (h:Gr R b c) (k:Below a.heap.size a b) (hR:a.heap.size≤R):Below a.heap.size a c :=
 ⟨h.os.trans k.os,h.tape.trans k.tape,h.output.trans k.output,Nat.le_trans k.size h.size,fun i hi=>(h.block i (Nat.lt_of_lt_of_le hi k.size) (fun e=>by cases e;omega)).trans (k.block i hi)⟩
section
variable {R:Nat} {W W':World} {s:ByteArray} {dv:Value} {rest:List Int} {d:Nat} {cl:Bool}
theorem heap_setR (W:World) (R:Nat) (cs:Array Value) (t:TypeId) (h:W.heap[R]? = some (.cells cs t (0,0))) (i:Nat) (v:Value):(W.setCell ⟨R,i,none⟩ v).heap[R]? = some (.cells (cs.set! i v) t (0,0)):=by
 obtain ⟨hlt,hk⟩:=Array.getElem?_eq_some_iff.1 h
 show (W.heap.modify R _)[R]? = _
 rw [Array.getElem?_eq_getElem (by rw [Array.size_modify];exact hlt),Array.getElem_modify_self,hk]
 rfl
end
theorem wr_head_low {c:Int} (hs:U.UtfM.Sc c) (h:c < 128) (t:List Int):wr (c::t)=c::wr t:=by rw [U.UtfM.wr_cons,U.UtfM.enc1 hs h];rfl
theorem wr_head {c:Int} (hs:U.UtfM.Sc c) (t:List Int):∃ b l,wr (c::t)=b::l∧0≤b∧b≤255∧((b=c∧c < 128)∨(192≤b∧128≤c)):=by
 rw [U.UtfM.wr_cons]
 rcases U.UtfM.sc_cases hs with h | h | h | h
 ·exact ⟨c,_,by rw [U.UtfM.enc1 hs h.2];rfl,by omega,by omega,.inl ⟨rfl,h.2⟩⟩
 ·exact ⟨_,_,by rw [U.UtfM.enc2 hs h.1 h.2];rfl,by omega,by omega,.inr ⟨by omega,by omega⟩⟩
 ·exact ⟨_,_,by rw [U.UtfM.enc3 hs h.1 h.2];rfl,by omega,by omega,.inr ⟨by omega,by omega⟩⟩
 ·exact ⟨_,_,by rw [U.UtfM.enc4 hs h.1];rfl,by omega,by omega,.inr ⟨by omega,by omega⟩⟩
theorem wr_len_pos {c:Int} (hs:U.UtfM.Sc c) (t:List Int):(wr t).length < (wr (c::t)).length:=by
 rw [U.UtfM.wr_cons,List.length_append]
 have:=U.UtfM.enc_pos hs
 omega
end Go.Proofs.YtioahgklplbinaaGreatDoor
namespace Go.Proofs.YtioahgklplbinaaGreatDoor
open Go.RowKit Go.Shelf SetM RxM
open U.UtfM (wr enc)
end Go.Proofs.YtioahgklplbinaaGreatDoor
namespace Go.Proofs.YtioahgklplbinaaGreatDoor
open Go.RowKit Go.Shelf SetM RxM
open U.UtfM (wr enc)
variable {R:Nat} {W:World} {s:ByteArray} {dv:Value} {rest:List Int} {d:Nat} {cl:Bool}
def Low (p:List Int):Prop:=∀ c∈p,0≤c∧c < 128
theorem pre_low : ∀ (p : List Int), Low p → ∀ (rest : List Int), (∀ c ∈ rest, U.UtfM.Sc c) → (p <+: wr rest ↔ p <+: rest)
 | [],_,rest,_=>by simp
 | a::p,hp,[],_=>by simp [U.UtfM.wr_nil]
 | a::p,hp,c::t,hs=>by
  have ha:=hp a (by simp)
  have hc:=hs c (by simp)
  obtain ⟨b,l,e,_,_,h | h⟩:=wr_head hc t
  ·rw [wr_head_low hc h.2,List.cons_prefix_cons,List.cons_prefix_cons,pre_low p (fun x hx=>hp x (by simp [hx])) t (fun x hx=>hs x (by simp [hx]))]
  ·rw [e, List.cons_prefix_cons, List.cons_prefix_cons]
   constructor
   ·rintro ⟨h1,_⟩;omega
   ·rintro ⟨h1,_⟩;omega
theorem extract_bytes (s:ByteArray) (k:Nat):bs (s.extract k s.size)=(bs s).drop k:=by
 unfold bs
 rw [← List.map_drop]
 congr 1
 rw [ByteArray.data_extract,Array.toList_extract]
 rw [List.extract_eq_take_drop]
 exact List.take_of_length_le (by rw [List.length_drop];exact Nat.le_refl _)
theorem drewN_below {W:World} (k:Nat):Below W.heap.size W (W.drewN k):=⟨rfl,rfl,rfl,Nat.le_refl _,fun _ _=>rfl⟩
theorem wr_low : ∀ (p : List Int), Low p → wr p = p
 | [],_=>rfl
 | a::p,h=>by
  have ha:=h a (by simp)
  rw [wr_head_low (by unfold U.UtfM.Sc;omega) ha.2,wr_low p (fun c hc=>h c (by simp [hc]))]
end Go.Proofs.YtioahgklplbinaaGreatDoor
namespace Go.Proofs.YtioahgklplbinaaGreatDoor
open Go.RowKit Go.Shelf SetM RxM
variable {R:Nat} {W:World} {s:ByteArray} {dv:Value} {rest:List Int} {d:Nat} {cl:Bool}
def capB (w:World) (t:ByteArray):Nat:=grownCap w t.size 0 5
def objB (w:World) (t:ByteArray):Obj:= .cells (bytesRow t (capB w t)) 5 ((bytesRow t (capB w t)).size,(bytesRow t (capB w t)).size+1)
theorem conv_b (t:ByteArray) (w:World):(convert 9 50 (.string t)).run Tryz.prog w=.ok (.slice (some ⟨w.heap.size,0,none⟩) t.size (capB w t)) (w.drew.alloc (objB w t)) :=
 run_bytes_of_string w _ _ _ t Tryz.underlying9 Tryz.underlying50 Tryz.underlying5
theorem bs_bytes (t:ByteArray):U.UtfM.IsBytes (bs t):=fun c hc=>by
 obtain ⟨b,_,rfl⟩:=List.mem_map.1 hc
 have:=b.toNat_lt
 omega
theorem by_conv (t:ByteArray) (w:World):U.By (w.drew.alloc (objB w t)) (some ⟨w.heap.size,0,none⟩) (bs t) :=
 ⟨bs_bytes t,fun _=>⟨w.heap.size,0,rfl,by rw [World.size_alloc];exact Nat.lt_succ_self _,fun j hj=>by
  rw [bs_len] at hj
  rw [show (w.drew.alloc (objB w t)).cell? ⟨w.heap.size,0+j,none⟩=(bytesRow t (capB w t))[0+j]? from cell_of_row _ w.heap.size _ _ _ _ (heap_alloc_new w.drew _),Nat.zero_add]
  unfold bytesRow bs
  have hj':j < t.data.size:=hj
  rw [Array.getElem?_append_left (by simp;omega)]
  have hj2:(bs t)[j]? = some (bs t)[j]:=List.getElem?_eq_getElem _
  unfold bs at hj2
  rw [List.getElem?_map,Array.getElem?_toList,Array.getElem?_eq_getElem hj'] at hj2
  rw [Array.getElem?_map,Array.getElem?_eq_getElem hj']
  exact congrArg some (congrArg (Value.int .u8) (by simpa using hj2))⟩⟩
theorem below_conv (t:ByteArray) (w:World):Below w.heap.size w (w.drew.alloc (objB w t)):=(Below.refl _ _).drew.alloc (Nat.le_refl _) _
end Go.Proofs.YtioahgklplbinaaGreatDoor
namespace Go.Proofs.YtioahgklplbinaaGreatDoor.Hx
open Go.RowKit Go.Shelf RxM
theorem isH_cases {c:Int} (h:isH c=true):(48≤c∧c≤57)∨(97≤c∧c≤102)∨(65≤c∧c≤70):=by
 simpa [isH,isD] using h
def hexA (a:Int) (l:List Int):Int:=l.foldl (fun n c=>n*16+hexV c) a
theorem hexA_cons (a c:Int) (l:List Int):hexA a (c::l)=hexA (a*16+hexV c) l:=rfl
theorem hexV_le {c:Int} (h:isH c=true):0≤hexV c∧hexV c≤15:=by
 unfold hexV
 rcases isH_cases h with h | h | h
 ·rw [if_pos h.2];omega
 ·rw [if_neg (by omega),if_neg (by omega)];omega
 ·rw [if_neg (by omega),if_pos h.2];omega
theorem pow16 (a b:Nat) (h:a≤b):(16:Int) ^ a≤16 ^ b:=by
 have:=Nat.pow_le_pow_right (show 0 < 16 by decide) h
 exact_mod_cast this
theorem hexA_bound : ∀ (l : List Int) (a : Int) (k : Nat), 0 ≤ a → a < 16 ^ k → (∀ c ∈ l, isH c = true) → 0 ≤ hexA a l ∧ hexA a l < 16 ^ (k + l.length)
 | [],a,k,h0,h1,_=>⟨h0,h1⟩
 | c::l,a,k,h0,h1,h=>by
  have hv:=hexV_le (h c (by simp))
  have:=hexA_bound l (a*16+hexV c) (k+1) (by omega) (by rw [Int.pow_succ];omega) (fun x hx=>h x (by simp [hx]))
  rw [hexA_cons,List.length_cons,show k+(l.length+1)=k+1+l.length from by omega]
  exact this
end Go.Proofs.YtioahgklplbinaaGreatDoor.Hx
namespace Go.Proofs.YtioahgklplbinaaGreatDoor.Hx
open Go.RowKit Go.Shelf RxM
open Go.Proofs.YtioahgklplbinaaGreatDoor.U.UtfM (wr enc Sc)
theorem takeWhile_app {α:Type} (p:α→Bool) (a b:List α) (h:∀ x∈a,p x=true):(a++b).takeWhile p=a++b.takeWhile p:=by
 induction a with
 | nil=>rfl
 | cons x a ih =>
  rw [List.cons_append,List.takeWhile_cons,if_pos (h x (by simp)),ih (fun y hy=>h y (by simp [hy]))];rfl
theorem enc_not {c:Int} (hs:Sc c) (h:c≠125):∀ b∈enc c,b≠125:=by
 rcases U.UtfM.sc_cases hs with h1 | h1 | h1 | h1
 ·rw [U.UtfM.enc1 hs h1.2];intro b hb;simp at hb;omega
 ·rw [U.UtfM.enc2 hs h1.1 h1.2];intro b hb;simp at hb;omega
 ·rw [U.UtfM.enc3 hs h1.1 h1.2];intro b hb;simp at hb;omega
 ·rw [U.UtfM.enc4 hs h1.1];intro b hb;simp at hb;omega
theorem wr_while : ∀ (r : List Int), (∀ c ∈ r, Sc c) → (wr r).takeWhile not125 = wr (r.takeWhile not125) ∧ (125 ∈ wr r ↔ r.dropWhile not125 ≠ [])
 | [],_=>by simp [U.UtfM.wr_nil]
 | c::t,h=>by
  have ih:=wr_while t (fun x hx=>h x (by simp [hx]))
  by_cases h1:c=125
  ·subst h1
   have e:enc 125=[125]:=rfl
   rw [U.UtfM.wr_cons,e]
   constructor
   ·rfl
   ·simp [not125]
  ·have hn : not125 c = true := by simp [not125, h1]
   have he:=enc_not (h c (by simp)) h1
   rw [U.UtfM.wr_cons,List.takeWhile_cons,List.dropWhile_cons,if_pos hn,if_pos hn,takeWhile_app _ _ _ (fun x hx=>by simp [not125];exact he x hx),ih.1,U.UtfM.wr_cons]
   refine ⟨rfl,?_⟩
   rw [List.mem_append,← ih.2]
   constructor
   ·rintro (h | h)
    ·exact absurd rfl (he _ h)
    ·exact h
   ·exact .inr
end Go.Proofs.YtioahgklplbinaaGreatDoor.Hx
namespace Go.Proofs.YtioahgklplbinaaGreatDoor
open Go.RowKit Go.Shelf Go.Maps SetM PropsM RxM
def S8:ByteArray:=⟨#[97,98,124,91,75,45,77,93]⟩
theorem s8_bs:bs S8=[97,98,124,91,75,45,77,93]:=rfl
section
variable {R:Nat} {W:World} {i:Nat}
end
end Go.Proofs.YtioahgklplbinaaGreatDoor
