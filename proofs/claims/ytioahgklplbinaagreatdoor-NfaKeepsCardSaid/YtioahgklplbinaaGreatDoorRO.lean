/- RefOps, RefUnion, in one text. -/
import Derived.Test.YtioahgklplbinaaGreatDoorRefMake
import Derived.Test.YtioahgklplbinaaGreatDoorPURE
namespace Go.Proofs.YtioahgklplbinaaGreatDoor
open Go.RowKit Go.Shelf SetM
theorem kf2 (p q:Bool):kfOf 2 p q=(p && !q):=by cases p <;> cases q <;> rfl
theorem kf1 (p q:Bool):kfOf 1 p q=(!p && !q):=by cases p <;> cases q <;> rfl
theorem kf14 (p q:Bool):kfOf 14 p q=(p || q):=by cases p <;> cases q <;> rfl
theorem tells_nil (r:Int):¬ Tells ([]:List Sp) r:=fun h=>mem_nil r h.2
theorem wide_set {l:List Sp} {K:Int→Prop} (h:IsSet l K) (hs:∀ r,K r→Sc r):Wide l:=fun s hm=>by
 have hle:=nf_le h.1 s hm
 have:=hs s.2 ((h.2 s.2).1 ⟨s,hm,hle,Int.le_refl _⟩)
 unfold Sc at this;omega
end Go.Proofs.YtioahgklplbinaaGreatDoor
namespace Go.Proofs.YtioahgklplbinaaGreatDoor
open Go.RowKit Go.Shelf SetM
theorem unionSet_len {ls:List (List Sp)} {k:Nat} {o:List Sp} (h:IsSet o (fun r=>∃ a∈ls.take k,Tells a r)) (ht:total ls≤20000):o.length≤40004:=by
 have h1:=nf_len (l:=(ls.take k).flatten) h.1 (fun r=>(h.2 r).trans (tells_flat _ r))
 have h2:(ls.take k).flatten.length≤total ls:=by
  unfold total flat
  have e:ls.flatten=(ls.take k).flatten++(ls.drop k).flatten:=by rw [← List.flatten_append,List.take_append_drop]
  rw [e,List.length_append];omega
 omega
theorem unionSet_wide {ls:List (List Sp)} {k:Nat} {o:List Sp} (h:IsSet o (fun r=>∃ a∈ls.take k,Tells a r)):Wide o :=
 wide_set h (fun _ ⟨_,_,ht⟩=>ht.1)
theorem unionSet_next {ls:List (List Sp)} {k:Nat} {o o':List Sp} (hk:k < ls.length) (h:IsSet o (fun r=>∃ a∈ls.take k,Tells a r)) (h':IsSet o' (fun r=>Sc r∧kfOf 14 (decide (Tells o r)) (decide (Tells ls[k] r))=true)):IsSet o' (fun r=>∃ a∈ls.take (k+1),Tells a r):=by
 have ht:=h.tells (fun _ ⟨_,_,ht⟩=>ht.1)
 refine h'.congr (fun r=>?_)
 rw [kf14,List.take_succ_eq_append_getElem hk]
 simp only [Bool.or_eq_true,decide_eq_true_eq,ht r,List.mem_append,List.mem_singleton]
 constructor
 ·rintro ⟨_, ⟨a, ha, h⟩ | h⟩
  ·exact ⟨a,.inl ha,h⟩
  ·exact ⟨_,.inr rfl,h⟩
 ·rintro ⟨a, ha | rfl, h⟩
  ·exact ⟨h.1,.inl ⟨a,ha,h⟩⟩
  ·exact ⟨h.1,.inr h⟩
end Go.Proofs.YtioahgklplbinaaGreatDoor
