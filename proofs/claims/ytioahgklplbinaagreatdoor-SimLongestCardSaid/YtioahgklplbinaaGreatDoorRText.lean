/- The law's text: words put together as choices say. -/
import Derived.Test.YtioahgklplbinaaGreatDoorRN
import Derived.Test.YtioahgklplbinaaGreatDoorKIT
namespace Go.Proofs.YtioahgklplbinaaGreatDoor
open Go.RowKit Go.Shelf Go.Maps SetM PropsM RxM
def wordsL:List ByteArray:=[⟨#[97]⟩,⟨#[98]⟩,⟨#[99]⟩,⟨#[75]⟩,⟨#[107]⟩,⟨#[46]⟩,⟨#[124]⟩,⟨#[42]⟩,⟨#[43]⟩,⟨#[63]⟩,⟨#[40]⟩,⟨#[41]⟩,⟨#[40,63,105,58]⟩,⟨#[91,97,45,99,93]⟩,⟨#[91,94,97,93]⟩,⟨#[91,93]⟩,⟨#[123,50,125]⟩,⟨#[123,49,44,125]⟩,⟨#[123,48,44,51,125]⟩,⟨#[123,68,125]⟩,⟨#[92,112,123,100,105,103,105,116,125]⟩,⟨#[92,120,123,51,98,49,125]⟩,⟨#[92,110]⟩,⟨#[92,46]⟩,⟨#[91,92,112,123,104,101,120,125,122,93]⟩,⟨#[195,169]⟩,⟨#[91,206,177,45,207,137,93]⟩,⟨#[40,41]⟩,⟨#[40,97,124,98,41]⟩,⟨#[120]⟩]
def wordsS:List (List Int):=[[97],[98],[99],[75],[107],[46],[124],[42],[43],[63],[40],[41],[40,63,105,58],[91,97,45,99,93],[91,94,97,93],[91,93],[123,50,125],[123,49,44,125],[123,48,44,51,125],[123,68,125],[92,112,123,100,105,103,105,116,125],[92,120,123,51,98,49,125],[92,110],[92,46],[91,92,112,123,104,101,120,125,122,93],[233],[91,945,45,969,93],[40,41],[40,97,124,98,41],[120]]
abbrev wordsV:Array Value:=#[.string ⟨#[97]⟩,.string ⟨#[98]⟩,.string ⟨#[99]⟩,.string ⟨#[75]⟩,.string ⟨#[107]⟩,.string ⟨#[46]⟩,.string ⟨#[124]⟩,.string ⟨#[42]⟩,.string ⟨#[43]⟩,.string ⟨#[63]⟩,.string ⟨#[40]⟩,.string ⟨#[41]⟩,.string ⟨#[40,63,105,58]⟩,.string ⟨#[91,97,45,99,93]⟩,.string ⟨#[91,94,97,93]⟩,.string ⟨#[91,93]⟩,.string ⟨#[123,50,125]⟩,.string ⟨#[123,49,44,125]⟩,.string ⟨#[123,48,44,51,125]⟩,.string ⟨#[123,68,125]⟩,.string ⟨#[92,112,123,100,105,103,105,116,125]⟩,.string ⟨#[92,120,123,51,98,49,125]⟩,.string ⟨#[92,110]⟩,.string ⟨#[92,46]⟩,.string ⟨#[91,92,112,123,104,101,120,125,122,93]⟩,.string ⟨#[195,169]⟩,.string ⟨#[91,206,177,45,207,137,93]⟩,.string ⟨#[40,41]⟩,.string ⟨#[40,97,124,98,41]⟩,.string ⟨#[120]⟩]
def TextIs (t:ByteArray) (l:List Int):Prop:=bs t=U.UtfM.wr l∧(∀ c∈l,U.UtfM.Sc c)∧NI l
theorem words_ok:∀ k:Fin 30,bs (wordsL.getD k ⟨#[]⟩)=U.UtfM.wr (wordsS.getD k [])∧((wordsS.getD k []).all fun c=>decide (U.UtfM.Sc c))=true∧(wordsS.getD k []).getLast?≠some 105∧wordsS.getD k []≠[]∧(wordsL.getD k ⟨#[]⟩).size≤10:=by decide
theorem word_v (k:Nat) (hk:k < 30):wordsV[k]? = some (.string (wordsL.getD k ⟨#[]⟩)):=by
 have:wordsV=(wordsL.map Value.string).toArray:=rfl
 rw [this,List.getElem?_toArray,List.getElem?_map,List.getD_eq_getElem?_getD,List.getElem?_eq_getElem (by exact hk)]
 rfl
theorem TextIs.next {t:ByteArray} {l:List Int} (h:TextIs t l) (k:Nat) (hk:k < 30):TextIs (t++wordsL.getD k ⟨#[]⟩) (l++wordsS.getD k [])∧(wordsL.getD k ⟨#[]⟩).size≤10:=by
 obtain ⟨h1,h2,h3,h4,h5⟩:=words_ok ⟨k,hk⟩
 dsimp only at h1 h2 h3 h4 h5
 refine ⟨⟨by rw [bs_append,h.1,h1,U.UtfM.wr_append],fun c hc=>?_,?_⟩,h5⟩
 ·rcases List.mem_append.1 hc with hc | hc
  ·exact h.2.1 c hc
  ·simpa using List.all_eq_true.1 h2 c hc
 ·unfold NI
  rw [List.getLast?_append]
  cases hl:(wordsS.getD k []).getLast? with
  | none=>exact absurd (List.getLast?_eq_none_iff.1 hl) h4
  | some c=>rw [hl] at h3;simpa using h3
end Go.Proofs.YtioahgklplbinaaGreatDoor
