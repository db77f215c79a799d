/- A call of a function of the program's, as one step of a region that draws its order. -/
import Derived.Test.YtioahgklplbinaaDoorNMB
namespace Go.Proofs.YtioahgklplbinaaDoor
open Go.RowKit Go.Shelf
theorem step_callf {w : World} {ops : Array Oper} {o : Oper} {a : Act} {K : Act → World → Prop} {Q : Exit → Act → World → Prop} {E : Prop} (hgd : o.guard = none) (f : FuncId) (x : Operand) (t : TypeId)
    (ho : o.op = .call { callee := .value (.func f), args := #[x], argTypes := #[t] }) (v : Value) (hv : a.eval x = v) {R : Ending → World → Prop} {fn : Func} (hf : Tryd.prog.funcs[f]? = some fn) (hn : (fn.name == "runtime.NumGoroutine") = false) (hb : fn.body.isSome = true)
    (hC : Calls Tryd.prog f #[v] w R) (h : ∀ e w', R e w' → ∃ u, e = .returned u ∧ K (a.put o.dst u) w') :
    if Region.wanted o (yielded ops a.tmps) = true then Oper.wp Tryd.prog o a w K Q else E := by
  have hw : Region.wanted o (yielded ops a.tmps) = true := by simp [Region.wanted, hgd]
  rw [if_pos hw]
  have hn' : fn.name ≠ "runtime.NumGoroutine" := by simpa using hn
  have hb' : fn.body ≠ none := fun e => by rw [e] at hb; cases hb
  have he : a.eval (.func f) = .func (.func f) #[] #[] := rfl
  unfold Oper.wp
  simp [execOp, ho, resolve, invoke, hv, he, Result.andThen, Deferred.ofValue, callFunc, hf, hn', hb']
  refine hC.mono ?_
  intro e w' hR
  obtain ⟨u, rfl, hk⟩ := h e w' hR
  exact hk
end Go.Proofs.YtioahgklplbinaaDoor
