/- Goroutine 0 alone: which blocks are its own does not matter; the call of a function value. -/
import Derived.Test.YtjphaphnmclbcaaChY
namespace Go.Proofs.Ytjphaphnmclbcaa
open Go Go.Conc Go.ConcN Go.RowKit
variable {P : Program} {main : Bool} {Sh : Nat → Prop} {ι : Type} {C : Gh ι → Goroutine → World → Prop} {fn : FuncId} {a : Act} {w : World} {M : Gh ι} {Q : Exit → Act → World → Gh ι → Prop}

/-- The call of a function value. -/
theorem opsC_callV (hS : Fam P main Sh C) {ops : Array Oper} {i : Nat} {rest : List Nat} {o : Oper} {f : FuncId} {fd : Func} {x : Operand} {args : Array Operand} {vs : Array Value} {ats : Array TypeId} {R : Value → World → Gh ι → Prop} (ho : ops[i]? = some o) (hw : Region.wanted o (yielded ops a.tmps) = true)
    (hop : o.op = .call { callee := .value x, args, argTypes := ats }) (hx : a.eval x = .func (.func f) #[] #[]) (hf : P.funcs[f]? = some fd) (hname : (fd.name == "runtime.NumGoroutine") = false) (hb : fd.body.isNone = false) (hargs : args.map a.eval = vs) (hcall : CallsC P C f vs w M R)
    (h : ∀ v w' M', R v w' M' → OpsC C fn ops rest Q (a.put o.dst v) w' M') : OpsC C fn ops (i :: rest) Q a w M := by
  have h1 : ¬ fd.name = "runtime.NumGoroutine" := by simpa using hname
  have h2 : ¬ fd.body = none := by cases hx : fd.body <;> simp_all
  have hrun : ∀ w, (execOp a.eval o).run P w = .ok (.enter f vs) w := fun w => by
    unfold execOp
    simp [hop, resolve, Deferred.ofValue, invoke, callFunc, hf, h1, h2, hx, hargs]
  have hev : ∀ w es, (execOp a.eval o).events P w es = es := fun w es => by
    unfold execOp
    simp [hop, resolve, Deferred.ofValue, invoke, callFunc, hf, h1, h2, hx]
  intro b k cs hbf hk hc
  have hke : b.kind ≠ .early := hk
  refine hS.ctl (g' := G (Frame.enter P f vs .normal) (b.at a (.inRegion ops (i :: rest) :: k) :: cs)) rfl (fun w => ?_) ?_
  · rw [stepG_enter ho hw hke (hrun w)]
    have : listed P b.fn a o w = #[] := by unfold listed; rw [hev]; exact seen_none P _
    rw [this]
  · refine hcall _ cs fun v w' M' hv => ?_
    have := Frame.finish_at b a ops i rest k v
    rw [ho] at this
    rw [this]
    exact h v w' M' hv b k cs hbf hk hc

def Mall : Gh Unit := ((), fun _ => True)
variable {Stop : Goroutine → World → Prop} {QT : Exit → Act → World → Gh Unit → Prop}
theorem tf_M {M M1 : Gh Unit} {g : Goroutine} {w : World} (h : TF P Stop M1 g w) : TF P Stop M g w := fun w₂ hr => h w₂ ⟨hr.os, hr.output, hr.size, fun k _ => hr.keep k (.inl trivial)⟩
theorem opsC_M {M M1 : Gh Unit} {ops : Array Oper} {todo : List Nat} (h : OpsC (TF P Stop) fn ops todo QT a w M1) : OpsC (TF P Stop) fn ops todo QT a w M := fun b k cs hb hk hc => tf_M (h b k cs hb hk hc)
theorem wpC_M {M M1 : Gh Unit} {c : Code} (h : WpC (TF P Stop) fn c QT a w M1) : WpC (TF P Stop) fn c QT a w M := fun b k cs hb hk hc => tf_M (h b k cs hb hk hc)
theorem loopC_M {M M1 : Gh Unit} {c : Code} (h : LoopC (TF P Stop) fn c QT a w M1) : LoopC (TF P Stop) fn c QT a w M := fun b k cs hb hk hc => tf_M (h b k cs hb hk hc)

end Go.Proofs.Ytjphaphnmclbcaa
