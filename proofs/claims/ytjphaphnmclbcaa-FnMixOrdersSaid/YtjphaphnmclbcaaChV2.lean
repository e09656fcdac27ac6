/- A quick rule for two truth values compared, for one of the two goroutines under way. No condition. -/
import Derived.Test.YtjphaphnmclbcaaBne
import Derived.Test.YtjphaphnmclbcaaChecked
namespace Go.Proofs.Ytjphaphnmclbcaa
open Go Go.Conc

theorem opsC_op2 {P : Program} {main : Bool} {Sh : Nat → Prop} {ι : Type} {C : Gh ι → Goroutine → World → Prop} {fn : FuncId} {Q : Exit → Act → World → Gh ι → Prop} {a a' : Act} {w : World} {M : Gh ι} {ops : Array Oper} {i : Nat} {rest : List Nat} {o : Oper}
    (hS : Fam P main Sh C) (ho : ops[i]? = some o) (hw : Region.wanted o (yielded ops a.tmps) = true) {b : BinOp} {t ty : TypeId} {x y : Operand} {m n : Bool} {v : Value} (hop : o.op = .binOp b t x y ty) (hx : a.eval x = .bool m) (hy : a.eval y = .bool n)
    (hr : ∀ w, (binOp b t (.bool m) (.bool n)).run P w = .ok v w ∧ (binOp b t (.bool m) (.bool n)).events P w #[] = #[]) (h : OpsC C fn ops rest Q a' w M)
    (ha : a.put o.dst v = a' := by (with_reducible simp only [Act.put, Act.eval, Array.getD_eq_getD_getElem?, List.getElem?_toArray, List.getElem_toArray, List.getElem_cons_zero, List.getElem_cons_succ, List.getElem?_cons_zero, List.getElem?_cons_succ, Option.getD_some, List.setIfInBounds_toArray, List.set_cons_zero, List.set_cons_succ]); exact rfl) : OpsC C fn ops (i :: rest) Q a w M := by
  refine opsC_val hS ho hw (v := v) (fun w => ?_) (fun w => ?_) ha h <;> unfold execOp <;> simp only [hop, hx, hy]
  · have h1 := (hr w).1
    cases b <;> simp [h1, eqGuard]
  · have h2 := (hr w).2
    cases b <;> simp [h2, eqGuard]
theorem neqB (m n : Bool) (w : World) : (binOp .neq 4 (.bool m) (.bool n)).run Try.prog w = .ok (.bool (m != n)) w ∧ (binOp .neq 4 (.bool m) (.bool n)).events Try.prog w #[] = #[] := by
  cases m <;> cases n <;> exact ⟨by kernel_rfl, by kernel_rfl⟩
theorem eqlB (m n : Bool) (w : World) : (binOp .eql 4 (.bool m) (.bool n)).run Try.prog w = .ok (.bool (m == n)) w ∧ (binOp .eql 4 (.bool m) (.bool n)).events Try.prog w #[] = #[] := by
  cases m <;> cases n <;> exact ⟨by kernel_rfl, by kernel_rfl⟩
theorem neqB_self (m : Bool) (w : World) : (binOp .neq 4 (.bool m) (.bool m)).run Try.prog w = .ok (.bool false) w ∧ (binOp .neq 4 (.bool m) (.bool m)).events Try.prog w #[] = #[] := by
  have := neqB m m w
  rwa [bne_self_eq_false] at this
theorem eqlB_self (m : Bool) (w : World) : (binOp .eql 4 (.bool m) (.bool m)).run Try.prog w = .ok (.bool true) w ∧ (binOp .eql 4 (.bool m) (.bool m)).events Try.prog w #[] = #[] := by
  have := eqlB m m w
  rwa [beq_self_eq_true] at this

theorem opsC_unwantedA {P : Program} {main : Bool} {Sh : Nat → Prop} {ι : Type} {C : Gh ι → Goroutine → World → Prop} {fn : FuncId} {Q : Exit → Act → World → Gh ι → Prop} {a a' : Act} {w : World} {M : Gh ι} {ops : Array Oper} {i : Nat} {rest : List Nat} {o : Oper}
    (hS : Fam P main Sh C) (ho : ops[i]? = some o) (hw : Region.wanted o (yielded ops a.tmps) = false) (h : OpsC C fn ops rest Q a' w M)
    (ha : a.put o.dst undef = a' := by (with_reducible simp only [Act.put, Act.eval, Array.getD_eq_getD_getElem?, List.getElem?_toArray, List.getElem_toArray, List.getElem_cons_zero, List.getElem_cons_succ, List.getElem?_cons_zero, List.getElem?_cons_succ, Option.getD_some, List.setIfInBounds_toArray, List.set_cons_zero, List.set_cons_succ]); exact rfl) : OpsC C fn ops (i :: rest) Q a w M := opsC_unwanted hS ho hw (ha ▸ h)

end Go.Proofs.Ytjphaphnmclbcaa
