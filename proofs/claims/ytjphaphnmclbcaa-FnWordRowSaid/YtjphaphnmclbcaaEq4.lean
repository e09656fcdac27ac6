/- An array of four numbers is compared with noughts: what it answers, and that it lists nothing. No condition. -/
import Derived.Test.YtjphaphnmclbcaaChecked
import Derived.Test.YtjphaphnmclbcaaBnf
import Derived.Test.YtjphaphnmclbcaaBnd
import Derived.KernelRfl
namespace Go.Proofs.Ytjphaphnmclbcaa
open Go Go.RowKit

theorem ev_eqInt (w : World) (es : Array Event) (d : Nat) (x y : Int) : (Op.equalIn (d + 1) 3 (.int .i64 x) (.int .i64 y)).events Try.prog w es = es := by
  have hu := Try.underlying3
  unfold Op.equalIn underlying
  simp [hu]
theorem run_eqInt (w : World) (d : Nat) (x y : Int) : (Op.equalIn (d + 1) 3 (.int .i64 x) (.int .i64 y)).run Try.prog w = .ok (x == y) w := by
  have hu := Try.underlying3
  unfold Op.equalIn underlying
  simp [hu]
theorem run_part4 (w : World) (cs : Array Value) (i : Nat) (v : Value) (h : cs[i]? = some v) : (part 3 cs i).run Try.prog w = .ok v w := by
  have hu := Try.underlying3
  simp [part, isAgg, run_underlying hu, h]
theorem ev_part4 (w : World) (es : Array Event) (cs : Array Value) (i : Nat) (v : Value) (h : cs[i]? = some v) : (part 3 cs i).events Try.prog w es = es := by
  have hu := Try.underlying3
  simp [part, isAgg, run_underlying hu, h]

theorem run_eq4 (l0 l1 l2 l3 : Int) (d : Nat) (w : World) (es : Array Event) : (Op.equalIn (d + 2) 63 (.agg #[.int .i64 l0, .int .i64 l1, .int .i64 l2, .int .i64 l3]) (.agg #[.int .i64 0, .int .i64 0, .int .i64 0, .int .i64 0])).run Try.prog w = .ok (l0 == 0 && l1 == 0 && l2 == 0 && l3 == 0) w ∧
    (Op.equalIn (d + 2) 63 (.agg #[.int .i64 l0, .int .i64 l1, .int .i64 l2, .int .i64 l3]) (.agg #[.int .i64 0, .int .i64 0, .int .i64 0, .int .i64 0])).events Try.prog w es = es := by
  have hu := Try.underlying63
  obtain ⟨i0, hii, hz0, hz1, hz2⟩ := info_parts infoI
  unfold Op.equalIn underlying
  simp [hu, Go.sizeOf, typeInfo, hii, hz1, Std.Legacy.Range.forIn_eq_forIn_range', List.range', run_part4, ev_part4, run_eqInt, ev_eqInt]
  by_cases h0 : l0 = 0 <;> by_cases h1 : l1 = 0 <;> by_cases h2 : l2 = 0 <;> by_cases h3 : l3 = 0 <;> simp [h0, h1, h2, h3]

theorem guard4 : Try.prog.eqGuardType Try.prog.depth 63 = false := by kernel_rfl

open Go.Conc in
/-- An array of four numbers compared with noughts. -/
theorem opsC_eq4 {main : Bool} {Sh : Nat → Prop} {ι : Type} {C : Gh ι → Goroutine → World → Prop} {fn : FuncId} {Q : Exit → Act → World → Gh ι → Prop} {a a' : Act} {w : World} {M : Gh ι} {ops : Array Oper} {i : Nat} {rest : List Nat} {o : Oper}
    (hS : Fam Try.prog main Sh C) (ho : ops[i]? = some o) (hw : Region.wanted o (yielded ops a.tmps) = true) {x y : Operand} {ty : TypeId} {l0 l1 l2 l3 : Int} (hop : o.op = .binOp .eql 63 x y ty) (hx : a.eval x = .agg #[.int .i64 l0, .int .i64 l1, .int .i64 l2, .int .i64 l3])
    (hy : a.eval y = .agg #[.int .i64 0, .int .i64 0, .int .i64 0, .int .i64 0]) (ha : a.put o.dst (.bool (l0 == 0 && l1 == 0 && l2 == 0 && l3 == 0)) = a') (h : OpsC C fn ops rest Q a' w M) : OpsC C fn ops (i :: rest) Q a w M := by
  have e1 := fun (w : World) (es : Array Event) => run_eq4 l0 l1 l2 l3 9998 w es
  refine opsC_val hS ho hw (v := .bool (l0 == 0 && l1 == 0 && l2 == 0 && l3 == 0)) (fun w => ?_) (fun w => ?_) ha h
  · unfold execOp
    simp only [hop, hx, hy]
    simp [eqGuard, binOp, Op.equal, Op.maxDepth, (e1 _ #[]).1]
  · unfold execOp
    simp only [hop, hx, hy]
    simp [eqGuard, binOp, Op.equal, Op.maxDepth, (e1 _ _).2]

open Go.Conc in
/-- An array of four numbers, indexed. -/
theorem opsC_index4 {main : Bool} {Sh : Nat → Prop} {ι : Type} {C : Gh ι → Goroutine → World → Prop} {fn : FuncId} {Q : Exit → Act → World → Gh ι → Prop} {a a' : Act} {w : World} {M : Gh ι} {ops : Array Oper} {i : Nat} {rest : List Nat} {o : Oper}
    (hS : Fam Try.prog main Sh C) (ho : ops[i]? = some o) (hw : Region.wanted o (yielded ops a.tmps) = true) {x y : Operand} {cs : Array Value} {j : Int} {v : Value} (hop : o.op = .index 63 x y) (hx : a.eval x = .agg cs) (hy : a.eval y = .int .i64 j)
    (hj : 0 ≤ j ∧ j < 4) (hv : cs[j.toNat]? = some v) (ha : a.put o.dst v = a') (h : OpsC C fn ops rest Q a' w M) : OpsC C fn ops (i :: rest) Q a w M := by
  have hu := Try.underlying63
  obtain ⟨i0, hii, hz0, hz1, hz2⟩ := info_parts infoI
  refine opsC_val hS ho hw (v := v) (fun w => ?_) (fun w => ?_) ha h
  · unfold execOp
    simp only [hop, hx, hy]
    simp [Instr.index, asIntOf, run_underlying hu, hj, Go.sizeOf, typeInfo, hii, hz1, run_part4 _ _ _ _ hv]
  · unfold execOp
    simp only [hop, hx, hy]
    simp [Instr.index, asIntOf, run_underlying hu, hj, Go.sizeOf, typeInfo, hii, hz1, ev_part4 _ _ _ _ _ hv]

open Go.Conc in
/-- A place of an array of four numbers. -/
theorem opsC_indexP4 {main : Bool} {Sh : Nat → Prop} {ι : Type} {C : Gh ι → Goroutine → World → Prop} {fn : FuncId} {Q : Exit → Act → World → Gh ι → Prop} {a a' : Act} {w : World} {M : Gh ι} {ops : Array Oper} {i : Nat} {rest : List Nat} {o : Oper}
    (hS : Fam Try.prog main Sh C) (ho : ops[i]? = some o) (hw : Region.wanted o (yielded ops a.tmps) = true) {x y : Operand} {g j : Nat} {z : Int} (hop : o.op = .indexAddr 63 x y) (hx : a.eval x = .pointer (some ⟨g, 0, none⟩)) (hy : a.eval y = .int .i64 z)
    (hz : z = j) (hj : j < 4) (ha : a.put o.dst (.pointer (some ⟨g, j, none⟩)) = a') (h : OpsC C fn ops rest Q a' w M) : OpsC C fn ops (i :: rest) Q a w M := by
  have hu := Try.underlying63
  obtain ⟨i0, hii, hz0, hz1, hz2⟩ := info_parts infoI
  have hadd : (⟨g, 0, none⟩ : Addr).add j = ⟨g, j, none⟩ := by unfold Addr.add; split <;> simp_all
  subst hz
  refine opsC_val hS ho hw (v := .pointer (some ⟨g, j, none⟩)) (fun w => ?_) (fun w => ?_) ha h
  · unfold execOp
    simp only [hop, hx, hy]
    simp [Instr.indexAt, Instr.sureAddr, asIntOf, run_underlying hu, hj, Go.sizeOf, typeInfo, hii, hz1, hadd]
  · unfold execOp
    simp only [hop, hx, hy]
    simp [Instr.indexAt, Instr.sureAddr, asIntOf, run_underlying hu, hj, Go.sizeOf, typeInfo, hii]

end Go.Proofs.Ytjphaphnmclbcaa
