/- The walk of goroutine 0 alone as a family of scripts; calls proved alone; from a function's body to the row's contract. No condition. -/
import Derived.Test.YtjphaphnmclbcaaBng
namespace Go.Proofs.Ytjphaphnmclbcaa
open Go Go.Conc Go.ConcN

/-- Goroutine 0, alone but for leavers. -/
def TF (P : Program) (Stop : Goroutine → World → Prop) (M : Gh Unit) (g : Goroutine) (w : World) : Prop := ∀ w₂, Rl (fun _ => True) M.2 w w₂ → T P Stop g w₂
/-- Nothing is borne along. -/
def M00 : Gh Unit := ((), fun _ => False)

/-- What is left as it is, but for the tape and the count of draws. -/
theorem rl_all {M : Nat → Prop} {w w₁ : World} (h : Rl (fun _ => True) M w w₁) : Re w w₁ := by
  obtain ⟨h1, h2, h3, h4⟩ := h
  have e : w₁.heap = w.heap := by
    apply Array.ext_getElem?
    intro k
    exact h4 k (.inl trivial)
  refine ⟨w₁.tape, w₁.drawn, ?_⟩
  obtain ⟨a, b, c, d, f⟩ := w₁
  simp only at e h1 h2
  subst e h1 h2
  rfl

section
variable {P : Program} {F : Nat → Bool} {Stop : Goroutine → World → Prop}

theorem fam_T : Fam P true (fun _ => True) (TF P Stop) := by
  refine ⟨fun {M g w} hs h k => fun w₂ h₂ => T.step hs (fun w₁ h₁ => ?_) fun w₁ g' w' es h₁ hst => ?_, fun {M g w w₁} h hr => fun w₂ h₂ => h w₂ (hr.trans h₂)⟩
  · obtain ⟨g', w', es, h3, h4⟩ := h w₁ (h₂.trans (Rl.of_re h₁))
    exact ⟨g', w', es, h3, fun e he => (h4.evs e he).hears⟩
  · exact k w₁ g' w' es (h₂.trans (Rl.of_re h₁)) hst w' (Rl.refl _ _ _)

/-- A call proved alone. -/
theorem callsC_lone (H : Plain P F) {f : FuncId} (hf : F f = true) {args : Array Value} {w : World} {R : Value → World → Prop} (h : ∀ w₁, Re w w₁ → Calls P f args w₁ (fun e w' => ∃ v, e = .returned v ∧ R v w')) :
    CallsC P (TF P Stop) f args w M00 (fun v w' M' => M' = M00 ∧ R v w') := by
  intro c cs hR w₂ h₂
  refine (callsT_lone (w := w) H hf h c cs Stop fun v w' hv => ?_).rely (rl_all h₂)
  exact hR v w' M00 ⟨rfl, hv⟩ w' (Rl.refl _ _ _)

/-- A call proved with goroutines. -/
theorem callsC_T {f : FuncId} {args : Array Value} {w : World} {R : Value → World → Prop} (h : ∀ (cf : Frame) (cs : List Frame), (∀ v w', R v w' → T P Stop (G (cf.finish v) cs) w') → T P Stop (G (Frame.enter P f args .normal) (cf :: cs)) w) :
    CallsC P (TF P Stop) f args w M00 (fun v w' M' => M' = M00 ∧ R v w') := by
  intro c cs hR w₂ h₂
  exact (h c cs fun v w' hv => hR v w' M00 ⟨rfl, hv⟩ w' (Rl.refl _ _ _)).rely (rl_all h₂)

/-- What the body of the outermost function must achieve. -/
def BodyL (P : Program) (fd : Func) (Post : Value → World → Prop) : Exit → Act → World → Gh Unit → Prop
  | .normal, a, w, _ | .ret, a, w, _ => a.defers = [] ∧ ∃ v, ResultsC P fd a.tmps v ∧ ∀ w₁, Re w w₁ → Post v w₁
  | _, _, _, _ => False

theorem leave_ends {f : FuncId} {fd : Func} {a : Act} {todo : List Item} {w : World} {v : Value} {b : Frame} (hb : b.fn = f) (hk : b.kind = .normal) (hf : P.funcs[f]? = some fd) (hd : a.defers = []) (hr : ResultsC P fd a.tmps v) (hin : P.inits.idxOf? f = none) :
    stepG P true (G { b.at a todo with mode := .returning } []) w = .ended (.done v) w #[] := by
  subst hb
  obtain ⟨h1, h2⟩ := hr w
  simp [G, stepG, unwind, doReturn, Frame.at, hd, hf, h1, h2, hk, hin, seen, GStep.after]

/-- FROM THE BODY TO ONE GOOD RUN. -/
theorem good_of_wpC {f : FuncId} {fd : Func} {c : Code} {args : Array Value} {W : World} {Post : Value → World → Prop} (hf : P.funcs[f]? = some fd) (hb : fd.body = some c) (hin : P.inits.idxOf? f = none)
    (h : ∀ Stop, WpC (TF P Stop) f c (BodyL P fd Post) { tmps := args ++ Array.replicate (fd.ntmps - args.size) undef, defers := [] } W M00) :
    ∃ N last o w' t', runNT P (N + 1) (solo (G (Frame.enter P f args .normal) []) W) #[] = (.ended o w', t') ∧ runN P N (solo (G (Frame.enter P f args .normal) []) W) = .next last ∧ step P last = .ended o w' ∧ Go.Conc.Good P Post last o w' t' := by
  refine good_of_T ?_
  rw [enter_at args hf hb]
  have hst : ∀ {a : Act} {todo : List Item} {w : World} {M : Gh Unit}, (a.defers = [] ∧ ∃ v, ResultsC P fd a.tmps v ∧ ∀ w₁, Re w w₁ → Post v w₁) → TF P (fun g w => ∀ w₁, Re w w₁ → AtFin P Post g w₁) M (G { (base f).at a todo with mode := .returning } []) w := by
    rintro a todo w M ⟨hd, v, hr, hp⟩ w₂ h₂
    refine .stop fun w₁ h₁ w₃ h₃ => ⟨rfl, v, #[], leave_ends rfl rfl hf hd hr hin, by simp, hp _ ((rl_all h₂).trans (h₁.trans h₃))⟩
  refine h (fun g w => ∀ w₁, Re w w₁ → AtFin P Post g w₁) (base f) [] [] rfl (by simp [base]) (fun e a w M q => ?_) W (Rl.refl _ _ _)
  cases e with
  | normal => exact (fam_T).ctl rfl (fun _ => stepG_end) (hst q)
  | ret => exact fun todo => hst q
  | exit id => exact q.elim
  | goto l => exact q.elim
  | panic ch => exact q.elim
  | outgrown => exact q.elim
end

/-- An array is read out of a row. -/
theorem opsC_cells {P : Program} {main : Bool} {ι : Type} {C : Gh ι → Goroutine → World → Prop} {fn : FuncId} {Q : Exit → Act → World → Gh ι → Prop} {a a' : Act} {w : World} {M : Gh ι} {ops : Array Oper} {i : Nat} {rest : List Nat} {o : Oper} (hS : Fam P main (fun _ => True) C)
    (ho : ops[i]? = some o) (hw : Region.wanted o (yielded ops a.tmps) = true) {ty : TypeId} {x : Operand} {ad : Addr} {vs : List Value} (hop : o.op = .load ty x) (hd : aggT P ty = true) (hi : (P.info? ty).map (·.size) = some vs.length) (hx : a.eval x = .pointer (some ad))
    (hc : ∀ j v, vs[j]? = some v → w.cell? (ad.add j) = some v) (ha : a.put o.dst (.agg vs.toArray) = a') (h : OpsC C fn ops rest Q a' w M) : OpsC C fn ops (i :: rest) Q a w M := by
  refine opsC_look hS ho hw (fun w₁ h₁ => ?_) (ha ▸ h)
  have hc' : ∀ j v, vs[j]? = some v → w₁.cell? (ad.add j) = some v := fun j v hj => (cell_eq (h₁.keep _ (.inl trivial))).trans (hc j v hj)
  have hl := run_loadCells_list (P := P) w₁ ad vs hc'
  obtain ⟨ti, hinf, hsz⟩ := Option.map_eq_some_iff.1 hi
  unfold execOp
  simp only [hop]
  refine ⟨?_, fun ev he => ?_⟩
  · simp [Instr.loadAt, Instr.sureAddr, hx, loadVar, isAgg_agg hd, sizeOf, typeInfo, hinf, hsz, hl]
  · simp [Instr.loadAt, Instr.sureAddr, hx, loadVar, isAgg_agg hd, sizeOf, typeInfo, hinf, hsz, loadCells] at he
    rcases events_loadCellsFrom_reads (P := P) _ _ _ _ _ _ ev he with h2 | ⟨ad', h2, h3⟩
    · simp at h2
    · exact evM_cell h2 (.inr ⟨trivial, h3⟩)

end Go.Proofs.Ytjphaphnmclbcaa
