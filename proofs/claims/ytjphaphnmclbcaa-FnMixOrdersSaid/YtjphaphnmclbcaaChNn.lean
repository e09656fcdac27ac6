/- Pieces of code of a frame that was called as usual: rules, and what is proved alone. No condition. -/
import Derived.Test.YtjphaphnmclbcaaChY
namespace Go.Proofs.Ytjphaphnmclbcaa
open Go Go.Conc Go.ConcN

section
variable {P : Program} {main : Bool} {Sh : Nat → Prop} {ι : Type} {C : Gh ι → Goroutine → World → Prop} {fn : FuncId} {Q : Exit → Act → World → Gh ι → Prop} {a : Act} {w : World} {M : Gh ι}

/-- The piece of code c of function fn, in a frame that was called as usual. -/
def WpN {ι : Type} (C : Gh ι → Goroutine → World → Prop) (fn : FuncId) (c : Code) (Q : Exit → Act → World → Gh ι → Prop) (a : Act) (w : World) (M : Gh ι) : Prop :=
  ∀ (b : Frame) (k : List Item) (cs : List Frame), b.fn = fn → b.kind = .normal →
    (∀ e a' w' M', Q e a' w' M' → AfterC C b k cs e a' w' M') → C M (G (b.at a (.code c :: k)) cs) w
theorem wpN_of {c : Code} (h : WpC C fn c Q a w M) : WpN C fn c Q a w M := fun b k cs hb hk => h b k cs hb (fun e => by rw [hk] at e; cases e)
theorem wpN_skip (hS : Fam P main Sh C) (h : Q .normal a w M) : WpN C fn .skip Q a w M := wpN_of (wpC_skip hS h)
theorem wpN_ret (hS : Fam P main Sh C) (h : Q .ret a w M) : WpN C fn .ret Q a w M := wpN_of (wpC_ret hS h)
theorem wpN_region (hS : Fam P main Sh C) {id : Nat} {ops : Array Oper} (h : OpsC C fn ops (List.range ops.size) Q a w M) : WpN C fn (.region id ops false) Q a w M := wpN_of (wpC_region hS h)
theorem wpN_seq (hS : Fam P main Sh C) {x y : Code} (h : WpN C fn x (ThenC (fun a' w' M' => WpN C fn y Q a' w' M') Q) a w M) : WpN C fn (.seq x y) Q a w M := by
  intro b k cs hb hk hc
  refine hS.ctl rfl (fun _ => stepG_seq) (h b (.code y :: k) cs hb hk fun e a' w' M' q => ?_)
  cases e with
  | normal => exact q b k cs hb hk hc
  | exit id => exact (hc _ _ _ _ q).push rfl (by simp)
  | ret => exact (hc _ _ _ _ q).push (x := .code y) rfl (by simp)
  | goto l => exact hc _ _ _ _ q
  | panic ch => exact hc _ _ _ _ q
  | outgrown => exact hc _ _ _ _ q
theorem wpN_cond (hS : Fam P main Sh C) {c : Operand} {x y : Code} {t : Bool} (hc : a.eval c = .bool t) (h : WpN C fn (if t then x else y) Q a w M) : WpN C fn (.cond c x y) Q a w M :=
  fun b k cs hb hk hq => hS.ctl rfl (fun _ => stepG_cond hc) (h b k cs hb hk hq)
end

/-- What a lone piece leaves. -/
def LoneQ (Q : Exit → Act → World → Gh Unit → Prop) : Exit → Act → World → Prop := fun e a w => Q e a w M00

section
variable {P : Program} {F : Nat → Bool} {Stop : Goroutine → World → Prop}
/-- A piece of code proved alone. -/
theorem wpN_lone {fn : FuncId} {a : Act} {w : World} (H : Plain P F) {c : Code} {Q : Exit → Act → World → Gh Unit → Prop} (hc : okCode F c = true) (hn : tmpRes P fn = true) (hd : a.defers = []) (h : ∀ w₁, Re w w₁ → c.wp P (NR (LoneQ Q)) a w₁) :
    WpN (TF P Stop) fn c Q a w M00 := by
  intro b k cs hb hk hQ w₂ h₂
  refine (wpT_lone (Q := LoneQ Q) H hc hn hd h b k cs Stop hb hk fun e a' w' q => ?_).rely (rl_all h₂)
  have := hQ e a' w' M00 q
  cases e with
  | normal => exact this _ (Rl.refl _ _ _)
  | ret => exact fun todo => this todo _ (Rl.refl _ _ _)
  | exit id => obtain ⟨k', hk', h'⟩ := this; exact ⟨k', hk', h' _ (Rl.refl _ _ _)⟩
  | goto l => exact this.elim
  | panic ch => exact this.elim
  | outgrown => exact this.elim

/-- FROM THE BODY TO ONE GOOD RUN. -/
theorem good_of_wpN {f : FuncId} {fd : Func} {c : Code} {args : Array Value} {W : World} {Post : Value → World → Prop} (hf : P.funcs[f]? = some fd) (hb : fd.body = some c) (hin : P.inits.idxOf? f = none)
    (h : ∀ Stop, WpN (TF P Stop) f c (BodyL P fd Post) { tmps := args ++ Array.replicate (fd.ntmps - args.size) undef, defers := [] } W M00) :
    ∃ N last o w' t', runNT P (N + 1) (solo (G (Frame.enter P f args .normal) []) W) #[] = (.ended o w', t') ∧ runN P N (solo (G (Frame.enter P f args .normal) []) W) = .next last ∧ step P last = .ended o w' ∧ Go.Conc.Good P Post last o w' t' := by
  refine good_of_T ?_
  rw [enter_at args hf hb]
  have hst : ∀ {a : Act} {todo : List Item} {w : World} {M : Gh Unit}, (a.defers = [] ∧ ∃ v, ResultsC P fd a.tmps v ∧ ∀ w₁, Re w w₁ → Post v w₁) → TF P (fun g w => ∀ w₁, Re w w₁ → AtFin P Post g w₁) M (G { (base f).at a todo with mode := .returning } []) w := by
    rintro a todo w M ⟨hd, v, hr, hp⟩ w₂ h₂
    refine .stop fun w₁ h₁ w₃ h₃ => ⟨rfl, v, #[], leave_ends rfl rfl hf hd hr hin, by simp, hp _ ((rl_all h₂).trans (h₁.trans h₃))⟩
  refine h (fun g w => ∀ w₁, Re w w₁ → AtFin P Post g w₁) (base f) [] [] rfl rfl (fun e a w M q => ?_) W (Rl.refl _ _ _)
  cases e with
  | normal => exact (fam_T).ctl rfl (fun _ => stepG_end) (hst q)
  | ret => exact fun todo => hst q
  | exit id => exact q.elim
  | goto l => exact q.elim
  | panic ch => exact q.elim
  | outgrown => exact q.elim
end

end Go.Proofs.Ytjphaphnmclbcaa
