/- The functions of the program that are plain: no goroutine, no channel, no call of a function value. No condition. -/
import Derived.Test.YtjphaphnmclbcaaBng
import Derived.Test.YtjphaphnmclbcaaChecked
import Derived.KernelRfl
namespace Go.Proofs.Ytjphaphnmclbcaa
open Go Go.Conc

/-- All but the laws and what starts, or calls what starts, goroutines. -/
def Fp (f : Nat) : Bool := decide (f < 113) && decide (16 < f) && !([93, 104, 105, 72, 35, 57, 23, 44, 54, 18, 63].contains f)

theorem fp_all : ((List.range 113).all fun f => !Fp f || (plainFn Try.prog Fp f && tmpRes Try.prog f)) = true := by kernel_rfl
theorem fp_ahead : Try.prog.follows .staticDataAhead = true := by kernel_rfl
theorem fp_ready : (Try.prog.funcs.all fun f => match f.body with | some c => (readies c).isEmpty | none => true) = true := by kernel_rfl

theorem plain_prog : Plain Try.prog Fp := by
  refine ⟨fun f hf => ?_, fp_ahead, fun g => ?_⟩
  · have hlt : f < 113 := by
      unfold Fp at hf
      simp only [Bool.and_eq_true, decide_eq_true_eq] at hf
      exact hf.1.1
    have := List.all_eq_true.1 fp_all f (List.mem_range.2 hlt)
    rw [hf] at this
    simpa using this
  · unfold Program.stepOf
    rw [Array.findIdx?_eq_none_iff]
    intro f hf
    have := Array.all_eq_true_iff_forall_mem.1 fp_ready f hf
    cases hb : f.body with
    | none => rfl
    | some c =>
      rw [hb] at this
      have h0 : readies c = [] := by simpa using this
      simp [h0]

end Go.Proofs.Ytjphaphnmclbcaa
