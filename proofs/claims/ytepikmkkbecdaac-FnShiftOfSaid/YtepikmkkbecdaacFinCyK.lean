/- Circles hold all values, and signs tell whether values and circles are even together; shifts lie between inversions: reckoned for all orders of at most seven values. No condition. -/
import Derived.Test.YtepikmkkbecdaacFinCy
import Derived.Test.YtepikmkkbecdaacFinAll
namespace Go.Proofs.Ytepikmkkbecdaac

def cirOk (xs : List Int) : Bool :=
  let r := fcnt xs xs.length
  let i := sumL (table xs)
  let s := shift xs
  decide (r.2 = xs.length) && decide (1 - 2 * (i % 2) = 1 - 2 * (((xs.length : Int) - r.1) % 2)) && decide (s % 2 = 0) && decide (s ≤ 2 * i) && decide (i + (xs.length : Int) - r.1 ≤ s)
set_option maxRecDepth 100000 in
theorem cirOk6 : (allUpTo 6).all cirOk = true := by decide +kernel
set_option maxRecDepth 100000 in
theorem cirOk70 : (begun 0).all cirOk = true := by decide +kernel
set_option maxRecDepth 100000 in
theorem cirOk71 : (begun 1).all cirOk = true := by decide +kernel
set_option maxRecDepth 100000 in
theorem cirOk72 : (begun 2).all cirOk = true := by decide +kernel
set_option maxRecDepth 100000 in
theorem cirOk73 : (begun 3).all cirOk = true := by decide +kernel
set_option maxRecDepth 100000 in
theorem cirOk74 : (begun 4).all cirOk = true := by decide +kernel
set_option maxRecDepth 100000 in
theorem cirOk75 : (begun 5).all cirOk = true := by decide +kernel
set_option maxRecDepth 100000 in
theorem cirOk76 : (begun 6).all cirOk = true := by decide +kernel
theorem cir_facts {xs : List Int} (h : Valid xs) : sumLen (circles xs) = xs.length ∧ sgn xs = 1 - 2 * (((xs.length : Int) - (circles xs).length) % 2) ∧ shift xs % 2 = 0 ∧ shift xs ≤ 2 * sumL (table xs) ∧ sumL (table xs) + (xs.length : Int) - (circles xs).length ≤ shift xs := by
  have := h.parts (p := cirOk) cirOk6 (seven (P := fun x => (begun x).all cirOk = true) cirOk70 cirOk71 cirOk72 cirOk73 cirOk74 cirOk75 cirOk76)
  have e := fcnt_spec h xs.length (Nat.le_refl _)
  simp only [cirOk, e, Bool.and_eq_true, decide_eq_true_eq] at this
  exact ⟨this.1.1.1.1, this.1.1.1.2, this.1.1.2, this.1.2, this.2⟩

end Go.Proofs.Ytepikmkkbecdaac
