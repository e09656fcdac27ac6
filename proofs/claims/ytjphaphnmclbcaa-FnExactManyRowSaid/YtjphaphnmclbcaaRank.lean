/- Ranks, in the program and in its model. Condition: the list's cells can be read. -/
import Derived.Test.YtjphaphnmclbcaaTab
import Derived.Test.YtjphaphnmclbcaaMirR
namespace Go.Proofs.Ytjphaphnmclbcaa
open Go.RowKit

theorem fac_mul {j : Nat} (h : j ≤ 7) : wrap64 (fac j * ((j : Int) + 1)) = fac (j + 1) := by
  have f1 := fac_pos (j + 1)
  have f2 : fac (j + 1) ≤ 40320 := by
    have : ∀ n : Nat, n ≤ 7 → fac (n + 1) ≤ 40320 := by decide
    exact this j h
  have e : fac j * ((j : Int) + 1) = fac (j + 1) := rfl
  rw [e]
  exact IntWalk.wrap64_in _ ⟨by omega, by omega⟩

theorem fac_ret {a b : Int} (h : a = b) : Ending.returned (.int .i64 a) = .returned (.int .i64 b) := by rw [h]

end Go.Proofs.Ytjphaphnmclbcaa
