/- The walk of the law of MajorOf. Condition of the law's own: at most 2^20 bytes. -/
import Derived.Test.YtagfmimaaedolaaLawFn
import Derived.Test.YtagfmimaaedolaaDraw4
import Derived.Test.YtagfmimaaedolaaFinMajor
namespace Go.Proofs.Ytagfmimaaedolaa
open Go.RowKit

theorem major_nn {xs : List Int} (h : Valid xs) : 0 ≤ major xs := by
  have h1 := (sumL_bd (desc_small (xs := xs) (by have := h.len; omega)) (Nat.le_refl _)).1
  unfold major
  omega

theorem pairs_wrap {n : Nat} (h : n ≤ 7) : wrap64 ((n : Int) * ((n : Int) - 1)) = (n : Int) * ((n : Int) - 1) := by
  have h1 : ∀ n : Nat, n ≤ 7 → 0 ≤ (n : Int) * ((n : Int) - 1) ∧ (n : Int) * ((n : Int) - 1) ≤ 42 := by decide
  have h2 := h1 n h
  exact IntWalk.wrap64_in _ ⟨by omega, by omega⟩

theorem pairs_le {n : Nat} (h : n ≤ 7) : (n : Int) * ((n : Int) - 1) ≤ 42 := by
  have : ∀ n : Nat, n ≤ 7 → (n : Int) * ((n : Int) - 1) ≤ 42 := by decide
  exact this n h

end Go.Proofs.Ytagfmimaaedolaa
