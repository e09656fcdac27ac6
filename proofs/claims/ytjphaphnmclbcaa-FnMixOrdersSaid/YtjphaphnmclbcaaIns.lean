/- Values put in and taken out, and what values add, in the model. Condition: the lists' cells can be read. -/
import Derived.Test.YtjphaphnmclbcaaBnd
import Derived.Test.YtjphaphnmclbcaaFinI
namespace Go.Proofs.Ytjphaphnmclbcaa
open Go.RowKit

set_option maxHeartbeats 1000000 in
theorem inRg_any (n lo hi : Int) (w : World) : Calls Try.prog 85 #[.int .i64 n, .int .i64 lo, .int .i64 hi] w fun e w' => e = .returned (.bool (decide (lo ≤ n ∧ n ≤ hi))) ∧ w = w' := by
  go_enter Try.func85, Try.ntmps85
  by_cases h1 : lo ≤ n <;> by_cases h2 : n ≤ hi
  all_goals go_wp2
  all_goals go_ret
  all_goals exact ⟨ret_eq (congrArg Value.bool (by simp [h1, h2])), rfl⟩

theorem mjP_bd (xs : List Int) : ∀ k, k ≤ 6 → 0 ≤ mjP xs k ∧ mjP xs k ≤ 7 * k := by
  intro k
  induction k with
  | zero => intro _; simp [mjP]
  | succ k ih =>
    intro hk
    have := ih (by omega)
    rw [mjP]
    split <;> omega
theorem major_bd {xs : List Int} (h : xs.length ≤ 7) : 0 ≤ major xs ∧ major xs ≤ 42 := by
  rw [major_eq]
  have := mjP_bd xs (xs.length - 1) (by omega)
  omega

/-- Where a greater value may be put in. -/
def IT (xs : List Int) (k : Int) : Prop := Valid xs ∧ xs.length < 7 ∧ 0 ≤ k ∧ k ≤ xs.length
instance (xs : List Int) (k : Int) : Decidable (IT xs k) := inferInstanceAs (Decidable (_ ∧ _ ∧ _ ∧ _))
def onIT (xs : List Int) (k : Int) : List Int := if IT xs k then insT xs k.toNat else []
theorem onIT_yes {xs : List Int} {k : Int} (h : IT xs k) : onIT xs k = insT xs k.toNat := if_pos h
theorem onIT_no {xs : List Int} {k : Int} (h : ¬ IT xs k) : onIT xs k = [] := if_neg h
/-- Where a value may be taken out. -/
def RT (xs : List Int) (k : Int) : Prop := Valid xs ∧ 0 ≤ k ∧ k < xs.length
instance (xs : List Int) (k : Int) : Decidable (RT xs k) := inferInstanceAs (Decidable (_ ∧ _ ∧ _))
def onRT (xs : List Int) (k : Int) : List Int := if RT xs k then rmv xs k.toNat else []
theorem onRT_yes {xs : List Int} {k : Int} (h : RT xs k) : onRT xs k = rmv xs k.toNat := if_pos h
theorem onRT_no {xs : List Int} {k : Int} (h : ¬ RT xs k) : onRT xs k = [] := if_neg h

end Go.Proofs.Ytjphaphnmclbcaa
