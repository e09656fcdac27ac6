/- Sums of numbers. No condition. -/
import Derived.Test.YtjphaphnmclbcaaBnf
namespace Go.Proofs.Ytjphaphnmclbcaa

/-- The sum of the first k numbers g. -/
def S (g : Nat → Int) : Nat → Int
  | 0 => 0
  | k + 1 => S g k + g k
theorem S_congr {g h : Nat → Int} : ∀ k, (∀ j, j < k → g j = h j) → S g k = S h k := by
  intro k
  induction k with
  | zero => intro _; rfl
  | succ k ih => intro e; rw [S, S, ih (fun j hj => e j (by omega)), e k (by omega)]
theorem S_add (g h : Nat → Int) : ∀ k, S (fun i => g i + h i) k = S g k + S h k := by
  intro k
  induction k with
  | zero => rfl
  | succ k ih => rw [S, S, S, ih]; omega
theorem S_front (g : Nat → Int) : ∀ m, S g (m + 1) = g 0 + S (fun t => g (t + 1)) m := by
  intro m
  induction m with
  | zero => simp [S]
  | succ m ih => rw [S, ih, S]; omega
theorem S_rev (g : Nat → Int) : ∀ m, S g m = S (fun t => g (m - 1 - t)) m := by
  intro m
  induction m with
  | zero => rfl
  | succ m ih =>
    have e1 : S (fun t => g (m + 1 - 1 - t)) (m + 1) = g (m + 1 - 1 - 0) + S (fun t => g (m + 1 - 1 - (t + 1))) m := S_front _ m
    have e2 : S (fun t => g (m - 1 - t)) m = S (fun t => g (m + 1 - 1 - (t + 1))) m := S_congr m (fun j _ => by congr 1; omega)
    rw [e1, ← e2, S, ih, show m + 1 - 1 - 0 = m by omega]
    omega
def ind (p : Nat → Bool) (j : Nat) : Int := if p j then 1 else 0
theorem cntP_S (p : Nat → Bool) : ∀ k, cntP p k = S (ind p) k := by
  intro k
  induction k with
  | zero => rfl
  | succ k ih =>
    rw [cntP, S, ih, ind]
    split <;> omega
theorem cntP_rev (p : Nat → Bool) (m : Nat) : cntP p m = cntP (fun t => p (m - 1 - t)) m := by
  rw [cntP_S, cntP_S, S_rev]
  rfl
theorem sumTo_S (xs : List Int) : ∀ k, sumTo xs k = S (el xs) k := by
  intro k
  induction k with
  | zero => rfl
  | succ k ih => rw [sumTo, S, ih]
theorem table_S (xs : List Int) : sumL (table xs) = S (lb xs) xs.length := by
  rw [sumL, sumTo_S, table_len]
  exact S_congr _ (fun j hj => el_table hj)

end Go.Proofs.Ytjphaphnmclbcaa
