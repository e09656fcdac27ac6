/- Pairs of places counted over a square of places and counted behind each other are as many. No condition. -/
import Derived.Test.YtjphaphnmclbcaaBng
import Derived.Test.YtjphaphnmclbcaaBnh
namespace Go.Proofs.Ytjphaphnmclbcaa

/-- Does the pair of places i, k fit, i standing ahead? -/
def giF (f : Int → Int → Int → Int → Bool) (xs : List Int) (i k : Nat) : Bool := decide (i < k) && f i (el xs i) k (el xs k)
def giP (f : Int → Int → Int → Int → Bool) (xs : List Int) (i t : Nat) : Int := cntP (giF f xs i) t
def gdP (f : Int → Int → Int → Int → Bool) (xs : List Int) (n : Nat) : Nat → Int
  | 0 => 0
  | i + 1 => gdP f xs n i + giP f xs i n
theorem giP_bd (f : Int → Int → Int → Int → Bool) (xs : List Int) (i t : Nat) : 0 ≤ giP f xs i t ∧ giP f xs i t ≤ t := cntP_bd _ _
theorem giP_yes {f : Int → Int → Int → Int → Bool} {xs : List Int} {i t : Nat} (h : giF f xs i t = true) : giP f xs i (t + 1) = giP f xs i t + 1 := cntP_yes h
theorem giP_no {f : Int → Int → Int → Int → Bool} {xs : List Int} {i t : Nat} (h : giF f xs i t = false) : giP f xs i (t + 1) = giP f xs i t := cntP_no h
theorem gdP_bd (f : Int → Int → Int → Int → Bool) (xs : List Int) (n k : Nat) : 0 ≤ gdP f xs n k ∧ gdP f xs n k ≤ k * n := by
  induction k with
  | zero => simp [gdP]
  | succ k ih =>
    have := giP_bd f xs k n
    rw [gdP]
    have e : ((k + 1 : Nat) : Int) * n = k * n + n := by rw [Int.natCast_add, Int.add_mul]; simp
    omega

theorem gdP_S (f : Int → Int → Int → Int → Bool) (xs : List Int) (n : Nat) : ∀ m, gdP f xs n m = S (fun i => S (ind (giF f xs i)) n) m := by
  intro m
  induction m with
  | zero => rfl
  | succ m ih => rw [gdP, S, ih, giP, cntP_S]
theorem prP_S (f : Int → Int → Int → Int → Bool) (xs : List Int) : ∀ m, prP f xs m = S (fun k => S (ind fun i => f i (el xs i) k (el xs k)) k) m := by
  intro m
  induction m with
  | zero => rfl
  | succ m ih => rw [prP, S, ih, inP, cntP_S]

theorem S_swap2 (g : Nat → Nat → Int) (n : Nat) : ∀ m, S (fun i => S (g i) n) m = S (fun k => S (fun i => g i k) m) n := by
  intro m
  induction m with
  | zero =>
    have : ∀ n, S (fun k => S (fun i => g i k) 0) n = 0 := by
      intro n
      induction n with
      | zero => rfl
      | succ n ih => rw [S, ih]; rfl
    rw [this]; rfl
  | succ m ih =>
    rw [S, ih, ← S_add]
    rfl
theorem S_cut (g : Nat → Int) (k : Nat) : ∀ n, k ≤ n → (∀ j, k ≤ j → g j = 0) → S g n = S g k := by
  intro n
  induction n with
  | zero => intro hk _; rw [show k = 0 by omega]
  | succ n ih =>
    intro hk hz
    by_cases e : k = n + 1
    · rw [e]
    · rw [S, ih (by omega) hz, hz n (by omega)]; omega

theorem grid_pairs (f : Int → Int → Int → Int → Bool) (xs : List Int) : gdP f xs xs.length xs.length = pairs f xs := by
  rw [gdP_S, S_swap2 (fun i k => ind (giF f xs i) k), pairs, prP_S]
  refine S_congr _ (fun k hk => ?_)
  rw [S_cut _ k _ (by omega) (fun j hj => by simp [ind, giF]; intro h; omega)]
  refine S_congr _ (fun i hi => ?_)
  simp [ind, giF, hi]

end Go.Proofs.Ytjphaphnmclbcaa
