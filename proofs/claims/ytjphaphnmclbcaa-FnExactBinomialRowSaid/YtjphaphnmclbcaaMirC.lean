/- The lists and numbers of the second chapter, as plain functions of lists. No condition. -/
import Derived.Test.YtjphaphnmclbcaaBnf
namespace Go.Proofs.Ytjphaphnmclbcaa

/-- The places among the first k that fit with their numbers. -/
def plP (f : Int → Int → Bool) (xs : List Int) : Nat → List Int
  | 0 => []
  | k + 1 => if f k (el xs k) then plP f xs k ++ [(k : Int)] else plP f xs k
theorem plP_yes {f : Int → Int → Bool} {xs : List Int} {k : Nat} (h : f k (el xs k) = true) : plP f xs (k + 1) = plP f xs k ++ [(k : Int)] := by rw [plP, if_pos h]
theorem plP_no {f : Int → Int → Bool} {xs : List Int} {k : Nat} (h : f k (el xs k) = false) : plP f xs (k + 1) = plP f xs k := by rw [plP, h]; simp
theorem plP_len (f : Int → Int → Bool) (xs : List Int) (k : Nat) : (plP f xs k).length ≤ k := by
  induction k with
  | zero => simp [plP]
  | succ k ih =>
    rw [plP]
    split
    · rw [List.length_append, List.length_singleton]; omega
    · omega
theorem plP_mem (f : Int → Int → Bool) (xs : List Int) (k : Nat) : ∀ x ∈ plP f xs k, 0 ≤ x ∧ x < k := by
  induction k with
  | zero => intro x hx; simp [plP] at hx
  | succ k ih =>
    intro x hx
    rw [plP] at hx
    split at hx
    · rw [List.mem_append, List.mem_singleton] at hx
      rcases hx with hx | hx
      · have := ih x hx; omega
      · omega
    · have := ih x hx; omega
def upF (i u : Int) : Bool := decide (i < u)
def fixF (i u : Int) : Bool := decide (u = i)
def above (xs : List Int) : List Int := plP upF xs xs.length
def fixed (xs : List Int) : List Int := plP fixF xs xs.length
theorem above_len (xs : List Int) : (above xs).length ≤ xs.length := plP_len _ _ _
theorem fixed_len (xs : List Int) : (fixed xs).length ≤ xs.length := plP_len _ _ _

/-- The greatest of the first k numbers, or -1; the places of those that are greater than all ahead. -/
def mxP (xs : List Int) : Nat → Int
  | 0 => -1
  | k + 1 => if mxP xs k < el xs k then el xs k else mxP xs k
def rcP (xs : List Int) : Nat → List Int
  | 0 => []
  | k + 1 => if mxP xs k < el xs k then rcP xs k ++ [(k : Int)] else rcP xs k
theorem mxP_yes {xs : List Int} {k : Nat} (h : mxP xs k < el xs k) : mxP xs (k + 1) = el xs k := by rw [mxP, if_pos h]
theorem mxP_no {xs : List Int} {k : Nat} (h : el xs k ≤ mxP xs k) : mxP xs (k + 1) = mxP xs k := by rw [mxP, if_neg (by omega)]
theorem rcP_yes {xs : List Int} {k : Nat} (h : mxP xs k < el xs k) : rcP xs (k + 1) = rcP xs k ++ [(k : Int)] := by rw [rcP, if_pos h]
theorem rcP_no {xs : List Int} {k : Nat} (h : el xs k ≤ mxP xs k) : rcP xs (k + 1) = rcP xs k := by rw [rcP, if_neg (by omega)]
theorem rcP_len (xs : List Int) (k : Nat) : (rcP xs k).length ≤ k := by
  induction k with
  | zero => simp [rcP]
  | succ k ih =>
    rw [rcP]
    split
    · rw [List.length_append, List.length_singleton]; omega
    · omega
def records (xs : List Int) : List Int := rcP xs xs.length
theorem records_len (xs : List Int) : (records xs).length ≤ xs.length := rcP_len _ _

/-- How far the first k numbers are from their places. -/
def shP (xs : List Int) : Nat → Int
  | 0 => 0
  | k + 1 => shP xs k + max (el xs k - k) (k - el xs k)
def shift (xs : List Int) : Int := shP xs xs.length
theorem shP_bd {xs : List Int} (h : Valid xs) : ∀ k, k ≤ xs.length → 0 ≤ shP xs k ∧ shP xs k ≤ 7 * k := by
  intro k
  induction k with
  | zero => intro _; simp [shP]
  | succ k ih =>
    intro hk
    have h1 := ih (by omega)
    have h2 := h.lo k (by omega)
    have h3 := h.hi k (by omega)
    have h4 := h.len
    rw [shP]
    omega

/-- How many pairs of places i < k, k among the first ones, fit with their numbers. -/
def inP (f : Int → Int → Int → Int → Bool) (xs : List Int) (k t : Nat) : Int := cntP (fun i => f i (el xs i) k (el xs k)) t
def prP (f : Int → Int → Int → Int → Bool) (xs : List Int) : Nat → Int
  | 0 => 0
  | k + 1 => prP f xs k + inP f xs k k
def pairs (f : Int → Int → Int → Int → Bool) (xs : List Int) : Int := prP f xs xs.length
theorem inP_bd (f : Int → Int → Int → Int → Bool) (xs : List Int) (k t : Nat) : 0 ≤ inP f xs k t ∧ inP f xs k t ≤ t := cntP_bd _ _
theorem inP_yes {f : Int → Int → Int → Int → Bool} {xs : List Int} {k t : Nat} (h : f t (el xs t) k (el xs k) = true) : inP f xs k (t + 1) = inP f xs k t + 1 := cntP_yes h
theorem inP_no {f : Int → Int → Int → Int → Bool} {xs : List Int} {k t : Nat} (h : f t (el xs t) k (el xs k) = false) : inP f xs k (t + 1) = inP f xs k t := cntP_no h
theorem prP_bd (f : Int → Int → Int → Int → Bool) (xs : List Int) (k : Nat) : 0 ≤ prP f xs k ∧ prP f xs k ≤ k * k := by
  induction k with
  | zero => simp [prP]
  | succ k ih =>
    have := inP_bd f xs k k
    rw [prP]
    have e : ((k + 1 : Nat) : Int) * (k + 1 : Nat) = k * k + k + k + 1 := by rw [Int.natCast_add, Int.add_mul, Int.mul_add]; simp; omega
    omega
def crossF (i u k v : Int) : Bool := decide (k ≤ u) && decide (u < v) || decide (u < v) && decide (v < i)
def nestF (i u k v : Int) : Bool := decide (k ≤ v) && decide (v < u) || decide (v < u) && decide (u < i)
def denF (i u k v : Int) : Bool := decide (v < u) && (decide (i < u) == decide (k < v))

end Go.Proofs.Ytjphaphnmclbcaa
