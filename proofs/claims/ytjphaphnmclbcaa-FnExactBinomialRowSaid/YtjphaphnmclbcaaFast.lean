/- Counts of orders, reckoned fast: for what the kernel reckons over all orders. No condition. -/
import Derived.Test.YtjphaphnmclbcaaMirC
import Derived.Test.YtjphaphnmclbcaaFinAll
namespace Go.Proofs.Ytjphaphnmclbcaa

def ltb : Int → Int → Bool
  | .ofNat m, .ofNat n => Nat.blt m n
  | .ofNat _, .negSucc _ => false
  | .negSucc _, .ofNat _ => true
  | .negSucc m, .negSucc n => Nat.blt n m
theorem ltb_eq (a b : Int) : ltb a b = decide (a < b) := by
  cases a with
  | ofNat m => cases b with
    | ofNat n => rw [ltb, Bool.eq_iff_iff, Nat.blt_eq, decide_eq_true_iff]; simp only [Int.ofNat_eq_natCast]; omega
    | negSucc n => rw [ltb, eq_comm, decide_eq_false_iff_not]; simp only [Int.ofNat_eq_natCast]; omega
  | negSucc m => cases b with
    | ofNat n => rw [ltb, eq_comm, decide_eq_true_iff]; simp only [Int.ofNat_eq_natCast]; omega
    | negSucc n => rw [ltb, Bool.eq_iff_iff, Nat.blt_eq, decide_eq_true_iff]; omega
def eqb : Int → Int → Bool
  | .ofNat m, .ofNat n => Nat.beq m n
  | .ofNat _, .negSucc _ => false
  | .negSucc _, .ofNat _ => false
  | .negSucc m, .negSucc n => Nat.beq m n
theorem eqb_eq (a b : Int) : eqb a b = decide (a = b) := by
  cases a with
  | ofNat m => cases b with
    | ofNat n => rw [eqb, Bool.eq_iff_iff, Nat.beq_eq, decide_eq_true_iff]; simp only [Int.ofNat_eq_natCast]; omega
    | negSucc n => rw [eqb, eq_comm, decide_eq_false_iff_not]; simp only [Int.ofNat_eq_natCast]; omega
  | negSucc m => cases b with
    | ofNat n => rw [eqb, eq_comm, decide_eq_false_iff_not]; simp only [Int.ofNat_eq_natCast]; omega
    | negSucc n => rw [eqb, Bool.eq_iff_iff, Nat.beq_eq, decide_eq_true_iff]; omega
def eqs : List Int → List Int → Bool
  | [], [] => true
  | x :: xs, y :: ys => match eqb x y with
    | true => eqs xs ys
    | false => false
  | _, _ => false
theorem eqs_eq {xs ys : List Int} (h : eqs xs ys = true) : xs = ys := by
  induction xs generalizing ys with
  | nil => cases ys <;> simp_all [eqs]
  | cons x xs ih =>
    cases ys with
    | nil => simp [eqs] at h
    | cons y ys =>
      rw [eqs, eqb_eq] at h
      by_cases e : x = y
      · simp only [e, decide_true] at h
        rw [e, ih h]
      · simp [e] at h
/-- How many of xs are less than x, and n. -/
def clF (x : Int) : List Int → Nat → Nat
  | [], n => n
  | y :: v, n => match ltb y x with
    | true => clF x v (n + 1)
    | false => clF x v n
def invF : List Int → Nat → Nat
  | [], n => n
  | x :: xs, n => invF xs (clF x xs n)
def majF : List Int → Nat → Nat → Nat
  | [], _, n => n
  | [_], _, n => n
  | x :: y :: xs, k, n => match ltb y x with
    | true => majF (y :: xs) (k + 1) (n + k)
    | false => majF (y :: xs) (k + 1) n

theorem clF_eq (x : Int) (v : List Int) (n : Nat) : clF x v n = v.countP (fun y => decide (y < x)) + n := by
  induction v generalizing n with
  | nil => simp [clF]
  | cons y v ih =>
    rw [clF, ltb_eq]
    by_cases e : y < x
    · simp [e, ih]; omega
    · simp [e, ih]
theorem invF_add (xs : List Int) (n : Nat) : invF xs n = invF xs 0 + n := by
  induction xs generalizing n with
  | nil => simp [invF]
  | cons x xs ih => rw [invF, invF, ih, ih (clF x xs 0), clF_eq, clF_eq]; omega
theorem majF_add (xs : List Int) (k n : Nat) : majF xs k n = majF xs k 0 + n := by
  induction xs generalizing k n with
  | nil => simp [majF]
  | cons x xs ih =>
    cases xs with
    | nil => simp [majF]
    | cons y xs =>
      rw [majF, majF, ltb_eq]
      cases decide (y < x)
      · exact ih _ _
      · show majF (y :: xs) (k + 1) (n + k) = majF (y :: xs) (k + 1) (0 + k) + n
        rw [ih (k + 1) (n + k), ih (k + 1) (0 + k)]; omega
theorem el_cons (x : Int) (xs : List Int) (k : Nat) : el (x :: xs) (k + 1) = el xs k := by simp [el]
theorem el_zero (x : Int) (xs : List Int) : el (x :: xs) 0 = x := by simp [el]
theorem cntP_front (p : Nat → Bool) (k : Nat) : cntP p (k + 1) = (if p 0 then 1 else 0) + cntP (fun j => p (j + 1)) k := by
  induction k with
  | zero => simp [cntP]
  | succ k ih => rw [cntP, ih, cntP]; split <;> split <;> omega
theorem cntP_countP (v : List Int) (f : Int → Bool) : cntP (fun j => f (el v j)) v.length = (v.countP f : Int) := by
  induction v with
  | nil => rfl
  | cons y v ih =>
    rw [List.length_cons, cntP_front, el_zero]
    have e : (fun j => f (el (y :: v) (j + 1))) = fun j => f (el v j) := by funext j; rw [el_cons]
    rw [e, ih, List.countP_cons]
    split <;> simp <;> omega
theorem lb_cons (x : Int) (xs : List Int) (k : Nat) : lb (x :: xs) (k + 1) = lb xs k := by
  unfold lb lbP
  have e : (fun j => decide (el (x :: xs) (k + 1 + 1 + j) < el (x :: xs) (k + 1))) = fun j => decide (el xs (k + 1 + j) < el xs k) := by
    funext j
    rw [show k + 1 + 1 + j = (k + 1 + j) + 1 by omega, el_cons, el_cons]
  rw [e, List.length_cons]
  congr 1
  omega
theorem lb_zero (x : Int) (xs : List Int) : lb (x :: xs) 0 = (xs.countP (fun y => decide (y < x)) : Int) := by
  unfold lb lbP
  have e : (fun j => decide (el (x :: xs) (0 + 1 + j) < el (x :: xs) 0)) = fun j => (fun y => decide (y < x)) (el xs j) := by
    funext j
    rw [show 0 + 1 + j = j + 1 by omega, el_cons, el_zero]
  rw [e, ← cntP_countP]
  congr 1
theorem table_cons (x : Int) (xs : List Int) : table (x :: xs) = (xs.countP (fun y => decide (y < x)) : Int) :: table xs := by
  rw [table, List.length_cons, List.range_succ_eq_map, List.map_cons, lb_zero, List.map_map]
  congr 1
  exact List.map_congr_left (fun k _ => lb_cons x xs k)
theorem sumTo_cons (x : Int) (xs : List Int) (k : Nat) : sumTo (x :: xs) (k + 1) = x + sumTo xs k := by
  induction k with
  | zero => simp [sumTo, el_zero]
  | succ k ih => rw [sumTo, ih, el_cons, sumTo]; omega
theorem sumL_cons (x : Int) (xs : List Int) : sumL (x :: xs) = x + sumL xs := by rw [sumL, List.length_cons, sumTo_cons, sumL]
theorem sumL_nil : sumL [] = 0 := rfl
theorem invF_eq (xs : List Int) : (invF xs 0 : Int) = sumL (table xs) := by
  induction xs with
  | nil => rfl
  | cons x xs ih => rw [invF, invF_add, clF_eq, table_cons, sumL_cons, ← ih]; omega

/-- The sum of the places, from s on, behind which a lesser number stands. -/
def mjP (xs : List Int) : Nat → Int
  | 0 => 0
  | k + 1 => if el xs (k + 1) < el xs k then mjP xs k + k + 1 else mjP xs k
theorem sumL_app (xs : List Int) (v : Int) : sumL (xs ++ [v]) = sumL xs + v := by
  induction xs with
  | nil => simp [sumL, sumTo, el]
  | cons x xs ih => rw [List.cons_append, sumL_cons, ih, sumL_cons]; omega
theorem mjP_eq (xs : List Int) : ∀ k, sumL (dsP xs k) + (dsP xs k).length = mjP xs k := by
  intro k
  induction k with
  | zero => rfl
  | succ k ih =>
    rw [dsP, mjP]
    split
    · rw [sumL_app, List.length_append, List.length_singleton]; omega
    · exact ih
theorem major_eq (xs : List Int) : major xs = mjP xs (xs.length - 1) := mjP_eq xs _
theorem majF_drop (xs : List Int) (d : Nat) : ∀ (m : Nat), m + d = xs.length → (majF (xs.drop m) (m + 1) 0 : Int) + mjP xs (m - 0) = mjP xs (m + (d - 1)) := by
  induction d with
  | zero =>
    intro m hm
    rw [List.drop_eq_nil_of_le (by omega)]
    simp [majF]
  | succ d ih =>
    intro m hm
    have h1 : m < xs.length := by omega
    have e1 : xs.drop m = el xs m :: xs.drop (m + 1) := by rw [el_lt h1]; exact List.drop_eq_getElem_cons h1
    cases d with
    | zero =>
      rw [e1, List.drop_eq_nil_of_le (by omega)]
      simp [majF]
    | succ d =>
      have h2 : m + 1 < xs.length := by omega
      have e2 : xs.drop (m + 1) = el xs (m + 1) :: xs.drop (m + 1 + 1) := by rw [el_lt h2]; exact List.drop_eq_getElem_cons h2
      have := ih (m + 1) (by omega)
      rw [e1, e2, majF, ltb_eq, ← e2]
      simp only [Nat.sub_zero] at this ⊢
      rw [show m + 1 + (d + 1 - 1) = m + (d + 1 + 1 - 1) by omega] at this
      rw [← this, mjP]
      by_cases e : el xs (m + 1) < el xs m
      · simp only [e, decide_true, if_true]
        rw [majF_add]; omega
      · simp only [e, decide_false, if_false]
theorem majF_eq (xs : List Int) : (majF xs 1 0 : Int) = major xs := by
  have := majF_drop xs xs.length 0 (by omega)
  simp only [List.drop_zero, Nat.zero_add, Nat.sub_zero] at this
  rw [major_eq, ← this, mjP]
  omega

end Go.Proofs.Ytjphaphnmclbcaa
