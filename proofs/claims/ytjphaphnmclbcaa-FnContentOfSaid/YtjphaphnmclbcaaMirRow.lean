/- Rows of numbers: products of polynomials, and rows that are made from them. No condition. -/
import Derived.Test.YtjphaphnmclbcaaBnd
namespace Go.Proofs.Ytjphaphnmclbcaa

/-- All numbers lie between 0 and M. -/
def Bd (zs : List Int) (M : Int) : Prop := ∀ j, 0 ≤ el zs j ∧ el zs j ≤ M
theorem el_over {zs : List Int} {j : Nat} (h : zs.length ≤ j) : el zs j = 0 := by simp [el, List.getD, h]
theorem Bd.of {zs : List Int} {M : Int} (hM : 0 ≤ M) (h : zs.all (fun x => decide (0 ≤ x) && decide (x ≤ M)) = true) : Bd zs M := fun j => by
  by_cases hj : j < zs.length
  · have := List.all_eq_true.1 h _ (el_mem hj)
    simpa using this
  · rw [el_over (by omega)]; omega
theorem Bd.zero (n : Nat) : Bd (List.replicate n 0) 0 := fun j => by
  have : el (List.replicate n 0) j = 0 := by
    by_cases hj : j < n
    · simp [el, hj]
    · exact el_over (by simp; omega)
  omega
theorem Bd.mono {zs : List Int} {M N : Int} (h : Bd zs M) (hN : M ≤ N) : Bd zs N := fun j => ⟨(h j).1, Int.le_trans (h j).2 hN⟩

/-- One number is added at place j. -/
def addAt (zs : List Int) (j : Nat) (v : Int) : List Int := zs.set j (el zs j + v)
theorem addAt_len (zs : List Int) (j : Nat) (v : Int) : (addAt zs j v).length = zs.length := List.length_set
theorem Bd.add {zs : List Int} {M c v : Int} (h : Bd zs M) (j : Nat) (h0 : 0 ≤ v) (h1 : v ≤ c) : Bd (addAt zs j v) (M + c) := fun i => by
  have hi := h i
  by_cases e : j = i
  · subst e
    by_cases hl : j < zs.length
    · rw [addAt, el_set_same hl]; omega
    · rw [addAt, List.set_eq_of_length_le (by omega)]; omega
  · rw [addAt, el_set_ne e]; omega

/-- The first t products of row i are added; the products of the first i rows. -/
def muR (a b : List Int) (i : Nat) (zs : List Int) : Nat → List Int
  | 0 => zs
  | t + 1 => addAt (muR a b i zs t) (i + t) (el a i * el b t)
def muP (a b : List Int) : Nat → List Int
  | 0 => List.replicate (a.length + b.length - 1) 0
  | i + 1 => muR a b i (muP a b i) b.length
def mul (a b : List Int) : List Int := muP a b a.length
theorem muR_len (a b : List Int) (i : Nat) (zs : List Int) (t : Nat) : (muR a b i zs t).length = zs.length := by
  induction t with
  | zero => rfl
  | succ t ih => rw [muR, addAt_len, ih]
theorem muP_len (a b : List Int) (i : Nat) : (muP a b i).length = a.length + b.length - 1 := by
  induction i with
  | zero => simp [muP]
  | succ i ih => rw [muP, muR_len, ih]
theorem mul_len (a b : List Int) : (mul a b).length = a.length + b.length - 1 := muP_len _ _ _
theorem prod_bd {x y A B : Int} (hx : 0 ≤ x ∧ x ≤ A) (hy : 0 ≤ y ∧ y ≤ B) : 0 ≤ x * y ∧ x * y ≤ A * B :=
  ⟨Int.mul_nonneg hx.1 hy.1, Int.mul_le_mul hx.2 hy.2 hy.1 (by omega)⟩
theorem muR_bd {a b zs : List Int} {M : Int} (ha : Bd a 10000) (hb : Bd b 10) (i : Nat) (h : Bd zs M) : ∀ t, Bd (muR a b i zs t) (M + t * 100000) := by
  intro t
  induction t with
  | zero => simpa [muR] using h
  | succ t ih =>
    have hp := prod_bd (ha i) (hb t)
    have := ih.add (i + t) hp.1 hp.2
    rw [muR]
    refine this.mono ?_
    omega
theorem muP_bd {a b : List Int} (ha : Bd a 10000) (hb : Bd b 10) (h10 : b.length ≤ 10) : ∀ i, Bd (muP a b i) (i * 1000000) := by
  intro i
  induction i with
  | zero => simpa [muP] using Bd.zero _
  | succ i ih =>
    rw [muP]
    refine (muR_bd ha hb i ih b.length).mono ?_
    omega

/-- The product of x, x + 1, .., x + n - 1. -/
def cir : Nat → List Int
  | 0 => [1]
  | n + 1 => mul (cir n) [(n : Int), 1]
theorem cir_fits : ∀ n : Nat, n < 8 → (cir n).all (fun x => decide (0 ≤ x) && decide (x ≤ 10000)) = true ∧ (cir n).length = n + 1 := by decide
theorem cir_bd {n : Nat} (h : n ≤ 7) : Bd (cir n) 10000 := Bd.of (by omega) (cir_fits n (by omega)).1
theorem cir_len {n : Nat} (h : n ≤ 7) : (cir n).length = n + 1 := (cir_fits n (by omega)).2
theorem two_bd {n : Nat} (h : n ≤ 7) : Bd [(n : Int), 1] 10 := Bd.of (by omega) (by simp; omega)

/-- Rows of ones, and their product. -/
def onesL (k : Nat) : List Int := List.replicate k 1
def prw : Nat → List Int
  | 0 => [1]
  | n + 1 => mul (prw n) (onesL (n + 1))
theorem prw_fits : ∀ n : Nat, n < 8 → (prw n).all (fun x => decide (0 ≤ x) && decide (x ≤ 10000)) = true ∧ (prw n).length ≤ 22 ∧ 0 < (prw n).length := by decide
theorem prw_bd {n : Nat} (h : n ≤ 7) : Bd (prw n) 10000 := Bd.of (by omega) (prw_fits n (by omega)).1
theorem onesL_bd (k : Nat) : Bd (onesL k) 10 := Bd.of (by omega) (by simp [onesL])
theorem prw_one : prw 1 = [1] := by decide

/-- How many orders have each number of descents: the first t numbers of a row are given on. -/
def euR (row : List Int) (m : Nat) : Nat → List Int
  | 0 => List.replicate m 0
  | t + 1 => addAt (addAt (euR row m t) t (el row t * ((t : Int) + 1))) (t + 1) (el row t * ((m : Int) - t - 1))
/-- The row of n + 1 values. -/
def eu : Nat → List Int
  | 0 => [1]
  | n + 1 => euR (eu n) (n + 2) (n + 1)
theorem euR_len (row : List Int) (m t : Nat) : (euR row m t).length = m := by
  induction t with
  | zero => simp [euR]
  | succ t ih => rw [euR, addAt_len, addAt_len, ih]
theorem eu_len (n : Nat) : (eu n).length = n + 1 := by
  cases n with
  | zero => rfl
  | succ n => rw [eu, euR_len]
theorem eu_fits : ∀ n : Nat, n < 7 → (eu n).all (fun x => decide (0 ≤ x) && decide (x ≤ 10000)) = true := by decide
theorem eu_bd {n : Nat} (h : n ≤ 6) : Bd (eu n) 10000 := Bd.of (by omega) (eu_fits n (by omega))
theorem euR_bd {row : List Int} {m : Nat} (hr : Bd row 10000) (hm : m ≤ 7) : ∀ t, t < m → Bd (euR row m t) (t * 200000) := by
  intro t
  induction t with
  | zero => intro _; simpa [euR] using Bd.zero _
  | succ t ih =>
    intro ht
    have h1 := prod_bd (hr t) (B := 10) (y := (t : Int) + 1) ⟨by omega, by omega⟩
    have h2 := prod_bd (hr t) (B := 10) (y := (m : Int) - t - 1) ⟨by omega, by omega⟩
    rw [euR]
    refine (((ih (by omega)).add t h1.1 h1.2).add (t + 1) h2.1 h2.2).mono ?_
    omega
/-- The row of n values. -/
def euler (n : Nat) : List Int := eu (n - 1)

end Go.Proofs.Ytjphaphnmclbcaa
