/- Ranks as plain functions of tables, and that both ways to reckon them agree. No condition. -/
import Derived.Test.YtjphaphnmclbcaaBnf
namespace Go.Proofs.Ytjphaphnmclbcaa

def fac : Nat → Int
  | 0 => 1
  | n + 1 => fac n * ((n : Int) + 1)
theorem fac_pos (n : Nat) : 1 ≤ fac n := by
  induction n with
  | zero => exact Int.le_refl _
  | succ n ih =>
    rw [fac]
    have : 1 * 1 ≤ fac n * ((n : Int) + 1) := Int.mul_le_mul ih (by omega) (by omega) (by omega)
    omega
theorem fac_le {n : Nat} (h : n ≤ 7) : fac n ≤ 5040 := by
  have : ∀ n : Nat, n ≤ 7 → fac n ≤ 5040 := by decide
  exact this n h

/-- The rank, place by place from the front: as the program reckons it. -/
def rkP (t : List Int) (n : Nat) : Nat → Int
  | 0 => 0
  | k + 1 => rkP t n k * ((n : Int) - k) + el t k
/-- The rank as a sum: as the model reckons it. -/
def rkS (t : List Int) (n : Nat) : Nat → Int
  | 0 => 0
  | k + 1 => rkS t n k + el t k * fac (n - 1 - k)
theorem rk_both (t : List Int) (n : Nat) : ∀ k, k ≤ n → rkS t n k = rkP t n k * fac (n - k) := by
  intro k
  induction k with
  | zero => intro _; simp [rkS, rkP]
  | succ k ih =>
    intro hk
    rw [rkS, ih (by omega), rkP]
    obtain ⟨m, hm⟩ : ∃ m, n - k = m + 1 := ⟨n - k - 1, by omega⟩
    rw [hm, show n - 1 - k = m by omega, show n - (k + 1) = m by omega, fac, Int.add_mul]
    have e : (n : Int) - k = (m : Int) + 1 := by omega
    rw [e, ← Int.mul_assoc, Int.mul_assoc (rkP t n k) (fac m), Int.mul_comm (fac m), ← Int.mul_assoc]
theorem rk_eq (t : List Int) (n : Nat) : rkS t n n = rkP t n n := by
  rw [rk_both t n n (Nat.le_refl _), Nat.sub_self, fac, Int.mul_one]

def pow8 : Nat → Int
  | 0 => 1
  | k + 1 => pow8 k * 8
theorem rkP_bd {t : List Int} {n : Nat} (hn : n ≤ 7) (ht : ∀ j, j < n → 0 ≤ el t j ∧ el t j ≤ 7) : ∀ k, k ≤ n → 0 ≤ rkP t n k ∧ rkP t n k ≤ pow8 k - 1 := by
  intro k
  induction k with
  | zero => intro _; simp [rkP, pow8]
  | succ k ih =>
    intro hk
    have h1 := ih (by omega)
    have h2 := ht k (by omega)
    rw [rkP, pow8]
    have h3 : rkP t n k * ((n : Int) - k) ≤ rkP t n k * 7 := Int.mul_le_mul_of_nonneg_left (by omega) h1.1
    have h4 : 0 ≤ rkP t n k * ((n : Int) - k) := Int.mul_nonneg h1.1 (by omega)
    omega
theorem pow8_le {k : Nat} (h : k ≤ 7) : pow8 k ≤ 2097152 := by
  have : ∀ k : Nat, k ≤ 7 → pow8 k ≤ 2097152 := by decide
  exact this k h
theorem rkS_bd {t : List Int} {n : Nat} (hn : n ≤ 7) (ht : ∀ j, j < n → 0 ≤ el t j ∧ el t j ≤ 7) : ∀ k, k ≤ n → 0 ≤ rkS t n k ∧ rkS t n k ≤ k * 35280 := by
  intro k
  induction k with
  | zero => intro _; simp [rkS]
  | succ k ih =>
    intro hk
    have h1 := ih (by omega)
    have h2 := ht k (by omega)
    have f1 := fac_pos (n - 1 - k)
    have f2 := fac_le (n := n - 1 - k) (by omega)
    rw [rkS]
    have h3 : 0 ≤ el t k * fac (n - 1 - k) := Int.mul_nonneg h2.1 (by omega)
    have h4 : el t k * fac (n - 1 - k) ≤ 7 * 5040 := Int.mul_le_mul h2.2 f2 (by omega) (by omega)
    omega
def rk (xs : List Int) : Int := rkP (table xs) xs.length xs.length
theorem table_seven {xs : List Int} (h : Valid xs) : ∀ j, j < xs.length → 0 ≤ el (table xs) j ∧ el (table xs) j ≤ 7 := fun j hj => by
  have h1 := table_bd xs j (by rw [table_len]; exact hj)
  have := h.len
  omega
theorem rk_bd {xs : List Int} (h : Valid xs) : 0 ≤ rk xs ∧ rk xs ≤ 2097151 := by
  have h1 := rkP_bd h.len (table_seven h) xs.length (Nat.le_refl _)
  have h2 := pow8_le h.len
  unfold rk
  omega

end Go.Proofs.Ytjphaphnmclbcaa
