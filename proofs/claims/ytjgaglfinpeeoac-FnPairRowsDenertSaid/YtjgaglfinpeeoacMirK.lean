/- Tables of ranks: the digits of a number to growing bases, and that they are read back. No condition. -/
import Derived.Test.YtjgaglfinpeeoacBnd
namespace Go.Proofs.Ytjgaglfinpeeoac

theorem fac_step {n k : Nat} (h : k < n) : fac (n - k) = fac (n - 1 - k) * ((n : Int) - k) := by
  obtain ⟨m, hm⟩ : ∃ m, n - 1 - k = m := ⟨_, rfl⟩
  rw [hm, show n - k = m + 1 by omega, fac]
  congr 1; omega

/-- The digit at place k of the rank r of n values. -/
def dig (n : Nat) (r : Int) (k : Nat) : Int := (r / fac (n - 1 - k)) % ((n : Int) - k)
def digs (n : Nat) (r : Int) : List Int := (List.range n).map (dig n r)
theorem digs_len (n : Nat) (r : Int) : (digs n r).length = n := map_range_len _
theorem el_digs {n k : Nat} {r : Int} (h : k < n) : el (digs n r) k = dig n r k := el_map h
theorem dig_bd {n k : Nat} {r : Int} (h : k < n) : 0 ≤ dig n r k ∧ dig n r k < (n : Int) - k :=
  ⟨Int.emod_nonneg _ (by omega), Int.emod_lt_of_pos _ (by omega)⟩
theorem digs_vt {n : Nat} {r : Int} (h : n ≤ 7) : VT (digs n r) := by
  refine ⟨by rw [digs_len]; exact h, fun j hj => ?_, fun j hj => ?_⟩
  · rw [digs_len] at hj; rw [el_digs hj]; exact (dig_bd hj).1
  · rw [digs_len] at hj ⊢; rw [el_digs hj]; have := (dig_bd (r := r) hj).2; omega

theorem fac_pos0 (n : Nat) : 0 < fac n := by have := fac_pos n; omega

/-- What is left of the rank ahead of place k, as the program has it, and behind it, as the model has it. -/
theorem rest_up {n k : Nat} {r : Int} (h : k < n) : r / fac (n - 1 - k) / ((n : Int) - k) = r / fac (n - k) := by
  rw [fac_step h, Int.ediv_ediv_of_nonneg (Int.le_of_lt (fac_pos0 _))]
theorem rest_dn {n k : Nat} {r : Int} (h : k < n) : (r % fac (n - k)) % fac (n - 1 - k) = r % fac (n - 1 - k) := by
  rw [fac_step h]
  exact Int.emod_emod_of_dvd _ (Int.dvd_mul_right _ _)
theorem dig_dn {n k : Nat} {r : Int} (h : k < n) : (r % fac (n - k)) / fac (n - 1 - k) = dig n r k := by
  have f1 := fac_pos0 (n - 1 - k)
  have h1 := Int.emod_add_mul_ediv r (fac (n - k))
  have e : r = fac (n - 1 - k) * (((n : Int) - k) * (r / fac (n - k))) + r % fac (n - k) := by
    rw [← Int.mul_assoc, ← fac_step h]; omega
  have hb0 := Int.emod_nonneg r (Int.ne_of_gt (fac_pos0 (n - k)))
  have hb1 := Int.emod_lt_of_pos r (fac_pos0 (n - k))
  have e2 : r / fac (n - 1 - k) = ((n : Int) - k) * (r / fac (n - k)) + (r % fac (n - k)) / fac (n - 1 - k) := by
    conv => lhs; rw [e]
    rw [Int.mul_add_ediv_left _ _ (by omega)]
  have q0 : 0 ≤ (r % fac (n - k)) / fac (n - 1 - k) := Int.ediv_nonneg hb0 (by omega)
  have q1 : (r % fac (n - k)) / fac (n - 1 - k) < (n : Int) - k := by
    refine Int.ediv_lt_of_lt_mul f1 ?_
    rw [Int.mul_comm, ← fac_step h]
    exact hb1
  rw [dig, e2, Int.add_comm, Int.add_mul_emod_self_left, Int.emod_eq_of_lt q0 q1]

theorem rkP_digs {n : Nat} {r : Int} (h0 : 0 ≤ r) (h1 : r < fac n) : ∀ k, k ≤ n → rkP (digs n r) n k = r / fac (n - k) := by
  intro k
  induction k with
  | zero => intro _; rw [rkP, Nat.sub_zero, Int.ediv_eq_zero_of_lt h0 h1]
  | succ k ih =>
    intro hk
    rw [rkP, ih (by omega), el_digs (by omega), dig, ← rest_up (k := k) (by omega), show n - (k + 1) = n - 1 - k by omega]
    have := Int.emod_add_mul_ediv (r / fac (n - 1 - k)) ((n : Int) - k)
    rw [Int.mul_comm] at this
    omega
theorem rank_digs {n : Nat} {r : Int} (hn : n ≤ 7) (h0 : 0 ≤ r) (h1 : r < fac n) : rk (ordT (digs n r)) = r := by
  rw [rk, table_ordT (digs_vt hn), ordT_len, digs_len, rkP_digs h0 h1 n (Nat.le_refl _), Nat.sub_self, fac, Int.ediv_one]

theorem rkP_lt {t : List Int} (h : VT t) : ∀ k, k ≤ t.length → 0 ≤ rkP t t.length k ∧ rkP t t.length k * fac (t.length - k) + fac (t.length - k) ≤ fac t.length := by
  intro k
  induction k with
  | zero => intro _; rw [rkP, Nat.sub_zero]; omega
  | succ k ih =>
    intro hk
    obtain ⟨a, b⟩ := ih (by omega)
    have h1 := h.lo k (by omega)
    have h2 := h.hi k (by omega)
    have f1 := fac_pos0 (t.length - 1 - k)
    have h3 : el t k ≤ (t.length : Int) - k - 1 := by omega
    rw [rkP]
    refine ⟨by have := Int.mul_nonneg a (show 0 ≤ (t.length : Int) - k by omega); omega, ?_⟩
    rw [fac_step (n := t.length) (k := k) (by omega)] at b
    rw [show t.length - (k + 1) = t.length - 1 - k by omega]
    generalize fac (t.length - 1 - k) = f at *
    generalize (t.length : Int) - k = m at *
    have e1 : (rkP t t.length k * m + el t k) * f = rkP t t.length k * (f * m) + el t k * f := by
      rw [Int.add_mul, Int.mul_assoc, Int.mul_comm m f]
    have e2 : el t k * f ≤ (m - 1) * f := Int.mul_le_mul_of_nonneg_right (by omega) (by omega)
    have e3 : (m - 1) * f = f * m - f := by rw [Int.sub_mul, Int.one_mul, Int.mul_comm]
    rw [e1]
    omega
theorem rk_fac {xs : List Int} (h : Valid xs) : 0 ≤ rk xs ∧ rk xs < fac xs.length := by
  have hv := table_vt h
  have hl := table_len xs
  have := rkP_lt hv (table xs).length (Nat.le_refl _)
  rw [Nat.sub_self, fac, hl] at this
  rw [rk]
  omega
theorem rk_rest {t : List Int} (h : VT t) {k : Nat} (hk : k < t.length) : rkP t t.length (k + 1) % ((t.length : Int) - k) = el t k ∧ rkP t t.length (k + 1) / ((t.length : Int) - k) = rkP t t.length k := by
  have h1 := h.lo k hk
  have h2 := h.hi k hk
  rw [rkP, Int.add_comm, Int.mul_comm]
  refine ⟨?_, ?_⟩
  · rw [Int.add_mul_emod_self_left, Int.emod_eq_of_lt h1 (by omega)]
  · rw [Int.add_mul_ediv_left _ _ (by omega), Int.ediv_eq_zero_of_lt h1 (by omega)]; omega
theorem digs_rk {xs : List Int} (h : Valid xs) : digs xs.length (rk xs) = table xs := by
  have hv := table_vt h
  have hl := table_len xs
  have key : ∀ m, m ≤ xs.length → rk xs / fac m = rkP (table xs) xs.length (xs.length - m) := by
    intro m
    induction m with
    | zero => intro _; rw [fac, Int.ediv_one, Nat.sub_zero, rk]
    | succ m ih =>
      intro hm
      have h1 := ih (by omega)
      have h2 := rk_rest hv (k := xs.length - (m + 1)) (by omega)
      rw [hl, show xs.length - (m + 1) + 1 = xs.length - m by omega] at h2
      rw [fac, ← Int.ediv_ediv_of_nonneg (Int.le_of_lt (fac_pos0 m)), h1, ← h2.2]
      congr 1; omega
  refine ext_el (by rw [digs_len, table_len]) (fun k hk => ?_)
  rw [digs_len] at hk
  rw [el_digs hk, dig, key _ (by omega)]
  have h2 := rk_rest hv (k := k) (by omega)
  rw [hl] at h2
  rw [show xs.length - (xs.length - 1 - k) = k + 1 by omega, h2.1]
theorem ord_rk {xs : List Int} (h : Valid xs) : ordT (digs xs.length (rk xs)) = xs := by rw [digs_rk h, ordT_table h]

end Go.Proofs.Ytjgaglfinpeeoac
