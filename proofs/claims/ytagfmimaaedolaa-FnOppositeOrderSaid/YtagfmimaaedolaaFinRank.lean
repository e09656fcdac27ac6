/- Ranks of opposites are all ranks together. No condition. -/
import Derived.Test.YtagfmimaaedolaaMirR
import Derived.Test.YtagfmimaaedolaaFinMajor
namespace Go.Proofs.Ytagfmimaaedolaa

theorem lbP_opp {xs : List Int} (h : Valid xs) {i : Nat} : ∀ t, i + t < xs.length → lbP (opp xs) i t + lbP xs i t = t := by
  intro t
  induction t with
  | zero => intro _; rfl
  | succ t ih =>
    intro ht
    have h1 := ih (by omega)
    have e1 := el_opp (xs := xs) (j := i + 1 + t) (by omega)
    have e2 := el_opp (xs := xs) (j := i) (by omega)
    have hne := h.ne i (i + 1 + t) (by omega) (by omega)
    rcases Int.lt_or_le (el xs (i + 1 + t)) (el xs i) with a | a
    · rw [lbP_yes a, lbP_no (xs := opp xs) (by rw [e1, e2]; omega)]; omega
    · rw [lbP_no a, lbP_yes (xs := opp xs) (by rw [e1, e2]; omega)]; omega

theorem table_opp {xs : List Int} (h : Valid xs) {j : Nat} (hj : j < xs.length) : el (table (opp xs)) j + el (table xs) j = (xs.length : Int) - 1 - j := by
  rw [el_table hj, el_table (by rw [opp_len]; exact hj), lb, lb, opp_len, lbP_opp h _ (by omega)]
  omega

theorem rank_opp {xs : List Int} (h : Valid xs) : rk (opp xs) + rk xs = fac xs.length - 1 := by
  have key : ∀ k, k ≤ xs.length → rkS (table (opp xs)) xs.length k + rkS (table xs) xs.length k = fac xs.length - fac (xs.length - k) := by
    intro k
    induction k with
    | zero => intro _; rw [rkS, rkS, Nat.sub_zero]; omega
    | succ k ih =>
      intro hk
      have h1 := ih (by omega)
      have ht := table_opp h (j := k) (by omega)
      obtain ⟨m, hm⟩ : ∃ m, xs.length - k = m + 1 := ⟨xs.length - k - 1, by omega⟩
      rw [rkS, rkS, show xs.length - 1 - k = m by omega, show xs.length - (k + 1) = m by omega]
      rw [hm, fac] at h1
      have e2 : el (table (opp xs)) k * fac m + el (table xs) k * fac m = (m : Int) * fac m := by
        rw [← Int.add_mul, ht]
        congr 1
        omega
      have e3 : fac m * ((m : Int) + 1) = (m : Int) * fac m + fac m := by rw [Int.mul_add, Int.mul_one, Int.mul_comm]
      rw [e3] at h1
      generalize (m : Int) * fac m = z at h1 e2
      omega
  have := key xs.length (Nat.le_refl _)
  rw [Nat.sub_self, fac] at this
  unfold rk
  rw [opp_len, ← rk_eq, ← rk_eq]
  exact this

end Go.Proofs.Ytagfmimaaedolaa
