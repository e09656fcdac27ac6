/- Rows of binomial counts: what the model adds up. -/
import Derived.Test.YtjphaphnmclbcaaBnd
namespace Go.Proofs.Ytjphaphnmclbcaa
open Go

/-- The second row added to the first, from a place on, in t steps. -/
def addR (zs b : List Int) (s : Nat) : Nat → List Int
  | 0 => zs
  | t + 1 => addAt (addR zs b s t) (s + t) (el b t)
theorem addR_len (zs b : List Int) (s : Nat) : ∀ t, (addR zs b s t).length = zs.length
  | 0 => rfl
  | t + 1 => by rw [addR, addAt_len, addR_len zs b s t]
/-- The row of binomial counts. -/
def bR : Nat → Nat → List Int
  | 0, _ => [1]
  | n + 1, k => if k = 0 ∨ k = n + 1 then [1] else addR (addR (List.replicate (k * (n + 1 - k) + 1) 0) (bR n k) k (bR n k).length) (bR n (k - 1)) 0 (bR n (k - 1)).length
def binL (n k : Int) : List Int := if 0 ≤ n ∧ n ≤ 7 ∧ 0 ≤ k ∧ k ≤ n then bR n.toNat k.toNat else []
theorem bR_all : (List.range 8).all (fun n => (List.range (n + 1)).all fun k => decide ((bR n k).length = k * (n - k) + 1) && (bR n k).all (fun x => decide (0 ≤ x ∧ x ≤ 100))) = true := by decide +kernel
theorem bR_at {n k : Nat} (hn : n ≤ 7) (hk : k ≤ n) : (bR n k).length = k * (n - k) + 1 ∧ Bd (bR n k) 100 := by
  have h := List.all_eq_true.1 (List.all_eq_true.1 bR_all n (List.mem_range.2 (by omega))) k (List.mem_range.2 (by omega))
  rw [Bool.and_eq_true] at h
  refine ⟨of_decide_eq_true h.1, fun j => ?_⟩
  by_cases hj : j < (bR n k).length
  · rw [el_lt hj]
    exact of_decide_eq_true (List.all_eq_true.1 h.2 _ (List.getElem_mem hj))
  · have : el (bR n k) j = 0 := by simp [el, hj]
    rw [this]
    omega
theorem addR_bd {zs b : List Int} {M : Int} (h : Bd zs M) (hb : Bd b 100) (s : Nat) : ∀ t : Nat, Bd (addR zs b s t) (M + t * 100)
  | 0 => by simpa [addR] using h
  | t + 1 => by
    have := (addR_bd h hb s t).add (s + t) (hb t).1 (hb t).2
    rw [addR]
    intro i
    have := this i
    push_cast
    omega
theorem bd_zero {s : Nat} : Bd (List.replicate s (0 : Int)) 0 := fun i => by
  have : el (List.replicate s (0 : Int)) i = 0 := by unfold el; rw [List.getD_eq_getElem?_getD, List.getElem?_replicate]; split <;> rfl
  rw [this]
  exact ⟨Int.le_refl _, Int.le_refl _⟩
theorem fit1 {n k m : Nat} (hm : m = n + 1) (hk : k ≤ n) : k + (k * (n - k) + 1) ≤ k * (m - k) + 1 := by
  subst hm
  rw [show n + 1 - k = (n - k) + 1 by omega, Nat.mul_succ]
  omega
theorem fit2 {n k m : Nat} (hm : m = n + 1) (h0 : 0 < k) : (k - 1) * (n - (k - 1)) + 1 ≤ k * (m - k) + 1 := by
  subst hm
  rw [show n - (k - 1) = n + 1 - k by omega]
  have := Nat.mul_le_mul_right (n + 1 - k) (show k - 1 ≤ k by omega)
  omega

end Go.Proofs.Ytjphaphnmclbcaa