/- Opposites of orders: they are orders, and major indices of both are all pairs together. No condition. -/
import Derived.Test.YtjphaphnmclbcaaBnf
import Derived.Test.YtjphaphnmclbcaaBng
namespace Go.Proofs.Ytjphaphnmclbcaa

theorem opp_len (xs : List Int) : (opp xs).length = xs.length := map_range_len _
theorem el_opp {xs : List Int} {j : Nat} (h : j < xs.length) : el (opp xs) j = (xs.length : Int) - 1 - el xs j := el_map h
theorem opp_valid {xs : List Int} (h : Valid xs) : Valid (opp xs) := by
  refine ⟨by rw [opp_len]; exact h.len, fun j hj => ?_, fun j hj => ?_, fun i j hij hj => ?_⟩
  · rw [opp_len] at hj
    rw [el_opp hj]
    have := h.hi j hj
    omega
  · rw [opp_len] at hj ⊢
    rw [el_opp hj]
    have := h.lo j hj
    omega
  · rw [opp_len] at hj
    rw [el_opp hj, el_opp (by omega)]
    have := h.ne i j hij hj
    omega

theorem sumTo_app {l : List Int} {x : Int} : ∀ k, k ≤ l.length → sumTo (l ++ [x]) k = sumTo l k := by
  intro k
  induction k with
  | zero => intro _; rfl
  | succ k ih =>
    intro hk
    rw [sumTo, sumTo, ih (by omega)]
    congr 1
    simp [el, List.getElem?_append_left (show k < l.length by omega)]
def majP (xs : List Int) (k : Nat) : Int := sumL (dsP xs k) + (dsP xs k).length
theorem majP_yes {xs : List Int} {k : Nat} (h : el xs (k + 1) < el xs k) : majP xs (k + 1) = majP xs k + (k + 1) := by
  unfold majP
  rw [dsP_yes h, sumL_app, List.length_append, List.length_singleton]
  omega
theorem majP_no {xs : List Int} {k : Nat} (h : el xs k ≤ el xs (k + 1)) : majP xs (k + 1) = majP xs k := by
  unfold majP
  rw [dsP_no h]

theorem opp_step {xs : List Int} (h : Valid xs) {k : Nat} (hk : k + 1 < xs.length) : (el xs (k + 1) < el xs k ∧ el (opp xs) k ≤ el (opp xs) (k + 1)) ∨ (el xs k ≤ el xs (k + 1) ∧ el (opp xs) (k + 1) < el (opp xs) k) := by
  rw [el_opp hk, el_opp (show k < xs.length by omega)]
  have := h.ne k (k + 1) (by omega) hk
  omega

theorem opp_major {xs : List Int} (h : Valid xs) : 2 * (major xs + major (opp xs)) = (xs.length : Int) * ((xs.length : Int) - 1) := by
  have key : ∀ k, k ≤ xs.length - 1 → 2 * (majP xs k + majP (opp xs) k) = (k : Int) * ((k : Int) + 1) := by
    intro k
    induction k with
    | zero => intro _; rfl
    | succ k ih =>
      intro hk
      have h1 := ih (by omega)
      have e : ((k + 1 : Nat) : Int) * (((k + 1 : Nat) : Int) + 1) = (k : Int) * ((k : Int) + 1) + 2 * ((k : Int) + 1) := by
        have e1 : ((k + 1 : Nat) : Int) = (k : Int) + 1 := by omega
        rw [e1, show (k : Int) + 1 + 1 = k + 2 by omega, Int.mul_add, Int.mul_comm ((k : Int) + 1) k, Int.mul_comm ((k : Int) + 1) 2]
      rw [e]
      clear e
      generalize (k : Int) * ((k : Int) + 1) = z at h1 ⊢
      rcases opp_step h (k := k) (by omega) with ⟨a, b⟩ | ⟨a, b⟩
      · rw [majP_yes a, majP_no b]; omega
      · rw [majP_no a, majP_yes b]; omega
  have := key (xs.length - 1) (Nat.le_refl _)
  have e1 : majP xs (xs.length - 1) = major xs := rfl
  have e2 : majP (opp xs) (xs.length - 1) = major (opp xs) := by rw [major, desc, opp_len]; rfl
  rw [e1, e2] at this
  rw [this]
  rcases Nat.eq_zero_or_pos xs.length with hz | hz
  · rw [hz]; rfl
  · have e3 : ((xs.length - 1 : Nat) : Int) = (xs.length : Int) - 1 := by omega
    rw [e3, Int.sub_add_cancel, Int.mul_comm]

end Go.Proofs.Ytjphaphnmclbcaa
