/- A reckoning over all orders, in eight parts: those of at most six values, and those of seven by their first values. No condition. -/
import Derived.Test.YtjphaphnmclbcaaBne
namespace Go.Proofs.Ytjphaphnmclbcaa

/-- All orders of seven values that begin with x. -/
def begun (x : Int) : List (List Int) := (perms 6 ((rng 7).erase x)).map (x :: ·)
theorem Valid.parts {xs : List Int} (h : Valid xs) {p : List Int → Bool} (h6 : (allUpTo 6).all p = true) (h7 : ∀ x ∈ rng 7, (begun x).all p = true) : p xs = true := by
  by_cases e : xs.length ≤ 6
  · exact h.all' e h6
  · have e7 : xs.length = 7 := by have := h.len; omega
    have hm := h.in_orders
    rw [e7, orders] at hm
    simp only [perms, List.mem_flatMap] at hm
    obtain ⟨x, hx, hm⟩ := hm
    exact List.all_eq_true.1 (h7 x hx) xs hm
theorem seven {P : Int → Prop} (h0 : P 0) (h1 : P 1) (h2 : P 2) (h3 : P 3) (h4 : P 4) (h5 : P 5) (h6 : P 6) : ∀ x ∈ rng 7, P x := by
  intro x hx
  have := (mem_rng 7 x).1 hx
  obtain ⟨v, rfl⟩ := Int.eq_ofNat_of_zero_le this.1
  match v, this.2 with
  | 0, _ => exact h0
  | 1, _ => exact h1
  | 2, _ => exact h2
  | 3, _ => exact h3
  | 4, _ => exact h4
  | 5, _ => exact h5
  | 6, _ => exact h6
  | v + 7, h => exact absurd h (by omega)

end Go.Proofs.Ytjphaphnmclbcaa
