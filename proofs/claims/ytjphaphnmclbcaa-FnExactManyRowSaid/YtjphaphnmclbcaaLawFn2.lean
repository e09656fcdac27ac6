/- More of the laws' own small functions: a number in a list, ascending lists, products. Condition: the lists' cells can be read. -/
import Derived.Test.YtjphaphnmclbcaaLawFn
import Derived.Test.YtjphaphnmclbcaaRank
import Derived.Test.YtjphaphnmclbcaaFinMajor
namespace Go.Proofs.Ytjphaphnmclbcaa
open Go.RowKit

def Asc (xs : List Int) : Prop := ∀ i, i < xs.length → 0 < i → el xs (i - 1) < el xs i
instance (xs : List Int) : Decidable (Asc xs) := inferInstanceAs (Decidable (∀ i, i < xs.length → 0 < i → el xs (i - 1) < el xs i))

theorem mem_dsP (xs : List Int) (i : Nat) : ∀ k, ((i : Int) ∈ dsP xs k) ↔ (i < k ∧ el xs (i + 1) < el xs i) := by
  intro k
  induction k with
  | zero => simp [dsP]
  | succ k ih =>
    by_cases e : el xs (k + 1) < el xs k
    · rw [dsP_yes e, List.mem_append, ih, List.mem_singleton]
      constructor
      · rintro (⟨a, b⟩ | a)
        · exact ⟨by omega, b⟩
        · obtain rfl : i = k := by omega
          exact ⟨by omega, e⟩
      · rintro ⟨a, b⟩
        by_cases ei : i = k
        · right; omega
        · left; exact ⟨by omega, b⟩
    · rw [dsP_no (by omega), ih]
      constructor
      · rintro ⟨a, b⟩; exact ⟨by omega, b⟩
      · rintro ⟨a, b⟩
        refine ⟨?_, b⟩
        rcases Nat.lt_or_ge i k with h | h
        · exact h
        · obtain rfl : i = k := by omega
          exact absurd b e
theorem mem_desc {xs : List Int} {i : Nat} (h : i + 1 < xs.length) : ((i : Int) ∈ desc xs) ↔ el xs (i + 1) < el xs i := by
  rw [desc, mem_dsP]
  constructor
  · exact fun a => a.2
  · exact fun a => ⟨by omega, a⟩

theorem opp_fall {xs : List Int} (hv : Valid xs) {i : Nat} (h : i + 1 < xs.length) : (decide ((i : Int) ∈ desc xs) == decide ((i : Int) ∈ desc (opp xs))) = false := by
  have h1 := mem_desc h
  have h2 := mem_desc (xs := opp xs) (i := i) (by rw [opp_len]; exact h)
  rw [decide_eq_decide.2 h1, decide_eq_decide.2 h2]
  rcases opp_step hv h with ⟨a, b⟩ | ⟨a, b⟩
  · rw [decide_eq_true a, decide_eq_false (by omega)]; rfl
  · rw [decide_eq_false (by omega), decide_eq_true b]; rfl

theorem opp_opp {xs : List Int} : opp (opp xs) = xs := by
  refine ext_el (by rw [opp_len, opp_len]) (fun j hj => ?_)
  rw [opp_len, opp_len] at hj
  rw [el_opp (by rw [opp_len]; exact hj), el_opp hj, opp_len]
  omega

end Go.Proofs.Ytjphaphnmclbcaa
