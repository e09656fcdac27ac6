/- The row of a content: the product of its binomial rows, and what the kernel reckons of all contents. -/
import Derived.Test.YtjphaphnmclbcaaPoc
import Derived.Test.YtjphaphnmclbcaaBnP
import Derived.Test.YtjphaphnmclbcaaBnd
namespace Go.Proofs.Ytjphaphnmclbcaa
open Go Go.RowKit

/-- The binomial rows of a content. -/
def rowsOf (c : List Int) : List (List Int) := [binL (el c 0) (el c 0), binL (el c 0 + el c 1) (el c 1), binL (el c 0 + el c 1 + el c 2) (el c 2), binL (el c 0 + el c 1 + el c 2 + el c 3) (el c 3)]
/-- The row of a content. -/
def mnL (c : List Int) : List Int := if VC c then prodQ (rowsOf c) 4 else []
def bsB (zs : List Int) : Bool := zs.all fun x => decide (-1000000 ≤ x ∧ x ≤ 1000000)
theorem bs_of {zs : List Int} (h : bsB zs = true) : Bs zs 1000000 := fun j => by
  by_cases hj : j < zs.length
  · rw [el_lt hj]
    exact of_decide_eq_true (List.all_eq_true.1 h _ (List.getElem_mem hj))
  · have : el zs j = 0 := by simp [el, hj]
    rw [this]
    omega
def chkM (c : List Int) : Bool := (List.range 4).all fun k => bsB (ell (rowsOf c) k) && decide (0 < (ell (rowsOf c) k).length ∧ (ell (rowsOf c) k).length ≤ 30) && bsB (prodQ (rowsOf c) k) && decide (0 < (prodQ (rowsOf c) k).length ∧ (prodQ (rowsOf c) k).length ≤ 30)
theorem chkM_all {c : List Int} (h : VC c) : chkM c = true := vc_all chkM (by decide +kernel) c h
theorem rows_ok {c : List Int} (h : VC c) {k : Nat} (hk : k < 4) : (Bs (ell (rowsOf c) k) 1000000 ∧ 0 < (ell (rowsOf c) k).length ∧ (ell (rowsOf c) k).length ≤ 30) ∧ (Bs (prodQ (rowsOf c) k) 1000000 ∧ 0 < (prodQ (rowsOf c) k).length ∧ (prodQ (rowsOf c) k).length ≤ 30) := by
  have h1 := List.all_eq_true.1 (chkM_all h) k (List.mem_range.2 hk)
  rw [Bool.and_eq_true, Bool.and_eq_true, Bool.and_eq_true] at h1
  exact ⟨⟨bs_of h1.1.1.1, of_decide_eq_true h1.1.1.2⟩, ⟨bs_of h1.1.2, of_decide_eq_true h1.2⟩⟩

end Go.Proofs.Ytjphaphnmclbcaa
