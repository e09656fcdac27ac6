/- Circles, in the program and in its model. Condition: the list's cells can be read. -/
import Derived.Test.YtlhphgldmefefacOrd1I
import Derived.Test.YtlhphgldmefefacOrd1S
import Derived.Test.YtlhphgldmefefacOwnL
import Derived.Test.YtlhphgldmefefacMirCy
import Derived.Test.YtlhphgldmefefacOfT
namespace Go.Proofs.Ytlhphgldmefefac
open Go.RowKit

/-- Are the first t values of a circle at least x? -/
def leaP (xs : List Int) (x : Int) (t : Nat) : Bool := (List.range t).all fun j => decide (x ≤ itr xs x j)
theorem leaP_succ (xs : List Int) (x : Int) (t : Nat) : leaP xs x (t + 1) = (leaP xs x t && decide (x ≤ itr xs x t)) := by
  rw [leaP, List.range_succ, List.all_append]; simp [leaP]
theorem lea_eq (xs : List Int) (x : Int) : lea xs x = leaP xs x (per xs x) := by
  rw [lea, cyc, List.all_map]; rfl

theorem madeL_no {w w1 : World} {xs : List Int} {yss : List (List Int)} (h : ¬ Valid xs) (hb : Below w.heap.size w w1) : MadeL w (onVL xs yss) (.returned (.slice none 0 0)) w1 :=
  ⟨_, rfl, by rw [onVL_no h]; exact ((OwnL.nil hb.size).mono (Nat.le_refl _)).now, hb⟩

theorem take_cyc {xs : List Int} {x : Int} {t : Nat} (ht : t < per xs x) (v : Int) : decide (v ∈ (cyc xs x).take (t + 1)) = (decide (v ∈ (cyc xs x).take t) || decide (v = itr xs x t)) := by
  rw [take_el (by rw [cyc_len]; exact ht), el_cyc ht]
  simp

end Go.Proofs.Ytlhphgldmefefac
