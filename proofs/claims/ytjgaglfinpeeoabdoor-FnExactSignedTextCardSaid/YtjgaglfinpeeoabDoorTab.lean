/- Tables and their sums, in the program and in its model: lesserBehind, sum, TableOf, InversionsOf, SignOf. Condition: the list's cells can be read; of sum: few small numbers. -/
import Derived.Test.YtjgaglfinpeeoabDoorOrd1I
import Derived.Test.YtjgaglfinpeeoabDoorOrd1S
namespace Go.Proofs.YtjgaglfinpeeoabDoor
open Go.RowKit

theorem table_small {xs : List Int} (h : Valid xs) : ∀ j, j < (table xs).length → 0 ≤ el (table xs) j ∧ el (table xs) j ≤ (1000 : Nat) := fun j hj => by
  have := table_bd xs j hj
  have := h.len
  omega

end Go.Proofs.YtjgaglfinpeeoabDoor
