/- The model's functions of one order that make a list: rising, RisingOrder, inverse, InverseOrder, turned, TurnOrder, OppositeOrder. Condition: the list's cells can be read. -/
import Derived.Test.YtjgaglfinpeeoabDoorOps
import Derived.Test.YtjgaglfinpeeoabDoorValid
namespace Go.Proofs.YtjgaglfinpeeoabDoor
open Go.RowKit

theorem own_lit (w : World) : Own (w.alloc (.cells #[] 3)) w.heap.size (.slice (some ⟨w.heap.size, 0, none⟩) 0 0) [] :=
  World.ownsRow_lit w #[] 0 (Nat.le_refl _) (Nat.zero_le _) rfl

theorem own_lit_at {w : World} {B : Nat} (hB : B ≤ w.heap.size) : Own (w.alloc (.cells #[] 3)) B (.slice (some ⟨w.heap.size, 0, none⟩) 0 0) [] := (own_lit w).mono hB

end Go.Proofs.YtjgaglfinpeeoabDoor
