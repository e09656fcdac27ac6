/- What the frames of the laws that list variables share: what the listed table gives, and a world in which the variables lie as their initialisers lay them. No condition. -/
import Derived.Test.YtjgaglfinpeeoabDoorSgt
import Derived.Test.YtjgaglfinpeeoabDoorRows
import Derived.Test.YtjgaglfinpeeoabDoorFrame
import Derived.Stop.LaidErr
import Derived.LaidMore
import Derived.LaidHandle
import Derived.LaidLaws
import Derived.MakeChecks
import Derived.Stop.Joined
namespace Go.Proofs.YtjgaglfinpeeoabDoor
open Go.ChangeShapes Go.WideShapes Go.ChangeAt Go.RowKit

def laid3 : List (String × DataW Unit) := Rows.fnSignedTextRow.laid
theorem laid_pow {W : World} (h : laidMetH Tryd.prog laid3 W) : Pow W := by
  rw [MakeChecks.laidMetH_plain _ _ _ (by kernel_rfl)] at h
  have h3 := h.tail.tail
  exact Lib.tabIs_of_head (g := 0) (t := 79) (e := 72) (n := 20) gPow (by kernel_rfl) Tryd.underlying79 Tryd.underlying72 (by kernel_rfl) (by kernel_rfl) h3
theorem door_met (os : Os) (args : Array Value) : laidMetH Tryd.prog laid3 ((World.doorLaid Tryd.prog 400 os).forCall (fun _ _ => 0) ⟨#[], args, []⟩).memory :=
  laidMetH_of_parts3 (fuel := 8) (laidMet_of_run' 8 (by kernel_rfl) (by kernel_rfl)) (by kernel_rfl) (by kernel_rfl)

end Go.Proofs.YtjgaglfinpeeoabDoor
