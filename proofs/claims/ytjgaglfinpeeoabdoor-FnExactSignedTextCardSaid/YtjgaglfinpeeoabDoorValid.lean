/- What the program and its model answer when asked whether numbers are an order: both say so exactly if they are. No condition but that the list's cells can be read. -/
import Derived.Test.YtjgaglfinpeeoabDoorKit
import Derived.Test.YtjgaglfinpeeoabDoorChecked
namespace Go.Proofs.YtjgaglfinpeeoabDoor
open Go.RowKit