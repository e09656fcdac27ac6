/- The program's functions of one order that make a list: InverseOrder, TurnOrder, OppositeOrder, RisingOrder. Condition: the list's cells can be read. -/
import Derived.Test.YtjgaglfinpeeoabDoorOps
import Derived.Test.YtjgaglfinpeeoabDoorValidI
namespace Go.Proofs.YtjgaglfinpeeoabDoor
open Go.RowKit