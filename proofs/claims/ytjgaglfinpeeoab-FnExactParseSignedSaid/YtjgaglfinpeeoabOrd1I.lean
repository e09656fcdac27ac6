/- The program's functions of one order that make a list: InverseOrder, TurnOrder, OppositeOrder, RisingOrder. Condition: the list's cells can be read. -/
import Derived.Test.YtjgaglfinpeeoabOps
import Derived.Test.YtjgaglfinpeeoabValidI
namespace Go.Proofs.Ytjgaglfinpeeoab
open Go.RowKit