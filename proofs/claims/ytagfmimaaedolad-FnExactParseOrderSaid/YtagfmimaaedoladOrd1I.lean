/- The program's functions of one order that make a list: InverseOrder, TurnOrder, OppositeOrder, RisingOrder. Condition: the list's cells can be read. -/
import Derived.Test.YtagfmimaaedoladOps
import Derived.Test.YtagfmimaaedoladValidI
namespace Go.Proofs.Ytagfmimaaedolad
open Go.RowKit