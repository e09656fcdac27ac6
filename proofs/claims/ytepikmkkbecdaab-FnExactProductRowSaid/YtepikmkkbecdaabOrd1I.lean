/- The program's functions of one order that make a list: InverseOrder, TurnOrder, OppositeOrder, RisingOrder. Condition: the list's cells can be read. -/
import Derived.Test.YtepikmkkbecdaabOps
import Derived.Test.YtepikmkkbecdaabValidI
namespace Go.Proofs.Ytepikmkkbecdaab
open Go.RowKit