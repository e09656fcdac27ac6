/- The program's functions of one order that make a list: InverseOrder, TurnOrder, OppositeOrder, RisingOrder. Condition: the list's cells can be read. -/
import Derived.Test.YthaiodjeamjjnaaOps
import Derived.Test.YthaiodjeamjjnaaValidI
namespace Go.Proofs.Ythaiodjeamjjnaa
open Go.RowKit