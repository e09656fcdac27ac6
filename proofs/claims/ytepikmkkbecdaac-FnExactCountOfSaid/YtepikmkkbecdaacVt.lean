/- Whether numbers are a table, in the program and in its model. Condition: the list's cells can be read. -/
import Derived.Test.YtepikmkkbecdaacOrd1I
import Derived.Test.YtepikmkkbecdaacOrd1S
namespace Go.Proofs.Ytepikmkkbecdaac
open Go.RowKit

end Go.Proofs.Ytepikmkkbecdaac
