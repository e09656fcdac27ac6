/- Whether numbers are a table, in the program and in its model. Condition: the list's cells can be read. -/
import Derived.Test.YtlhphgldmefefacOrd1I
import Derived.Test.YtlhphgldmefefacOrd1S
namespace Go.Proofs.Ytlhphgldmefefac
open Go.RowKit

end Go.Proofs.Ytlhphgldmefefac
