/- Whether numbers are a table, in the program and in its model. Condition: the list's cells can be read. -/
import Derived.Test.YtlhphgldmefefabOrd1I
import Derived.Test.YtlhphgldmefefabOrd1S
namespace Go.Proofs.Ytlhphgldmefefab
open Go.RowKit

end Go.Proofs.Ytlhphgldmefefab
