/- Whether numbers are a table, in the program and in its model. Condition: the list's cells can be read. -/
import Derived.Test.YtpokoknapapdcaaOrd1I
import Derived.Test.YtpokoknapapdcaaOrd1S
namespace Go.Proofs.Ytpokoknapapdcaa
open Go.RowKit

end Go.Proofs.Ytpokoknapapdcaa
