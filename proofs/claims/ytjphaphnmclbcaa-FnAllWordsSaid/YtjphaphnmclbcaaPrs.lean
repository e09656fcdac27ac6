/- Crossings, nestings and other pairs of places, in the program and in its model. Condition: the list's cells can be read. -/
import Derived.Test.YtjphaphnmclbcaaBnf
import Derived.Test.YtjphaphnmclbcaaBne
import Derived.Test.YtjphaphnmclbcaaBnh
namespace Go.Proofs.Ytjphaphnmclbcaa
open Go.RowKit

end Go.Proofs.Ytjphaphnmclbcaa
