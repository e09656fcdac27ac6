/- Crossings, nestings and other pairs of places, in the program and in its model. Condition: the list's cells can be read. -/
import Derived.Test.YtjphaphnmclbcaaBnd
namespace Go.Proofs.Ytjphaphnmclbcaa
open Go.RowKit

end Go.Proofs.Ytjphaphnmclbcaa
