/- Crossings, nestings and other pairs of places, in the program and in its model. Condition: the list's cells can be read. -/
import Derived.Test.YthaiodjeamjjnaaOrd1I
import Derived.Test.YthaiodjeamjjnaaOrd1S
import Derived.Test.YthaiodjeamjjnaaMirC
import Derived.Test.YthaiodjeamjjnaaFinPairsC
namespace Go.Proofs.Ythaiodjeamjjnaa
open Go.RowKit

end Go.Proofs.Ythaiodjeamjjnaa
