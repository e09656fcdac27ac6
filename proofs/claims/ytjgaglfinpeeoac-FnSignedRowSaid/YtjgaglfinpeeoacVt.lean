/- Whether numbers are a table, in the program and in its model. Condition: the list's cells can be read. -/
import Derived.Test.YtjgaglfinpeeoacBnd
namespace Go.Proofs.Ytjgaglfinpeeoac
open Go.RowKit

end Go.Proofs.Ytjgaglfinpeeoac
