/- Descents, major indices and signs, in the program and in its model. Condition: the list's cells can be read. -/
import Derived.Test.YtjgaglfinpeeoabDoorTab
namespace Go.Proofs.YtjgaglfinpeeoabDoor
open Go.RowKit

end Go.Proofs.YtjgaglfinpeeoabDoor
