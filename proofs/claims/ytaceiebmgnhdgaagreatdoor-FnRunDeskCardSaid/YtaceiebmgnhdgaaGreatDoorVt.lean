/- Whether numbers are a table, in the program and in its model. Condition: the list's cells can be read. -/
import Derived.Test.YtaceiebmgnhdgaaGreatDoorBnd
namespace Go.Proofs.YtaceiebmgnhdgaaGreatDoor
open Go.RowKit

end Go.Proofs.YtaceiebmgnhdgaaGreatDoor
