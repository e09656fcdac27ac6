/- What the program and its model answer when asked whether numbers are an order: both say so exactly if they are. No condition but that the list's cells can be read. -/
import Derived.Test.YtjgaglfinpeeoabKit
import Derived.Test.YtjgaglfinpeeoabChecked
namespace Go.Proofs.Ytjgaglfinpeeoab
open Go.RowKit