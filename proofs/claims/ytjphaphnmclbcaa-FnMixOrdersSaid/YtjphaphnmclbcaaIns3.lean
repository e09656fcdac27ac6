/- Values taken out, in the model. Condition: the lists' cells can be read. -/
import Derived.Test.YtjphaphnmclbcaaIns
namespace Go.Proofs.Ytjphaphnmclbcaa
open Go.RowKit

/-- How many numbers among the first k come ahead of that at i. -/
def rkC (xs : List Int) (i : Nat) : Int := cntP (rkF xs i) xs.length

end Go.Proofs.Ytjphaphnmclbcaa
