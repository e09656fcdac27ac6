/- More draws: numbers, and two lists. Condition: the bytes can be read. -/
import Derived.Test.YtjphaphnmclbcaaDraw4
namespace Go.Proofs.Ytjphaphnmclbcaa
open Go.RowKit

/-- A number was drawn. -/
def DrawnI (w : World) (lo hi : Int) (e : Ending) (w' : World) : Prop := ∃ v : Int, e = .returned (.int .i64 v) ∧ lo ≤ v ∧ v ≤ hi ∧ Below w.heap.size w w'

end Go.Proofs.Ytjphaphnmclbcaa
