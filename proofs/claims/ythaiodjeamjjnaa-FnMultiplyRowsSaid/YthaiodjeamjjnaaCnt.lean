/- Places above, fixed places, records and shifts, in the program and in its model. Condition: the list's cells can be read. -/
import Derived.Test.YthaiodjeamjjnaaOrd1I
import Derived.Test.YthaiodjeamjjnaaOrd1S
import Derived.Test.YthaiodjeamjjnaaMirC
namespace Go.Proofs.Ythaiodjeamjjnaa
open Go.RowKit

theorem max_lt (a b : Int) : (if a < b then b else a) = max a b := by rw [Int.max_def]; split <;> split <;> omega

end Go.Proofs.Ythaiodjeamjjnaa
