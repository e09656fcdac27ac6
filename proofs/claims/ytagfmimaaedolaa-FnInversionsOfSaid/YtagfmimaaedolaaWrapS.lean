/- What the model's functions of orders answer, one contract a function. Conditions: cells can be read; of a table, at most seven numbers. -/
import Derived.Test.YtagfmimaaedolaaValid
namespace Go.Proofs.Ytagfmimaaedolaa
open Go.RowKit

theorem validSW_any (ao : Option Addr) (n cap : Nat) (xs : List Int) (w : World) (h : Sl w ao n cap xs) :
    Calls Try.prog 17 #[.slice ao n cap] w (Says w (.bool (decide (Valid xs)))) := by
  go_enter Try.func17, Try.ntmps17
  go_wp2_with fail
  refine (validS_any _ _ _ xs _ h).mono ?_
  rintro e w1 ⟨rfl, hb⟩
  go_wp2
  go_ret
  exact ⟨rfl, hb⟩
end Go.Proofs.Ytagfmimaaedolaa
