/- The draws of orders of the third chapter. Condition: the bytes can be read. -/
import Derived.Test.YtlhphgldmefefaaDraw4
namespace Go.Proofs.Ytlhphgldmefefaa
open Go.RowKit

theorem drawToLine_any (bo : Option Addr) (n cap : Nat) (cs : List Int) (w : World) (h : Slb w bo n cap cs) :
    Calls Try.prog 54 #[.slice bo n cap] w (Drawn w) := by
  go_enter Try.func54, Try.ntmps54
  go_wp2_with fail
  refine (newReader_any bo n cap cs w h).mono ?_
  rintro e w1 ⟨rfl, hr1, hb1⟩
  go_wp2_with fail
  refine (someOrder_any w.heap.size 0 w1 hr1 (by omega)).mono ?_
  rintro e w2 ⟨u, ys, q, rfl, ho, hl, -, -, hg⟩
  go_wp2
  go_ret
  exact ⟨_, ys, rfl, ho.mono hb1.size, hl, below_reader hb1 hg⟩

theorem drawFromLine_any (bo : Option Addr) (n cap : Nat) (cs : List Int) (w : World) (h : Slb w bo n cap cs) :
    Calls Try.prog 59 #[.slice bo n cap] w (Drawn w) := by
  go_enter Try.func59, Try.ntmps59
  go_wp2_with fail
  refine (newReader_any bo n cap cs w h).mono ?_
  rintro e w1 ⟨rfl, hr1, hb1⟩
  go_wp2_with fail
  refine (someOrder_any w.heap.size 0 w1 hr1 (by omega)).mono ?_
  rintro e w2 ⟨u, ys, q, rfl, ho, hl, -, -, hg⟩
  go_wp2
  go_ret
  exact ⟨_, ys, rfl, ho.mono hb1.size, hl, below_reader hb1 hg⟩

end Go.Proofs.Ytlhphgldmefefaa
