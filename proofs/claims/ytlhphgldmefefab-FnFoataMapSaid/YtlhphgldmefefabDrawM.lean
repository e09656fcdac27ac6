/- The draws of orders of the third chapter. Condition: the bytes can be read. -/
import Derived.Test.YtlhphgldmefefabDraw4
namespace Go.Proofs.Ytlhphgldmefefab
open Go.RowKit

theorem drawFoataMap_any (bo : Option Addr) (n cap : Nat) (cs : List Int) (w : World) (h : Slb w bo n cap cs) :
    Calls Try.prog 15 #[.slice bo n cap] w (Drawn w) := by
  go_enter Try.func15, Try.ntmps15
  go_wp2_with fail
  refine (newReader_any bo n cap cs w h).mono ?_
  rintro e w1 ⟨rfl, hr1, hb1⟩
  go_wp2_with fail
  refine (someOrder_any w.heap.size 0 w1 hr1 (by omega)).mono ?_
  rintro e w2 ⟨u, ys, q, rfl, ho, hl, -, -, hg⟩
  go_wp2
  go_ret
  exact ⟨_, ys, rfl, ho.mono hb1.size, hl, below_reader hb1 hg⟩

theorem drawFoataBack_any (bo : Option Addr) (n cap : Nat) (cs : List Int) (w : World) (h : Slb w bo n cap cs) :
    Calls Try.prog 25 #[.slice bo n cap] w (Drawn w) := by
  go_enter Try.func25, Try.ntmps25
  go_wp2_with fail
  refine (newReader_any bo n cap cs w h).mono ?_
  rintro e w1 ⟨rfl, hr1, hb1⟩
  go_wp2_with fail
  refine (someOrder_any w.heap.size 0 w1 hr1 (by omega)).mono ?_
  rintro e w2 ⟨u, ys, q, rfl, ho, hl, -, -, hg⟩
  go_wp2
  go_ret
  exact ⟨_, ys, rfl, ho.mono hb1.size, hl, below_reader hb1 hg⟩

theorem drawMajorTable_any (bo : Option Addr) (n cap : Nat) (cs : List Int) (w : World) (h : Slb w bo n cap cs) :
    Calls Try.prog 31 #[.slice bo n cap] w (Drawn w) := by
  go_enter Try.func31, Try.ntmps31
  go_wp2_with fail
  refine (newReader_any bo n cap cs w h).mono ?_
  rintro e w1 ⟨rfl, hr1, hb1⟩
  go_wp2_with fail
  refine (someOrder_any w.heap.size 0 w1 hr1 (by omega)).mono ?_
  rintro e w2 ⟨u, ys, q, rfl, ho, hl, -, -, hg⟩
  go_wp2
  go_ret
  exact ⟨_, ys, rfl, ho.mono hb1.size, hl, below_reader hb1 hg⟩

theorem drawExceedMap_any (bo : Option Addr) (n cap : Nat) (cs : List Int) (w : World) (h : Slb w bo n cap cs) :
    Calls Try.prog 41 #[.slice bo n cap] w (Drawn w) := by
  go_enter Try.func41, Try.ntmps41
  go_wp2_with fail
  refine (newReader_any bo n cap cs w h).mono ?_
  rintro e w1 ⟨rfl, hr1, hb1⟩
  go_wp2_with fail
  refine (someOrder_any w.heap.size 0 w1 hr1 (by omega)).mono ?_
  rintro e w2 ⟨u, ys, q, rfl, ho, hl, -, -, hg⟩
  go_wp2
  go_ret
  exact ⟨_, ys, rfl, ho.mono hb1.size, hl, below_reader hb1 hg⟩

end Go.Proofs.Ytlhphgldmefefab
