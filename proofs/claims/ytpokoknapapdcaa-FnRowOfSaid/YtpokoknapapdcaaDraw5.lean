/- More draws: numbers, and two lists. Condition: the bytes can be read. -/
import Derived.Test.YtpokoknapapdcaaBnd
namespace Go.Proofs.Ytpokoknapapdcaa
open Go.RowKit

/-- A number was drawn. -/
def DrawnI (w : World) (lo hi : Int) (e : Ending) (w' : World) : Prop := ∃ v : Int, e = .returned (.int .i64 v) ∧ lo ≤ v ∧ v ≤ hi ∧ Below w.heap.size w w'

set_option maxHeartbeats 1000000 in
theorem drawRisingOrder_any (bo : Option Addr) (n cap : Nat) (cs : List Int) (w : World) (h : Slb w bo n cap cs) :
    Calls Try.prog 53 #[.slice bo n cap] w (DrawnI w (-1) 8) := by
  go_enter Try.func53, Try.ntmps53
  go_wp2_with fail
  refine (newReader_any bo n cap cs w h).mono ?_
  rintro e w1 ⟨rfl, hr1, hb1⟩
  have ha := lit_arr w1 [4, 3, 5, 2, 6, 7, 1, 0, 8, -1]
  have hr := hr1.below ((Below.refl w1.heap.size w1).alloc (Nat.le_refl _) (.cells ([4, 3, 5, 2, 6, 7, 1, 0, 8, -1].map (Value.int .i64)).toArray 3))
  have hlt := hr1.lt
  have Ha := hid ha
  have Hr := hid hr
  clear ha hr
  go_wp2_with fail
  refine (one_any w.heap.size 0 w1.heap.size 10 3 [4, 3, 5, 2, 6, 7, 1, 0, 8, -1] _ Hr.out (by omega) Ha.out rfl (by omega) (by omega) (by omega)).mono ?_
  rintro e w2 ⟨j, hj, rfl, hr2, hg2⟩
  have hv : ∀ j, j < 10 → -1 ≤ el [4, 3, 5, 2, 6, 7, 1, 0, 8, -1] j ∧ el [4, 3, 5, 2, 6, 7, 1, 0, 8, -1] j ≤ 8 := by decide
  have hv' := hv j hj
  obtain ⟨v, hv2⟩ : ∃ v, v = el [4, 3, 5, 2, 6, 7, 1, 0, 8, -1] j := ⟨_, rfl⟩
  rw [← hv2] at hv' ⊢
  have hva := hv'.1
  have hvb := hv'.2
  clear hv hv' hv2 hj
  go_wp2
  go_ret
  exact ⟨v, rfl, hva, hvb, below_reader (hb1.alloc hb1.size _) hg2⟩

end Go.Proofs.Ytpokoknapapdcaa
