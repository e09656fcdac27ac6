/- The draw of two names and a list's length. No condition. -/
import Derived.Test.YtjgaglfinpeeoacDrN
namespace Go.Proofs.Ytjgaglfinpeeoac
open Go.RowKit

set_option maxHeartbeats 1000000 in
theorem drawPairRows_any (bo : Option Addr) (n cap : Nat) (cs : List Int) (w : World) (h : Slb w bo n cap cs) :
    Calls Try.prog 31 #[.slice bo n cap] w fun e w' => ∃ (s t : ByteArray) (v : Int), e = .returned (.tuple #[.string s, .string t, .int .i64 v]) ∧ -1 ≤ v ∧ v ≤ 6 ∧ Below w.heap.size w w' := by
  go_enter Try.func31, Try.ntmps31
  go_wp2_with fail
  refine (newReader_any bo n cap cs w h).mono ?_
  rintro e w1 ⟨rfl, hr1, hb1⟩
  go_wp2_with fail
  refine (aName_any w.heap.size 0 w1 hr1 (by omega)).mono ?_
  rintro e w2 ⟨s, rfl, hr2, hg2⟩
  have hb2 := below_reader hb1 hg2
  go_wp2_with fail
  refine (aName_any w.heap.size (0 + 2) w2 hr2 (by omega)).mono ?_
  rintro e w3 ⟨t, rfl, hr3, hg3⟩
  have hb3 := below_reader hb2 hg3
  go_wp2_with fail
  refine (listOf_any w.heap.size (0 + 2 + 2) w3 hr3 (by omega)).mono ?_
  rintro e w4 ⟨v, rfl, hv0, hv1, hg⟩
  go_wp2
  (try simp only [Exit.inBlock, Exit.then])
  refine bodyPost_ret (results_tmp3 rfl _ _ _) rfl ?_
  exact ⟨_, _, v, rfl, hv0, hv1, below_reader hb3 hg⟩

end Go.Proofs.Ytjgaglfinpeeoac
