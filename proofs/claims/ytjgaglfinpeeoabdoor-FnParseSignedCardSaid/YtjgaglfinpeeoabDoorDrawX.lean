/- The texts that the law of ParseSigned draws. Condition: the bytes can be read. -/
import Derived.Test.YtjgaglfinpeeoabDoorDrawG
import Derived.Test.YtjgaglfinpeeoabDoorDrawS
import Derived.Test.YtjgaglfinpeeoabDoorSgt
namespace Go.Proofs.YtjgaglfinpeeoabDoor
open Go.RowKit

set_option maxHeartbeats 1000000 in
theorem drawParseSigned_any (bo : Option Addr) (n cap : Nat) (cs : List Int) (w : World) (h : Slb w bo n cap cs) :
    Calls Tryd.prog 15 #[.slice bo n cap] w fun e w' => ∃ t : ByteArray, e = .returned (.string t) ∧ t.size ≤ 12 ∧ Below w.heap.size w w' := by
  go_enter Tryd.func15, Tryd.ntmps15
  go_wp2_with fail
  refine (newReader_any bo n cap cs w h).mono ?_
  rintro e w1 ⟨rfl, hr1, hb1⟩
  go_wp2_with fail
  refine (pick_any w.heap.size 0 6 w1 hr1 (by omega) (by omega)).mono ?_
  rintro e w2 ⟨v, rfl, hv0, hv1, hr2, hg2⟩
  obtain ⟨m, rfl⟩ := Int.eq_ofNat_of_zero_le hv0
  have hm : m ≤ 6 := by have := Int.max_eq_left (show (1 : Int) ≤ 6 by omega); omega
  clear hv0 hv1
  go_wp2_with fail
  refine (aSigned_any w.heap.size (0 + 1) m w2 hr2 (by omega) (by omega)).mono ?_
  rintro e w3 ⟨u, ys, q, rfl, ho, hl, hq, hr3, hg3, -⟩
  have hg03 := grown_trans hg2 hg3
  obtain ⟨a, c, rfl, hs⟩ := ho.sl
  clear hl
  have hln : (BA (txW ys)).size ≤ 10 := by rw [BA_size]; exact txW_len ys
  go_wp2_with fail
  refine (sgtS_any _ _ _ ys _ hs).mono ?_
  rintro e w4 ⟨rfl, hb4⟩
  generalize BA (txW ys) = tx at *
  have hr4 := hr3.below hb4
  have hg4 := grown_trans hg03 (grown_of_below (row := some w.heap.size) hb4)
  go_wp2_with fail
  refine (pick_any w.heap.size q 3 w4 hr4 (by omega) (by omega)).mono ?_
  rintro e w5 ⟨v, rfl, hv0, hv1, hr5, hg5⟩
  have hg5 := grown_trans hg4 hg5
  by_cases hz : v = 0
  · subst hz
    go_wp2_with fail
    refine (mutate_any w.heap.size (q + 1) tx w5 hr5 (by omega) (by omega)).mono ?_
    rintro e w6 ⟨t, rfl, ht, hg6⟩
    go_wp2
    go_ret
    exact ⟨_, rfl, ht, below_reader hb1 (grown_trans hg5 hg6)⟩
  · have hz1 : (v == 0) = false := by simpa using hz
    clear hz
    go_wp2
    go_ret
    exact ⟨_, rfl, by omega, below_reader hb1 hg5⟩

end Go.Proofs.YtjgaglfinpeeoabDoor
