/- The draws of names and of lists' lengths. No condition. -/
import Derived.Test.YtjgaglfinpeeoacBnd
import Derived.Test.YtjgaglfinpeeoacDrawS
import Derived.Test.YtjgaglfinpeeoacDraw5
import Derived.Test.YtjgaglfinpeeoacCof
namespace Go.Proofs.Ytjgaglfinpeeoac
open Go.RowKit

def n3 : List ByteArray := [⟨#[]⟩, ⟨#[77, 97, 106, 111, 114]⟩, ⟨#[102, 105, 120, 101, 100]⟩]
def n9 : List ByteArray := [⟨#[105, 110, 118, 101, 114, 115, 105, 111, 110, 115]⟩, ⟨#[109, 97, 106, 111, 114]⟩, ⟨#[100, 101, 115, 99, 101, 110, 116, 115]⟩, ⟨#[97, 98, 111, 118, 101]⟩, ⟨#[100, 101, 110, 101, 114, 116]⟩, ⟨#[114, 101, 99, 111, 114, 100, 115]⟩, ⟨#[99, 105, 114, 99, 108, 101, 115]⟩, ⟨#[99, 114, 111, 115, 115, 105, 110, 103, 115]⟩, ⟨#[110, 101, 115, 116, 105, 110, 103, 115]⟩]

set_option maxHeartbeats 2000000 in
theorem aName_any (R q : Nat) (w : World) (h : Rdr w R q) (hq : q ≤ 100) :
    Calls Try.prog 52 #[.pointer (some ⟨R, 0, none⟩)] w fun e w' => ∃ s : ByteArray, e = .returned (.string s) ∧ Rdr w' R (q + 2) ∧ w.grownBy w' (some R) := by
  go_enter Try.func52, Try.ntmps52
  go_wp2_with fail
  refine (pick_any R q 24 w h (by omega) (by omega)).mono ?_
  rintro e w1 ⟨k, rfl, hk0, hk1, hr1, hg1⟩
  have hne : w1.heap.size ≠ R := by have := hr1.lt; omega
  have Ha3 := hid (ArrS.made w1 9 n3)
  have Ha9 := hid (ArrS.made w1 9 n9)
  have Hr3 : Hid (Rdr (w1.alloc (.cells (n3.map Value.string).toArray 9)) R (q + 1)) := hid (hr1.below ((Below.refl w1.heap.size w1).alloc (Nat.le_refl _) _))
  have Hr9 : Hid (Rdr (w1.alloc (.cells (n9.map Value.string).toArray 9)) R (q + 1)) := hid (hr1.below ((Below.refl w1.heap.size w1).alloc (Nat.le_refl _) _))
  clear hk0 hk1
  by_cases hk : k = 0
  · subst hk
    go_wp2_with fail
    refine (of_any R (q + 1) w1.heap.size 3 9 n3 _ Hr3.out (by omega) Ha3.out rfl (by omega) (by omega) hne).mono ?_
    rintro e w2 ⟨j, hj, rfl, hr2, hg2⟩
    go_wp2
    go_ret
    exact ⟨_, rfl, hr2, grown_trans hg1 (grown_trans (World.grownBy_alloc w1 _ _) hg2)⟩
  · have hkb : (k == 0) = false := by rw [beq_eq_false_iff_ne]; exact hk
    go_wp2_with fail
    refine (of_any R (q + 1) w1.heap.size 9 9 n9 _ Hr9.out (by omega) Ha9.out rfl (by omega) (by omega) hne).mono ?_
    rintro e w2 ⟨j, hj, rfl, hr2, hg2⟩
    go_wp2
    go_ret
    exact ⟨_, rfl, hr2, grown_trans hg1 (grown_trans (World.grownBy_alloc w1 _ _) hg2)⟩

set_option maxHeartbeats 1000000 in
theorem listOf_any (R q : Nat) (w : World) (hr1 : Rdr w R q) (hq : q ≤ 100) :
    Calls Try.prog 53 #[.pointer (some ⟨R, 0, none⟩)] w fun e w' => ∃ v : Int, e = .returned (.int .i64 v) ∧ -1 ≤ v ∧ v ≤ 6 ∧ w.grownBy w' (some R) := by
  go_enter Try.func53, Try.ntmps53
  have ha := lit_arr w [3, 4, 2, 1, 0, 5, 6, -1]
  have hr := hr1.below ((Below.refl w.heap.size w).alloc (Nat.le_refl _) (.cells ([3, 4, 2, 1, 0, 5, 6, -1].map (Value.int .i64)).toArray 3))
  have hne : w.heap.size ≠ R := by have := hr1.lt; omega
  have Ha := hid ha
  have Hr := hid hr
  clear ha hr
  go_wp2_with fail
  refine (one_any R q w.heap.size 8 3 [3, 4, 2, 1, 0, 5, 6, -1] _ Hr.out (by omega) Ha.out rfl (by omega) (by omega) hne).mono ?_
  rintro e w2 ⟨j, hj, rfl, hr2, hg2⟩
  have hv : ∀ j, j < 8 → -1 ≤ el [3, 4, 2, 1, 0, 5, 6, -1] j ∧ el [3, 4, 2, 1, 0, 5, 6, -1] j ≤ 6 := by decide
  have hv' := hv j hj
  obtain ⟨v, hv2⟩ : ∃ v, v = el [3, 4, 2, 1, 0, 5, 6, -1] j := ⟨_, rfl⟩
  rw [← hv2] at hv' ⊢
  clear hv hv2 hj
  go_wp2
  go_ret
  exact ⟨v, rfl, hv'.1, hv'.2, grown_trans (World.grownBy_alloc w _ _) hg2⟩

end Go.Proofs.Ytjgaglfinpeeoac
