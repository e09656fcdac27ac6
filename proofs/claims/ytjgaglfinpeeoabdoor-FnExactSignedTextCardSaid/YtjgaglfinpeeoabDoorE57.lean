/- The walk of the exact law of SignedText. Conditions: at most 2^20 numbers is the law's own; that they have 64 bits, and that the library's table of powers of ten holds what its initialiser lays. -/
import Derived.Test.YtjgaglfinpeeoabDoorSgt
import Derived.Test.YtjgaglfinpeeoabDoorCopy
namespace Go.Proofs.YtjgaglfinpeeoabDoor
open Go.RowKit

set_option maxHeartbeats 2000000 in
theorem exactSignedText (ao : Option Addr) (n cap : Nat) (xs : List Int) (w : World) (h : Sl w ao n cap xs) (Hr : Hid (R64 xs)) (hp : Pow w) :
    Calls Tryd.prog 4 #[.slice ao n cap] w (Says w (.bool true)) := by
  have hbig := h.big
  have Hp := hid hp
  by_cases hn : n ≤ 1048576
  · have t0 := Below.refl w.heap.size w
    go_enter Tryd.func4, Tryd.ntmps4
    go_wp2_with fail
    refine (toIntS_any _ _ _ xs _ h hn).mono ?_
    rintro e w1 ⟨uv, rfl, v_1, b1⟩
    have t1 := t0.trans (b1.mono t0.size)
    obtain ⟨adv, cpv, rfl, -⟩ := v_1.sl
    go_wp2_with fail
    refine (sgtS_any _ _ _ xs _ v_1.read).mono ?_
    rintro e w2 ⟨rfl, b2⟩
    have t2 := t1.trans (b2.mono t1.size)
    have v_2 := v_1.below (Nat.le_refl _) b2
    go_wp2_with fail
    refine (toIntS_any _ _ _ xs _ (h.later t2) hn).mono ?_
    rintro e w3 ⟨ux, rfl, x_3, b3⟩
    have t3 := t2.trans (b3.mono t2.size)
    have v_3 := v_2.below (Nat.le_refl _) b3
    obtain ⟨adx, cpx, rfl, -⟩ := x_3.sl
    go_wp2_with fail
    refine (sgtI_any _ _ _ xs _ x_3.read Hr (Hp.out.later t3)).mono ?_
    rintro e w4 ⟨rfl, b4⟩
    have t4 := t3.trans (b4.mono t3.size)
    have v_4 := v_3.below (Nat.le_refl _) b4
    have x_4 := x_3.below (Nat.le_refl _) b4
    go_wp2_with fail
    refine (toIntS_any _ _ _ xs _ (h.later t4) hn).mono ?_
    rintro e w5 ⟨uy, rfl, y_5, b5⟩
    have t5 := t4.trans (b5.mono t4.size)
    have v_5 := v_4.below (Nat.le_refl _) b5
    have x_5 := x_4.below (Nat.le_refl _) b5
    obtain ⟨ady, cpy, rfl, -⟩ := y_5.sl
    go_wp2_with fail
    refine (eqIntS_any _ _ _ _ _ _ _ _ _ x_5.read y_5.read).mono ?_
    rintro e w6 ⟨rfl, b6⟩
    have t6 := t5.trans (b6.mono t5.size)
    have v_6 := v_5.below (Nat.le_refl _) b6
    have x_6 := x_5.below (Nat.le_refl _) b6
    have y_6 := y_5.below (Nat.le_refl _) b6
    go_wp2
    go_ret
    exact ⟨rfl, t6⟩
  · go_enter Tryd.func4, Tryd.ntmps4
    go_wp2
    go_ret
    exact ⟨rfl, Below.refl _ _⟩

end Go.Proofs.YtjgaglfinpeeoabDoor
