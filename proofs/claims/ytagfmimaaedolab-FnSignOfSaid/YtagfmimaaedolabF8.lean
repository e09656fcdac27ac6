/- The walk of the law of SignOf. Condition of the law's own: at most 2^20 bytes. -/
import Derived.Test.YtagfmimaaedolabFinSign
import Derived.Test.YtagfmimaaedolabLawFn
import Derived.Test.YtagfmimaaedolabDraw4
namespace Go.Proofs.Ytagfmimaaedolab
open Go.RowKit

set_option maxHeartbeats 2000000 in
theorem fnSignOf (bo : Option Addr) (n cap : Nat) (cs : List Int) (w : World) (h : Slb w bo n cap cs) :
    Calls Try.prog 5 #[.slice bo n cap] w (Says w (.bool true)) := by
  have hbig := h.big
  by_cases hn : n ≤ 1048576
  · go_enter Try.func5, Try.ntmps5
    go_wp2_with fail
    refine (drawSignOf_any _ _ _ _ _ h).mono ?_
    rintro e w1 ⟨u1, ys, rfl, o1, hl, t1⟩
    obtain ⟨adp, cpp, rfl, sp_1⟩ := o1.sl
    have Hl := hid hl
    clear hl o1
    by_cases hv : Valid ys
    · have Hv := hid hv
      clear hv
      go_wp2_with fail
      refine (says_to (signI_any _ _ _ ys _ sp_1) (onVi_yes Hv.out)).mono ?_
      rintro e w2 ⟨rfl, b2⟩
      have t2 := t1.trans (b2.mono t1.size)
      have sp_2 := sp_1.later b2
      go_wp2_with fail
      refine (says_to (signS_any _ _ _ ys _ sp_2) (onVi_yes Hv.out)).mono ?_
      rintro e w3 ⟨rfl, b3⟩
      have t3 := t2.trans (b3.mono t2.size)
      have sp_3 := sp_2.later b3
      go_wp2_with fail
      refine (says_tob (validI_any _ _ _ ys _ sp_3) (decide_eq_true Hv.out)).mono ?_
      rintro e w4 ⟨rfl, b4⟩
      have t4 := t3.trans (b4.mono t3.size)
      have sp_4 := sp_3.later b4
      go_wp2_with fail
      refine (says_to (invsI_any _ _ _ ys _ sp_4) (onVi_yes Hv.out)).mono ?_
      rintro e w5 ⟨rfl, b5⟩
      have t5 := t4.trans (b5.mono t4.size)
      have sp_5 := sp_4.later b5
      have Hvi := hid (inv_valid Hv.out)
      have k0 : 0 ≤ sumL (table ys) := (sumL_bd (table_small Hv.out) (Nat.le_refl _)).1
      have km : sgn ys = 1 - 2 * (sumL (table ys) % 2) := rfl
      rcases (by omega : (sumL (table ys) % 2 = 0 ∧ sgn ys = 1) ∨ (sumL (table ys) % 2 = 1 ∧ sgn ys = -1)) with ⟨km0, e1⟩ | ⟨km0, e1⟩
      · have He := hid e1
        rw [e1]
        clear km e1
        go_wp2_with fail
        refine (made_to (inverseI_any _ _ _ ys _ sp_5) (onV_yes Hv.out)).mono ?_
        rintro e w6 ⟨u6, rfl, o6, b6⟩
        have t6 := t5.trans (b6.mono t5.size)
        have sp_6 := sp_5.later b6
        obtain ⟨adv, cpv, rfl, sv_6⟩ := o6.sl
        clear o6
        go_wp2_with fail
        refine (says_to (signI_any _ _ _ (inv ys) _ sv_6) ((onVi_yes Hvi.out).trans ((sgn_inv Hv.out).trans He.out))).mono ?_
        rintro e w7 ⟨rfl, b7⟩
        have t7 := t6.trans (b7.mono t6.size)
        have sp_7 := sp_6.later b7
        have sv_7 := sv_6.later b7
        go_wp2
        go_ret
        exact ⟨rfl, t7⟩
      · have He := hid e1
        rw [e1]
        clear km e1
        go_wp2_with fail
        refine (made_to (inverseI_any _ _ _ ys _ sp_5) (onV_yes Hv.out)).mono ?_
        rintro e w6 ⟨u6, rfl, o6, b6⟩
        have t6 := t5.trans (b6.mono t5.size)
        have sp_6 := sp_5.later b6
        obtain ⟨adv, cpv, rfl, sv_6⟩ := o6.sl
        clear o6
        go_wp2_with fail
        refine (says_to (signI_any _ _ _ (inv ys) _ sv_6) ((onVi_yes Hvi.out).trans ((sgn_inv Hv.out).trans He.out))).mono ?_
        rintro e w7 ⟨rfl, b7⟩
        have t7 := t6.trans (b7.mono t6.size)
        have sp_7 := sp_6.later b7
        have sv_7 := sv_6.later b7
        go_wp2
        go_ret
        exact ⟨rfl, t7⟩
    · have Hv := hid hv
      clear hv
      go_wp2_with fail
      refine (says_to (signI_any _ _ _ ys _ sp_1) (onVi_no Hv.out)).mono ?_
      rintro e w2 ⟨rfl, b2⟩
      have t2 := t1.trans (b2.mono t1.size)
      have sp_2 := sp_1.later b2
      go_wp2_with fail
      refine (says_to (signS_any _ _ _ ys _ sp_2) (onVi_no Hv.out)).mono ?_
      rintro e w3 ⟨rfl, b3⟩
      have t3 := t2.trans (b3.mono t2.size)
      have sp_3 := sp_2.later b3
      go_wp2_with fail
      refine (says_tob (validI_any _ _ _ ys _ sp_3) (decide_eq_false Hv.out)).mono ?_
      rintro e w4 ⟨rfl, b4⟩
      have t4 := t3.trans (b4.mono t3.size)
      have sp_4 := sp_3.later b4
      go_wp2_with fail
      refine (says_to (signS_any _ _ _ ys _ sp_4) (onVi_no Hv.out)).mono ?_
      rintro e w5 ⟨rfl, b5⟩
      have t5 := t4.trans (b5.mono t4.size)
      have sp_5 := sp_4.later b5
      go_wp2
      go_ret
      exact ⟨rfl, t5⟩
  · go_enter Try.func5, Try.ntmps5
    go_wp2
    go_ret
    exact ⟨rfl, Below.refl _ _⟩

end Go.Proofs.Ytagfmimaaedolab
