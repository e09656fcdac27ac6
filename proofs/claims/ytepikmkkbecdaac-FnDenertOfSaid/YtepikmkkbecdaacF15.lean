/- The walk of the law of DenertOf. Condition of the laws' own: at most 2^20 bytes. -/
import Derived.Test.YtepikmkkbecdaacLawFn
import Derived.Test.YtepikmkkbecdaacDraw4
import Derived.Test.YtepikmkkbecdaacF14
import Derived.Test.YtepikmkkbecdaacDen
import Derived.Test.YtepikmkkbecdaacFinDen
namespace Go.Proofs.Ytepikmkkbecdaac
open Go.RowKit

set_option maxHeartbeats 2000000 in
theorem fnDenertOf (bo : Option Addr) (n cap : Nat) (cs : List Int) (w : World) (h : Slb w bo n cap cs) :
    Calls Try.prog 7 #[.slice bo n cap] w (Says w (.bool true)) := by
  have hbig := h.big
  by_cases hn : n ≤ 1048576
  · go_enter Try.func7, Try.ntmps7
    go_wp2_with fail
    refine (drawDenertOf_any _ _ _ _ _ h).mono ?_
    rintro e w1 ⟨u1, ys, rfl, o1, hl, t1⟩
    obtain ⟨adp, cpp, rfl, sp_1⟩ := o1.sl
    have Hl := hid hl
    clear hl o1
    by_cases hv : Valid ys
    · have Hv := hid hv
      clear hv
      go_wp2_with fail
      refine (says_to (denI_any _ _ _ ys _ sp_1) (onVi_yes Hv.out)).mono ?_
      rintro e w2 ⟨rfl, b2⟩
      have t2 := t1.trans (b2.mono t1.size)
      have sp_2 := sp_1.later b2
      go_wp2_with fail
      refine (says_to (denS_any _ _ _ ys _ sp_2) (onVi_yes Hv.out)).mono ?_
      rintro e w3 ⟨rfl, b3⟩
      have t3 := t2.trans (b3.mono t2.size)
      have sp_3 := sp_2.later b3
      go_wp2_with fail
      refine (says_tob (validI_any _ _ _ ys _ sp_3) (decide_eq_true Hv.out)).mono ?_
      rintro e w4 ⟨rfl, b4⟩
      have t4 := t3.trans (b4.mono t3.size)
      have sp_4 := sp_3.later b4
      have hl7 := Hv.out.len
      have k0 := den_above ys
      have la := above_len ys
      have k3 := sq_wrap hl7
      have k2 := den_most Hv.out
      have k4 := k3.2
      have k5 : den ys ≤ 21 := by omega
      have k6 : 0 ≤ den ys := by omega
      have kf : 2 * den ys ≤ wrap64 ((ys.length : Int) * ((ys.length : Int) - 1)) := by rw [k3.1]; exact k2
      clear k2 k3 k4
      go_wp2_with fail
      refine (risingI_yes ys.length _ hl7).mono ?_
      rintro e w5 ⟨u5, rfl, o5, b5⟩
      have t5 := t4.trans (b5.mono t4.size)
      have sp_5 := sp_4.later b5
      obtain ⟨adr, cpr, rfl, sr_5⟩ := o5.sl
      clear o5
      by_cases hr : ys = rise ys.length
      · have Hr := hid hr
        clear hr
        have kz : (den ys == 0) = true := by rw [(den_zero Hv.out).2 Hr.out]; rfl
        go_wp2_with fail
        refine (says_tob (equalInts_any _ _ _ ys _ _ _ (rise ys.length) _ sp_5 sr_5) (decide_eq_true Hr.out)).mono ?_
        rintro e w6 ⟨rfl, b6⟩
        have t6 := t5.trans (b6.mono t5.size)
        have sp_6 := sp_5.later b6
        have sr_6 := sr_5.later b6
        go_wp2_with fail
        refine (made_to (aboveI_any _ _ _ ys _ sp_6) (onV_yes Hv.out)).mono ?_
        rintro e w7 ⟨u7, rfl, o7, b7⟩
        have t7 := t6.trans (b7.mono t6.size)
        have sp_7 := sp_6.later b7
        have sr_7 := sr_6.later b7
        obtain ⟨ada, cpa, rfl, sa_7⟩ := o7.sl
        clear o7
        go_wp2
        go_ret
        exact ⟨rfl, t7⟩
      · have Hr := hid hr
        clear hr
        have kz : (den ys == 0) = false := by rw [beq_eq_false_iff_ne]; exact fun e => Hr.out ((den_zero Hv.out).1 e)
        go_wp2_with fail
        refine (says_tob (equalInts_any _ _ _ ys _ _ _ (rise ys.length) _ sp_5 sr_5) (decide_eq_false Hr.out)).mono ?_
        rintro e w6 ⟨rfl, b6⟩
        have t6 := t5.trans (b6.mono t5.size)
        have sp_6 := sp_5.later b6
        have sr_6 := sr_5.later b6
        go_wp2_with fail
        refine (made_to (aboveI_any _ _ _ ys _ sp_6) (onV_yes Hv.out)).mono ?_
        rintro e w7 ⟨u7, rfl, o7, b7⟩
        have t7 := t6.trans (b7.mono t6.size)
        have sp_7 := sp_6.later b7
        have sr_7 := sr_6.later b7
        obtain ⟨ada, cpa, rfl, sa_7⟩ := o7.sl
        clear o7
        go_wp2
        go_ret
        exact ⟨rfl, t7⟩
    · have Hv := hid hv
      clear hv
      go_wp2_with fail
      refine (says_to (denI_any _ _ _ ys _ sp_1) (onVi_no Hv.out)).mono ?_
      rintro e w2 ⟨rfl, b2⟩
      have t2 := t1.trans (b2.mono t1.size)
      have sp_2 := sp_1.later b2
      go_wp2_with fail
      refine (says_to (denS_any _ _ _ ys _ sp_2) (onVi_no Hv.out)).mono ?_
      rintro e w3 ⟨rfl, b3⟩
      have t3 := t2.trans (b3.mono t2.size)
      have sp_3 := sp_2.later b3
      go_wp2_with fail
      refine (says_tob (validI_any _ _ _ ys _ sp_3) (decide_eq_false Hv.out)).mono ?_
      rintro e w4 ⟨rfl, b4⟩
      have t4 := t3.trans (b4.mono t3.size)
      have sp_4 := sp_3.later b4
      go_wp2_with fail
      refine (says_to (denS_any _ _ _ ys _ sp_4) (onVi_no Hv.out)).mono ?_
      rintro e w5 ⟨rfl, b5⟩
      have t5 := t4.trans (b5.mono t4.size)
      have sp_5 := sp_4.later b5
      go_wp2
      go_ret
      exact ⟨rfl, t5⟩
  · go_enter Try.func7, Try.ntmps7
    go_wp2
    go_ret
    exact ⟨rfl, Below.refl _ _⟩

end Go.Proofs.Ytepikmkkbecdaac
