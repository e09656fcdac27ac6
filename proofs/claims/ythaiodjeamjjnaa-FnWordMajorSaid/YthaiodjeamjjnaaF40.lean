/- The walks of the laws of WordInversions, WordMajor and ValidWord. Condition of the law's own: at most 2^20 bytes. -/
import Derived.Test.YthaiodjeamjjnaaLawFn
import Derived.Test.YthaiodjeamjjnaaDrawW
import Derived.Test.YthaiodjeamjjnaaWrd
namespace Go.Proofs.Ythaiodjeamjjnaa
open Go.RowKit

theorem vw_take {xs : List Int} (h : VW xs) (m : Nat) : VW (xs.take m) := by
  have e : ∀ j, j < (xs.take m).length → j < xs.length ∧ el (xs.take m) j = el xs j := fun j hj => by
    rw [List.length_take] at hj
    exact ⟨by omega, by simp [el, show j < m by omega]⟩
  refine ⟨by rw [List.length_take]; have := h.len; omega, fun j hj => ?_, fun j hj => ?_⟩
  · rw [(e j hj).2]; exact h.lo j (e j hj).1
  · rw [(e j hj).2]; exact h.hi j (e j hj).1

set_option maxHeartbeats 2000000 in
theorem fnWordInversions (bo : Option Addr) (n cap : Nat) (cs : List Int) (w : World) (h : Slb w bo n cap cs) :
    Calls Try.prog 11 #[.slice bo n cap] w (Says w (.bool true)) := by
  have hbig := h.big
  by_cases hn : n ≤ 1048576
  · go_enter Try.func11, Try.ntmps11
    go_wp2_with fail
    refine (drawWordInversions_any _ _ _ _ _ h).mono ?_
    rintro e w1 ⟨u1, ys, rfl, o1, hl, t1⟩
    obtain ⟨adp, cpp, rfl, sp_1⟩ := o1.sl
    have Hl := hid hl
    clear hl o1
    by_cases hv : VW ys
    · have Hv := hid hv
      clear hv
      go_wp2_with fail
      refine (says_to (winvI_any _ _ _ ys _ sp_1) (onWi_yes Hv.out)).mono ?_
      rintro e w2 ⟨rfl, b2⟩
      have t2 := t1.trans (b2.mono t1.size)
      have sp_2 := sp_1.later b2
      go_wp2_with fail
      refine (says_to (winvS_any _ _ _ ys _ sp_2) (onWi_yes Hv.out)).mono ?_
      rintro e w3 ⟨rfl, b3⟩
      have t3 := t2.trans (b3.mono t2.size)
      have sp_3 := sp_2.later b3
      go_wp2_with fail
      refine (says_tob (vwI_any _ _ _ ys _ sp_3) (decide_eq_true Hv.out)).mono ?_
      rintro e w4 ⟨rfl, b4⟩
      have t4 := t3.trans (b4.mono t3.size)
      have sp_4 := sp_3.later b4
      go_wp2_with fail
      refine (made_to (stdI_any _ _ _ ys _ sp_4) (onW_yes Hv.out)).mono ?_
      rintro e w5 ⟨u5, rfl, o5, b5⟩
      have t5 := t4.trans (b5.mono t4.size)
      have sp_5 := sp_4.later b5
      obtain ⟨ads, cps, rfl, ss_5⟩ := o5.sl
      clear o5
      have Hvs := hid (rkA_valid Hv.out.len)
      go_wp2_with fail
      refine (says_to (invsI_any _ _ _ (rkA ys) _ ss_5) ((onVi_yes Hvs.out).trans (congrArg sumL (table_rkA ys)))).mono ?_
      rintro e w6 ⟨rfl, b6⟩
      have t6 := t5.trans (b6.mono t5.size)
      have sp_6 := sp_5.later b6
      have ss_6 := ss_5.later b6
      go_wp2
      go_ret
      exact ⟨rfl, t6⟩
    · have Hv := hid hv
      clear hv
      go_wp2_with fail
      refine (says_to (winvI_any _ _ _ ys _ sp_1) (onWi_no Hv.out)).mono ?_
      rintro e w2 ⟨rfl, b2⟩
      have t2 := t1.trans (b2.mono t1.size)
      have sp_2 := sp_1.later b2
      go_wp2_with fail
      refine (says_to (winvS_any _ _ _ ys _ sp_2) (onWi_no Hv.out)).mono ?_
      rintro e w3 ⟨rfl, b3⟩
      have t3 := t2.trans (b3.mono t2.size)
      have sp_3 := sp_2.later b3
      go_wp2_with fail
      refine (says_tob (vwI_any _ _ _ ys _ sp_3) (decide_eq_false Hv.out)).mono ?_
      rintro e w4 ⟨rfl, b4⟩
      have t4 := t3.trans (b4.mono t3.size)
      have sp_4 := sp_3.later b4
      go_wp2_with fail
      refine (says_to (winvS_any _ _ _ ys _ sp_4) (onWi_no Hv.out)).mono ?_
      rintro e w5 ⟨rfl, b5⟩
      have t5 := t4.trans (b5.mono t4.size)
      have sp_5 := sp_4.later b5
      go_wp2
      go_ret
      exact ⟨rfl, t5⟩
  · go_enter Try.func11, Try.ntmps11
    go_wp2
    go_ret
    exact ⟨rfl, Below.refl _ _⟩

set_option maxHeartbeats 2000000 in
theorem fnWordMajor (bo : Option Addr) (n cap : Nat) (cs : List Int) (w : World) (h : Slb w bo n cap cs) :
    Calls Try.prog 12 #[.slice bo n cap] w (Says w (.bool true)) := by
  have hbig := h.big
  by_cases hn : n ≤ 1048576
  · go_enter Try.func12, Try.ntmps12
    go_wp2_with fail
    refine (drawWordMajor_any _ _ _ _ _ h).mono ?_
    rintro e w1 ⟨u1, ys, rfl, o1, hl, t1⟩
    obtain ⟨adp, cpp, rfl, sp_1⟩ := o1.sl
    have Hl := hid hl
    clear hl o1
    by_cases hv : VW ys
    · have Hv := hid hv
      clear hv
      go_wp2_with fail
      refine (says_to (wmajI_any _ _ _ ys _ sp_1) (onWi_yes Hv.out)).mono ?_
      rintro e w2 ⟨rfl, b2⟩
      have t2 := t1.trans (b2.mono t1.size)
      have sp_2 := sp_1.later b2
      go_wp2_with fail
      refine (says_to (wmajS_any _ _ _ ys _ sp_2) (onWi_yes Hv.out)).mono ?_
      rintro e w3 ⟨rfl, b3⟩
      have t3 := t2.trans (b3.mono t2.size)
      have sp_3 := sp_2.later b3
      go_wp2_with fail
      refine (says_tob (vwI_any _ _ _ ys _ sp_3) (decide_eq_true Hv.out)).mono ?_
      rintro e w4 ⟨rfl, b4⟩
      have t4 := t3.trans (b4.mono t3.size)
      have sp_4 := sp_3.later b4
      go_wp2_with fail
      refine (made_to (stdI_any _ _ _ ys _ sp_4) (onW_yes Hv.out)).mono ?_
      rintro e w5 ⟨u5, rfl, o5, b5⟩
      have t5 := t4.trans (b5.mono t4.size)
      have sp_5 := sp_4.later b5
      obtain ⟨ads, cps, rfl, ss_5⟩ := o5.sl
      clear o5
      have Hvs := hid (rkA_valid Hv.out.len)
      go_wp2_with fail
      refine (says_to (majorI_any _ _ _ (rkA ys) _ ss_5) ((onVi_yes Hvs.out).trans (major_rkA ys))).mono ?_
      rintro e w6 ⟨rfl, b6⟩
      have t6 := t5.trans (b6.mono t5.size)
      have sp_6 := sp_5.later b6
      have ss_6 := ss_5.later b6
      go_wp2
      go_ret
      exact ⟨rfl, t6⟩
    · have Hv := hid hv
      clear hv
      go_wp2_with fail
      refine (says_to (wmajI_any _ _ _ ys _ sp_1) (onWi_no Hv.out)).mono ?_
      rintro e w2 ⟨rfl, b2⟩
      have t2 := t1.trans (b2.mono t1.size)
      have sp_2 := sp_1.later b2
      go_wp2_with fail
      refine (says_to (wmajS_any _ _ _ ys _ sp_2) (onWi_no Hv.out)).mono ?_
      rintro e w3 ⟨rfl, b3⟩
      have t3 := t2.trans (b3.mono t2.size)
      have sp_3 := sp_2.later b3
      go_wp2_with fail
      refine (says_tob (vwI_any _ _ _ ys _ sp_3) (decide_eq_false Hv.out)).mono ?_
      rintro e w4 ⟨rfl, b4⟩
      have t4 := t3.trans (b4.mono t3.size)
      have sp_4 := sp_3.later b4
      go_wp2_with fail
      refine (says_to (wmajS_any _ _ _ ys _ sp_4) (onWi_no Hv.out)).mono ?_
      rintro e w5 ⟨rfl, b5⟩
      have t5 := t4.trans (b5.mono t4.size)
      have sp_5 := sp_4.later b5
      go_wp2
      go_ret
      exact ⟨rfl, t5⟩
  · go_enter Try.func12, Try.ntmps12
    go_wp2
    go_ret
    exact ⟨rfl, Below.refl _ _⟩

set_option maxHeartbeats 2000000 in
theorem fnValidWord (bo : Option Addr) (n cap : Nat) (cs : List Int) (w : World) (h : Slb w bo n cap cs) :
    Calls Try.prog 10 #[.slice bo n cap] w (Says w (.bool true)) := by
  have hbig := h.big
  by_cases hn : n ≤ 1048576
  · go_enter Try.func10, Try.ntmps10
    go_wp2_with fail
    refine (drawValidWord_any _ _ _ _ _ h).mono ?_
    rintro e w1 ⟨u1, ys, rfl, o1, hl, t1⟩
    obtain ⟨adp, cpp, rfl, sp_1⟩ := o1.sl
    have Hl := hid hl
    clear hl o1
    by_cases hv : VW ys
    · have Hv := hid hv
      clear hv
      go_wp2_with fail
      refine (says_tob (vwI_any _ _ _ ys _ sp_1) (decide_eq_true Hv.out)).mono ?_
      rintro e w2 ⟨rfl, b2⟩
      have t2 := t1.trans (b2.mono t1.size)
      have sp_2 := sp_1.later b2
      go_wp2_with fail
      refine (says_tob (vwS_any _ _ _ ys _ sp_2) (decide_eq_true Hv.out)).mono ?_
      rintro e w3 ⟨rfl, b3⟩
      have t3 := t2.trans (b3.mono t2.size)
      have sp_3 := sp_2.later b3
      go_wp2_with fail
      refine (made_to (stdI_any _ _ _ ys _ sp_3) (onW_yes Hv.out)).mono ?_
      rintro e w4 ⟨u4, rfl, o4, b4⟩
      have t4 := t3.trans (b4.mono t3.size)
      have sp_4 := sp_3.later b4
      obtain ⟨ads, cps, rfl, ss_4⟩ := o4.sl
      clear o4
      have Hvs := hid (rkA_valid Hv.out.len)
      go_wp2_with fail
      refine (says_tob (validI_any _ _ _ (rkA ys) _ ss_4) (decide_eq_true Hvs.out)).mono ?_
      rintro e w5 ⟨rfl, b5⟩
      have t5 := t4.trans (b5.mono t4.size)
      have sp_5 := sp_4.later b5
      have ss_5 := ss_4.later b5
      have hl7 := Hv.out.len
      by_cases hz : ys.length = 0
      · have hz1 : ((ys.length : Int) == 0) = true := by rw [hz]; rfl
        clear hz
        go_wp2
        go_ret
        exact ⟨rfl, t5⟩
      · have hz1 : ((ys.length : Int) == 0) = false := beq_eq_false_iff_ne.2 (by omega)
        have stk := sp_5.take (k := ys.length - 1) (by omega)
        have Hvk : Hid (VW (ys.take (ys.length - 1))) := hid (vw_take Hv.out _)
        have hm1 : (ys.length : Int) - 1 = ((ys.length - 1 : Nat) : Int) := by omega
        have hcp := sp_5.le
        have hcp2 := sp_5.max
        unfold maxLen at hcp2
        go_wp2_with fail
        refine (says_tob (vwI_any _ _ _ (ys.take (ys.length - 1)) _ stk) (decide_eq_true Hvk.out)).mono ?_
        rintro e w6 ⟨rfl, b6⟩
        have t6 := t5.trans (b6.mono t5.size)
        have sp_6 := sp_5.later b6
        have ss_6 := ss_5.later b6
        go_wp2
        go_ret
        exact ⟨rfl, t6⟩
    · have Hv := hid hv
      clear hv
      go_wp2_with fail
      refine (says_tob (vwI_any _ _ _ ys _ sp_1) (decide_eq_false Hv.out)).mono ?_
      rintro e w2 ⟨rfl, b2⟩
      have t2 := t1.trans (b2.mono t1.size)
      have sp_2 := sp_1.later b2
      go_wp2_with fail
      refine (says_tob (vwS_any _ _ _ ys _ sp_2) (decide_eq_false Hv.out)).mono ?_
      rintro e w3 ⟨rfl, b3⟩
      have t3 := t2.trans (b3.mono t2.size)
      have sp_3 := sp_2.later b3
      go_wp2_with fail
      refine (says_tob (vwS_any _ _ _ ys _ sp_3) (decide_eq_false Hv.out)).mono ?_
      rintro e w4 ⟨rfl, b4⟩
      have t4 := t3.trans (b4.mono t3.size)
      have sp_4 := sp_3.later b4
      go_wp2
      go_ret
      exact ⟨rfl, t4⟩
  · go_enter Try.func10, Try.ntmps10
    go_wp2
    go_ret
    exact ⟨rfl, Below.refl _ _⟩

end Go.Proofs.Ythaiodjeamjjnaa
