/- The walks of the laws of CrossingsOf and NestingsOf. Condition of the laws' own: at most 2^20 bytes. -/
import Derived.Test.YtepikmkkbecdaacLawFn
import Derived.Test.YtepikmkkbecdaacDraw4
import Derived.Test.YtepikmkkbecdaacFinCnt
import Derived.Test.YtepikmkkbecdaacPrs
namespace Go.Proofs.Ytepikmkkbecdaac
open Go.RowKit

theorem sq_wrap {n : Nat} (h : n ≤ 7) : wrap64 ((n : Int) * ((n : Int) - 1)) = (n : Int) * ((n : Int) - 1) ∧ (n : Int) * ((n : Int) - 1) ≤ 42 := by
  have h1 : ∀ n : Nat, n ≤ 7 → 0 ≤ (n : Int) * ((n : Int) - 1) ∧ (n : Int) * ((n : Int) - 1) ≤ 42 := by decide
  have h2 := h1 n h
  exact ⟨IntWalk.wrap64_in _ ⟨by omega, by omega⟩, h2.2⟩
theorem rise_ok : ∀ n : Nat, n ≤ 7 → Valid (rise n) := by decide +kernel

set_option maxHeartbeats 2000000 in
theorem fnCrossingsOf (bo : Option Addr) (n cap : Nat) (cs : List Int) (w : World) (h : Slb w bo n cap cs) :
    Calls Try.prog 9 #[.slice bo n cap] w (Says w (.bool true)) := by
  have hbig := h.big
  by_cases hn : n ≤ 1048576
  · go_enter Try.func9, Try.ntmps9
    go_wp2_with fail
    refine (drawCrossingsOf_any _ _ _ _ _ h).mono ?_
    rintro e w1 ⟨u1, ys, rfl, o1, hl, t1⟩
    obtain ⟨adp, cpp, rfl, sp_1⟩ := o1.sl
    have Hl := hid hl
    clear hl o1
    by_cases hv : Valid ys
    · have Hv := hid hv
      clear hv
      go_wp2_with fail
      refine (says_to (crossI_any _ _ _ ys _ sp_1) (onVi_yes Hv.out)).mono ?_
      rintro e w2 ⟨rfl, b2⟩
      have t2 := t1.trans (b2.mono t1.size)
      have sp_2 := sp_1.later b2
      go_wp2_with fail
      refine (says_to (crossS_any _ _ _ ys _ sp_2) (onVi_yes Hv.out)).mono ?_
      rintro e w3 ⟨rfl, b3⟩
      have t3 := t2.trans (b3.mono t2.size)
      have sp_3 := sp_2.later b3
      go_wp2_with fail
      refine (says_tob (validI_any _ _ _ ys _ sp_3) (decide_eq_true Hv.out)).mono ?_
      rintro e w4 ⟨rfl, b4⟩
      have t4 := t3.trans (b4.mono t3.size)
      have sp_4 := sp_3.later b4
      go_wp2_with fail
      refine (says_to (nestI_any _ _ _ ys _ sp_4) (onVi_yes Hv.out)).mono ?_
      rintro e w5 ⟨rfl, b5⟩
      have t5 := t4.trans (b5.mono t4.size)
      have sp_5 := sp_4.later b5
      have hl7 := Hv.out.len
      have k0 := pairs_nn crossF ys
      have k1 := pairs_nn nestF ys
      have k2 := cross_pairs ys
      have k3 := sq_wrap hl7
      have k4 := k3.2
      have k5 : pairs crossF ys ≤ 21 := by omega
      have k6 : pairs nestF ys ≤ 21 := by omega
      have kf : 2 * (pairs crossF ys + pairs nestF ys) ≤ wrap64 ((ys.length : Int) * ((ys.length : Int) - 1)) := by rw [k3.1]; exact k2
      clear k2 k3 k4
      have Hr := hid (rise_ok ys.length hl7)
      go_wp2_with fail
      refine (risingI_yes ys.length _ hl7).mono ?_
      rintro e w6 ⟨u6, rfl, o6, b6⟩
      have t6 := t5.trans (b6.mono t5.size)
      have sp_6 := sp_5.later b6
      obtain ⟨adr, cpr, rfl, sr_6⟩ := o6.sl
      clear o6
      go_wp2_with fail
      refine (says_to (crossI_any _ _ _ (rise ys.length) _ sr_6) ((onVi_yes Hr.out).trans (rise_cross _ hl7).1)).mono ?_
      rintro e w7 ⟨rfl, b7⟩
      have t7 := t6.trans (b7.mono t6.size)
      have sp_7 := sp_6.later b7
      have sr_7 := sr_6.later b7
      go_wp2
      go_ret
      exact ⟨rfl, t7⟩
    · have Hv := hid hv
      clear hv
      go_wp2_with fail
      refine (says_to (crossI_any _ _ _ ys _ sp_1) (onVi_no Hv.out)).mono ?_
      rintro e w2 ⟨rfl, b2⟩
      have t2 := t1.trans (b2.mono t1.size)
      have sp_2 := sp_1.later b2
      go_wp2_with fail
      refine (says_to (crossS_any _ _ _ ys _ sp_2) (onVi_no Hv.out)).mono ?_
      rintro e w3 ⟨rfl, b3⟩
      have t3 := t2.trans (b3.mono t2.size)
      have sp_3 := sp_2.later b3
      go_wp2_with fail
      refine (says_tob (validI_any _ _ _ ys _ sp_3) (decide_eq_false Hv.out)).mono ?_
      rintro e w4 ⟨rfl, b4⟩
      have t4 := t3.trans (b4.mono t3.size)
      have sp_4 := sp_3.later b4
      go_wp2_with fail
      refine (says_to (crossS_any _ _ _ ys _ sp_4) (onVi_no Hv.out)).mono ?_
      rintro e w5 ⟨rfl, b5⟩
      have t5 := t4.trans (b5.mono t4.size)
      have sp_5 := sp_4.later b5
      go_wp2
      go_ret
      exact ⟨rfl, t5⟩
  · go_enter Try.func9, Try.ntmps9
    go_wp2
    go_ret
    exact ⟨rfl, Below.refl _ _⟩

set_option maxHeartbeats 2000000 in
theorem fnNestingsOf (bo : Option Addr) (n cap : Nat) (cs : List Int) (w : World) (h : Slb w bo n cap cs) :
    Calls Try.prog 10 #[.slice bo n cap] w (Says w (.bool true)) := by
  have hbig := h.big
  by_cases hn : n ≤ 1048576
  · go_enter Try.func10, Try.ntmps10
    go_wp2_with fail
    refine (drawNestingsOf_any _ _ _ _ _ h).mono ?_
    rintro e w1 ⟨u1, ys, rfl, o1, hl, t1⟩
    obtain ⟨adp, cpp, rfl, sp_1⟩ := o1.sl
    have Hl := hid hl
    clear hl o1
    by_cases hv : Valid ys
    · have Hv := hid hv
      clear hv
      go_wp2_with fail
      refine (says_to (nestI_any _ _ _ ys _ sp_1) (onVi_yes Hv.out)).mono ?_
      rintro e w2 ⟨rfl, b2⟩
      have t2 := t1.trans (b2.mono t1.size)
      have sp_2 := sp_1.later b2
      go_wp2_with fail
      refine (says_to (nestS_any _ _ _ ys _ sp_2) (onVi_yes Hv.out)).mono ?_
      rintro e w3 ⟨rfl, b3⟩
      have t3 := t2.trans (b3.mono t2.size)
      have sp_3 := sp_2.later b3
      go_wp2_with fail
      refine (says_tob (validI_any _ _ _ ys _ sp_3) (decide_eq_true Hv.out)).mono ?_
      rintro e w4 ⟨rfl, b4⟩
      have t4 := t3.trans (b4.mono t3.size)
      have sp_4 := sp_3.later b4
      have hl7 := Hv.out.len
      have k1 := pairs_nn nestF ys
      have k2 : pairs nestF ys ≤ 21 := by have a := cross_pairs ys; have b := (sq_wrap hl7).2; have c := pairs_nn crossF ys; omega
      have Hr := hid (rise_ok ys.length hl7)
      have Ht := hid (turn_valid Hr.out)
      have Hc := hid (rise_cross ys.length hl7)
      go_wp2_with fail
      refine (risingI_yes ys.length _ hl7).mono ?_
      rintro e w5 ⟨u5, rfl, o5, b5⟩
      have t5 := t4.trans (b5.mono t4.size)
      have sp_5 := sp_4.later b5
      obtain ⟨adr, cpr, rfl, sr_5⟩ := o5.sl
      clear o5
      go_wp2_with fail
      refine (made_to (turnI_any _ _ _ (rise ys.length) _ sr_5) (onV_yes Hr.out)).mono ?_
      rintro e w6 ⟨u6, rfl, o6, b6⟩
      have t6 := t5.trans (b6.mono t5.size)
      have sp_6 := sp_5.later b6
      have sr_6 := sr_5.later b6
      obtain ⟨adt, cpt, rfl, st_6⟩ := o6.sl
      clear o6
      go_wp2_with fail
      refine (risingI_yes ys.length _ hl7).mono ?_
      rintro e w7 ⟨u7, rfl, o7, b7⟩
      have t7 := t6.trans (b7.mono t6.size)
      have sp_7 := sp_6.later b7
      have sr_7 := sr_6.later b7
      have st_7 := st_6.later b7
      obtain ⟨adq, cpq, rfl, sq_7⟩ := o7.sl
      clear o7
      go_wp2_with fail
      refine (says_to (nestI_any _ _ _ (rise ys.length) _ sq_7) ((onVi_yes Hr.out).trans Hc.out.2.1)).mono ?_
      rintro e w8 ⟨rfl, b8⟩
      have t8 := t7.trans (b8.mono t7.size)
      have sp_8 := sp_7.later b8
      have sr_8 := sr_7.later b8
      have st_8 := st_7.later b8
      have sq_8 := sq_7.later b8
      go_wp2_with fail
      refine (says_to (crossI_any _ _ _ (turn (rise ys.length)) _ st_8) ((onVi_yes Ht.out).trans Hc.out.2.2.1)).mono ?_
      rintro e w9 ⟨rfl, b9⟩
      have t9 := t8.trans (b9.mono t8.size)
      have sp_9 := sp_8.later b9
      have sr_9 := sr_8.later b9
      have st_9 := st_8.later b9
      have sq_9 := sq_8.later b9
      by_cases h3 : (ys.length : Int) < 3
      · go_wp2
        go_ret
        exact ⟨rfl, t9⟩
      · have kp := Hc.out.2.2.2 (by omega)
        go_wp2_with fail
        refine (says_to (nestI_any _ _ _ (turn (rise ys.length)) _ st_9) (onVi_yes Ht.out)).mono ?_
        rintro e w10 ⟨rfl, b10⟩
        have t10 := t9.trans (b10.mono t9.size)
        have sp_10 := sp_9.later b10
        have sr_10 := sr_9.later b10
        have st_10 := st_9.later b10
        have sq_10 := sq_9.later b10
        go_wp2
        go_ret
        exact ⟨rfl, t10⟩
    · have Hv := hid hv
      clear hv
      go_wp2_with fail
      refine (says_to (nestI_any _ _ _ ys _ sp_1) (onVi_no Hv.out)).mono ?_
      rintro e w2 ⟨rfl, b2⟩
      have t2 := t1.trans (b2.mono t1.size)
      have sp_2 := sp_1.later b2
      go_wp2_with fail
      refine (says_to (nestS_any _ _ _ ys _ sp_2) (onVi_no Hv.out)).mono ?_
      rintro e w3 ⟨rfl, b3⟩
      have t3 := t2.trans (b3.mono t2.size)
      have sp_3 := sp_2.later b3
      go_wp2_with fail
      refine (says_tob (validI_any _ _ _ ys _ sp_3) (decide_eq_false Hv.out)).mono ?_
      rintro e w4 ⟨rfl, b4⟩
      have t4 := t3.trans (b4.mono t3.size)
      have sp_4 := sp_3.later b4
      go_wp2_with fail
      refine (says_to (nestS_any _ _ _ ys _ sp_4) (onVi_no Hv.out)).mono ?_
      rintro e w5 ⟨rfl, b5⟩
      have t5 := t4.trans (b5.mono t4.size)
      have sp_5 := sp_4.later b5
      go_wp2
      go_ret
      exact ⟨rfl, t5⟩
  · go_enter Try.func10, Try.ntmps10
    go_wp2
    go_ret
    exact ⟨rfl, Below.refl _ _⟩

end Go.Proofs.Ytepikmkkbecdaac
