/- The walk of the law of MajorOf. Condition of the law's own: at most 2^20 bytes. -/
import Derived.Test.YtagfmimaaedolabLawFn
import Derived.Test.YtagfmimaaedolabDraw4
import Derived.Test.YtagfmimaaedolabFinMajor
namespace Go.Proofs.Ytagfmimaaedolab
open Go.RowKit

theorem major_nn {xs : List Int} (h : Valid xs) : 0 ≤ major xs := by
  have h1 := (sumL_bd (desc_small (xs := xs) (by have := h.len; omega)) (Nat.le_refl _)).1
  unfold major
  omega

theorem pairs_wrap {n : Nat} (h : n ≤ 7) : wrap64 ((n : Int) * ((n : Int) - 1)) = (n : Int) * ((n : Int) - 1) := by
  have h1 : ∀ n : Nat, n ≤ 7 → 0 ≤ (n : Int) * ((n : Int) - 1) ∧ (n : Int) * ((n : Int) - 1) ≤ 42 := by decide
  have h2 := h1 n h
  exact IntWalk.wrap64_in _ ⟨by omega, by omega⟩

theorem pairs_le {n : Nat} (h : n ≤ 7) : (n : Int) * ((n : Int) - 1) ≤ 42 := by
  have : ∀ n : Nat, n ≤ 7 → (n : Int) * ((n : Int) - 1) ≤ 42 := by decide
  exact this n h

set_option maxHeartbeats 2000000 in
theorem fnMajorOf (bo : Option Addr) (n cap : Nat) (cs : List Int) (w : World) (h : Slb w bo n cap cs) :
    Calls Try.prog 3 #[.slice bo n cap] w (Says w (.bool true)) := by
  have hbig := h.big
  by_cases hn : n ≤ 1048576
  · go_enter Try.func3, Try.ntmps3
    go_wp2_with fail
    refine (drawMajorOf_any _ _ _ _ _ h).mono ?_
    rintro e w1 ⟨u1, ys, rfl, o1, hl, t1⟩
    obtain ⟨adp, cpp, rfl, sp_1⟩ := o1.sl
    have Hl := hid hl
    clear hl o1
    by_cases hv : Valid ys
    · have Hv := hid hv
      clear hv
      go_wp2_with fail
      refine (says_to (majorI_any _ _ _ ys _ sp_1) (onVi_yes Hv.out)).mono ?_
      rintro e w2 ⟨rfl, b2⟩
      have t2 := t1.trans (b2.mono t1.size)
      have sp_2 := sp_1.later b2
      go_wp2_with fail
      refine (says_to (majorS_any _ _ _ ys _ sp_2) (onVi_yes Hv.out)).mono ?_
      rintro e w3 ⟨rfl, b3⟩
      have t3 := t2.trans (b3.mono t2.size)
      have sp_3 := sp_2.later b3
      go_wp2_with fail
      refine (says_tob (validI_any _ _ _ ys _ sp_3) (decide_eq_true Hv.out)).mono ?_
      rintro e w4 ⟨rfl, b4⟩
      have t4 := t3.trans (b4.mono t3.size)
      have sp_4 := sp_3.later b4
      go_wp2_with fail
      refine (made_to (descI_any _ _ _ ys _ sp_4) (onV_yes Hv.out)).mono ?_
      rintro e w5 ⟨u5, rfl, o5, b5⟩
      have t5 := t4.trans (b5.mono t4.size)
      have sp_5 := sp_4.later b5
      obtain ⟨add, cpd, rfl, sd_5⟩ := o5.sl
      clear o5
      go_wp2_with fail
      refine (made_to (oppI_any _ _ _ ys _ sp_5) (onV_yes Hv.out)).mono ?_
      rintro e w6 ⟨u6, rfl, o6, b6⟩
      have t6 := t5.trans (b6.mono t5.size)
      have sp_6 := sp_5.later b6
      have sd_6 := sd_5.later b6
      obtain ⟨ado, cpo, rfl, so_6⟩ := o6.sl
      clear o6
      have Hvo := hid (opp_valid Hv.out)
      go_wp2_with fail
      refine (says_to (majorI_any _ _ _ (opp ys) _ so_6) (onVi_yes Hvo.out)).mono ?_
      rintro e w7 ⟨rfl, b7⟩
      have t7 := t6.trans (b7.mono t6.size)
      have sp_7 := sp_6.later b7
      have sd_7 := sd_6.later b7
      have so_7 := so_6.later b7
      have k0 := major_nn Hv.out
      have k1 := major_nn Hvo.out
      have k2 := opp_major Hv.out
      have k3 := pairs_le Hv.out.len
      have k4 : major ys ≤ 21 := by omega
      have k5 : major (opp ys) ≤ 21 := by omega
      have kf : (2 * (major ys + major (opp ys)) == wrap64 ((ys.length : Int) * ((ys.length : Int) - 1))) = true := by rw [pairs_wrap Hv.out.len, k2]; simp
      have hd := hid (desc_small (xs := ys) (by have := Hv.out.len; omega))
      have hd2 : (desc ys).length ≤ 1000 := by have := desc_len ys; have := Hv.out.len; omega
      have kb := sumL_bd hd.out hd2
      have kb0 := kb.1
      have kb1 : sumL (desc ys) ≤ 1000000 := by have := kb.2; omega
      have kg : (major ys == sumL (desc ys) + ((desc ys).length : Nat)) = true := by unfold major; simp
      have hl7 := Hv.out.len
      clear k2 k3 kb
      go_wp2_with fail
      refine (total_any _ _ _ (desc ys) _ sd_7 hd2 hd).mono ?_
      rintro e w8 ⟨rfl, b8⟩
      have t8 := t7.trans (b8.mono t7.size)
      have sp_8 := sp_7.later b8
      have sd_8 := sd_7.later b8
      have so_8 := so_7.later b8
      go_wp2
      go_ret
      exact ⟨rfl, t8⟩
    · have Hv := hid hv
      clear hv
      go_wp2_with fail
      refine (says_to (majorI_any _ _ _ ys _ sp_1) (onVi_no Hv.out)).mono ?_
      rintro e w2 ⟨rfl, b2⟩
      have t2 := t1.trans (b2.mono t1.size)
      have sp_2 := sp_1.later b2
      go_wp2_with fail
      refine (says_to (majorS_any _ _ _ ys _ sp_2) (onVi_no Hv.out)).mono ?_
      rintro e w3 ⟨rfl, b3⟩
      have t3 := t2.trans (b3.mono t2.size)
      have sp_3 := sp_2.later b3
      go_wp2_with fail
      refine (says_tob (validI_any _ _ _ ys _ sp_3) (decide_eq_false Hv.out)).mono ?_
      rintro e w4 ⟨rfl, b4⟩
      have t4 := t3.trans (b4.mono t3.size)
      have sp_4 := sp_3.later b4
      go_wp2_with fail
      refine (says_to (majorS_any _ _ _ ys _ sp_4) (onVi_no Hv.out)).mono ?_
      rintro e w5 ⟨rfl, b5⟩
      have t5 := t4.trans (b5.mono t4.size)
      have sp_5 := sp_4.later b5
      go_wp2
      go_ret
      exact ⟨rfl, t5⟩
  · go_enter Try.func3, Try.ntmps3
    go_wp2
    go_ret
    exact ⟨rfl, Below.refl _ _⟩

end Go.Proofs.Ytagfmimaaedolab
