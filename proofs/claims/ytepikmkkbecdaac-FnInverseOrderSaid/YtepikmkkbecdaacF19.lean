/- The walk of the law of InverseOrder. Condition of the laws' own: at most 2^20 bytes. -/
import Derived.Test.YtepikmkkbecdaacLawFn
import Derived.Test.YtepikmkkbecdaacDraw4
import Derived.Test.YtepikmkkbecdaacCir
import Derived.Test.YtepikmkkbecdaacFinCy
import Derived.Test.YtepikmkkbecdaacCnt
import Derived.Test.YtepikmkkbecdaacTab
import Derived.Test.YtepikmkkbecdaacFinSign
namespace Go.Proofs.Ytepikmkkbecdaac
open Go.RowKit

theorem shP_S (xs : List Int) : ∀ k, shP xs k = S (fun j => max (el xs j - j) (j - el xs j)) k := by
  intro k
  induction k with
  | zero => rfl
  | succ k ih => rw [shP, S, ih]
theorem shift_inv {xs : List Int} (h : Valid xs) : shift (inv xs) = shift xs := by
  rw [shift, shift, shP_S, shP_S, inv_length, ← S_perm h]
  refine S_congr _ (fun j hj => ?_)
  have h1 := inv_el h hj
  have h2 := h.lo j hj
  have h3 : (((el xs j).toNat : Nat) : Int) = el xs j := by omega
  simp only [h1, h3]
  rw [Int.max_comm]

set_option maxHeartbeats 2000000 in
theorem fnInverseOrder (bo : Option Addr) (n cap : Nat) (cs : List Int) (w : World) (h : Slb w bo n cap cs) :
    Calls Try.prog 3 #[.slice bo n cap] w (Says w (.bool true)) := by
  have hbig := h.big
  by_cases hn : n ≤ 1048576
  · go_enter Try.func3, Try.ntmps3
    go_wp2_with fail
    refine (drawInverseOrder_any _ _ _ _ _ h).mono ?_
    rintro e w1 ⟨u1, ys, rfl, o1, hl, t1⟩
    obtain ⟨adp, cpp, rfl, sp_1⟩ := o1.sl
    have Hl := hid hl
    clear hl o1
    by_cases hv : Valid ys
    · have Hv := hid hv
      clear hv
      go_wp2_with fail
      refine (made_to (inverseI_any _ _ _ ys _ sp_1) (onV_yes Hv.out)).mono ?_
      rintro e w2 ⟨u2, rfl, o2, b2⟩
      have t2 := t1.trans (b2.mono t1.size)
      have sp_2 := sp_1.later b2
      obtain ⟨ada, cpa, rfl, sa_2⟩ := o2.sl
      clear o2
      go_wp2_with fail
      refine (made_to (inverseS_any _ _ _ ys _ sp_2) (onV_yes Hv.out)).mono ?_
      rintro e w3 ⟨u3, rfl, o3, b3⟩
      have t3 := t2.trans (b3.mono t2.size)
      have sp_3 := sp_2.later b3
      have sa_3 := sa_2.later b3
      obtain ⟨ade, cpe, rfl, se_3⟩ := o3.sl
      clear o3
      go_wp2_with fail
      refine (says_tob (equalInts_any _ _ _ (inv ys) _ _ _ (inv ys) _ sa_3 se_3) (decide_eq_true rfl)).mono ?_
      rintro e w4 ⟨rfl, b4⟩
      have t4 := t3.trans (b4.mono t3.size)
      have sp_4 := sp_3.later b4
      have sa_4 := sa_3.later b4
      have se_4 := se_3.later b4
      go_wp2_with fail
      refine (says_tob (validI_any _ _ _ ys _ sp_4) (decide_eq_true Hv.out)).mono ?_
      rintro e w5 ⟨rfl, b5⟩
      have t5 := t4.trans (b5.mono t4.size)
      have sp_5 := sp_4.later b5
      have sa_5 := sa_4.later b5
      have se_5 := se_4.later b5
      have Hi := hid (inv_valid Hv.out)
      have Hc := hid (circles_inv Hv.out)
      go_wp2_with fail
      refine (made_to (inverseI_any _ _ _ (inv ys) _ sa_5) ((onV_yes Hi.out).trans (inv_inv Hv.out))).mono ?_
      rintro e w6 ⟨u6, rfl, o6, b6⟩
      have t6 := t5.trans (b6.mono t5.size)
      have sp_6 := sp_5.later b6
      have sa_6 := sa_5.later b6
      have se_6 := se_5.later b6
      obtain ⟨adb, cpb, rfl, sb_6⟩ := o6.sl
      clear o6
      go_wp2_with fail
      refine (says_tob (equalInts_any _ _ _ ys _ _ _ ys _ sb_6 sp_6) (decide_eq_true rfl)).mono ?_
      rintro e w7 ⟨rfl, b7⟩
      have t7 := t6.trans (b7.mono t6.size)
      have sp_7 := sp_6.later b7
      have sa_7 := sa_6.later b7
      have se_7 := se_6.later b7
      have sb_7 := sb_6.later b7
      go_wp2_with fail
      refine (says_to (invsI_any _ _ _ (inv ys) _ sa_7) ((onVi_yes Hi.out).trans (invs_inv Hv.out))).mono ?_
      rintro e w8 ⟨rfl, b8⟩
      have t8 := t7.trans (b8.mono t7.size)
      have sp_8 := sp_7.later b8
      have sa_8 := sa_7.later b8
      have se_8 := se_7.later b8
      have sb_8 := sb_7.later b8
      go_wp2_with fail
      refine (says_to (invsI_any _ _ _ ys _ sp_8) (onVi_yes Hv.out)).mono ?_
      rintro e w9 ⟨rfl, b9⟩
      have t9 := t8.trans (b9.mono t8.size)
      have sp_9 := sp_8.later b9
      have sa_9 := sa_8.later b9
      have se_9 := se_8.later b9
      have sb_9 := sb_8.later b9
      go_wp2_with fail
      refine (says_to (shiftI_any _ _ _ (inv ys) _ sa_9) ((onVi_yes Hi.out).trans (shift_inv Hv.out))).mono ?_
      rintro e w10 ⟨rfl, b10⟩
      have t10 := t9.trans (b10.mono t9.size)
      have sp_10 := sp_9.later b10
      have sa_10 := sa_9.later b10
      have se_10 := se_9.later b10
      have sb_10 := sb_9.later b10
      go_wp2_with fail
      refine (says_to (shiftI_any _ _ _ ys _ sp_10) (onVi_yes Hv.out)).mono ?_
      rintro e w11 ⟨rfl, b11⟩
      have t11 := t10.trans (b11.mono t10.size)
      have sp_11 := sp_10.later b11
      have sa_11 := sa_10.later b11
      have se_11 := se_10.later b11
      have sb_11 := sb_10.later b11
      go_wp2_with fail
      refine (madeL_to (circlesI_any _ _ _ (inv ys) _ sa_11) (onVL_yes Hi.out)).mono ?_
      rintro e w12 ⟨u12, rfl, o12, b12⟩
      have t12 := t11.trans (b12.mono t11.size)
      have sp_12 := sp_11.later b12
      have sa_12 := sa_11.later b12
      have se_12 := se_11.later b12
      have sb_12 := sb_11.later b12
      obtain ⟨adg, cpg, rfl, sg_12⟩ := o12.sl
      clear o12
      go_wp2_with fail
      refine (madeL_to (circlesI_any _ _ _ ys _ sp_12) (onVL_yes Hv.out)).mono ?_
      rintro e w13 ⟨u13, rfl, o13, b13⟩
      have t13 := t12.trans (b13.mono t12.size)
      have sp_13 := sp_12.later b13
      have sa_13 := sa_12.later b13
      have se_13 := se_12.later b13
      have sb_13 := sb_12.later b13
      have sg_13 := sg_12.later b13
      obtain ⟨adk, cpk, rfl, sk_13⟩ := o13.sl
      clear o13
      rw [Hc.out]
      go_wp2
      go_ret
      exact ⟨rfl, t13⟩
    · have Hv := hid hv
      clear hv
      go_wp2_with fail
      refine (made_to (inverseI_any _ _ _ ys _ sp_1) (onV_no Hv.out)).mono ?_
      rintro e w2 ⟨u2, rfl, o2, b2⟩
      have t2 := t1.trans (b2.mono t1.size)
      have sp_2 := sp_1.later b2
      obtain ⟨add, cpd, rfl, sd_2⟩ := o2.sl
      clear o2
      go_wp2_with fail
      refine (made_to (inverseS_any _ _ _ ys _ sp_2) (onV_no Hv.out)).mono ?_
      rintro e w3 ⟨u3, rfl, o3, b3⟩
      have t3 := t2.trans (b3.mono t2.size)
      have sp_3 := sp_2.later b3
      have sd_3 := sd_2.later b3
      obtain ⟨ade, cpe, rfl, se_3⟩ := o3.sl
      clear o3
      go_wp2_with fail
      refine (says_tob (equalInts_any _ _ _ [] _ _ _ [] _ sd_3 se_3) (decide_eq_true rfl)).mono ?_
      rintro e w4 ⟨rfl, b4⟩
      have t4 := t3.trans (b4.mono t3.size)
      have sp_4 := sp_3.later b4
      have sd_4 := sd_3.later b4
      have se_4 := se_3.later b4
      go_wp2_with fail
      refine (says_tob (validI_any _ _ _ ys _ sp_4) (decide_eq_false Hv.out)).mono ?_
      rintro e w5 ⟨rfl, b5⟩
      have t5 := t4.trans (b5.mono t4.size)
      have sp_5 := sp_4.later b5
      have sd_5 := sd_4.later b5
      have se_5 := se_4.later b5
      go_wp2_with fail
      refine (made_to (inverseS_any _ _ _ ys _ sp_5) (onV_no Hv.out)).mono ?_
      rintro e w6 ⟨u6, rfl, o6, b6⟩
      have t6 := t5.trans (b6.mono t5.size)
      have sp_6 := sp_5.later b6
      have sd_6 := sd_5.later b6
      have se_6 := se_5.later b6
      obtain ⟨ade2, cpe2, rfl, se2_6⟩ := o6.sl
      clear o6
      go_wp2_with fail
      refine (says_tob (equalInts_any _ _ _ [] _ _ _ [] _ sd_6 se2_6) (decide_eq_true rfl)).mono ?_
      rintro e w7 ⟨rfl, b7⟩
      have t7 := t6.trans (b7.mono t6.size)
      have sp_7 := sp_6.later b7
      have sd_7 := sd_6.later b7
      have se_7 := se_6.later b7
      have se2_7 := se2_6.later b7
      go_wp2
      go_ret
      exact ⟨rfl, t7⟩
  · go_enter Try.func3, Try.ntmps3
    go_wp2
    go_ret
    exact ⟨rfl, Below.refl _ _⟩

end Go.Proofs.Ytepikmkkbecdaac
