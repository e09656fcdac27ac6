/- The walks of the laws of TurnOrder and InversionsOf. Condition of the laws' own: at most 2^20 bytes. -/
import Derived.Test.YtagfmimaaedolaaFinPairs
import Derived.Test.YtagfmimaaedolaaFinMajor
import Derived.Test.YtagfmimaaedolaaF1
import Derived.Test.YtagfmimaaedolaaF3
namespace Go.Proofs.Ytagfmimaaedolaa
open Go.RowKit

theorem turn_opp {xs : List Int} : turn (opp xs) = opp (turn xs) := by
  refine ext_el (by rw [turn_len, opp_len, opp_len, turn_len]) (fun j hj => ?_)
  rw [turn_len, opp_len] at hj
  rw [el_turn (by rw [opp_len]; exact hj), opp_len, el_opp (by omega), el_opp (by rw [turn_len]; exact hj), el_turn hj, turn_len]

theorem invs_nn {xs : List Int} (h : Valid xs) : 0 ≤ sumL (table xs) := (sumL_bd (table_small h) (Nat.le_refl _)).1

set_option maxHeartbeats 2000000 in
theorem fnTurnOrder (bo : Option Addr) (n cap : Nat) (cs : List Int) (w : World) (h : Slb w bo n cap cs) :
    Calls Try.prog 5 #[.slice bo n cap] w (Says w (.bool true)) := by
  have hbig := h.big
  by_cases hn : n ≤ 1048576
  · go_enter Try.func5, Try.ntmps5
    go_wp2_with fail
    refine (drawTurnOrder_any _ _ _ _ _ h).mono ?_
    rintro e w1 ⟨u1, ys, rfl, o1, hl, t1⟩
    obtain ⟨adp, cpp, rfl, sp_1⟩ := o1.sl
    have Hl := hid hl
    clear hl o1
    by_cases hv : Valid ys
    · have Hv := hid hv
      clear hv
      go_wp2_with fail
      refine (made_to (turnI_any _ _ _ ys _ sp_1) (onV_yes Hv.out)).mono ?_
      rintro e w2 ⟨u2, rfl, o2, b2⟩
      have t2 := t1.trans (b2.mono t1.size)
      have sp_2 := sp_1.later b2
      obtain ⟨ado, cpo, rfl, so_2⟩ := o2.sl
      clear o2
      go_wp2_with fail
      refine (made_to (turnS_any _ _ _ ys _ sp_2) (onV_yes Hv.out)).mono ?_
      rintro e w3 ⟨u3, rfl, o3, b3⟩
      have t3 := t2.trans (b3.mono t2.size)
      have sp_3 := sp_2.later b3
      have so_3 := so_2.later b3
      obtain ⟨adx, cpx, rfl, sx_3⟩ := o3.sl
      clear o3
      go_wp2_with fail
      refine (says_tob (equalInts_any _ _ _ (turn ys) _ _ _ (turn ys) _ so_3 sx_3) (decide_eq_true rfl)).mono ?_
      rintro e w4 ⟨rfl, b4⟩
      have t4 := t3.trans (b4.mono t3.size)
      have sp_4 := sp_3.later b4
      have so_4 := so_3.later b4
      have sx_4 := sx_3.later b4
      go_wp2_with fail
      refine (says_tob (validI_any _ _ _ ys _ sp_4) (decide_eq_true Hv.out)).mono ?_
      rintro e w5 ⟨rfl, b5⟩
      have t5 := t4.trans (b5.mono t4.size)
      have sp_5 := sp_4.later b5
      have so_5 := so_4.later b5
      have sx_5 := sx_4.later b5
      have Hvt := hid (turn_valid Hv.out)
      have Hvo := hid (opp_valid Hv.out)
      go_wp2_with fail
      refine (made_to (turnI_any _ _ _ (turn ys) _ so_5) ((onV_yes Hvt.out).trans turn_turn)).mono ?_
      rintro e w6 ⟨u6, rfl, o6, b6⟩
      have t6 := t5.trans (b6.mono t5.size)
      have sp_6 := sp_5.later b6
      have so_6 := so_5.later b6
      have sx_6 := sx_5.later b6
      obtain ⟨adtt, cptt, rfl, stt_6⟩ := o6.sl
      clear o6
      go_wp2_with fail
      refine (says_tob (equalInts_any _ _ _ ys _ _ _ ys _ stt_6 sp_6) (decide_eq_true rfl)).mono ?_
      rintro e w7 ⟨rfl, b7⟩
      have t7 := t6.trans (b7.mono t6.size)
      have sp_7 := sp_6.later b7
      have so_7 := so_6.later b7
      have sx_7 := sx_6.later b7
      have stt_7 := stt_6.later b7
      go_wp2_with fail
      refine (says_to (invsI_any _ _ _ (turn ys) _ so_7) (onVi_yes Hvt.out)).mono ?_
      rintro e w8 ⟨rfl, b8⟩
      have t8 := t7.trans (b8.mono t7.size)
      have sp_8 := sp_7.later b8
      have so_8 := so_7.later b8
      have sx_8 := sx_7.later b8
      have stt_8 := stt_7.later b8
      go_wp2_with fail
      refine (says_to (invsI_any _ _ _ ys _ sp_8) (onVi_yes Hv.out)).mono ?_
      rintro e w9 ⟨rfl, b9⟩
      have t9 := t8.trans (b9.mono t8.size)
      have sp_9 := sp_8.later b9
      have so_9 := so_8.later b9
      have sx_9 := sx_8.later b9
      have stt_9 := stt_8.later b9
      have hl7 := Hv.out.len
      have k0 := invs_nn Hv.out
      have k1 := invs_nn Hvt.out
      have k2 := turn_pairs Hv.out
      have k3 := pairs_le Hv.out.len
      have k4 : sumL (table ys) ≤ 21 := by omega
      have k5 : sumL (table (turn ys)) ≤ 21 := by omega
      have kf : (2 * (sumL (table (turn ys)) + sumL (table ys)) == wrap64 ((ys.length : Int) * ((ys.length : Int) - 1))) = true := by rw [pairs_wrap Hv.out.len, k2]; simp
      clear k2 k3
      go_wp2_with fail
      refine (made_to (oppI_any _ _ _ ys _ sp_9) (onV_yes Hv.out)).mono ?_
      rintro e w10 ⟨u10, rfl, o10, b10⟩
      have t10 := t9.trans (b10.mono t9.size)
      have sp_10 := sp_9.later b10
      have so_10 := so_9.later b10
      have sx_10 := sx_9.later b10
      have stt_10 := stt_9.later b10
      obtain ⟨adq, cpq, rfl, sq_10⟩ := o10.sl
      clear o10
      go_wp2_with fail
      refine (made_to (turnI_any _ _ _ (opp ys) _ sq_10) ((onV_yes Hvo.out).trans turn_opp)).mono ?_
      rintro e w11 ⟨u11, rfl, o11, b11⟩
      have t11 := t10.trans (b11.mono t10.size)
      have sp_11 := sp_10.later b11
      have so_11 := so_10.later b11
      have sx_11 := sx_10.later b11
      have stt_11 := stt_10.later b11
      have sq_11 := sq_10.later b11
      obtain ⟨adqt, cpqt, rfl, sqt_11⟩ := o11.sl
      clear o11
      go_wp2_with fail
      refine (made_to (oppI_any _ _ _ (turn ys) _ so_11) (onV_yes Hvt.out)).mono ?_
      rintro e w12 ⟨u12, rfl, o12, b12⟩
      have t12 := t11.trans (b12.mono t11.size)
      have sp_12 := sp_11.later b12
      have so_12 := so_11.later b12
      have sx_12 := sx_11.later b12
      have stt_12 := stt_11.later b12
      have sq_12 := sq_11.later b12
      have sqt_12 := sqt_11.later b12
      obtain ⟨adot, cpot, rfl, sot_12⟩ := o12.sl
      clear o12
      go_wp2_with fail
      refine (says_tob (equalInts_any _ _ _ (opp (turn ys)) _ _ _ (opp (turn ys)) _ sqt_12 sot_12) (decide_eq_true rfl)).mono ?_
      rintro e w13 ⟨rfl, b13⟩
      have t13 := t12.trans (b13.mono t12.size)
      have sp_13 := sp_12.later b13
      have so_13 := so_12.later b13
      have sx_13 := sx_12.later b13
      have stt_13 := stt_12.later b13
      have sq_13 := sq_12.later b13
      have sqt_13 := sqt_12.later b13
      have sot_13 := sot_12.later b13
      go_wp2
      go_ret
      exact ⟨rfl, t13⟩
    · have Hv := hid hv
      clear hv
      go_wp2_with fail
      refine (made_to (turnI_any _ _ _ ys _ sp_1) (onV_no Hv.out)).mono ?_
      rintro e w2 ⟨u2, rfl, o2, b2⟩
      have t2 := t1.trans (b2.mono t1.size)
      have sp_2 := sp_1.later b2
      obtain ⟨ado, cpo, rfl, so_2⟩ := o2.sl
      clear o2
      go_wp2_with fail
      refine (made_to (turnS_any _ _ _ ys _ sp_2) (onV_no Hv.out)).mono ?_
      rintro e w3 ⟨u3, rfl, o3, b3⟩
      have t3 := t2.trans (b3.mono t2.size)
      have sp_3 := sp_2.later b3
      have so_3 := so_2.later b3
      obtain ⟨adx, cpx, rfl, sx_3⟩ := o3.sl
      clear o3
      go_wp2_with fail
      refine (says_tob (equalInts_any _ _ _ [] _ _ _ [] _ so_3 sx_3) (decide_eq_true rfl)).mono ?_
      rintro e w4 ⟨rfl, b4⟩
      have t4 := t3.trans (b4.mono t3.size)
      have sp_4 := sp_3.later b4
      have so_4 := so_3.later b4
      have sx_4 := sx_3.later b4
      go_wp2_with fail
      refine (says_tob (validI_any _ _ _ ys _ sp_4) (decide_eq_false Hv.out)).mono ?_
      rintro e w5 ⟨rfl, b5⟩
      have t5 := t4.trans (b5.mono t4.size)
      have sp_5 := sp_4.later b5
      have so_5 := so_4.later b5
      have sx_5 := sx_4.later b5
      go_wp2_with fail
      refine (made_to (turnS_any _ _ _ ys _ sp_5) (onV_no Hv.out)).mono ?_
      rintro e w6 ⟨u6, rfl, o6, b6⟩
      have t6 := t5.trans (b6.mono t5.size)
      have sp_6 := sp_5.later b6
      have so_6 := so_5.later b6
      have sx_6 := sx_5.later b6
      obtain ⟨adx2, cpx2, rfl, sx2_6⟩ := o6.sl
      clear o6
      go_wp2_with fail
      refine (says_tob (equalInts_any _ _ _ [] _ _ _ [] _ so_6 sx2_6) (decide_eq_true rfl)).mono ?_
      rintro e w7 ⟨rfl, b7⟩
      have t7 := t6.trans (b7.mono t6.size)
      have sp_7 := sp_6.later b7
      have so_7 := so_6.later b7
      have sx_7 := sx_6.later b7
      have sx2_7 := sx2_6.later b7
      go_wp2
      go_ret
      exact ⟨rfl, t7⟩
  · go_enter Try.func5, Try.ntmps5
    go_wp2
    go_ret
    exact ⟨rfl, Below.refl _ _⟩

end Go.Proofs.Ytagfmimaaedolaa
