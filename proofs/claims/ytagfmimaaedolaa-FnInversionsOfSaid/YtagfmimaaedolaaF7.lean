/- The walk of the law of InversionsOf. Condition of the law's own: at most 2^20 bytes. -/
import Derived.Test.YtagfmimaaedolaaF6
namespace Go.Proofs.Ytagfmimaaedolaa
open Go.RowKit

set_option maxHeartbeats 2000000 in
theorem fnInversionsOf (bo : Option Addr) (n cap : Nat) (cs : List Int) (w : World) (h : Slb w bo n cap cs) :
    Calls Try.prog 9 #[.slice bo n cap] w (Says w (.bool true)) := by
  have hbig := h.big
  by_cases hn : n ≤ 1048576
  · go_enter Try.func9, Try.ntmps9
    go_wp2_with fail
    refine (drawInversionsOf_any _ _ _ _ _ h).mono ?_
    rintro e w1 ⟨u1, ys, rfl, o1, hl, t1⟩
    obtain ⟨adp, cpp, rfl, sp_1⟩ := o1.sl
    have Hl := hid hl
    clear hl o1
    by_cases hv : Valid ys
    · have Hv := hid hv
      clear hv
      go_wp2_with fail
      refine (says_to (invsI_any _ _ _ ys _ sp_1) (onVi_yes Hv.out)).mono ?_
      rintro e w2 ⟨rfl, b2⟩
      have t2 := t1.trans (b2.mono t1.size)
      have sp_2 := sp_1.later b2
      go_wp2_with fail
      refine (says_to (invsS_any _ _ _ ys _ sp_2) (onVi_yes Hv.out)).mono ?_
      rintro e w3 ⟨rfl, b3⟩
      have t3 := t2.trans (b3.mono t2.size)
      have sp_3 := sp_2.later b3
      go_wp2_with fail
      refine (says_tob (validI_any _ _ _ ys _ sp_3) (decide_eq_true Hv.out)).mono ?_
      rintro e w4 ⟨rfl, b4⟩
      have t4 := t3.trans (b4.mono t3.size)
      have sp_4 := sp_3.later b4
      have Hvt := hid (turn_valid Hv.out)
      go_wp2_with fail
      refine (made_to (tableI_any _ _ _ ys _ sp_4) (onV_yes Hv.out)).mono ?_
      rintro e w5 ⟨u5, rfl, o5, b5⟩
      have t5 := t4.trans (b5.mono t4.size)
      have sp_5 := sp_4.later b5
      obtain ⟨adt, cpt, rfl, st_5⟩ := o5.sl
      clear o5
      have hl7 := Hv.out.len
      have k0 := invs_nn Hv.out
      have k1 := invs_nn Hvt.out
      have k2 := turn_pairs Hv.out
      have k3 := pairs_le Hv.out.len
      have k4 : sumL (table ys) ≤ 21 := by omega
      have k5 : sumL (table (turn ys)) ≤ 21 := by omega
      have kf : 2 * sumL (table ys) ≤ wrap64 ((ys.length : Int) * ((ys.length : Int) - 1)) := by rw [pairs_wrap Hv.out.len]; omega
      have hd := hid (table_small Hv.out)
      have hd2 : (table ys).length ≤ 1000 := by rw [table_len]; omega
      clear k1 k2 k3 k5
      go_wp2_with fail
      refine (total_any _ _ _ (table ys) _ st_5 hd2 hd).mono ?_
      rintro e w6 ⟨rfl, b6⟩
      have t6 := t5.trans (b6.mono t5.size)
      have sp_6 := sp_5.later b6
      have st_6 := st_5.later b6
      go_wp2_with fail
      refine (risingI_yes ys.length _ hl7).mono ?_
      rintro e w7 ⟨u7, rfl, o7, b7⟩
      have t7 := t6.trans (b7.mono t6.size)
      have sp_7 := sp_6.later b7
      have st_7 := st_6.later b7
      obtain ⟨adr, cpr, rfl, sr_7⟩ := o7.sl
      clear o7
      by_cases hr : ys = rise ys.length
      · have Hr := hid hr
        clear hr
        have kz : (sumL (table ys) == 0) = true := by rw [Hr.out, (rise_facts hl7).2.1]; rfl
        go_wp2_with fail
        refine (says_tob (equalInts_any _ _ _ ys _ _ _ (rise ys.length) _ sp_7 sr_7) (decide_eq_true Hr.out)).mono ?_
        rintro e w8 ⟨rfl, b8⟩
        have t8 := t7.trans (b8.mono t7.size)
        have sp_8 := sp_7.later b8
        have st_8 := st_7.later b8
        have sr_8 := sr_7.later b8
        go_wp2
        go_ret
        exact ⟨rfl, t8⟩
      · have Hr := hid hr
        clear hr
        have kz : (sumL (table ys) == 0) = false := by rw [beq_eq_false_iff_ne]; exact fun e => Hr.out (rises Hv.out e)
        go_wp2_with fail
        refine (says_tob (equalInts_any _ _ _ ys _ _ _ (rise ys.length) _ sp_7 sr_7) (decide_eq_false Hr.out)).mono ?_
        rintro e w8 ⟨rfl, b8⟩
        have t8 := t7.trans (b8.mono t7.size)
        have sp_8 := sp_7.later b8
        have st_8 := st_7.later b8
        have sr_8 := sr_7.later b8
        go_wp2
        go_ret
        exact ⟨rfl, t8⟩
    · have Hv := hid hv
      clear hv
      go_wp2_with fail
      refine (says_to (invsI_any _ _ _ ys _ sp_1) (onVi_no Hv.out)).mono ?_
      rintro e w2 ⟨rfl, b2⟩
      have t2 := t1.trans (b2.mono t1.size)
      have sp_2 := sp_1.later b2
      go_wp2_with fail
      refine (says_to (invsS_any _ _ _ ys _ sp_2) (onVi_no Hv.out)).mono ?_
      rintro e w3 ⟨rfl, b3⟩
      have t3 := t2.trans (b3.mono t2.size)
      have sp_3 := sp_2.later b3
      go_wp2_with fail
      refine (says_tob (validI_any _ _ _ ys _ sp_3) (decide_eq_false Hv.out)).mono ?_
      rintro e w4 ⟨rfl, b4⟩
      have t4 := t3.trans (b4.mono t3.size)
      have sp_4 := sp_3.later b4
      go_wp2_with fail
      refine (says_to (invsS_any _ _ _ ys _ sp_4) (onVi_no Hv.out)).mono ?_
      rintro e w5 ⟨rfl, b5⟩
      have t5 := t4.trans (b5.mono t4.size)
      have sp_5 := sp_4.later b5
      go_wp2
      go_ret
      exact ⟨rfl, t5⟩
  · go_enter Try.func9, Try.ntmps9
    go_wp2
    go_ret
    exact ⟨rfl, Below.refl _ _⟩

end Go.Proofs.Ytagfmimaaedolaa
