/- The walk of the law of ExceedMap. Condition of the laws' own: at most 2^20 bytes. -/
import Derived.Test.YtlhphgldmefefabLawFn2
import Derived.Test.YtlhphgldmefefabDrawM
import Derived.Test.YtlhphgldmefefabLin3
import Derived.Test.YtlhphgldmefefabLnF
import Derived.Test.YtlhphgldmefefabExc
import Derived.Test.YtlhphgldmefefabLawL
namespace Go.Proofs.Ytlhphgldmefefab
open Go.RowKit

set_option maxHeartbeats 2000000 in
theorem fnExceedMap (bo : Option Addr) (n cap : Nat) (cs : List Int) (w : World) (h : Slb w bo n cap cs) :
    Calls Try.prog 9 #[.slice bo n cap] w (Says w (.bool true)) := by
  have hbig := h.big
  by_cases hn : n ≤ 1048576
  · go_enter Try.func9, Try.ntmps9
    go_wp2_with fail
    refine (drawExceedMap_any _ _ _ _ _ h).mono ?_
    rintro e w1 ⟨u1, ys, rfl, o1, hl, t1⟩
    obtain ⟨adp, cpp, rfl, sp_1⟩ := o1.sl
    have Hl := hid hl
    have np := hid o1.nilcap
    clear hl o1
    by_cases hv : Valid ys
    · have Hv := hid hv
      clear hv
      go_wp2_with fail
      refine (made_to (excI_any _ _ _ ys _ sp_1) (onV_yes Hv.out)).mono ?_
      rintro e w2 ⟨u2, rfl, o2, b2⟩
      have t2 := t1.trans (b2.mono t1.size)
      have sp_2 := sp_1.later b2
      obtain ⟨ada, cpa, rfl, sa_2⟩ := o2.sl
      clear o2
      go_wp2_with fail
      refine (made_to (excS_any _ _ _ ys _ sp_2) (onV_yes Hv.out)).mono ?_
      rintro e w3 ⟨u3, rfl, o3, b3⟩
      have t3 := t2.trans (b3.mono t2.size)
      have sp_3 := sp_2.later b3
      have sa_3 := sa_2.later b3
      obtain ⟨ade, cpe, rfl, se_3⟩ := o3.sl
      clear o3
      go_wp2_with fail
      refine (says_tob (equalInts_any _ _ _ (inv (frL ys)) _ _ _ (inv (frL ys)) _ sa_3 se_3) (decide_eq_true rfl)).mono ?_
      rintro e w4 ⟨rfl, b4⟩
      have t4 := t3.trans (b4.mono t3.size)
      have sp_4 := sp_3.later b4
      have sa_4 := sa_3.later b4
      have se_4 := se_3.later b4
      go_wp2_with fail
      refine (says_tob (validI_any _ _ _ ys _ sp_4) (decide_eq_true Hv.out)).mono ?_
      rintro e w5 ⟨rfl, b5⟩
      have t5 := t4.trans (b5.mono t4.size)
      have sp_5 := sp_4.later b5
      have sa_5 := sa_4.later b5
      have se_5 := se_4.later b5
      have Hln := hid (ln_facts Hv.out)
      have Hi := hid (inv_valid Hln.out.1)
      go_wp2_with fail
      refine (made_to (aboveI_any _ _ _ (inv (frL ys)) _ sa_5) (onV_yes Hi.out)).mono ?_
      rintro e w6 ⟨u6, rfl, o6, b6⟩
      have t6 := t5.trans (b6.mono t5.size)
      have sp_6 := sp_5.later b6
      have sa_6 := sa_5.later b6
      have se_6 := se_5.later b6
      obtain ⟨adc, cpc, rfl, sc_6⟩ := o6.sl
      clear o6
      go_wp2_with fail
      refine (made_to (descI_any _ _ _ ys _ sp_6) (onV_yes Hv.out)).mono ?_
      rintro e w7 ⟨u7, rfl, o7, b7⟩
      have t7 := t6.trans (b7.mono t6.size)
      have sp_7 := sp_6.later b7
      have sa_7 := sa_6.later b7
      have se_7 := se_6.later b7
      have sc_7 := sc_6.later b7
      obtain ⟨add, cpd, rfl, sd_7⟩ := o7.sl
      clear o7
      have hce := above_exc Hv.out
      rw [hce]
      go_wp2_with fail
      refine (madeL_to (circlesI_any _ _ _ (inv (frL ys)) _ sa_7) (onVL_yes Hi.out)).mono ?_
      rintro e w8 ⟨u8, rfl, o8, b8⟩
      have t8 := t7.trans (b8.mono t7.size)
      have sp_8 := sp_7.later b8
      have sa_8 := sa_7.later b8
      have se_8 := se_7.later b8
      have sc_8 := sc_7.later b8
      have sd_8 := sd_7.later b8
      obtain ⟨adf, cpf, rfl, sf_8⟩ := o8.sl
      clear o8
      go_wp2_with fail
      refine (made_to (recordsI_any _ _ _ ys _ sp_8) (onV_yes Hv.out)).mono ?_
      rintro e w9 ⟨u9, rfl, o9, b9⟩
      have t9 := t8.trans (b9.mono t8.size)
      have sp_9 := sp_8.later b9
      have sa_9 := sa_8.later b9
      have se_9 := se_8.later b9
      have sc_9 := sc_8.later b9
      have sd_9 := sd_8.later b9
      have sf_9 := sf_8.later b9
      obtain ⟨adg, cpg, rfl, sg_9⟩ := o9.sl
      clear o9
      have hcc : (circles (inv (frL ys))).length = (records ys).length := (circles_inv Hln.out.1).trans Hln.out.2.2.2
      rw [hcc]
      go_wp2_with fail
      refine (made_to (inverseI_any _ _ _ (inv (frL ys)) _ sa_9) ((onV_yes Hi.out).trans (inv_inv Hln.out.1))).mono ?_
      rintro e w10 ⟨u10, rfl, o10, b10⟩
      have t10 := t9.trans (b10.mono t9.size)
      have sp_10 := sp_9.later b10
      have sa_10 := sa_9.later b10
      have se_10 := se_9.later b10
      have sc_10 := sc_9.later b10
      have sd_10 := sd_9.later b10
      have sf_10 := sf_9.later b10
      have sg_10 := sg_9.later b10
      obtain ⟨adi, cpi, rfl, si_10⟩ := o10.sl
      clear o10
      go_wp2_with fail
      refine (made_to (toLI_any _ _ _ (frL ys) _ si_10) ((onV_yes Hln.out.1).trans Hln.out.2.1)).mono ?_
      rintro e w11 ⟨u11, rfl, o11, b11⟩
      have t11 := t10.trans (b11.mono t10.size)
      have sp_11 := sp_10.later b11
      have sa_11 := sa_10.later b11
      have se_11 := se_10.later b11
      have sc_11 := sc_10.later b11
      have sd_11 := sd_10.later b11
      have sf_11 := sf_10.later b11
      have sg_11 := sg_10.later b11
      have si_11 := si_10.later b11
      obtain ⟨adb, cpb, rfl, sb_11⟩ := o11.sl
      clear o11
      go_wp2_with fail
      refine (says_tob (equalInts_any _ _ _ ys _ _ _ ys _ sb_11 sp_11) (decide_eq_true rfl)).mono ?_
      rintro e w12 ⟨rfl, b12⟩
      have t12 := t11.trans (b12.mono t11.size)
      have sp_12 := sp_11.later b12
      have sa_12 := sa_11.later b12
      have se_12 := se_11.later b12
      have sc_12 := sc_11.later b12
      have sd_12 := sd_11.later b12
      have sf_12 := sf_11.later b12
      have sg_12 := sg_11.later b12
      have si_12 := si_11.later b12
      have sb_12 := sb_11.later b12
      go_wp2
      go_ret
      exact ⟨rfl, t12⟩
    · have Hv := hid hv
      clear hv
      go_wp2_with fail
      refine (made_to (excI_any _ _ _ ys _ sp_1) (onV_no Hv.out)).mono ?_
      rintro e w2 ⟨u2, rfl, o2, b2⟩
      have t2 := t1.trans (b2.mono t1.size)
      have sp_2 := sp_1.later b2
      obtain ⟨add, cpd, rfl, sd_2⟩ := o2.sl
      clear o2
      go_wp2_with fail
      refine (made_to (excS_any _ _ _ ys _ sp_2) (onV_no Hv.out)).mono ?_
      rintro e w3 ⟨u3, rfl, o3, b3⟩
      have t3 := t2.trans (b3.mono t2.size)
      have sp_3 := sp_2.later b3
      have sd_3 := sd_2.later b3
      obtain ⟨ade, cpe, rfl, se_3⟩ := o3.sl
      clear o3
      go_wp2_with fail
      refine (says_tob (equalInts_any _ _ _ [] _ _ _ [] _ sd_3 se_3) (decide_eq_true rfl)).mono ?_
      rintro e w4 ⟨rfl, b4⟩
      have t4 := t3.trans (b4.mono t3.size)
      have sp_4 := sp_3.later b4
      have sd_4 := sd_3.later b4
      have se_4 := se_3.later b4
      go_wp2_with fail
      refine (says_tob (validI_any _ _ _ ys _ sp_4) (decide_eq_false Hv.out)).mono ?_
      rintro e w5 ⟨rfl, b5⟩
      have t5 := t4.trans (b5.mono t4.size)
      have sp_5 := sp_4.later b5
      have sd_5 := sd_4.later b5
      have se_5 := se_4.later b5
      go_wp2_with fail
      refine (made_to (excS_any _ _ _ ys _ sp_5) (onV_no Hv.out)).mono ?_
      rintro e w6 ⟨u6, rfl, o6, b6⟩
      have t6 := t5.trans (b6.mono t5.size)
      have sp_6 := sp_5.later b6
      have sd_6 := sd_5.later b6
      have se_6 := se_5.later b6
      obtain ⟨ade2, cpe2, rfl, se2_6⟩ := o6.sl
      clear o6
      go_wp2_with fail
      refine (says_tob (equalInts_any _ _ _ [] _ _ _ [] _ sd_6 se2_6) (decide_eq_true rfl)).mono ?_
      rintro e w7 ⟨rfl, b7⟩
      have t7 := t6.trans (b7.mono t6.size)
      have sp_7 := sp_6.later b7
      have sd_7 := sd_6.later b7
      have se_7 := se_6.later b7
      have se2_7 := se2_6.later b7
      go_wp2
      go_ret
      exact ⟨rfl, t7⟩
  · go_enter Try.func9, Try.ntmps9
    go_wp2
    go_ret
    exact ⟨rfl, Below.refl _ _⟩

end Go.Proofs.Ytlhphgldmefefab
