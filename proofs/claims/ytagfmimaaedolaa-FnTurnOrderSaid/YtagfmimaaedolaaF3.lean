/- The walks of the laws of ValidOrder, RisingOrder and DescentsOf. Condition of the laws' own: at most 2^20 bytes. -/
import Derived.Test.YtagfmimaaedolaaLawFn
import Derived.Test.YtagfmimaaedolaaDraw4
import Derived.Test.YtagfmimaaedolaaFinInv
import Derived.Test.YtagfmimaaedolaaMult
import Derived.Test.YtagfmimaaedolaaWrapS
import Derived.Test.YtagfmimaaedolaaDraw5
namespace Go.Proofs.Ytagfmimaaedolaa
open Go.RowKit

set_option maxHeartbeats 2000000 in
theorem fnValidOrder (bo : Option Addr) (n cap : Nat) (cs : List Int) (w : World) (h : Slb w bo n cap cs) :
    Calls Try.prog 3 #[.slice bo n cap] w (Says w (.bool true)) := by
  have hbig := h.big
  by_cases hn : n ≤ 1048576
  · go_enter Try.func3, Try.ntmps3
    go_wp2_with fail
    refine (drawValidOrder_any _ _ _ _ _ h).mono ?_
    rintro e w1 ⟨u1, ys, rfl, o1, hl, t1⟩
    obtain ⟨adp, cpp, rfl, sp_1⟩ := o1.sl
    have Hl := hid hl
    clear hl o1
    by_cases hv : Valid ys
    · have Hv := hid hv
      clear hv
      go_wp2_with fail
      refine (says_tob (validI_any _ _ _ ys _ sp_1) (decide_eq_true Hv.out)).mono ?_
      rintro e w2 ⟨rfl, b2⟩
      have t2 := t1.trans (b2.mono t1.size)
      have sp_2 := sp_1.later b2
      go_wp2_with fail
      refine (says_tob (validSW_any _ _ _ ys _ sp_2) (decide_eq_true Hv.out)).mono ?_
      rintro e w3 ⟨rfl, b3⟩
      have t3 := t2.trans (b3.mono t2.size)
      have sp_3 := sp_2.later b3
      go_wp2_with fail
      refine (made_to (inverseI_any _ _ _ ys _ sp_3) (onV_yes Hv.out)).mono ?_
      rintro e w4 ⟨u4, rfl, o4, b4⟩
      have t4 := t3.trans (b4.mono t3.size)
      have sp_4 := sp_3.later b4
      obtain ⟨adq, cpq, rfl, sq_4⟩ := o4.sl
      clear o4
      have Hvi := hid (inv_valid Hv.out)
      have hM := hid (show Mat ys (inv ys) from ⟨Hv.out, Hvi.out, by rw [inv_length]⟩)
      go_wp2_with fail
      refine (multI_any _ _ _ ys _ _ _ (inv ys) _ sp_4 sq_4).mono ?_
      rintro e w5 ⟨u5, rfl, o5, b5⟩
      have t5 := t4.trans (b5.mono t4.size)
      have sp_5 := sp_4.later b5
      have sq_5 := sq_4.later b5
      rw [onM_yes hM.out] at o5
      have hdt5 := decide_eq_true hM.out
      obtain ⟨adm, cpm, rfl, sm_5⟩ := o5.sl
      clear o5
      go_wp2_with fail
      refine (says_tob (validI_any _ _ _ (inv ys) _ sq_5) (decide_eq_true Hvi.out)).mono ?_
      rintro e w6 ⟨rfl, b6⟩
      have t6 := t5.trans (b6.mono t5.size)
      have sp_6 := sp_5.later b6
      have sq_6 := sq_5.later b6
      have sm_6 := sm_5.later b6
      have hl7 := Hv.out.len
      go_wp2_with fail
      refine (risingI_yes ys.length _ hl7).mono ?_
      rintro e w7 ⟨u7, rfl, o7, b7⟩
      have t7 := t6.trans (b7.mono t6.size)
      have sp_7 := sp_6.later b7
      have sq_7 := sq_6.later b7
      have sm_7 := sm_6.later b7
      obtain ⟨adr, cpr, rfl, sr_7⟩ := o7.sl
      clear o7
      go_wp2_with fail
      refine (says_tob (equalInts_any _ _ _ (comp ys (inv ys)) _ _ _ (rise ys.length) _ sm_7 sr_7) (decide_eq_true (comp_inv Hv.out))).mono ?_
      rintro e w8 ⟨rfl, b8⟩
      have t8 := t7.trans (b8.mono t7.size)
      have sp_8 := sp_7.later b8
      have sq_8 := sq_7.later b8
      have sm_8 := sm_7.later b8
      have sr_8 := sr_7.later b8
      go_wp2
      go_ret
      exact ⟨rfl, t8⟩
    · have Hv := hid hv
      clear hv
      go_wp2_with fail
      refine (says_tob (validI_any _ _ _ ys _ sp_1) (decide_eq_false Hv.out)).mono ?_
      rintro e w2 ⟨rfl, b2⟩
      have t2 := t1.trans (b2.mono t1.size)
      have sp_2 := sp_1.later b2
      go_wp2_with fail
      refine (says_tob (validSW_any _ _ _ ys _ sp_2) (decide_eq_false Hv.out)).mono ?_
      rintro e w3 ⟨rfl, b3⟩
      have t3 := t2.trans (b3.mono t2.size)
      have sp_3 := sp_2.later b3
      go_wp2_with fail
      refine (says_tob (validSW_any _ _ _ ys _ sp_3) (decide_eq_false Hv.out)).mono ?_
      rintro e w4 ⟨rfl, b4⟩
      have t4 := t3.trans (b4.mono t3.size)
      have sp_4 := sp_3.later b4
      go_wp2
      go_ret
      exact ⟨rfl, t4⟩
  · go_enter Try.func3, Try.ntmps3
    go_wp2
    go_ret
    exact ⟨rfl, Below.refl _ _⟩

set_option maxRecDepth 100000 in
theorem rise_all : ∀ m : Nat, m < 8 → (decide (Valid (rise m)) && decide (sumL (table (rise m)) = 0) && decide (desc (rise m) = []) && decide (inv (rise m) = rise m)) = true := by decide +kernel

theorem rise_facts {m : Nat} (h : m ≤ 7) : Valid (rise m) ∧ sumL (table (rise m)) = 0 ∧ desc (rise m) = [] ∧ inv (rise m) = rise m := by
  have := rise_all m (by omega)
  simp only [Bool.and_eq_true, decide_eq_true_eq] at this
  exact ⟨this.1.1.1, this.1.1.2, this.1.2, this.2⟩

set_option maxHeartbeats 2000000 in
theorem fnRisingOrder (bo : Option Addr) (n cap : Nat) (cs : List Int) (w : World) (h : Slb w bo n cap cs) :
    Calls Try.prog 4 #[.slice bo n cap] w (Says w (.bool true)) := by
  have hbig := h.big
  by_cases hn : n ≤ 1048576
  · go_enter Try.func4, Try.ntmps4
    go_wp2_with fail
    refine (drawRisingOrder_any _ _ _ _ _ h).mono ?_
    rintro e w1 ⟨v, rfl, hn8, hp8, t1⟩
    by_cases hv : 0 ≤ v ∧ v ≤ 7
    · obtain ⟨m, rfl⟩ := Int.eq_ofNat_of_zero_le hv.1
      have hm : m ≤ 7 := by omega
      have hf := rise_facts hm
      have Hv := hid hf.1
      have Hi := hid hf.2.1
      have Hd := hid hf.2.2.1
      have Hn := hid hf.2.2.2
      clear hv hf hn8
      go_wp2_with fail
      refine (risingI_yes m _ hm).mono ?_
      rintro e w2 ⟨u2, rfl, o2, b2⟩
      have t2 := t1.trans (b2.mono t1.size)
      obtain ⟨ada, cpa, rfl, sa_2⟩ := o2.sl
      clear o2
      go_wp2_with fail
      refine (risingS_yes m _ hm).mono ?_
      rintro e w3 ⟨u3, rfl, o3, b3⟩
      have t3 := t2.trans (b3.mono t2.size)
      have sa_3 := sa_2.later b3
      obtain ⟨adb, cpb, rfl, sb_3⟩ := o3.sl
      clear o3
      go_wp2_with fail
      refine (says_tob (equalInts_any _ _ _ (rise m) _ _ _ (rise m) _ sa_3 sb_3) (decide_eq_true rfl)).mono ?_
      rintro e w4 ⟨rfl, b4⟩
      have t4 := t3.trans (b4.mono t3.size)
      have sa_4 := sa_3.later b4
      have sb_4 := sb_3.later b4
      go_wp2_with fail
      refine (says_to (invsI_any _ _ _ (rise m) _ sa_4) ((onVi_yes Hv.out).trans Hi.out)).mono ?_
      rintro e w5 ⟨rfl, b5⟩
      have t5 := t4.trans (b5.mono t4.size)
      have sa_5 := sa_4.later b5
      have sb_5 := sb_4.later b5
      go_wp2_with fail
      refine (made_to (descI_any _ _ _ (rise m) _ sa_5) ((onV_yes Hv.out).trans Hd.out)).mono ?_
      rintro e w6 ⟨u6, rfl, o6, b6⟩
      have t6 := t5.trans (b6.mono t5.size)
      have sa_6 := sa_5.later b6
      have sb_6 := sb_5.later b6
      obtain ⟨add, cpd, rfl, sd_6⟩ := o6.sl
      clear o6
      go_wp2_with fail
      refine (made_to (inverseI_any _ _ _ (rise m) _ sa_6) ((onV_yes Hv.out).trans Hn.out)).mono ?_
      rintro e w7 ⟨u7, rfl, o7, b7⟩
      have t7 := t6.trans (b7.mono t6.size)
      have sa_7 := sa_6.later b7
      have sb_7 := sb_6.later b7
      have sd_7 := sd_6.later b7
      obtain ⟨adv, cpv, rfl, sv_7⟩ := o7.sl
      clear o7
      go_wp2_with fail
      refine (says_tob (equalInts_any _ _ _ (rise m) _ _ _ (rise m) _ sv_7 sa_7) (decide_eq_true rfl)).mono ?_
      rintro e w8 ⟨rfl, b8⟩
      have t8 := t7.trans (b8.mono t7.size)
      have sa_8 := sa_7.later b8
      have sb_8 := sb_7.later b8
      have sd_8 := sd_7.later b8
      have sv_8 := sv_7.later b8
      have hle : (((rise m).length : Int) == (m : Int)) = true := by rw [rise_len]; simp
      go_wp2
      go_ret
      exact ⟨rfl, t8⟩
    · have hno : v < 0 ∨ 7 < v := by omega
      have Hno := hid hno
      clear hv hno
      go_wp2_with fail
      refine (risingI_no v _ Hno.out).mono ?_
      rintro e w2 ⟨u2, rfl, o2, b2⟩
      have t2 := t1.trans (b2.mono t1.size)
      obtain ⟨ada, cpa, rfl, sa_2⟩ := o2.sl
      clear o2
      go_wp2_with fail
      refine (risingS_no v _ Hno.out).mono ?_
      rintro e w3 ⟨u3, rfl, o3, b3⟩
      have t3 := t2.trans (b3.mono t2.size)
      have sa_3 := sa_2.later b3
      obtain ⟨adb, cpb, rfl, sb_3⟩ := o3.sl
      clear o3
      go_wp2_with fail
      refine (says_tob (equalInts_any _ _ _ [] _ _ _ [] _ sa_3 sb_3) (decide_eq_true rfl)).mono ?_
      rintro e w4 ⟨rfl, b4⟩
      have t4 := t3.trans (b4.mono t3.size)
      have sa_4 := sa_3.later b4
      have sb_4 := sb_3.later b4
      by_cases h0' : v < 0
      · have h0 : v < 0 := by omega
        go_wp2_with fail
        refine (risingS_no v _ Hno.out).mono ?_
        rintro e w5 ⟨u5, rfl, o5, b5⟩
        have t5 := t4.trans (b5.mono t4.size)
        have sa_5 := sa_4.later b5
        have sb_5 := sb_4.later b5
        obtain ⟨adc, cpc, rfl, sc_5⟩ := o5.sl
        clear o5
        go_wp2_with fail
        refine (says_tob (equalInts_any _ _ _ [] _ _ _ [] _ sa_5 sc_5) (decide_eq_true rfl)).mono ?_
        rintro e w6 ⟨rfl, b6⟩
        have t6 := t5.trans (b6.mono t5.size)
        have sa_6 := sa_5.later b6
        have sb_6 := sb_5.later b6
        have sc_6 := sc_5.later b6
        go_wp2
        go_ret
        exact ⟨rfl, t6⟩
      · have h0 : ¬ v < 0 := by omega
        have h00 : 7 < v := by have := Hno.out; omega
        go_wp2_with fail
        refine (risingS_no v _ Hno.out).mono ?_
        rintro e w5 ⟨u5, rfl, o5, b5⟩
        have t5 := t4.trans (b5.mono t4.size)
        have sa_5 := sa_4.later b5
        have sb_5 := sb_4.later b5
        obtain ⟨adc, cpc, rfl, sc_5⟩ := o5.sl
        clear o5
        go_wp2_with fail
        refine (says_tob (equalInts_any _ _ _ [] _ _ _ [] _ sa_5 sc_5) (decide_eq_true rfl)).mono ?_
        rintro e w6 ⟨rfl, b6⟩
        have t6 := t5.trans (b6.mono t5.size)
        have sa_6 := sa_5.later b6
        have sb_6 := sb_5.later b6
        have sc_6 := sc_5.later b6
        go_wp2
        go_ret
        exact ⟨rfl, t6⟩
  · go_enter Try.func4, Try.ntmps4
    go_wp2
    go_ret
    exact ⟨rfl, Below.refl _ _⟩

end Go.Proofs.Ytagfmimaaedolaa
