/- The walk of the law of ShiftOf. Condition of the laws' own: at most 2^20 bytes. -/
import Derived.Test.YtepikmkkbecdaacLawFn
import Derived.Test.YtepikmkkbecdaacDraw4
import Derived.Test.YtepikmkkbecdaacCir
import Derived.Test.YtepikmkkbecdaacFinCyK
import Derived.Test.YtepikmkkbecdaacCnt
import Derived.Test.YtepikmkkbecdaacTab
namespace Go.Proofs.Ytepikmkkbecdaac
open Go.RowKit

set_option maxHeartbeats 2000000 in
theorem fnShiftOf (bo : Option Addr) (n cap : Nat) (cs : List Int) (w : World) (h : Slb w bo n cap cs) :
    Calls Try.prog 8 #[.slice bo n cap] w (Says w (.bool true)) := by
  have hbig := h.big
  by_cases hn : n ≤ 1048576
  · go_enter Try.func8, Try.ntmps8
    go_wp2_with fail
    refine (drawShiftOf_any _ _ _ _ _ h).mono ?_
    rintro e w1 ⟨u1, ys, rfl, o1, hl, t1⟩
    obtain ⟨adp, cpp, rfl, sp_1⟩ := o1.sl
    have Hl := hid hl
    clear hl o1
    by_cases hv : Valid ys
    · have Hv := hid hv
      clear hv
      go_wp2_with fail
      refine (says_to (shiftI_any _ _ _ ys _ sp_1) (onVi_yes Hv.out)).mono ?_
      rintro e w2 ⟨rfl, b2⟩
      have t2 := t1.trans (b2.mono t1.size)
      have sp_2 := sp_1.later b2
      go_wp2_with fail
      refine (says_to (shiftS_any _ _ _ ys _ sp_2) (onVi_yes Hv.out)).mono ?_
      rintro e w3 ⟨rfl, b3⟩
      have t3 := t2.trans (b3.mono t2.size)
      have sp_3 := sp_2.later b3
      go_wp2_with fail
      refine (says_tob (validI_any _ _ _ ys _ sp_3) (decide_eq_true Hv.out)).mono ?_
      rintro e w4 ⟨rfl, b4⟩
      have t4 := t3.trans (b4.mono t3.size)
      have sp_4 := sp_3.later b4
      go_wp2_with fail
      refine (says_to (invsI_any _ _ _ ys _ sp_4) (onVi_yes Hv.out)).mono ?_
      rintro e w5 ⟨rfl, b5⟩
      have t5 := t4.trans (b5.mono t4.size)
      have sp_5 := sp_4.later b5
      have hl7 := Hv.out.len
      have Hf := hid (cir_facts Hv.out)
      have hcl : (circles ys).length ≤ ys.length := ciP_len ys ys.length
      have hsb := shP_bd Hv.out ys.length (Nat.le_refl _)
      have hs0 : 0 ≤ shift ys := hsb.1
      have hs1 : shift ys ≤ 49 := by have : shift ys ≤ 7 * (ys.length : Int) := hsb.2; omega
      have hv0 : 0 ≤ sumL (table ys) ∧ sumL (table ys) ≤ 7 * 1000 := by
        have := sumL_bd (table_small Hv.out) (L := 7) (by rw [table_len]; exact hl7)
        exact ⟨this.1, by have := this.2; omega⟩
      have hv1 := hv0.1
      have hv2 := hv0.2
      have he : shift ys % 2 = 0 := Hf.out.2.2.1
      have hu : shift ys ≤ 2 * sumL (table ys) := Hf.out.2.2.2.1
      have hlo : sumL (table ys) + (ys.length : Int) - ((circles ys).length : Int) ≤ shift ys := Hf.out.2.2.2.2
      have hg1 : sumL (table ys) + (ys.length : Int) ≤ 8000 := by omega
      have hg0 : 0 ≤ sumL (table ys) + (ys.length : Int) := by omega
      clear hsb hv0
      go_wp2_with fail
      refine (madeL_to (circlesI_any _ _ _ ys _ sp_5) (onVL_yes Hv.out)).mono ?_
      rintro e w6 ⟨u6, rfl, o6, b6⟩
      have t6 := t5.trans (b6.mono t5.size)
      have sp_6 := sp_5.later b6
      obtain ⟨adg, cpg, rfl, sg_6⟩ := o6.sl
      clear o6
      go_wp2
      go_ret
      exact ⟨rfl, t6⟩
    · have Hv := hid hv
      clear hv
      go_wp2_with fail
      refine (says_to (shiftI_any _ _ _ ys _ sp_1) (onVi_no Hv.out)).mono ?_
      rintro e w2 ⟨rfl, b2⟩
      have t2 := t1.trans (b2.mono t1.size)
      have sp_2 := sp_1.later b2
      go_wp2_with fail
      refine (says_to (shiftS_any _ _ _ ys _ sp_2) (onVi_no Hv.out)).mono ?_
      rintro e w3 ⟨rfl, b3⟩
      have t3 := t2.trans (b3.mono t2.size)
      have sp_3 := sp_2.later b3
      go_wp2_with fail
      refine (says_tob (validI_any _ _ _ ys _ sp_3) (decide_eq_false Hv.out)).mono ?_
      rintro e w4 ⟨rfl, b4⟩
      have t4 := t3.trans (b4.mono t3.size)
      have sp_4 := sp_3.later b4
      go_wp2_with fail
      refine (says_to (shiftS_any _ _ _ ys _ sp_4) (onVi_no Hv.out)).mono ?_
      rintro e w5 ⟨rfl, b5⟩
      have t5 := t4.trans (b5.mono t4.size)
      have sp_5 := sp_4.later b5
      go_wp2
      go_ret
      exact ⟨rfl, t5⟩
  · go_enter Try.func8, Try.ntmps8
    go_wp2
    go_ret
    exact ⟨rfl, Below.refl _ _⟩

end Go.Proofs.Ytepikmkkbecdaac
