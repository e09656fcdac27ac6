/- The walk of the law of FixedOf. Condition of the laws' own: at most 2^20 bytes. -/
import Derived.Test.YtepikmkkbecdaacLawFn
import Derived.Test.YtepikmkkbecdaacDraw4
import Derived.Test.YtepikmkkbecdaacCir
import Derived.Test.YtepikmkkbecdaacFinCy
import Derived.Test.YtepikmkkbecdaacCnt
namespace Go.Proofs.Ytepikmkkbecdaac
open Go.RowKit

set_option maxHeartbeats 2000000 in
theorem fnFixedOf (bo : Option Addr) (n cap : Nat) (cs : List Int) (w : World) (h : Slb w bo n cap cs) :
    Calls Try.prog 5 #[.slice bo n cap] w (Says w (.bool true)) := by
  have hbig := h.big
  by_cases hn : n ≤ 1048576
  · go_enter Try.func5, Try.ntmps5
    go_wp2_with fail
    refine (drawFixedOf_any _ _ _ _ _ h).mono ?_
    rintro e w1 ⟨u1, ys, rfl, o1, hl, t1⟩
    obtain ⟨adp, cpp, rfl, sp_1⟩ := o1.sl
    have Hl := hid hl
    clear hl o1
    by_cases hv : Valid ys
    · have Hv := hid hv
      clear hv
      go_wp2_with fail
      refine (made_to (fixedI_any _ _ _ ys _ sp_1) (onV_yes Hv.out)).mono ?_
      rintro e w2 ⟨u2, rfl, o2, b2⟩
      have t2 := t1.trans (b2.mono t1.size)
      have sp_2 := sp_1.later b2
      obtain ⟨ada, cpa, rfl, sa_2⟩ := o2.sl
      clear o2
      go_wp2_with fail
      refine (made_to (fixedS_any _ _ _ ys _ sp_2) (onV_yes Hv.out)).mono ?_
      rintro e w3 ⟨u3, rfl, o3, b3⟩
      have t3 := t2.trans (b3.mono t2.size)
      have sp_3 := sp_2.later b3
      have sa_3 := sa_2.later b3
      obtain ⟨ade, cpe, rfl, se_3⟩ := o3.sl
      clear o3
      go_wp2_with fail
      refine (says_tob (equalInts_any _ _ _ (fixed ys) _ _ _ (fixed ys) _ sa_3 se_3) (decide_eq_true rfl)).mono ?_
      rintro e w4 ⟨rfl, b4⟩
      have t4 := t3.trans (b4.mono t3.size)
      have sp_4 := sp_3.later b4
      have sa_4 := sa_3.later b4
      have se_4 := se_3.later b4
      go_wp2_with fail
      refine (says_tob (validI_any _ _ _ ys _ sp_4) (decide_eq_true Hv.out)).mono ?_
      rintro e w5 ⟨rfl, b5⟩
      have t5 := t4.trans (b5.mono t4.size)
      have sp_5 := sp_4.later b5
      have sa_5 := sa_4.later b5
      have se_5 := se_4.later b5
      have Hi := hid (inv_valid Hv.out)
      go_wp2_with fail
      refine (madeL_to (circlesI_any _ _ _ ys _ sp_5) (onVL_yes Hv.out)).mono ?_
      rintro e w6 ⟨u6, rfl, o6, b6⟩
      have t6 := t5.trans (b6.mono t5.size)
      have sp_6 := sp_5.later b6
      have sa_6 := sa_5.later b6
      have se_6 := se_5.later b6
      obtain ⟨adg, cpg, rfl, sg_6⟩ := o6.sl
      clear o6
      have hl7 := Hv.out.len
      have hcl : (circles ys).length ≤ ys.length := ciP_len ys ys.length
      have Hone := hid (fixed_one Hv.out)
      have hfl := fixed_len ys
      obtain ⟨cs, hcs⟩ : ∃ cs, cs = circles ys := ⟨_, rfl⟩
      have sg := sg_6
      rw [← hcs] at sg hcl Hone ⊢
      obtain ⟨m, hm⟩ : ∃ m, m = cs.length := ⟨_, rfl⟩
      rw [← hm] at sg hcl Hone ⊢
      have Hm := hid hm
      clear hm hcs
      go_wp2
      go_loopw [5, 7] (fun q i wr => ∃ (k : Nat), k ≤ m ∧ q = .int .i64 (oneP cs k) ∧ i = .int .i64 k ∧ Below w6.heap.size w6 wr)
        (fun _ i _ => m - (intOf i).toNat)
      case atStart => exact ⟨0, Nat.zero_le _, rfl, rfl, Below.refl _ _⟩
      case round =>
        obtain ⟨k, hk, rfl, rfl, hbr⟩ := hrel
        have hbd : 0 ≤ oneP cs k ∧ oneP cs k ≤ k := cntP_bd _ _
        have hq1 := hbd.1
        have hq2 := hbd.2
        clear hbd
        by_cases hlt : k < m
        · obtain ⟨b, off, rfl, hblt, hc⟩ := (sg.later hbr).row (by omega)
          obtain ⟨a1, c1, hcell0, hs1⟩ := hc k hlt
          have hki : (k : Int) < m := by omega
          by_cases h1 : (ell cs k).length = 1
          · have e1 : Hid (oneP cs (k + 1) = oneP cs k + 1) := hid (cntP_yes (decide_eq_true h1))
            rw [h1] at hcell0
            clear hc hs1 h1
            go_wp2
            go_roundw
            case rel => exact ⟨k + 1, by omega, by rw [e1.out], by go_num, hbr⟩
            case measure => simp [intOf]; omega
          · have e1 : Hid (oneP cs (k + 1) = oneP cs k) := hid (cntP_no (decide_eq_false h1))
            obtain ⟨P, hP⟩ : ∃ P, P = (ell cs k).length := ⟨_, rfl⟩
            rw [← hP] at hcell0 h1
            have hne : ((P : Int) == 1) = false := by rw [beq_eq_false_iff_ne]; omega
            clear hc hs1 h1 hP
            go_wp2
            go_roundw
            case rel => exact ⟨k + 1, by omega, by rw [e1.out], by go_num, hbr⟩
            case measure => simp [intOf]; omega
        · obtain rfl : k = m := by omega
          rw [Hone.out]
          obtain ⟨w7, hw⟩ : ∃ w7, w7 = wr := ⟨_, rfl⟩
          subst hw
          have t7 := t6.trans (hbr.mono t6.size)
          have sa_7 := sa_6.later hbr
          have sp_7 := sp_6.later hbr
          go_wp2_with fail
          refine (made_to (inverseI_any _ _ _ ys _ sp_7) (onV_yes Hv.out)).mono ?_
          rintro e w8 ⟨u8, rfl, o8, b8⟩
          have t8 := t7.trans (b8.mono t7.size)
          have sa_8 := sa_7.later b8
          have sp_8 := sp_7.later b8
          obtain ⟨adi, cpi, rfl, si_8⟩ := o8.sl
          clear o8
          go_wp2_with fail
          refine (made_to (fixedI_any _ _ _ (inv ys) _ si_8) ((onV_yes Hi.out).trans (fixed_inv Hv.out))).mono ?_
          rintro e w9 ⟨u9, rfl, o9, b9⟩
          have t9 := t8.trans (b9.mono t8.size)
          have sa_9 := sa_8.later b9
          have sp_9 := sp_8.later b9
          have si_9 := si_8.later b9
          obtain ⟨adf, cpf, rfl, sf_9⟩ := o9.sl
          clear o9
          go_wp2_with fail
          refine (says_tob (equalInts_any _ _ _ (fixed ys) _ _ _ (fixed ys) _ sf_9 sa_9) (decide_eq_true rfl)).mono ?_
          rintro e w10 ⟨rfl, b10⟩
          have t10 := t9.trans (b10.mono t9.size)
          have sa_10 := sa_9.later b10
          have sp_10 := sp_9.later b10
          have si_10 := si_9.later b10
          have sf_10 := sf_9.later b10
          go_wp2
          go_ret
          exact ⟨rfl, t10⟩
    · have Hv := hid hv
      clear hv
      go_wp2_with fail
      refine (made_to (fixedI_any _ _ _ ys _ sp_1) (onV_no Hv.out)).mono ?_
      rintro e w2 ⟨u2, rfl, o2, b2⟩
      have t2 := t1.trans (b2.mono t1.size)
      have sp_2 := sp_1.later b2
      obtain ⟨add, cpd, rfl, sd_2⟩ := o2.sl
      clear o2
      go_wp2_with fail
      refine (made_to (fixedS_any _ _ _ ys _ sp_2) (onV_no Hv.out)).mono ?_
      rintro e w3 ⟨u3, rfl, o3, b3⟩
      have t3 := t2.trans (b3.mono t2.size)
      have sp_3 := sp_2.later b3
      have sd_3 := sd_2.later b3
      obtain ⟨ade, cpe, rfl, se_3⟩ := o3.sl
      clear o3
      go_wp2_with fail
      refine (says_tob (equalInts_any _ _ _ [] _ _ _ [] _ sd_3 se_3) (decide_eq_true rfl)).mono ?_
      rintro e w4 ⟨rfl, b4⟩
      have t4 := t3.trans (b4.mono t3.size)
      have sp_4 := sp_3.later b4
      have sd_4 := sd_3.later b4
      have se_4 := se_3.later b4
      go_wp2_with fail
      refine (says_tob (validI_any _ _ _ ys _ sp_4) (decide_eq_false Hv.out)).mono ?_
      rintro e w5 ⟨rfl, b5⟩
      have t5 := t4.trans (b5.mono t4.size)
      have sp_5 := sp_4.later b5
      have sd_5 := sd_4.later b5
      have se_5 := se_4.later b5
      go_wp2_with fail
      refine (made_to (fixedS_any _ _ _ ys _ sp_5) (onV_no Hv.out)).mono ?_
      rintro e w6 ⟨u6, rfl, o6, b6⟩
      have t6 := t5.trans (b6.mono t5.size)
      have sp_6 := sp_5.later b6
      have sd_6 := sd_5.later b6
      have se_6 := se_5.later b6
      obtain ⟨ade2, cpe2, rfl, se2_6⟩ := o6.sl
      clear o6
      go_wp2_with fail
      refine (says_tob (equalInts_any _ _ _ [] _ _ _ [] _ sd_6 se2_6) (decide_eq_true rfl)).mono ?_
      rintro e w7 ⟨rfl, b7⟩
      have t7 := t6.trans (b7.mono t6.size)
      have sp_7 := sp_6.later b7
      have sd_7 := sd_6.later b7
      have se_7 := se_6.later b7
      have se2_7 := se2_6.later b7
      go_wp2
      go_ret
      exact ⟨rfl, t7⟩
  · go_enter Try.func5, Try.ntmps5
    go_wp2
    go_ret
    exact ⟨rfl, Below.refl _ _⟩

end Go.Proofs.Ytepikmkkbecdaac
