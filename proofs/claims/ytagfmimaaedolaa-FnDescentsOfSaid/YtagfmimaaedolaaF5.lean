/- The walk of the law of DescentsOf. Condition of the law's own: at most 2^20 bytes. -/
import Derived.Test.YtagfmimaaedolaaFinTurn
import Derived.Test.YtagfmimaaedolaaDraw4
namespace Go.Proofs.Ytagfmimaaedolaa
open Go.RowKit

set_option maxHeartbeats 2000000 in
theorem fnDescentsOf (bo : Option Addr) (n cap : Nat) (cs : List Int) (w : World) (h : Slb w bo n cap cs) :
    Calls Try.prog 14 #[.slice bo n cap] w (Says w (.bool true)) := by
  have hbig := h.big
  by_cases hn : n ≤ 1048576
  · go_enter Try.func14, Try.ntmps14
    go_wp2_with fail
    refine (drawDescentsOf_any _ _ _ _ _ h).mono ?_
    rintro e w1 ⟨u1, ys, rfl, o1, hl, t1⟩
    obtain ⟨adp, cpp, rfl, sp_1⟩ := o1.sl
    have Hl := hid hl
    clear hl o1
    by_cases hv : Valid ys
    · have Hv := hid hv
      clear hv
      go_wp2_with fail
      refine (made_to (descI_any _ _ _ ys _ sp_1) (onV_yes Hv.out)).mono ?_
      rintro e w2 ⟨u2, rfl, o2, b2⟩
      have t2 := t1.trans (b2.mono t1.size)
      have sp_2 := sp_1.later b2
      obtain ⟨ada, cpa, rfl, sa_2⟩ := o2.sl
      clear o2
      go_wp2_with fail
      refine (made_to (descS_any _ _ _ ys _ sp_2) (onV_yes Hv.out)).mono ?_
      rintro e w3 ⟨u3, rfl, o3, b3⟩
      have t3 := t2.trans (b3.mono t2.size)
      have sp_3 := sp_2.later b3
      have sa_3 := sa_2.later b3
      obtain ⟨adx, cpx, rfl, sx_3⟩ := o3.sl
      clear o3
      go_wp2_with fail
      refine (says_tob (equalInts_any _ _ _ (desc ys) _ _ _ (desc ys) _ sa_3 sx_3) (decide_eq_true rfl)).mono ?_
      rintro e w4 ⟨rfl, b4⟩
      have t4 := t3.trans (b4.mono t3.size)
      have sp_4 := sp_3.later b4
      have sa_4 := sa_3.later b4
      have sx_4 := sx_3.later b4
      go_wp2_with fail
      refine (says_tob (validI_any _ _ _ ys _ sp_4) (decide_eq_true Hv.out)).mono ?_
      rintro e w5 ⟨rfl, b5⟩
      have t5 := t4.trans (b5.mono t4.size)
      have sp_5 := sp_4.later b5
      have sa_5 := sa_4.later b5
      have sx_5 := sx_4.later b5
      have Hvt := hid (turn_valid Hv.out)
      go_wp2_with fail
      refine (made_to (turnI_any _ _ _ ys _ sp_5) (onV_yes Hv.out)).mono ?_
      rintro e w6 ⟨u6, rfl, o6, b6⟩
      have t6 := t5.trans (b6.mono t5.size)
      have sp_6 := sp_5.later b6
      have sa_6 := sa_5.later b6
      have sx_6 := sx_5.later b6
      obtain ⟨adt, cpt, rfl, st_6⟩ := o6.sl
      clear o6
      go_wp2_with fail
      refine (made_to (descI_any _ _ _ (turn ys) _ st_6) (onV_yes Hvt.out)).mono ?_
      rintro e w7 ⟨u7, rfl, o7, b7⟩
      have t7 := t6.trans (b7.mono t6.size)
      have sp_7 := sp_6.later b7
      have sa_7 := sa_6.later b7
      have sx_7 := sx_6.later b7
      have st_7 := st_6.later b7
      obtain ⟨adb, cpb, rfl, sb_7⟩ := o7.sl
      clear o7
      have hl7 := Hv.out.len
      have hdl := desc_len ys
      go_wp2
      go_loopw [6] (fun i wr => ∃ k : Nat, k ≤ 7 ∧ i = .int .i64 k ∧ Below w7.heap.size w7 wr) (fun i _ => 8 - (intOf i).toNat)
      case atStart => exact ⟨0, Nat.zero_le _, rfl, Below.refl _ _⟩
      case round =>
        obtain ⟨k, hk7, rfl, hbr⟩ := hrel
        by_cases hlt : k + 1 < ys.length
        · have hfall := turn_fall Hv.out hlt
          have hi1 : (k : Int) + 1 < (ys.length : Int) := by omega
          go_wp2_with fail
          refine (isIn_any _ _ _ (desc ys) k _ (sa_7.later hbr)).mono ?_
          rintro e wa ⟨rfl, ba⟩
          have hba := hbr.trans (ba.mono hbr.size)
          go_wp2_with fail
          refine (isIn_any _ _ _ (desc (turn ys)) ((ys.length : Int) - 2 - k) _ (sb_7.later hba)).mono ?_
          rintro e wb ⟨rfl, bb⟩
          have hbb := hba.trans (bb.mono hba.size)
          go_wp2
          go_roundw
          case rel => exact ⟨k + 1, by omega, by go_num, hbb⟩
          case measure => simp [intOf]; omega
        · have hi1 : ¬ (k : Int) + 1 < (ys.length : Int) := by omega
          obtain ⟨w8, hw⟩ : ∃ w8, w8 = wr := ⟨_, rfl⟩
          subst hw
          have t8 := t7.trans (hbr.mono t7.size)
          have sa_8 := sa_7.later hbr
          go_wp2_with fail
          refine (says_tob (ascends_any _ _ _ (desc ys) _ sa_8) (decide_eq_true (asc_desc ys))).mono ?_
          rintro e w9 ⟨rfl, b9⟩
          have t9 := t8.trans (b9.mono t8.size)
          have sa_9 := sa_8.later b9
          by_cases hz : ys.length = 0
          · have hd0 : (desc ys).length = 0 := by omega
            rw [hz, hd0]
            go_wp2
            go_ret
            exact ⟨rfl, t9⟩
          · have h1 : ¬ (ys.length : Int) - 1 < 0 := by omega
            have h2 : ((desc ys).length : Int) ≤ (ys.length : Int) - 1 := by omega
            go_wp2
            go_ret
            exact ⟨rfl, t9⟩
    · have Hv := hid hv
      clear hv
      go_wp2_with fail
      refine (made_to (descI_any _ _ _ ys _ sp_1) (onV_no Hv.out)).mono ?_
      rintro e w2 ⟨u2, rfl, o2, b2⟩
      have t2 := t1.trans (b2.mono t1.size)
      have sp_2 := sp_1.later b2
      obtain ⟨ado, cpo, rfl, so_2⟩ := o2.sl
      clear o2
      go_wp2_with fail
      refine (made_to (descS_any _ _ _ ys _ sp_2) (onV_no Hv.out)).mono ?_
      rintro e w3 ⟨u3, rfl, o3, b3⟩
      have t3 := t2.trans (b3.mono t2.size)
      have sp_3 := sp_2.later b3
      have so_3 := so_2.later b3
      obtain ⟨adx, cpx, rfl, sx_3⟩ := o3.sl
      clear o3
      go_wp2_with fail
      refine (says_tob (equalInts_any _ _ _ [] _ _ _ [] _ so_3 sx_3) (decide_eq_true rfl)).mono ?_
      rintro e w4 ⟨rfl, b4⟩
      have t4 := t3.trans (b4.mono t3.size)
      have sp_4 := sp_3.later b4
      have so_4 := so_3.later b4
      have sx_4 := sx_3.later b4
      go_wp2_with fail
      refine (says_tob (validI_any _ _ _ ys _ sp_4) (decide_eq_false Hv.out)).mono ?_
      rintro e w5 ⟨rfl, b5⟩
      have t5 := t4.trans (b5.mono t4.size)
      have sp_5 := sp_4.later b5
      have so_5 := so_4.later b5
      have sx_5 := sx_4.later b5
      go_wp2_with fail
      refine (made_to (descS_any _ _ _ ys _ sp_5) (onV_no Hv.out)).mono ?_
      rintro e w6 ⟨u6, rfl, o6, b6⟩
      have t6 := t5.trans (b6.mono t5.size)
      have sp_6 := sp_5.later b6
      have so_6 := so_5.later b6
      have sx_6 := sx_5.later b6
      obtain ⟨adx2, cpx2, rfl, sx2_6⟩ := o6.sl
      clear o6
      go_wp2_with fail
      refine (says_tob (equalInts_any _ _ _ [] _ _ _ [] _ so_6 sx2_6) (decide_eq_true rfl)).mono ?_
      rintro e w7 ⟨rfl, b7⟩
      have t7 := t6.trans (b7.mono t6.size)
      have sp_7 := sp_6.later b7
      have so_7 := so_6.later b7
      have sx_7 := sx_6.later b7
      have sx2_7 := sx2_6.later b7
      go_wp2
      go_ret
      exact ⟨rfl, t7⟩
  · go_enter Try.func14, Try.ntmps14
    go_wp2
    go_ret
    exact ⟨rfl, Below.refl _ _⟩

end Go.Proofs.Ytagfmimaaedolaa
