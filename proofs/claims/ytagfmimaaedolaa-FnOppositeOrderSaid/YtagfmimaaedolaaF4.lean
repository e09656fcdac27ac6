/- The walks of the laws of OppositeOrder and DescentsOf. Condition of the laws' own: at most 2^20 bytes. -/
import Derived.Test.YtagfmimaaedolaaLawFn2
import Derived.Test.YtagfmimaaedolaaFinRank
import Derived.Test.YtagfmimaaedolaaDraw4
namespace Go.Proofs.Ytagfmimaaedolaa
open Go.RowKit

set_option maxHeartbeats 400000 in
theorem product_any (n : Nat) (w : World) (h : n ≤ 7) :
    Calls Try.prog 34 #[.int .i64 n] w (Says w (.int .i64 (fac n))) := by
  go_enter Try.func34, Try.ntmps34
  go_wp2
  go_loop [3, 4] (fun v i => ∃ j : Nat, j ≤ n - 1 ∧ v = .int .i64 (fac (j + 1)) ∧ i = .int .i64 ((j : Int) + 2)) (fun _ i => n + 2 - (intOf i).toNat)
  case atStart => exact ⟨0, Nat.zero_le _, rfl, rfl⟩
  case round =>
    obtain ⟨j, hj, rfl, rfl⟩ := hrel
    by_cases hlt : j + 2 ≤ n
    · have hm := fac_mul (j := j + 1) (by omega)
      have e1 : ((j + 1 : Nat) : Int) + 1 = (j : Int) + 2 := by omega
      rw [e1] at hm
      have hi : (j : Int) + 2 ≤ n := by omega
      clear e1
      go_wp2
      go_round
      case rel => exact ⟨j + 1, by omega, by rw [hm], by go_num⟩
      case measure => simp [intOf]; omega
    · have hi : ¬ (j : Int) + 2 ≤ n := by omega
      have e : fac (j + 1) = fac n := by
        rcases Nat.lt_or_ge j (n - 1) with h1 | h1
        · omega
        · rcases Nat.eq_zero_or_pos n with h0 | h0
          · subst h0; obtain rfl : j = 0 := by omega
            rfl
          · obtain rfl : n = j + 1 := by omega
            rfl
      have He := hid e
      clear e
      go_wp2
      go_ret
      exact says_int He.out (Below.refl _ _)

set_option maxHeartbeats 2000000 in
theorem fnOppositeOrder (bo : Option Addr) (n cap : Nat) (cs : List Int) (w : World) (h : Slb w bo n cap cs) :
    Calls Try.prog 6 #[.slice bo n cap] w (Says w (.bool true)) := by
  have hbig := h.big
  by_cases hn : n ≤ 1048576
  · go_enter Try.func6, Try.ntmps6
    go_wp2_with fail
    refine (drawOppositeOrder_any _ _ _ _ _ h).mono ?_
    rintro e w1 ⟨u1, ys, rfl, o1, hl, t1⟩
    obtain ⟨adp, cpp, rfl, sp_1⟩ := o1.sl
    have Hl := hid hl
    clear hl o1
    by_cases hv : Valid ys
    · have Hv := hid hv
      clear hv
      go_wp2_with fail
      refine (made_to (oppI_any _ _ _ ys _ sp_1) (onV_yes Hv.out)).mono ?_
      rintro e w2 ⟨u2, rfl, o2, b2⟩
      have t2 := t1.trans (b2.mono t1.size)
      have sp_2 := sp_1.later b2
      obtain ⟨ado, cpo, rfl, so_2⟩ := o2.sl
      clear o2
      go_wp2_with fail
      refine (made_to (oppS_any _ _ _ ys _ sp_2) (onV_yes Hv.out)).mono ?_
      rintro e w3 ⟨u3, rfl, o3, b3⟩
      have t3 := t2.trans (b3.mono t2.size)
      have sp_3 := sp_2.later b3
      have so_3 := so_2.later b3
      obtain ⟨adx, cpx, rfl, sx_3⟩ := o3.sl
      clear o3
      go_wp2_with fail
      refine (says_tob (equalInts_any _ _ _ (opp ys) _ _ _ (opp ys) _ so_3 sx_3) (decide_eq_true rfl)).mono ?_
      rintro e w4 ⟨rfl, b4⟩
      have t4 := t3.trans (b4.mono t3.size)
      have sp_4 := sp_3.later b4
      have so_4 := so_3.later b4
      have sx_4 := sx_3.later b4
      go_wp2_with fail
      refine (says_tob (validI_any _ _ _ ys _ sp_4) (decide_eq_true Hv.out)).mono ?_
      rintro e w5 ⟨rfl, b5⟩
      have t5 := t4.trans (b5.mono t4.size)
      have sp_5 := sp_4.later b5
      have so_5 := so_4.later b5
      have sx_5 := sx_4.later b5
      have Hvo := hid (opp_valid Hv.out)
      go_wp2_with fail
      refine (made_to (descI_any _ _ _ ys _ sp_5) (onV_yes Hv.out)).mono ?_
      rintro e w6 ⟨u6, rfl, o6, b6⟩
      have t6 := t5.trans (b6.mono t5.size)
      have sp_6 := sp_5.later b6
      have so_6 := so_5.later b6
      have sx_6 := sx_5.later b6
      obtain ⟨ada, cpa, rfl, sa_6⟩ := o6.sl
      clear o6
      go_wp2_with fail
      refine (made_to (descI_any _ _ _ (opp ys) _ so_6) (onV_yes Hvo.out)).mono ?_
      rintro e w7 ⟨u7, rfl, o7, b7⟩
      have t7 := t6.trans (b7.mono t6.size)
      have sp_7 := sp_6.later b7
      have so_7 := so_6.later b7
      have sx_7 := sx_6.later b7
      have sa_7 := sa_6.later b7
      obtain ⟨adb, cpb, rfl, sb_7⟩ := o7.sl
      clear o7
      have hl7 := Hv.out.len
      go_wp2
      go_loopw [7] (fun i wr => ∃ k : Nat, k ≤ 7 ∧ i = .int .i64 k ∧ Below w7.heap.size w7 wr) (fun i _ => 8 - (intOf i).toNat)
      case atStart => exact ⟨0, Nat.zero_le _, rfl, Below.refl _ _⟩
      case round =>
        obtain ⟨k, hk7, rfl, hbr⟩ := hrel
        by_cases hlt : k + 1 < ys.length
        · have hfall := opp_fall Hv.out hlt
          have hi1 : (k : Int) + 1 < (ys.length : Int) := by omega
          go_wp2_with fail
          refine (isIn_any _ _ _ (desc ys) k _ (sa_7.later hbr)).mono ?_
          rintro e wa ⟨rfl, ba⟩
          have hba := hbr.trans (ba.mono hbr.size)
          go_wp2_with fail
          refine (isIn_any _ _ _ (desc (opp ys)) k _ (sb_7.later hba)).mono ?_
          rintro e wb ⟨rfl, bb⟩
          have hbb := hba.trans (bb.mono hba.size)
          go_wp2
          go_roundw
          case rel => exact ⟨k + 1, by omega, by go_num, hbb⟩
          case measure => simp [intOf]; omega
        · have hi1 : ¬ (k : Int) + 1 < (ys.length : Int) := by omega
          obtain ⟨w8, hw⟩ : ∃ w8, w8 = wr := ⟨_, rfl⟩
          subst hw
          have t8 := t7.trans (hbr.mono t7.size)
          have sp_8 := sp_7.later hbr
          have so_8 := so_7.later hbr
          go_wp2_with fail
          refine (made_to (oppI_any _ _ _ (opp ys) _ so_8) ((onV_yes Hvo.out).trans opp_opp)).mono ?_
          rintro e w9 ⟨u9, rfl, o9, b9⟩
          have t9 := t8.trans (b9.mono t8.size)
          have sp_9 := sp_8.later b9
          have so_9 := so_8.later b9
          obtain ⟨adoo, cpoo, rfl, soo_9⟩ := o9.sl
          clear o9
          go_wp2_with fail
          refine (says_tob (equalInts_any _ _ _ ys _ _ _ ys _ soo_9 sp_9) (decide_eq_true rfl)).mono ?_
          rintro e w10 ⟨rfl, b10⟩
          have t10 := t9.trans (b10.mono t9.size)
          have sp_10 := sp_9.later b10
          have so_10 := so_9.later b10
          have soo_10 := soo_9.later b10
          go_wp2_with fail
          refine (says_to (rankI_any _ _ _ (opp ys) _ so_10) (onVi_yes Hvo.out)).mono ?_
          rintro e w11 ⟨rfl, b11⟩
          have t11 := t10.trans (b11.mono t10.size)
          have sp_11 := sp_10.later b11
          have so_11 := so_10.later b11
          have soo_11 := soo_10.later b11
          go_wp2_with fail
          refine (says_to (rankI_any _ _ _ ys _ sp_11) (onVi_yes Hv.out)).mono ?_
          rintro e w12 ⟨rfl, b12⟩
          have t12 := t11.trans (b12.mono t11.size)
          have sp_12 := sp_11.later b12
          have so_12 := so_11.later b12
          have soo_12 := soo_11.later b12
          have hlo : (opp ys).length = ys.length := opp_len ys
          go_wp2_with fail
          refine (product_any ys.length _ hl7).mono ?_
          rintro e w13 ⟨rfl, b13⟩
          have t13 := t12.trans (b13.mono t12.size)
          have sp_13 := sp_12.later b13
          have so_13 := so_12.later b13
          have soo_13 := soo_12.later b13
          have r1 := rk_bd Hv.out
          have r2 := rk_bd Hvo.out
          have r10 := r1.1
          have r11 := r1.2
          have r20 := r2.1
          have r21 := r2.2
          have f1 := fac_pos ys.length
          have f2 := fac_le hl7
          have hfin : (wrap64 (rk (opp ys) + rk ys) == fac ys.length - 1) = true := by rw [IntWalk.wrap64_in _ ⟨by omega, by omega⟩, rank_opp Hv.out]; simp
          clear r1 r2
          go_wp2
          go_ret
          exact ⟨rfl, t13⟩
    · have Hv := hid hv
      clear hv
      go_wp2_with fail
      refine (made_to (oppI_any _ _ _ ys _ sp_1) (onV_no Hv.out)).mono ?_
      rintro e w2 ⟨u2, rfl, o2, b2⟩
      have t2 := t1.trans (b2.mono t1.size)
      have sp_2 := sp_1.later b2
      obtain ⟨ado, cpo, rfl, so_2⟩ := o2.sl
      clear o2
      go_wp2_with fail
      refine (made_to (oppS_any _ _ _ ys _ sp_2) (onV_no Hv.out)).mono ?_
      rintro e w3 ⟨u3, rfl, o3, b3⟩
      have t3 := t2.trans (b3.mono t2.size)
      have sp_3 := sp_2.later b3
      have so_3 := so_2.later b3
      obtain ⟨adx, cpx, rfl, sx_3⟩ := o3.sl
      clear o3
      go_wp2_with fail
      refine (says_tob (equalInts_any _ _ _ [] _ _ _ [] _ so_3 sx_3) (decide_eq_true rfl)).mono ?_
      rintro e w4 ⟨rfl, b4⟩
      have t4 := t3.trans (b4.mono t3.size)
      have sp_4 := sp_3.later b4
      have so_4 := so_3.later b4
      have sx_4 := sx_3.later b4
      go_wp2_with fail
      refine (says_tob (validI_any _ _ _ ys _ sp_4) (decide_eq_false Hv.out)).mono ?_
      rintro e w5 ⟨rfl, b5⟩
      have t5 := t4.trans (b5.mono t4.size)
      have sp_5 := sp_4.later b5
      have so_5 := so_4.later b5
      have sx_5 := sx_4.later b5
      go_wp2_with fail
      refine (made_to (oppS_any _ _ _ ys _ sp_5) (onV_no Hv.out)).mono ?_
      rintro e w6 ⟨u6, rfl, o6, b6⟩
      have t6 := t5.trans (b6.mono t5.size)
      have sp_6 := sp_5.later b6
      have so_6 := so_5.later b6
      have sx_6 := sx_5.later b6
      obtain ⟨adx2, cpx2, rfl, sx2_6⟩ := o6.sl
      clear o6
      go_wp2_with fail
      refine (says_tob (equalInts_any _ _ _ [] _ _ _ [] _ so_6 sx2_6) (decide_eq_true rfl)).mono ?_
      rintro e w7 ⟨rfl, b7⟩
      have t7 := t6.trans (b7.mono t6.size)
      have sp_7 := sp_6.later b7
      have so_7 := so_6.later b7
      have sx_7 := sx_6.later b7
      have sx2_7 := sx2_6.later b7
      go_wp2
      go_ret
      exact ⟨rfl, t7⟩
  · go_enter Try.func6, Try.ntmps6
    go_wp2
    go_ret
    exact ⟨rfl, Below.refl _ _⟩

end Go.Proofs.Ytagfmimaaedolaa
