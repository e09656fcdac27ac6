/- The walk of the law of SkewOrders. Condition of the law's own: at most 2^20 bytes. -/
import Derived.Test.YtagfmimaaedolabFinSkew
import Derived.Test.YtagfmimaaedolabLawFn
import Derived.Test.YtagfmimaaedolabDrawShort
import Derived.Test.YtagfmimaaedolabJoin
import Derived.Test.YtagfmimaaedolabTab
namespace Go.Proofs.Ytagfmimaaedolab
open Go.RowKit

theorem invs_bd7 {xs : List Int} (h : Valid xs) : 0 ≤ sumL (table xs) ∧ sumL (table xs) ≤ 7 * 1000 := by
  have := sumL_bd (table_small h) (L := 7) (by rw [table_len]; exact h.len)
  exact ⟨this.1, by have := this.2; omega⟩
theorem len_mul {xs ys : List Int} (h : Two xs ys) : 0 ≤ (xs.length : Int) * ys.length ∧ (xs.length : Int) * ys.length ≤ 49 := by
  have h1 : ∀ n : Nat, n ≤ 7 → ∀ m : Nat, m ≤ 7 → 0 ≤ (n : Int) * m ∧ (n : Int) * m ≤ 49 := by decide
  exact h1 _ h.1.len _ h.2.1.len
theorem skew_wrap {xs ys : List Int} (h : Two xs ys) : (sumL (table (join xs ys.length ys 0)) == wrap64 (sumL (table xs) + sumL (table ys) + wrap64 ((xs.length : Int) * ys.length))) = true := by
  have h1 := invs_bd7 h.1
  have h2 := invs_bd7 h.2.1
  have h3 := len_mul h
  rw [invs_skew h]
  generalize (xs.length : Int) * ys.length = c at h3 ⊢
  rw [IntWalk.wrap64_in c ⟨by omega, by omega⟩, IntWalk.wrap64_in _ ⟨by omega, by omega⟩]
  simp
theorem skew_wrap2 {xs ys : List Int} (h : Two xs ys) : 0 ≤ sumL (table xs) + sumL (table ys) ∧ sumL (table xs) + sumL (table ys) ≤ 14000 := by
  have h1 := invs_bd7 h.1
  have h2 := invs_bd7 h.2.1
  omega

set_option maxHeartbeats 2000000 in
theorem fnSkewOrders (bo : Option Addr) (n cap : Nat) (cs : List Int) (w : World) (h : Slb w bo n cap cs) :
    Calls Try.prog 7 #[.slice bo n cap] w (Says w (.bool true)) := by
  have hbig := h.big
  by_cases hn : n ≤ 1048576
  · go_enter Try.func7, Try.ntmps7
    go_wp2_with fail
    refine (drawSkewOrders_any _ _ _ _ _ h).mono ?_
    rintro e w1 ⟨u1, v1, ys, zs, rfl, o1, p1, hl, hm, t1⟩
    obtain ⟨adp, cpp, rfl, sp_1⟩ := o1.sl
    obtain ⟨adq, cpq, rfl, sq_1⟩ := p1.sl
    have np := o1.nilcap
    have nq := p1.nilcap
    have Hnp := hid np
    have Hnq := hid nq
    have l1 : ys.length ≤ 2000000 := by omega
    have l2 : zs.length ≤ 2000000 := by omega
    have Hl1 := hid l1
    have Hl2 := hid l2
    clear hl hm o1 p1 np nq l1 l2
    by_cases hv : Two ys zs
    · have hT := hid hv
      clear hv
      have Hx := hid hT.out.1
      have Hy := hid hT.out.2.1
      have Hc := hid (skew_valid hT.out)
      have hT2 := hid (two_opp hT.out)
      have hlo1 : (opp ys).length ≤ 2000000 := by rw [opp_len]; exact Hl1.out
      have hlo2 : (opp zs).length ≤ 2000000 := by rw [opp_len]; exact Hl2.out
      have Hlo1 := hid hlo1
      have Hlo2 := hid hlo2
      clear hlo1 hlo2
      go_wp2_with fail
      refine (skewI_any _ _ _ ys _ _ _ zs _ sp_1 sq_1 Hl1.out Hl2.out).mono ?_
      rintro e w2 ⟨u2, rfl, o2, b2⟩
      have t2 := t1.trans (b2.mono t1.size)
      have sp_2 := sp_1.later b2
      have sq_2 := sq_1.later b2
      rw [onT_yes hT.out] at o2
      have hdt2 := decide_eq_true hT.out
      obtain ⟨adm, cpm, rfl, sm_2⟩ := o2.sl
      clear o2
      go_wp2_with fail
      refine (skewS_any _ _ _ ys _ _ _ zs _ sp_2 sq_2 Hnp.out Hnq.out).mono ?_
      rintro e w3 ⟨u3, rfl, o3, b3⟩
      have t3 := t2.trans (b3.mono t2.size)
      have sp_3 := sp_2.later b3
      have sq_3 := sq_2.later b3
      have sm_3 := sm_2.later b3
      rw [onT_yes hT.out] at o3
      have hdt3 := decide_eq_true hT.out
      obtain ⟨adk, cpk, rfl, sk_3⟩ := o3.sl
      clear o3
      go_wp2_with fail
      refine (says_tob (equalInts_any _ _ _ (join ys zs.length zs 0) _ _ _ (join ys zs.length zs 0) _ sm_3 sk_3) (decide_eq_true rfl)).mono ?_
      rintro e w4 ⟨rfl, b4⟩
      have t4 := t3.trans (b4.mono t3.size)
      have sp_4 := sp_3.later b4
      have sq_4 := sq_3.later b4
      have sm_4 := sm_3.later b4
      have sk_4 := sk_3.later b4
      go_wp2_with fail
      refine (made_to (oppI_any _ _ _ ys _ sp_4) (onV_yes Hx.out)).mono ?_
      rintro e w5 ⟨u5, rfl, o5, b5⟩
      have t5 := t4.trans (b5.mono t4.size)
      have sp_5 := sp_4.later b5
      have sq_5 := sq_4.later b5
      have sm_5 := sm_4.later b5
      have sk_5 := sk_4.later b5
      obtain ⟨adip, cpip, rfl, sip_5⟩ := o5.sl
      clear o5
      go_wp2_with fail
      refine (made_to (oppI_any _ _ _ zs _ sq_5) (onV_yes Hy.out)).mono ?_
      rintro e w6 ⟨u6, rfl, o6, b6⟩
      have t6 := t5.trans (b6.mono t5.size)
      have sp_6 := sp_5.later b6
      have sq_6 := sq_5.later b6
      have sm_6 := sm_5.later b6
      have sk_6 := sk_5.later b6
      have sip_6 := sip_5.later b6
      obtain ⟨adiq, cpiq, rfl, siq_6⟩ := o6.sl
      clear o6
      go_wp2_with fail
      refine (sumI_any _ _ _ (opp ys) _ _ _ (opp zs) _ sip_6 siq_6 Hlo1.out Hlo2.out).mono ?_
      rintro e w7 ⟨u7, rfl, o7, b7⟩
      have t7 := t6.trans (b7.mono t6.size)
      have sp_7 := sp_6.later b7
      have sq_7 := sq_6.later b7
      have sm_7 := sm_6.later b7
      have sk_7 := sk_6.later b7
      have sip_7 := sip_6.later b7
      have siq_7 := siq_6.later b7
      rw [onT_yes hT2.out] at o7
      rw [← skew_opp] at o7
      have hdt7 := decide_eq_true hT2.out
      obtain ⟨ado, cpo, rfl, so_7⟩ := o7.sl
      clear o7
      go_wp2_with fail
      refine (made_to (oppI_any _ _ _ (join ys zs.length zs 0) _ sm_7) (onV_yes Hc.out)).mono ?_
      rintro e w8 ⟨u8, rfl, o8, b8⟩
      have t8 := t7.trans (b8.mono t7.size)
      have sp_8 := sp_7.later b8
      have sq_8 := sq_7.later b8
      have sm_8 := sm_7.later b8
      have sk_8 := sk_7.later b8
      have sip_8 := sip_7.later b8
      have siq_8 := siq_7.later b8
      have so_8 := so_7.later b8
      obtain ⟨adim, cpim, rfl, sim_8⟩ := o8.sl
      clear o8
      go_wp2_with fail
      refine (says_tob (equalInts_any _ _ _ (opp (join ys zs.length zs 0)) _ _ _ (opp (join ys zs.length zs 0)) _ sim_8 so_8) (decide_eq_true rfl)).mono ?_
      rintro e w9 ⟨rfl, b9⟩
      have t9 := t8.trans (b9.mono t8.size)
      have sp_9 := sp_8.later b9
      have sq_9 := sq_8.later b9
      have sm_9 := sm_8.later b9
      have sk_9 := sk_8.later b9
      have sip_9 := sip_8.later b9
      have siq_9 := siq_8.later b9
      have so_9 := so_8.later b9
      have sim_9 := sim_8.later b9
      go_wp2_with fail
      refine (says_to (invsI_any _ _ _ (join ys zs.length zs 0) _ sm_9) (onVi_yes Hc.out)).mono ?_
      rintro e w10 ⟨rfl, b10⟩
      have t10 := t9.trans (b10.mono t9.size)
      have sp_10 := sp_9.later b10
      have sq_10 := sq_9.later b10
      have sm_10 := sm_9.later b10
      have sk_10 := sk_9.later b10
      have sip_10 := sip_9.later b10
      have siq_10 := siq_9.later b10
      have so_10 := so_9.later b10
      have sim_10 := sim_9.later b10
      go_wp2_with fail
      refine (says_to (invsI_any _ _ _ ys _ sp_10) (onVi_yes Hx.out)).mono ?_
      rintro e w11 ⟨rfl, b11⟩
      have t11 := t10.trans (b11.mono t10.size)
      have sp_11 := sp_10.later b11
      have sq_11 := sq_10.later b11
      have sm_11 := sm_10.later b11
      have sk_11 := sk_10.later b11
      have sip_11 := sip_10.later b11
      have siq_11 := siq_10.later b11
      have so_11 := so_10.later b11
      have sim_11 := sim_10.later b11
      go_wp2_with fail
      refine (says_to (invsI_any _ _ _ zs _ sq_11) (onVi_yes Hy.out)).mono ?_
      rintro e w12 ⟨rfl, b12⟩
      have t12 := t11.trans (b12.mono t11.size)
      have sp_12 := sp_11.later b12
      have sq_12 := sq_11.later b12
      have sm_12 := sm_11.later b12
      have sk_12 := sk_11.later b12
      have sip_12 := sip_11.later b12
      have siq_12 := siq_11.later b12
      have so_12 := so_11.later b12
      have sim_12 := sim_11.later b12
      have kf := skew_wrap hT.out
      have kw := skew_wrap2 hT.out
      have kx := kw.1
      have ky := kw.2
      clear kw
      go_wp2
      go_ret
      exact ⟨rfl, t12⟩
    · have hT := hid hv
      clear hv
      go_wp2_with fail
      refine (skewI_any _ _ _ ys _ _ _ zs _ sp_1 sq_1 Hl1.out Hl2.out).mono ?_
      rintro e w2 ⟨u2, rfl, o2, b2⟩
      have t2 := t1.trans (b2.mono t1.size)
      have sp_2 := sp_1.later b2
      have sq_2 := sq_1.later b2
      rw [onT_no hT.out] at o2
      have hdt2 := decide_eq_false hT.out
      obtain ⟨adm, cpm, rfl, sm_2⟩ := o2.sl
      clear o2
      go_wp2_with fail
      refine (skewS_any _ _ _ ys _ _ _ zs _ sp_2 sq_2 Hnp.out Hnq.out).mono ?_
      rintro e w3 ⟨u3, rfl, o3, b3⟩
      have t3 := t2.trans (b3.mono t2.size)
      have sp_3 := sp_2.later b3
      have sq_3 := sq_2.later b3
      have sm_3 := sm_2.later b3
      rw [onT_no hT.out] at o3
      have hdt3 := decide_eq_false hT.out
      obtain ⟨adk, cpk, rfl, sk_3⟩ := o3.sl
      clear o3
      go_wp2_with fail
      refine (says_tob (equalInts_any _ _ _ [] _ _ _ [] _ sm_3 sk_3) (decide_eq_true rfl)).mono ?_
      rintro e w4 ⟨rfl, b4⟩
      have t4 := t3.trans (b4.mono t3.size)
      have sp_4 := sp_3.later b4
      have sq_4 := sq_3.later b4
      have sm_4 := sm_3.later b4
      have sk_4 := sk_3.later b4
      go_wp2_with fail
      refine (says_tob (equalInts_any _ _ _ [] _ _ _ [] _ sm_4 sk_4) (decide_eq_true rfl)).mono ?_
      rintro e w5 ⟨rfl, b5⟩
      have t5 := t4.trans (b5.mono t4.size)
      have sp_5 := sp_4.later b5
      have sq_5 := sq_4.later b5
      have sm_5 := sm_4.later b5
      have sk_5 := sk_4.later b5
      go_wp2
      go_ret
      exact ⟨rfl, t5⟩
  · go_enter Try.func7, Try.ntmps7
    go_wp2
    go_ret
    exact ⟨rfl, Below.refl _ _⟩

end Go.Proofs.Ytagfmimaaedolab
