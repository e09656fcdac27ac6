/- The walk of the law of SumOrders. Condition of the laws' own: at most 2^20 bytes. -/
import Derived.Test.YtepikmkkbecdaaaFinSumO
import Derived.Test.YtepikmkkbecdaaaLawFn
import Derived.Test.YtepikmkkbecdaaaDrawShort
import Derived.Test.YtepikmkkbecdaaaJoin
import Derived.Test.YtepikmkkbecdaaaTab
import Derived.Test.YtepikmkkbecdaaaDesc
import Derived.Test.YtepikmkkbecdaaaCir
namespace Go.Proofs.Ytepikmkkbecdaaa
open Go.RowKit

theorem invs_bd8 {xs : List Int} (h : Valid xs) : 0 ≤ sumL (table xs) ∧ sumL (table xs) ≤ 7 * 1000 := by
  have := sumL_bd (table_small h) (L := 7) (by rw [table_len]; exact h.len)
  exact ⟨this.1, by have := this.2; omega⟩
theorem maj_bd8 {xs : List Int} (h : Valid xs) : 0 ≤ major xs ∧ major xs ≤ 7 * 1000 + 7 := by
  have h1 := desc_len xs
  have h2 := h.len
  have := sumL_bd (desc_small (xs := xs) (by omega)) (L := 7) (by omega)
  unfold major
  exact ⟨by have := this.1; omega, by have := this.2; omega⟩
theorem maj_wrap {xs ys : List Int} (h : Valid xs) (g : Valid ys) : major xs + major ys + (xs.length : Int) * (desc ys).length = wrap64 (wrap64 (major xs + major ys) + wrap64 ((xs.length : Int) * (desc ys).length)) := by
  have h1 := maj_bd8 h
  have h2 := maj_bd8 g
  have h3 : 0 ≤ (xs.length : Int) * (desc ys).length ∧ (xs.length : Int) * (desc ys).length ≤ 49 := by
    have a : ∀ n : Nat, n ≤ 7 → ∀ m : Nat, m ≤ 7 → 0 ≤ (n : Int) * m ∧ (n : Int) * m ≤ 49 := by decide
    have b := desc_len ys
    have c := g.len
    exact a _ h.len _ (by omega)
  generalize (xs.length : Int) * (desc ys).length = c at h3 ⊢
  rw [IntWalk.wrap64_in c ⟨by omega, by omega⟩, IntWalk.wrap64_in (major xs + major ys) ⟨by omega, by omega⟩, IntWalk.wrap64_in _ ⟨by omega, by omega⟩]

set_option maxHeartbeats 2000000 in
theorem fnSumOrders (bo : Option Addr) (n cap : Nat) (cs : List Int) (w : World) (h : Slb w bo n cap cs) :
    Calls Try.prog 9 #[.slice bo n cap] w (Says w (.bool true)) := by
  have hbig := h.big
  by_cases hn : n ≤ 1048576
  · go_enter Try.func9, Try.ntmps9
    go_wp2_with fail
    refine (drawSumOrders_any _ _ _ _ _ h).mono ?_
    rintro e w1 ⟨u1, v1, ys, zs, rfl, o1, p1, hl, hm, t1⟩
    obtain ⟨adp, cpp, rfl, sp_1⟩ := o1.sl
    obtain ⟨adq, cpq, rfl, sq_1⟩ := p1.sl
    have np := o1.nilcap
    have nq := p1.nilcap
    have Hnp := hid np
    have Hnq := hid nq
    have l1 : ys.length ≤ 2000000 := by omega
    have l2 : zs.length ≤ 2000000 := by omega
    have Hl1 := hid l1
    have Hl2 := hid l2
    clear hl hm o1 p1 np nq l1 l2
    by_cases hv : Two ys zs
    · have hT := hid hv
      clear hv
      have Hx := hid hT.out.1
      have Hy := hid hT.out.2.1
      have Hc := hid (sumO_valid hT.out)
      have Hinv := hid (invs_sumO hT.out)
      have Hcir := hid (circles_sumO hT.out)
      have Hmaj := hid (major_sumO hT.out)
      obtain ⟨so, hso⟩ : ∃ so, so = sumO ys zs := ⟨_, rfl⟩
      have Hso : Hid (so = join ys 0 zs ys.length) := hid hso
      rw [← hso] at Hc Hinv Hcir Hmaj
      clear hso
      go_wp2_with fail
      refine (sumI_any _ _ _ ys _ _ _ zs _ sp_1 sq_1 Hl1.out Hl2.out).mono ?_
      rintro e w2 ⟨u2, rfl, o2, b2⟩
      have t2 := t1.trans (b2.mono t1.size)
      have sp_2 := sp_1.later b2
      have sq_2 := sq_1.later b2
      rw [onT_yes hT.out] at o2
      rw [← Hso.out] at o2
      have hdt2 := decide_eq_true hT.out
      obtain ⟨adm, cpm, rfl, sm_2⟩ := o2.sl
      clear o2
      go_wp2_with fail
      refine (sumS_any _ _ _ ys _ _ _ zs _ sp_2 sq_2 Hnp.out Hnq.out).mono ?_
      rintro e w3 ⟨u3, rfl, o3, b3⟩
      have t3 := t2.trans (b3.mono t2.size)
      have sp_3 := sp_2.later b3
      have sq_3 := sq_2.later b3
      have sm_3 := sm_2.later b3
      rw [onT_yes hT.out] at o3
      rw [← Hso.out] at o3
      have hdt3 := decide_eq_true hT.out
      obtain ⟨adk, cpk, rfl, sk_3⟩ := o3.sl
      clear o3
      go_wp2_with fail
      refine (says_tob (equalInts_any _ _ _ so _ _ _ so _ sm_3 sk_3) (decide_eq_true rfl)).mono ?_
      rintro e w4 ⟨rfl, b4⟩
      have t4 := t3.trans (b4.mono t3.size)
      have sp_4 := sp_3.later b4
      have sq_4 := sq_3.later b4
      have sm_4 := sm_3.later b4
      have sk_4 := sk_3.later b4
      go_wp2_with fail
      refine (says_to (invsI_any _ _ _ so _ sm_4) ((onVi_yes Hc.out).trans Hinv.out)).mono ?_
      rintro e w5 ⟨rfl, b5⟩
      have t5 := t4.trans (b5.mono t4.size)
      have sp_5 := sp_4.later b5
      have sq_5 := sq_4.later b5
      have sm_5 := sm_4.later b5
      have sk_5 := sk_4.later b5
      go_wp2_with fail
      refine (says_to (invsI_any _ _ _ ys _ sp_5) (onVi_yes Hx.out)).mono ?_
      rintro e w6 ⟨rfl, b6⟩
      have t6 := t5.trans (b6.mono t5.size)
      have sp_6 := sp_5.later b6
      have sq_6 := sq_5.later b6
      have sm_6 := sm_5.later b6
      have sk_6 := sk_5.later b6
      go_wp2_with fail
      refine (says_to (invsI_any _ _ _ zs _ sq_6) (onVi_yes Hy.out)).mono ?_
      rintro e w7 ⟨rfl, b7⟩
      have t7 := t6.trans (b7.mono t6.size)
      have sp_7 := sp_6.later b7
      have sq_7 := sq_6.later b7
      have sm_7 := sm_6.later b7
      have sk_7 := sk_6.later b7
      have hv1 := invs_bd8 Hx.out
      have hv2 := invs_bd8 Hy.out
      have hv1a := hv1.1
      have hv1b := hv1.2
      have hv2a := hv2.1
      have hv2b := hv2.2
      have hc1 : (circles ys).length ≤ ys.length := ciP_len ys ys.length
      have hc2 : (circles zs).length ≤ zs.length := ciP_len zs zs.length
      have hl7 := Hx.out.len
      have hm7 := Hy.out.len
      clear hv1 hv2
      go_wp2_with fail
      refine (madeL_to (circlesI_any _ _ _ so _ sm_7) (onVL_yes Hc.out)).mono ?_
      rintro e w8 ⟨u8, rfl, o8, b8⟩
      have t8 := t7.trans (b8.mono t7.size)
      have sp_8 := sp_7.later b8
      have sq_8 := sq_7.later b8
      have sm_8 := sm_7.later b8
      have sk_8 := sk_7.later b8
      obtain ⟨adc1, cpc1, rfl, sc1_8⟩ := o8.sl
      clear o8
      have kc : ((circles so).length : Int) = ((circles ys).length : Int) + ((circles zs).length : Int) := Hcir.out
      obtain ⟨C, hC⟩ : ∃ C, C = (circles so).length := ⟨_, rfl⟩
      rw [← hC] at kc ⊢
      clear hC
      go_wp2_with fail
      refine (madeL_to (circlesI_any _ _ _ ys _ sp_8) (onVL_yes Hx.out)).mono ?_
      rintro e w9 ⟨u9, rfl, o9, b9⟩
      have t9 := t8.trans (b9.mono t8.size)
      have sp_9 := sp_8.later b9
      have sq_9 := sq_8.later b9
      have sm_9 := sm_8.later b9
      have sk_9 := sk_8.later b9
      have sc1_9 := sc1_8.later b9
      obtain ⟨adc2, cpc2, rfl, sc2_9⟩ := o9.sl
      clear o9
      go_wp2_with fail
      refine (madeL_to (circlesI_any _ _ _ zs _ sq_9) (onVL_yes Hy.out)).mono ?_
      rintro e w10 ⟨u10, rfl, o10, b10⟩
      have t10 := t9.trans (b10.mono t9.size)
      have sp_10 := sp_9.later b10
      have sq_10 := sq_9.later b10
      have sm_10 := sm_9.later b10
      have sk_10 := sk_9.later b10
      have sc1_10 := sc1_9.later b10
      have sc2_10 := sc2_9.later b10
      obtain ⟨adc3, cpc3, rfl, sc3_10⟩ := o10.sl
      clear o10
      have kC : C = (circles ys).length + (circles zs).length := by omega
      have kcb : ((C : Int) == ((circles ys).length : Int) + ((circles zs).length : Int)) = true := by rw [beq_iff_eq]; omega
      have kcn : (C : Int) = ((circles ys).length : Int) + ((circles zs).length : Int) := kc
      have Kcn := hid kcn
      clear kC kcn kc
      go_wp2_with fail
      refine (says_to (majorI_any _ _ _ so _ sm_10) ((onVi_yes Hc.out).trans Hmaj.out)).mono ?_
      rintro e w11 ⟨rfl, b11⟩
      have t11 := t10.trans (b11.mono t10.size)
      have sp_11 := sp_10.later b11
      have sq_11 := sq_10.later b11
      have sm_11 := sm_10.later b11
      have sk_11 := sk_10.later b11
      have sc1_11 := sc1_10.later b11
      have sc2_11 := sc2_10.later b11
      have sc3_11 := sc3_10.later b11
      go_wp2_with fail
      refine (says_to (majorI_any _ _ _ ys _ sp_11) (onVi_yes Hx.out)).mono ?_
      rintro e w12 ⟨rfl, b12⟩
      have t12 := t11.trans (b12.mono t11.size)
      have sp_12 := sp_11.later b12
      have sq_12 := sq_11.later b12
      have sm_12 := sm_11.later b12
      have sk_12 := sk_11.later b12
      have sc1_12 := sc1_11.later b12
      have sc2_12 := sc2_11.later b12
      have sc3_12 := sc3_11.later b12
      go_wp2_with fail
      refine (says_to (majorI_any _ _ _ zs _ sq_12) (onVi_yes Hy.out)).mono ?_
      rintro e w13 ⟨rfl, b13⟩
      have t13 := t12.trans (b13.mono t12.size)
      have sp_13 := sp_12.later b13
      have sq_13 := sq_12.later b13
      have sm_13 := sm_12.later b13
      have sk_13 := sk_12.later b13
      have sc1_13 := sc1_12.later b13
      have sc2_13 := sc2_12.later b13
      have sc3_13 := sc3_12.later b13
      go_wp2_with fail
      refine (made_to (descI_any _ _ _ zs _ sq_13) (onV_yes Hy.out)).mono ?_
      rintro e w14 ⟨u14, rfl, o14, b14⟩
      have t14 := t13.trans (b14.mono t13.size)
      have sp_14 := sp_13.later b14
      have sq_14 := sq_13.later b14
      have sm_14 := sm_13.later b14
      have sk_14 := sk_13.later b14
      have sc1_14 := sc1_13.later b14
      have sc2_14 := sc2_13.later b14
      have sc3_14 := sc3_13.later b14
      obtain ⟨add, cpd, rfl, sd_14⟩ := o14.sl
      clear o14
      have kf := maj_wrap Hx.out Hy.out
      go_wp2
      go_ret
      exact ⟨rfl, t14⟩
    · have hT := hid hv
      clear hv
      go_wp2_with fail
      refine (sumI_any _ _ _ ys _ _ _ zs _ sp_1 sq_1 Hl1.out Hl2.out).mono ?_
      rintro e w2 ⟨u2, rfl, o2, b2⟩
      have t2 := t1.trans (b2.mono t1.size)
      have sp_2 := sp_1.later b2
      have sq_2 := sq_1.later b2
      rw [onT_no hT.out] at o2
      have hdt2 := decide_eq_false hT.out
      obtain ⟨adm, cpm, rfl, sm_2⟩ := o2.sl
      clear o2
      go_wp2_with fail
      refine (sumS_any _ _ _ ys _ _ _ zs _ sp_2 sq_2 Hnp.out Hnq.out).mono ?_
      rintro e w3 ⟨u3, rfl, o3, b3⟩
      have t3 := t2.trans (b3.mono t2.size)
      have sp_3 := sp_2.later b3
      have sq_3 := sq_2.later b3
      have sm_3 := sm_2.later b3
      rw [onT_no hT.out] at o3
      have hdt3 := decide_eq_false hT.out
      obtain ⟨adk, cpk, rfl, sk_3⟩ := o3.sl
      clear o3
      go_wp2_with fail
      refine (says_tob (equalInts_any _ _ _ [] _ _ _ [] _ sm_3 sk_3) (decide_eq_true rfl)).mono ?_
      rintro e w4 ⟨rfl, b4⟩
      have t4 := t3.trans (b4.mono t3.size)
      have sp_4 := sp_3.later b4
      have sq_4 := sq_3.later b4
      have sm_4 := sm_3.later b4
      have sk_4 := sk_3.later b4
      go_wp2_with fail
      refine (says_tob (equalInts_any _ _ _ [] _ _ _ [] _ sm_4 sk_4) (decide_eq_true rfl)).mono ?_
      rintro e w5 ⟨rfl, b5⟩
      have t5 := t4.trans (b5.mono t4.size)
      have sp_5 := sp_4.later b5
      have sq_5 := sq_4.later b5
      have sm_5 := sm_4.later b5
      have sk_5 := sk_4.later b5
      go_wp2
      go_ret
      exact ⟨rfl, t5⟩
  · go_enter Try.func9, Try.ntmps9
    go_wp2
    go_ret
    exact ⟨rfl, Below.refl _ _⟩

end Go.Proofs.Ytepikmkkbecdaaa
