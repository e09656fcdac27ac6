/- The walk of the law of MultiplyRows. Condition of the law's own: at most 2^20 bytes. -/
import Derived.Test.YthaiodjeamjjnaaLawFn
import Derived.Test.YthaiodjeamjjnaaDrm
import Derived.Test.YthaiodjeamjjnaaMrw
namespace Go.Proofs.Ythaiodjeamjjnaa
open Go.RowKit

set_option maxHeartbeats 1000000 in
theorem totalS_any (ao : Option Addr) (n cap : Nat) (xs : List Int) (w : World) (h : Sl w ao n cap xs) (h7 : n ≤ 100) (hs : Hid (Bs xs 1000000000000000)) :
    Calls Try.prog 42 #[.slice ao n cap] w (Says w (.int .i64 (sumL xs))) := by
  have hbig := h.big
  have hlen := hid h.len
  go_enter Try.func42, Try.ntmps42
  go_wp2
  go_loopw [3, 4] (fun s i wr => ∃ (k : Nat), k ≤ n ∧ s = .int .i64 (sumTo xs k) ∧ i = .int .i64 k ∧ Below w.heap.size w wr)
    (fun _ i _ => n - (intOf i).toNat)
  case atStart => exact ⟨0, Nat.zero_le _, rfl, rfl, Below.refl _ _⟩
  case round =>
    obtain ⟨k, hk, rfl, rfl, hbr⟩ := hrel
    by_cases hlt : k < n
    · obtain ⟨b, off, rfl, hblt, hc⟩ := h.row (by omega)
      have hcell := (hbr.cell (p := ⟨b, off + k, none⟩) hblt).trans (hc k hlt)
      have hb := sum_bs hs.out k
      have he := hs.out k
      have hs1 : -100000000000000000 ≤ sumTo xs k := by have := hb.1; omega
      have hs2 : sumTo xs k ≤ 100000000000000000 := by have := hb.2; omega
      have he1 := he.1
      have he2 := he.2
      have es : Hid (sumTo xs (k + 1) = sumTo xs k + el xs k) := hid rfl
      clear hc hb he
      go_wp2
      go_roundw
      case rel => exact ⟨k + 1, by omega, by rw [es.out], by go_num, hbr⟩
      case measure => simp [intOf]; omega
    · obtain rfl : k = n := by omega
      go_wp2
      go_ret
      exact ⟨congrArg (fun v => Ending.returned (Value.int .i64 v)) (show sumTo xs k = sumL xs by rw [sumL, hlen.out]), hbr⟩

theorem prod_b3 {x y : Int} (hx : -30000000 ≤ x ∧ x ≤ 30000000) (hy : -30000000 ≤ y ∧ y ≤ 30000000) : -900000000000000 ≤ x * y ∧ x * y ≤ 900000000000000 := by
  have h1 : 0 ≤ (30000000 - x) * (30000000 + y) := Int.mul_nonneg (by omega) (by omega)
  have h2 : 0 ≤ (30000000 + x) * (30000000 - y) := Int.mul_nonneg (by omega) (by omega)
  have h3 : 0 ≤ (30000000 - x) * (30000000 - y) := Int.mul_nonneg (by omega) (by omega)
  have h4 : 0 ≤ (30000000 + x) * (30000000 + y) := Int.mul_nonneg (by omega) (by omega)
  simp only [Int.sub_mul, Int.add_mul, Int.mul_sub, Int.mul_add] at h1 h2 h3 h4
  omega

set_option maxHeartbeats 4000000 in
theorem fnMultiplyRows (bo : Option Addr) (n cap : Nat) (cs : List Int) (w : World) (h : Slb w bo n cap cs) :
    Calls Try.prog 14 #[.slice bo n cap] w (Says w (.bool true)) := by
  have hbig := h.big
  by_cases hn : n ≤ 1048576
  · go_enter Try.func14, Try.ntmps14
    go_wp2_with fail
    refine (drawMultiplyRows_any _ _ _ _ _ h).mono ?_
    rintro e w1 ⟨u1, v1, ys, zs, rfl, o1, p1, t1⟩
    obtain ⟨adp, cpp, rfl, sp_1⟩ := o1.sl
    obtain ⟨adq, cpq, rfl, sq_1⟩ := p1.sl
    clear o1 p1
    by_cases hv : Co2 ys zs
    · have Hv := hid hv
      clear hv
      have Hc : Hid (mul zs ys = mul ys zs) := hid (mul_comm' zs ys)
      have Hml : Hid ((mul ys zs).length = ys.length + zs.length - 1) := hid (mul_len _ _)
      have hp1 := Hv.out.1.pos
      have hp2 := Hv.out.2.pos
      have hp3 := Hv.out.1.len
      have hp4 := Hv.out.2.len
      go_wp2_with fail
      refine (made_to (mrwI_any _ _ _ ys _ _ _ zs _ sp_1 sq_1) (onCo_yes Hv.out)).mono ?_
      rintro e w2 ⟨u2, rfl, o2, b2⟩
      have t2 := t1.trans (b2.mono t1.size)
      have sp_2 := sp_1.later b2
      have sq_2 := sq_1.later b2
      obtain ⟨ado, cpo, rfl, so_2⟩ := o2.sl
      clear o2
      go_wp2_with fail
      refine (made_to (mrwS_any _ _ _ ys _ _ _ zs _ sp_2 sq_2) (onCo_yes Hv.out)).mono ?_
      rintro e w3 ⟨u3, rfl, o3, b3⟩
      have t3 := t2.trans (b3.mono t2.size)
      have sp_3 := sp_2.later b3
      have sq_3 := sq_2.later b3
      have so_3 := so_2.later b3
      obtain ⟨adx, cpx, rfl, sx_3⟩ := o3.sl
      clear o3
      go_wp2_with fail
      refine (says_tob (equalInts_any _ _ _ (mul ys zs) _ _ _ (mul ys zs) _ so_3 sx_3) (decide_eq_true rfl)).mono ?_
      rintro e w4 ⟨rfl, b4⟩
      have t4 := t3.trans (b4.mono t3.size)
      have sp_4 := sp_3.later b4
      have sq_4 := sq_3.later b4
      have so_4 := so_3.later b4
      have sx_4 := sx_3.later b4
      have hmz : (((mul ys zs).length : Int) == 0) = false := by rw [beq_eq_false_iff_ne]; have := Hml.out; omega
      have hmf : (((mul ys zs).length : Int) == (ys.length : Int) + (zs.length : Int) - 1) = true := by rw [beq_iff_eq]; have := Hml.out; omega
      go_wp2_with fail
      refine (made_to (mrwI_any _ _ _ zs _ _ _ ys _ sq_4 sp_4) ((onCo_yes ⟨Hv.out.2, Hv.out.1⟩).trans Hc.out)).mono ?_
      rintro e w5 ⟨u5, rfl, o5, b5⟩
      have t5 := t4.trans (b5.mono t4.size)
      have sp_5 := sp_4.later b5
      have sq_5 := sq_4.later b5
      have so_5 := so_4.later b5
      have sx_5 := sx_4.later b5
      obtain ⟨adc, cpc, rfl, sc_5⟩ := o5.sl
      clear o5
      go_wp2_with fail
      refine (says_tob (equalInts_any _ _ _ (mul ys zs) _ _ _ (mul ys zs) _ sc_5 so_5) (decide_eq_true rfl)).mono ?_
      rintro e w6 ⟨rfl, b6⟩
      have t6 := t5.trans (b6.mono t5.size)
      have sp_6 := sp_5.later b6
      have sq_6 := sq_5.later b6
      have so_6 := so_5.later b6
      have sx_6 := sx_5.later b6
      have sc_6 := sc_5.later b6
      have Hb1 : Hid (Bs (mul ys zs) 1000000000000000) := hid ((muP_bs Hv.out.1.bs Hv.out.2.bs (by omega) ys.length).mono (by omega))
      have Hb2 : Hid (Bs ys 1000000000000000) := hid (Hv.out.1.bs.mono (by omega))
      have Hb3 : Hid (Bs zs 1000000000000000) := hid (Hv.out.2.bs.mono (by omega))
      go_wp2_with fail
      refine (totalS_any _ _ _ (mul ys zs) _ so_6 (by have := Hml.out; omega) Hb1).mono ?_
      rintro e w7 ⟨rfl, b7⟩
      have t7 := t6.trans (b7.mono t6.size)
      have sp_7 := sp_6.later b7
      have sq_7 := sq_6.later b7
      have so_7 := so_6.later b7
      have sx_7 := sx_6.later b7
      have sc_7 := sc_6.later b7
      go_wp2_with fail
      refine (totalS_any _ _ _ ys _ sp_7 (by omega) Hb2).mono ?_
      rintro e w8 ⟨rfl, b8⟩
      have t8 := t7.trans (b8.mono t7.size)
      have sp_8 := sp_7.later b8
      have sq_8 := sq_7.later b8
      have so_8 := so_7.later b8
      have sx_8 := sx_7.later b8
      have sc_8 := sc_7.later b8
      go_wp2_with fail
      refine (totalS_any _ _ _ zs _ sq_8 (by omega) Hb3).mono ?_
      rintro e w9 ⟨rfl, b9⟩
      have t9 := t8.trans (b9.mono t8.size)
      have sp_9 := sp_8.later b9
      have sq_9 := sq_8.later b9
      have so_9 := so_8.later b9
      have sx_9 := sx_8.later b9
      have sc_9 := sc_8.later b9
      have hs := sum_mul ys zs
      have hb1 : -30000000 ≤ sumL ys ∧ sumL ys ≤ 30000000 := by have := sum_bs Hv.out.1.bs ys.length; rw [sumL]; omega
      have hb2 : -30000000 ≤ sumL zs ∧ sumL zs ≤ 30000000 := by have := sum_bs Hv.out.2.bs zs.length; rw [sumL]; omega
      have hb3 := prod_b3 hb1 hb2
      have hw : wrap64 (sumL ys * sumL zs) = sumL (mul ys zs) := by rw [hs]; exact IntWalk.wrap64_in _ ⟨by omega, by omega⟩
      clear hs hb1 hb2 hb3
      go_wp2
      go_ret
      exact ⟨rfl, t9⟩
    · have Hv := hid hv
      clear hv
      go_wp2_with fail
      refine (made_to (mrwI_any _ _ _ ys _ _ _ zs _ sp_1 sq_1) (onCo_no Hv.out)).mono ?_
      rintro e w2 ⟨u2, rfl, o2, b2⟩
      have t2 := t1.trans (b2.mono t1.size)
      have sp_2 := sp_1.later b2
      have sq_2 := sq_1.later b2
      obtain ⟨ado, cpo, rfl, so_2⟩ := o2.sl
      clear o2
      go_wp2_with fail
      refine (made_to (mrwS_any _ _ _ ys _ _ _ zs _ sp_2 sq_2) (onCo_no Hv.out)).mono ?_
      rintro e w3 ⟨u3, rfl, o3, b3⟩
      have t3 := t2.trans (b3.mono t2.size)
      have sp_3 := sp_2.later b3
      have sq_3 := sq_2.later b3
      have so_3 := so_2.later b3
      obtain ⟨adx, cpx, rfl, sx_3⟩ := o3.sl
      clear o3
      go_wp2_with fail
      refine (says_tob (equalInts_any _ _ _ ([] : List Int) _ _ _ ([] : List Int) _ so_3 sx_3) (decide_eq_true rfl)).mono ?_
      rintro e w4 ⟨rfl, b4⟩
      have t4 := t3.trans (b4.mono t3.size)
      have sp_4 := sp_3.later b4
      have sq_4 := sq_3.later b4
      have so_4 := so_3.later b4
      have sx_4 := sx_3.later b4
      go_wp2_with fail
      refine (made_to (mrwS_any _ _ _ ys _ _ _ zs _ sp_4 sq_4) (onCo_no Hv.out)).mono ?_
      rintro e w5 ⟨u5, rfl, o5, b5⟩
      have t5 := t4.trans (b5.mono t4.size)
      have sp_5 := sp_4.later b5
      have sq_5 := sq_4.later b5
      have so_5 := so_4.later b5
      have sx_5 := sx_4.later b5
      obtain ⟨adx2, cpx2, rfl, sx2_5⟩ := o5.sl
      clear o5
      go_wp2_with fail
      refine (says_tob (equalInts_any _ _ _ ([] : List Int) _ _ _ ([] : List Int) _ so_5 sx2_5) (decide_eq_true rfl)).mono ?_
      rintro e w6 ⟨rfl, b6⟩
      have t6 := t5.trans (b6.mono t5.size)
      have sp_6 := sp_5.later b6
      have sq_6 := sq_5.later b6
      have so_6 := so_5.later b6
      have sx_6 := sx_5.later b6
      have sx2_6 := sx2_5.later b6
      go_wp2
      go_ret
      exact ⟨rfl, t6⟩
  · go_enter Try.func14, Try.ntmps14
    go_wp2
    go_ret
    exact ⟨rfl, Below.refl _ _⟩

end Go.Proofs.Ythaiodjeamjjnaa
