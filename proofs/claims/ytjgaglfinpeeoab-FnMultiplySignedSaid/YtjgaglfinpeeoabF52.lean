/- The walk of the law of MultiplySigned. Condition of the law's own: at most 2^20 bytes. -/
import Derived.Test.YtjgaglfinpeeoabLawFn
import Derived.Test.YtjgaglfinpeeoabDrawGm
import Derived.Test.YtjgaglfinpeeoabSgnE
import Derived.Test.YtjgaglfinpeeoabFinGm
import Derived.Test.YtjgaglfinpeeoabMult
namespace Go.Proofs.Ytjgaglfinpeeoab
open Go.RowKit

theorem made2_to {P : Program} {f : FuncId} {a : Array Value} {w : World} {v v' : List Int} {b b' : Bool} (h : Calls P f a w (Made2 w v b)) (e : v = v') (e2 : b = b') : Calls P f a w (Made2 w v' b') := by subst e e2; exact h

theorem SV.len_le {xs : List Int} (h : SV xs) : lenS xs ≤ 25 := by
  have h1 := h.okA.2.2.1
  have h2 := lnF_eq (negL xs)
  have h3 : xs.length * xs.length ≤ 5 * 5 := Nat.mul_le_mul h.len h.len
  omega

set_option maxHeartbeats 4000000 in
theorem fnMultiplySigned (bo : Option Addr) (n cap : Nat) (cs : List Int) (w : World) (h : Slb w bo n cap cs) :
    Calls Try.prog 3 #[.slice bo n cap] w (Says w (.bool true)) := by
  have hbig := h.big
  by_cases hn : n ≤ 1048576
  · go_enter Try.func3, Try.ntmps3
    go_wp2_with fail
    refine (drawMultiplySigned_any _ _ _ _ _ h).mono ?_
    rintro e w1 ⟨u1, v1, xs, ys, rfl, oa1, ob1, X64, Y64, hlx, hly, t1⟩
    obtain ⟨adp, cpp, rfl, sp_1⟩ := oa1.sl
    obtain ⟨adq, cpq, rfl, sq_1⟩ := ob1.sl
    have Hlx := hid hlx
    have Hly := hid hly
    clear hlx hly oa1 ob1
    by_cases hv : SM xs ys
    · have Hv := hid hv
      clear hv
      have Hx := hid Hv.out.1
      have Hy := hid Hv.out.2.1
      have Ho := hid Hv.out.sv
      have Hi := hid (SV.inv Hx.out)
      have Hj := hid (SV.inv Hy.out)
      have Hio := hid (SV.inv Ho.out)
      have Hm2 : Hid (SM (invS ys) (invS xs)) := hid ⟨Hj.out, Hi.out, by rw [invS_len, invS_len]; exact Hv.out.2.2.symm⟩
      have Hmat : Hid (Mat (szL xs) (szL ys)) := hid ⟨Hx.out.ord, Hy.out.ord, by rw [szL_len, szL_len]; exact Hv.out.2.2⟩
      obtain ⟨d, hd⟩ := SM.lens Hv.out
      obtain ⟨A, HA⟩ : ∃ A, Hid (A = lenS xs) := ⟨_, rfl⟩
      obtain ⟨B, HB⟩ : ∃ B, Hid (B = lenS ys) := ⟨_, rfl⟩
      obtain ⟨C, HC⟩ : ∃ C, Hid (C = lenS (mulS xs ys)) := ⟨_, rfl⟩
      rw [← HA.out, ← HB.out, ← HC.out] at hd
      have hb : 0 ≤ A ∧ A ≤ 25 ∧ 0 ≤ B ∧ B ≤ 25 ∧ 0 ≤ C := by have h1 := lnF_eq xs; have h2 := lnF_eq ys; have h3 := lnF_eq (mulS xs ys); have h4 := Hx.out.len_le; have h5 := Hy.out.len_le; rw [HA.out, HB.out, HC.out]; omega
      obtain ⟨hb1, hb2, hb3, hb4, hb5⟩ := hb
      have hCle : C ≤ A + B := by omega
      have hnn : 0 ≤ A + B - C := by omega
      have hrem : (A + B - C) % 2 = 0 := by omega
      clear hd
      go_wp2_with fail
      refine (made2_to (mulI_any _ _ _ xs _ _ _ ys _ sp_1 sq_1 X64 Y64) (onSM_yes Hv.out) (decide_eq_true Hv.out)).mono ?_
      rintro e w2 ⟨u2, rfl, o2, b2⟩
      have t2 := t1.trans (b2.mono t1.size)
      have sp_2 := sp_1.later b2
      have sq_2 := sq_1.later b2
      obtain ⟨ado, cpo, rfl, so_2⟩ := o2.sl
      clear o2
      go_wp2_with fail
      refine (made2_to (mulSS_any _ _ _ xs _ _ _ ys _ sp_2 sq_2) (onSM_yes Hv.out) (decide_eq_true Hv.out)).mono ?_
      rintro e w3 ⟨u3, rfl, o3, b3⟩
      have t3 := t2.trans (b3.mono t2.size)
      have sp_3 := sp_2.later b3
      have sq_3 := sq_2.later b3
      have so_3 := so_2.later b3
      obtain ⟨adx, cpx, rfl, sx_3⟩ := o3.sl
      clear o3
      go_wp2_with fail
      refine (says_tob (equalInts_any _ _ _ (mulS xs ys) _ _ _ (mulS xs ys) _ so_3 sx_3) (decide_eq_true rfl)).mono ?_
      rintro e w4 ⟨rfl, b4⟩
      have t4 := t3.trans (b4.mono t3.size)
      have sp_4 := sp_3.later b4
      have sq_4 := sq_3.later b4
      have so_4 := so_3.later b4
      have sx_4 := sx_3.later b4
      go_wp2_with fail
      refine (made_to (isgI_any _ _ _ ys _ sq_4 Y64) (onS_yes Hy.out)).mono ?_
      rintro e w5 ⟨u5, rfl, o5, b5⟩
      have t5 := t4.trans (b5.mono t4.size)
      have sp_5 := sp_4.later b5
      have sq_5 := sq_4.later b5
      have so_5 := so_4.later b5
      have sx_5 := sx_4.later b5
      obtain ⟨adj, cpj, rfl, sj_5⟩ := o5.sl
      clear o5
      go_wp2_with fail
      refine (made_to (isgI_any _ _ _ xs _ sp_5 X64) (onS_yes Hx.out)).mono ?_
      rintro e w6 ⟨u6, rfl, o6, b6⟩
      have t6 := t5.trans (b6.mono t5.size)
      have sp_6 := sp_5.later b6
      have sq_6 := sq_5.later b6
      have so_6 := so_5.later b6
      have sx_6 := sx_5.later b6
      have sj_6 := sj_5.later b6
      obtain ⟨adi, cpi, rfl, si_6⟩ := o6.sl
      clear o6
      go_wp2_with fail
      refine (made2_to (mulI_any _ _ _ (invS ys) _ _ _ (invS xs) _ sj_6 si_6 (hid Hj.out.r64) (hid Hi.out.r64)) ((onSM_yes Hm2.out).trans Hv.out.invs) (decide_eq_true Hm2.out)).mono ?_
      rintro e w7 ⟨u7, rfl, o7, b7⟩
      have t7 := t6.trans (b7.mono t6.size)
      have sp_7 := sp_6.later b7
      have sq_7 := sq_6.later b7
      have so_7 := so_6.later b7
      have sx_7 := sx_6.later b7
      have sj_7 := sj_6.later b7
      have si_7 := si_6.later b7
      obtain ⟨adt, cpt, rfl, st_7⟩ := o7.sl
      clear o7
      go_wp2_with fail
      refine (says_to (lenI_any _ _ _ xs _ sp_7 X64) ((onSi_yes Hx.out).trans HA.out.symm)).mono ?_
      rintro e w8 ⟨rfl, b8⟩
      have t8 := t7.trans (b8.mono t7.size)
      have sp_8 := sp_7.later b8
      have sq_8 := sq_7.later b8
      have so_8 := so_7.later b8
      have sx_8 := sx_7.later b8
      have sj_8 := sj_7.later b8
      have si_8 := si_7.later b8
      have st_8 := st_7.later b8
      go_wp2_with fail
      refine (says_to (lenI_any _ _ _ ys _ sq_8 Y64) ((onSi_yes Hy.out).trans HB.out.symm)).mono ?_
      rintro e w9 ⟨rfl, b9⟩
      have t9 := t8.trans (b9.mono t8.size)
      have sp_9 := sp_8.later b9
      have sq_9 := sq_8.later b9
      have so_9 := so_8.later b9
      have sx_9 := sx_8.later b9
      have sj_9 := sj_8.later b9
      have si_9 := si_8.later b9
      have st_9 := st_8.later b9
      go_wp2_with fail
      refine (made_to (sizesI_any _ _ _ xs _ sp_9 X64) (onS_yes Hx.out)).mono ?_
      rintro e w10 ⟨u10, rfl, o10, b10⟩
      have t10 := t9.trans (b10.mono t9.size)
      have sp_10 := sp_9.later b10
      have sq_10 := sq_9.later b10
      have so_10 := so_9.later b10
      have sx_10 := sx_9.later b10
      have sj_10 := sj_9.later b10
      have si_10 := si_9.later b10
      have st_10 := st_9.later b10
      obtain ⟨adsx, cpsx, rfl, ssx_10⟩ := o10.sl
      clear o10
      go_wp2_with fail
      refine (made_to (sizesI_any _ _ _ ys _ sq_10 Y64) (onS_yes Hy.out)).mono ?_
      rintro e w11 ⟨u11, rfl, o11, b11⟩
      have t11 := t10.trans (b11.mono t10.size)
      have sp_11 := sp_10.later b11
      have sq_11 := sq_10.later b11
      have so_11 := so_10.later b11
      have sx_11 := sx_10.later b11
      have sj_11 := sj_10.later b11
      have si_11 := si_10.later b11
      have st_11 := st_10.later b11
      have ssx_11 := ssx_10.later b11
      obtain ⟨adsy, cpsy, rfl, ssy_11⟩ := o11.sl
      clear o11
      go_wp2_with fail
      refine (made2_to (multI_any _ _ _ (szL xs) _ _ _ (szL ys) _ ssx_11 ssy_11) ((onM_yes Hmat.out).trans Hv.out.szs.symm) (decide_eq_true Hmat.out)).mono ?_
      rintro e w12 ⟨u12, rfl, o12, b12⟩
      have t12 := t11.trans (b12.mono t11.size)
      have sp_12 := sp_11.later b12
      have sq_12 := sq_11.later b12
      have so_12 := so_11.later b12
      have sx_12 := sx_11.later b12
      have sj_12 := sj_11.later b12
      have si_12 := si_11.later b12
      have st_12 := st_11.later b12
      have ssx_12 := ssx_11.later b12
      have ssy_12 := ssy_11.later b12
      obtain ⟨adm, cpm, rfl, sm_12⟩ := o12.sl
      clear o12
      go_wp2_with fail
      refine (says_to (lenI_any _ _ _ (mulS xs ys) _ so_12 (hid Ho.out.r64)) ((onSi_yes Ho.out).trans HC.out.symm)).mono ?_
      rintro e w13 ⟨rfl, b13⟩
      have t13 := t12.trans (b13.mono t12.size)
      have sp_13 := sp_12.later b13
      have sq_13 := sq_12.later b13
      have so_13 := so_12.later b13
      have sx_13 := sx_12.later b13
      have sj_13 := sj_12.later b13
      have si_13 := si_12.later b13
      have st_13 := st_12.later b13
      have ssx_13 := ssx_12.later b13
      have ssy_13 := ssy_12.later b13
      have sm_13 := sm_12.later b13
      go_wp2_with fail
      refine (says_to (lenI_any _ _ _ (mulS xs ys) _ so_13 (hid Ho.out.r64)) ((onSi_yes Ho.out).trans HC.out.symm)).mono ?_
      rintro e w14 ⟨rfl, b14⟩
      have t14 := t13.trans (b14.mono t13.size)
      have sp_14 := sp_13.later b14
      have sq_14 := sq_13.later b14
      have so_14 := so_13.later b14
      have sx_14 := sx_13.later b14
      have sj_14 := sj_13.later b14
      have si_14 := si_13.later b14
      have st_14 := st_13.later b14
      have ssx_14 := ssx_13.later b14
      have ssy_14 := ssy_13.later b14
      have sm_14 := sm_13.later b14
      go_wp2_with fail
      refine (made_to (isgI_any _ _ _ (mulS xs ys) _ so_14 (hid Ho.out.r64)) (onS_yes Ho.out)).mono ?_
      rintro e w15 ⟨u15, rfl, o15, b15⟩
      have t15 := t14.trans (b15.mono t14.size)
      have sp_15 := sp_14.later b15
      have sq_15 := sq_14.later b15
      have so_15 := so_14.later b15
      have sx_15 := sx_14.later b15
      have sj_15 := sj_14.later b15
      have si_15 := si_14.later b15
      have st_15 := st_14.later b15
      have ssx_15 := ssx_14.later b15
      have ssy_15 := ssy_14.later b15
      have sm_15 := sm_14.later b15
      obtain ⟨adio, cpio, rfl, sio_15⟩ := o15.sl
      clear o15
      go_wp2_with fail
      refine (says_tob (equalInts_any _ _ _ (invS (mulS xs ys)) _ _ _ (invS (mulS xs ys)) _ st_15 sio_15) (decide_eq_true rfl)).mono ?_
      rintro e w16 ⟨rfl, b16⟩
      have t16 := t15.trans (b16.mono t15.size)
      have sp_16 := sp_15.later b16
      have sq_16 := sq_15.later b16
      have so_16 := so_15.later b16
      have sx_16 := sx_15.later b16
      have sj_16 := sj_15.later b16
      have si_16 := si_15.later b16
      have st_16 := st_15.later b16
      have ssx_16 := ssx_15.later b16
      have ssy_16 := ssy_15.later b16
      have sm_16 := sm_15.later b16
      have sio_16 := sio_15.later b16
      go_wp2_with fail
      refine (made_to (sizesI_any _ _ _ (mulS xs ys) _ so_16 (hid Ho.out.r64)) (onS_yes Ho.out)).mono ?_
      rintro e w17 ⟨u17, rfl, o17, b17⟩
      have t17 := t16.trans (b17.mono t16.size)
      have sp_17 := sp_16.later b17
      have sq_17 := sq_16.later b17
      have so_17 := so_16.later b17
      have sx_17 := sx_16.later b17
      have sj_17 := sj_16.later b17
      have si_17 := si_16.later b17
      have st_17 := st_16.later b17
      have ssx_17 := ssx_16.later b17
      have ssy_17 := ssy_16.later b17
      have sm_17 := sm_16.later b17
      have sio_17 := sio_16.later b17
      obtain ⟨adso, cpso, rfl, sso_17⟩ := o17.sl
      clear o17
      go_wp2_with fail
      refine (says_tob (equalInts_any _ _ _ (szL (mulS xs ys)) _ _ _ (szL (mulS xs ys)) _ sso_17 sm_17) (decide_eq_true rfl)).mono ?_
      rintro e w18 ⟨rfl, b18⟩
      have t18 := t17.trans (b18.mono t17.size)
      have sp_18 := sp_17.later b18
      have sq_18 := sq_17.later b18
      have so_18 := so_17.later b18
      have sx_18 := sx_17.later b18
      have sj_18 := sj_17.later b18
      have si_18 := si_17.later b18
      have st_18 := st_17.later b18
      have ssx_18 := ssx_17.later b18
      have ssy_18 := ssy_17.later b18
      have sm_18 := sm_17.later b18
      have sio_18 := sio_17.later b18
      have sso_18 := sso_17.later b18
      go_wp2
      go_ret
      exact ⟨rfl, t18⟩
    · have Hv := hid hv
      clear hv
      go_wp2_with fail
      refine (made2_to (mulI_any _ _ _ xs _ _ _ ys _ sp_1 sq_1 X64 Y64) (onSM_no Hv.out) (decide_eq_false Hv.out)).mono ?_
      rintro e w2 ⟨u2, rfl, o2, b2⟩
      have t2 := t1.trans (b2.mono t1.size)
      have sp_2 := sp_1.later b2
      have sq_2 := sq_1.later b2
      obtain ⟨ado, cpo, rfl, so_2⟩ := o2.sl
      clear o2
      go_wp2_with fail
      refine (made2_to (mulSS_any _ _ _ xs _ _ _ ys _ sp_2 sq_2) (onSM_no Hv.out) (decide_eq_false Hv.out)).mono ?_
      rintro e w3 ⟨u3, rfl, o3, b3⟩
      have t3 := t2.trans (b3.mono t2.size)
      have sp_3 := sp_2.later b3
      have sq_3 := sq_2.later b3
      have so_3 := so_2.later b3
      obtain ⟨adx, cpx, rfl, sx_3⟩ := o3.sl
      clear o3
      go_wp2_with fail
      refine (says_tob (equalInts_any _ _ _ (([] : List Int)) _ _ _ (([] : List Int)) _ so_3 sx_3) (decide_eq_true rfl)).mono ?_
      rintro e w4 ⟨rfl, b4⟩
      have t4 := t3.trans (b4.mono t3.size)
      have sp_4 := sp_3.later b4
      have sq_4 := sq_3.later b4
      have so_4 := so_3.later b4
      have sx_4 := sx_3.later b4
      go_wp2_with fail
      refine (says_tob (equalInts_any _ _ _ (([] : List Int)) _ _ _ (([] : List Int)) _ so_4 sx_4) (decide_eq_true rfl)).mono ?_
      rintro e w5 ⟨rfl, b5⟩
      have t5 := t4.trans (b5.mono t4.size)
      have sp_5 := sp_4.later b5
      have sq_5 := sq_4.later b5
      have so_5 := so_4.later b5
      have sx_5 := sx_4.later b5
      go_wp2
      go_ret
      exact ⟨rfl, t5⟩
  · go_enter Try.func3, Try.ntmps3
    go_wp2
    go_ret
    exact ⟨rfl, Below.refl _ _⟩

end Go.Proofs.Ytjgaglfinpeeoab
