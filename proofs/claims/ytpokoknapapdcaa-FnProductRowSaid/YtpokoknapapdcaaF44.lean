/- The walk of the law of ProductRow. Condition of the law's own: at most 2^20 bytes. -/
import Derived.Test.YtpokoknapapdcaaLawRow
import Derived.Test.YtpokoknapapdcaaPrw
import Derived.Test.YtpokoknapapdcaaMrw
namespace Go.Proofs.Ytpokoknapapdcaa
open Go.RowKit

theorem prow_all : ∀ n : Nat, n < 8 → (decide (turn (prw n) = prw n) && decide (sumL (prw n) = fac n)) = true := by decide +kernel
theorem prow_facts {n : Nat} (h : n ≤ 7) : turn (prw n) = prw n ∧ sumL (prw n) = fac n := by
  have := prow_all n (by omega)
  simpa only [Bool.and_eq_true, decide_eq_true_eq] using this
theorem Bd.co {zs : List Int} (h : Bd zs 10000) (h0 : 0 < zs.length) (h30 : zs.length ≤ 30) : Co zs := ⟨h0, h30, fun j _ => by have := h j; omega⟩
theorem onesL_len (k : Nat) : (onesL k).length = k := List.length_replicate ..
theorem onesL_succ (k : Nat) : onesL (k + 1) = onesL k ++ [1] := by simp [onesL, List.replicate_succ']

set_option maxHeartbeats 4000000 in
theorem fnProductRow (bo : Option Addr) (n cap : Nat) (cs : List Int) (w : World) (h : Slb w bo n cap cs) :
    Calls Try.prog 3 #[.slice bo n cap] w (Says w (.bool true)) := by
  have hbig := h.big
  by_cases hn : n ≤ 1048576
  · go_enter Try.func3, Try.ntmps3
    go_wp2_with fail
    refine (drawProductRow_any _ _ _ _ _ h).mono ?_
    rintro e w1 ⟨v, rfl, hn8, hp8, t1⟩
    by_cases hv : 0 ≤ v ∧ v ≤ 7
    · obtain ⟨m, rfl⟩ := Int.eq_ofNat_of_zero_le hv.1
      have hm : m ≤ 7 := by omega
      clear hv hn8
      have hf := prow_facts hm
      have Ht := hid hf.1
      have Hs := hid hf.2
      clear hf
      have hlen : (prw m).length ≤ 30 := by have := (prw_fits m (by omega)).2.1; omega
      have Hb := hid (prw_bd hm)
      have h7i : ¬ (7 : Int) < m := by omega
      have h0i : ¬ (m : Int) < 0 := by omega
      go_wp2_with fail
      refine (prodI_yes m _ hm).mono ?_
      rintro e w2 ⟨u2, rfl, o2, b2⟩
      have t2 := t1.trans (b2.mono t1.size)
      obtain ⟨ada, cpa, rfl, sa_2⟩ := o2.sl
      clear o2
      go_wp2_with fail
      refine (prodS_yes m _ hm).mono ?_
      rintro e w3 ⟨u3, rfl, o3, b3⟩
      have t3 := t2.trans (b3.mono t2.size)
      have sa_3 := sa_2.later b3
      obtain ⟨adb, cpb, rfl, sb_3⟩ := o3.sl
      clear o3
      go_wp2_with fail
      refine (says_tob (equalInts_any _ _ _ (prw m) _ _ _ (prw m) _ sa_3 sb_3) (decide_eq_true rfl)).mono ?_
      rintro e w4 ⟨rfl, b4⟩
      have t4 := t3.trans (b4.mono t3.size)
      have sa_4 := sa_3.later b4
      have sb_4 := sb_3.later b4
      have sa := sa_4
      cases m with
      | zero =>
        have sl1 := (own_one w4 1 w4.heap.size (Nat.le_refl _)).read
        have sa1 := sa.later ((Below.refl w4.heap.size w4).alloc (Nat.le_refl _) (.cells #[.int .i64 1] 3))
        have e0 : prw 0 = [1] := rfl
        rw [e0] at sa1 ⊢
        have Sa1 := hid sa1
        have Sl1 := hid sl1
        clear e0 sa1 sl1
        go_wp2_with fail
        refine (says_tob (equalInts_any _ _ _ [1] _ _ _ [1] _ Sa1.out Sl1.out) (decide_eq_true rfl)).mono ?_
        rintro e v9 ⟨rfl, b9⟩
        go_wp2
        go_ret
        exact ⟨rfl, (t4.alloc t4.size _).trans (b9.mono (Nat.le_trans t4.size (by simp)))⟩
      | succ k =>
        have hk0 : (((k + 1 : Nat) : Int) == 0) = false := by rw [beq_eq_false_iff_ne]; omega
        have Hp : Hid (mul (prw k) (onesL (k + 1)) = prw (k + 1)) := hid rfl
        generalize hmm : k + 1 = mm at *
        have Hmm := hid hmm
        clear hmm hlen h0i h7i hbig
        have hm7 : (mm : Int) ≤ 7 := by omega
        go_wp2
        go_loopw [5, 6] (fun v i wr => ∃ (t : Nat) (ao' : Option Addr) (cap' : Nat), t ≤ mm ∧ v = .slice ao' t cap' ∧ i = .int .i64 t ∧ Below w4.heap.size w4 wr ∧ Own wr w4.heap.size (.slice ao' t cap') (onesL t))
          (fun v _ _ => mm - lenOf v)
        case atStart => exact ⟨0, _, _, Nat.zero_le _, rfl, rfl, (Below.refl _ _).alloc (Nat.le_refl _) _, own_lit w4⟩
        case round =>
          obtain ⟨t, ao', cap', ht, rfl, rfl, hbr, ho⟩ := hrel
          have hsz := hbr.size
          have hl : (onesL t).length ≤ 2000000 := by rw [onesL_len]; omega
          by_cases htl : t < mm
          · have hti : (t : Int) < (mm : Int) := by omega
            go_wp2_with (at_builtin; refine app_int _ _ rfl _ _ rfl w4.heap.size _ _ rfl ho rfl hl hsz ?_)
            intro u' w' ho' hg'
            have hb' := below_app hbr ho hg'
            rw [← onesL_succ] at ho'
            obtain ⟨ao5, cp5, rfl, -⟩ := ho'.sl
            rw [onesL_len] at ho' ⊢
            go_wp2
            go_roundw
            case rel => exact ⟨t + 1, _, _, by omega, rfl, by go_num, hb', ho'⟩
            case measure => simp [lenOf]; omega
          · obtain rfl : t = mm := by omega
            obtain ⟨w5, hw⟩ : ∃ w5, w5 = wr := ⟨_, rfl⟩
            subst hw
            have t5 := t4.trans (hbr.mono t4.size)
            have sa_5 := sa.later hbr
            have so_5 := ho.read
            clear ho hbr sa
            go_wp2_with fail
            refine (made_to (mirrored_any _ _ _ (prw t) _ sa_5 (by have := (prw_fits t (by omega)).2.1; omega)) Ht.out).mono ?_
            rintro e w6 ⟨u6, rfl, o6, b6⟩
            have t6 := t5.trans (b6.mono t5.size)
            have sa_6 := sa_5.later b6
            have so_6 := so_5.later b6
            obtain ⟨adt, cpt, rfl, st_6⟩ := o6.sl
            clear o6
            go_wp2_with fail
            refine (says_tob (equalInts_any _ _ _ (prw t) _ _ _ (prw t) _ st_6 sa_6) (decide_eq_true rfl)).mono ?_
            rintro e w7 ⟨rfl, b7⟩
            have t7 := t6.trans (b7.mono t6.size)
            have sa_7 := sa_6.later b7
            have so_7 := so_6.later b7
            have st_7 := st_6.later b7
            go_wp2_with fail
            refine (says_to (totalB_any _ _ _ (prw t) _ sa_7 (by have := (prw_fits t (by omega)).2.1; omega) Hb) Hs.out).mono ?_
            rintro e w8 ⟨rfl, b8⟩
            have t8 := t7.trans (b8.mono t7.size)
            have sa_8 := sa_7.later b8
            have so_8 := so_7.later b8
            have st_8 := st_7.later b8
            go_wp2_with fail
            refine (product_says t _ hm).mono ?_
            rintro e w9 ⟨rfl, b9⟩
            have t9 := t8.trans (b9.mono t8.size)
            have sa_9 := sa_8.later b9
            have so_9 := so_8.later b9
            have st_9 := st_8.later b9
            have hw1 : (t : Int) - 1 = ((k : Nat) : Int) := by have := Hmm.out; omega
            go_wp2_with fail
            refine (prodI_yes k _ (by have := Hmm.out; omega)).mono ?_
            rintro e w10 ⟨u10, rfl, o10, b10⟩
            have t10 := t9.trans (b10.mono t9.size)
            have sa_10 := sa_9.later b10
            have so_10 := so_9.later b10
            have st_10 := st_9.later b10
            obtain ⟨adc, cpc, rfl, sc_10⟩ := o10.sl
            clear o10
            clear hw1
            have Hc1 : Hid (Co (prw k)) := hid ((prw_bd (by have := Hmm.out; omega)).co (prw_fits k (by have := Hmm.out; omega)).2.2 (by have := (prw_fits k (by have := Hmm.out; omega)).2.1; omega))
            have Hc2 : Hid (Co (onesL t)) := hid (((onesL_bd t).mono (by omega)).co (by rw [onesL_len]; have := Hmm.out; omega) (by rw [onesL_len]; omega))
            go_wp2_with fail
            refine (made_to (mrwI_any _ _ _ (prw k) _ _ _ (onesL t) _ sc_10 so_10) ((onCo_yes ⟨Hc1.out, Hc2.out⟩).trans Hp.out)).mono ?_
            rintro e w11 ⟨u11, rfl, o11, b11⟩
            have t11 := t10.trans (b11.mono t10.size)
            have sa_11 := sa_10.later b11
            have so_11 := so_10.later b11
            have st_11 := st_10.later b11
            have sc_11 := sc_10.later b11
            obtain ⟨add, cpd, rfl, sd_11⟩ := o11.sl
            clear o11
            go_wp2_with fail
            refine (says_tob (equalInts_any _ _ _ (prw t) _ _ _ (prw t) _ sd_11 sa_11) (decide_eq_true rfl)).mono ?_
            rintro e w12 ⟨rfl, b12⟩
            have t12 := t11.trans (b12.mono t11.size)
            have sa_12 := sa_11.later b12
            have so_12 := so_11.later b12
            have st_12 := st_11.later b12
            have sc_12 := sc_11.later b12
            have sd_12 := sd_11.later b12
            go_wp2
            go_ret
            exact ⟨rfl, t12⟩
    · have hno : v < 0 ∨ 7 < v := by omega
      have Hno := hid hno
      clear hv hno
      go_wp2_with fail
      refine (prodI_no v _ Hno.out).mono ?_
      rintro e w2 ⟨u2, rfl, o2, b2⟩
      have t2 := t1.trans (b2.mono t1.size)
      obtain ⟨ada, cpa, rfl, sa_2⟩ := o2.sl
      clear o2
      go_wp2_with fail
      refine (prodS_no v _ Hno.out).mono ?_
      rintro e w3 ⟨u3, rfl, o3, b3⟩
      have t3 := t2.trans (b3.mono t2.size)
      have sa_3 := sa_2.later b3
      obtain ⟨adb, cpb, rfl, sb_3⟩ := o3.sl
      clear o3
      go_wp2_with fail
      refine (says_tob (equalInts_any _ _ _ [] _ _ _ [] _ sa_3 sb_3) (decide_eq_true rfl)).mono ?_
      rintro e w4 ⟨rfl, b4⟩
      have t4 := t3.trans (b4.mono t3.size)
      have sa_4 := sa_3.later b4
      have sb_4 := sb_3.later b4
      by_cases h0' : v < 0
      · have h0 : v < 0 := by omega
        go_wp2_with fail
        refine (prodS_no v _ Hno.out).mono ?_
        rintro e w5 ⟨u5, rfl, o5, b5⟩
        have t5 := t4.trans (b5.mono t4.size)
        have sa_5 := sa_4.later b5
        have sb_5 := sb_4.later b5
        obtain ⟨adc, cpc, rfl, sc_5⟩ := o5.sl
        clear o5
        go_wp2_with fail
        refine (says_tob (equalInts_any _ _ _ [] _ _ _ [] _ sa_5 sc_5) (decide_eq_true rfl)).mono ?_
        rintro e w6 ⟨rfl, b6⟩
        have t6 := t5.trans (b6.mono t5.size)
        have sa_6 := sa_5.later b6
        have sb_6 := sb_5.later b6
        have sc_6 := sc_5.later b6
        go_wp2
        go_ret
        exact ⟨rfl, t6⟩
      · have h0 : ¬ v < 0 := by omega
        have h00 : 7 < v := by have := Hno.out; omega
        go_wp2_with fail
        refine (prodS_no v _ Hno.out).mono ?_
        rintro e w5 ⟨u5, rfl, o5, b5⟩
        have t5 := t4.trans (b5.mono t4.size)
        have sa_5 := sa_4.later b5
        have sb_5 := sb_4.later b5
        obtain ⟨adc, cpc, rfl, sc_5⟩ := o5.sl
        clear o5
        go_wp2_with fail
        refine (says_tob (equalInts_any _ _ _ [] _ _ _ [] _ sa_5 sc_5) (decide_eq_true rfl)).mono ?_
        rintro e w6 ⟨rfl, b6⟩
        have t6 := t5.trans (b6.mono t5.size)
        have sa_6 := sa_5.later b6
        have sb_6 := sb_5.later b6
        have sc_6 := sc_5.later b6
        go_wp2
        go_ret
        exact ⟨rfl, t6⟩
  · go_enter Try.func3, Try.ntmps3
    go_wp2
    go_ret
    exact ⟨rfl, Below.refl _ _⟩

end Go.Proofs.Ytpokoknapapdcaa
