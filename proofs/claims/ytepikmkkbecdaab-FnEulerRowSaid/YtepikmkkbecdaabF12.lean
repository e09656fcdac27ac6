/- The walks of the laws of EulerRow and CircleRow. Condition of the laws' own: at most 2^20 bytes. -/
import Derived.Test.YtepikmkkbecdaabLawRow
import Derived.Test.YtepikmkkbecdaabEul
namespace Go.Proofs.Ytepikmkkbecdaab
open Go.RowKit

theorem euler_all : ∀ n : Nat, n < 8 → (decide (turn (euler n) = euler n) && decide (sumL (euler n) = fac n) && decide (((euler n).length : Int) = max (n : Int) 1) && (euler n).all (fun x => decide (0 ≤ x) && decide (x ≤ 10000))) = true := by decide +kernel
theorem euler_facts {n : Nat} (h : n ≤ 7) : turn (euler n) = euler n ∧ sumL (euler n) = fac n ∧ ((euler n).length : Int) = max (n : Int) 1 ∧ Bd (euler n) 10000 := by
  have := euler_all n (by omega)
  simp only [Bool.and_eq_true, decide_eq_true_eq] at this
  exact ⟨this.1.1.1, this.1.1.2, this.1.2, Bd.of (by omega) (by simpa using this.2)⟩
theorem circle_all : ∀ n : Nat, n < 8 → (decide (sumL (cir n) = fac n) && decide (el (cir n) n = 1) && (decide (n = 0) || (decide (el (cir n) 0 = 0) && decide (el (cir n) 1 = fac (n - 1))))) = true := by decide +kernel
theorem circle_facts {n : Nat} (h : n ≤ 7) : sumL (cir n) = fac n ∧ el (cir n) n = 1 ∧ (n ≠ 0 → el (cir n) 0 = 0 ∧ el (cir n) 1 = fac (n - 1)) := by
  have := circle_all n (by omega)
  simp only [Bool.and_eq_true, Bool.or_eq_true, decide_eq_true_eq] at this
  exact ⟨this.1.1, this.1.2, fun hn => this.2.resolve_left hn⟩
theorem max_ite (a b : Int) : max a b = if a < b then b else a := by rw [Int.max_def]; split <;> split <;> omega

set_option maxHeartbeats 4000000 in
theorem fnEulerRow (bo : Option Addr) (n cap : Nat) (cs : List Int) (w : World) (h : Slb w bo n cap cs) :
    Calls Try.prog 13 #[.slice bo n cap] w (Says w (.bool true)) := by
  have hbig := h.big
  by_cases hn : n ≤ 1048576
  · go_enter Try.func13, Try.ntmps13
    go_wp2_with fail
    refine (drawEulerRow_any _ _ _ _ _ h).mono ?_
    rintro e w1 ⟨v, rfl, hn8, hp8, t1⟩
    by_cases hv : 0 ≤ v ∧ v ≤ 7
    · obtain ⟨m, rfl⟩ := Int.eq_ofNat_of_zero_le hv.1
      have hm : m ≤ 7 := by omega
      clear hv hn8
      have hf := euler_facts hm
      have Ht := hid hf.1
      have Hs := hid hf.2.1
      have Hl := hid hf.2.2.1
      have Hb := hid hf.2.2.2
      clear hf
      have hlen : (euler m).length ≤ 30 := by rw [euler, eu_len]; omega
      have h7i : ¬ (7 : Int) < m := by omega
      have h0i : ¬ (m : Int) < 0 := by omega
      go_wp2_with fail
      refine (eulI_yes m _ hm).mono ?_
      rintro e w2 ⟨u2, rfl, o2, b2⟩
      have t2 := t1.trans (b2.mono t1.size)
      obtain ⟨ada, cpa, rfl, sa_2⟩ := o2.sl
      clear o2
      go_wp2_with fail
      refine (eulS_yes m _ hm).mono ?_
      rintro e w3 ⟨u3, rfl, o3, b3⟩
      have t3 := t2.trans (b3.mono t2.size)
      have sa_3 := sa_2.later b3
      obtain ⟨adb, cpb, rfl, sb_3⟩ := o3.sl
      clear o3
      go_wp2_with fail
      refine (says_tob (equalInts_any _ _ _ (euler m) _ _ _ (euler m) _ sa_3 sb_3) (decide_eq_true rfl)).mono ?_
      rintro e w4 ⟨rfl, b4⟩
      have t4 := t3.trans (b4.mono t3.size)
      have sa_4 := sa_3.later b4
      have sb_4 := sb_3.later b4
      go_wp2_with fail
      refine (made_to (mirrored_any _ _ _ (euler m) _ sa_4 (by omega)) Ht.out).mono ?_
      rintro e w5 ⟨u5, rfl, o5, b5⟩
      have t5 := t4.trans (b5.mono t4.size)
      have sa_5 := sa_4.later b5
      have sb_5 := sb_4.later b5
      obtain ⟨adt, cpt, rfl, st_5⟩ := o5.sl
      clear o5
      go_wp2_with fail
      refine (says_tob (equalInts_any _ _ _ (euler m) _ _ _ (euler m) _ st_5 sa_5) (decide_eq_true rfl)).mono ?_
      rintro e w6 ⟨rfl, b6⟩
      have t6 := t5.trans (b6.mono t5.size)
      have sa_6 := sa_5.later b6
      have sb_6 := sb_5.later b6
      have st_6 := st_5.later b6
      go_wp2_with fail
      refine (says_to (totalB_any _ _ _ (euler m) _ sa_6 hlen Hb) Hs.out).mono ?_
      rintro e w7 ⟨rfl, b7⟩
      have t7 := t6.trans (b7.mono t6.size)
      have sa_7 := sa_6.later b7
      have sb_7 := sb_6.later b7
      have st_7 := st_6.later b7
      go_wp2_with fail
      refine (product_says m _ hm).mono ?_
      rintro e w8 ⟨rfl, b8⟩
      have t8 := t7.trans (b8.mono t7.size)
      have sa_8 := sa_7.later b8
      have sb_8 := sb_7.later b8
      have st_8 := st_7.later b8
      by_cases hm1 : (m : Int) < 1
      · have hle : (((euler m).length : Int) == 1) = true := by rw [Hl.out, max_ite, if_pos hm1]; rfl
        go_wp2
        go_ret
        exact ⟨rfl, t8⟩
      · have hle : (((euler m).length : Int) == (m : Int)) = true := by rw [Hl.out, max_ite, if_neg hm1]; simp
        go_wp2
        go_ret
        exact ⟨rfl, t8⟩
    · have hno : v < 0 ∨ 7 < v := by omega
      have Hno := hid hno
      clear hv hno
      go_wp2_with fail
      refine (eulI_no v _ Hno.out).mono ?_
      rintro e w2 ⟨u2, rfl, o2, b2⟩
      have t2 := t1.trans (b2.mono t1.size)
      obtain ⟨ada, cpa, rfl, sa_2⟩ := o2.sl
      clear o2
      go_wp2_with fail
      refine (eulS_no v _ Hno.out).mono ?_
      rintro e w3 ⟨u3, rfl, o3, b3⟩
      have t3 := t2.trans (b3.mono t2.size)
      have sa_3 := sa_2.later b3
      obtain ⟨adb, cpb, rfl, sb_3⟩ := o3.sl
      clear o3
      go_wp2_with fail
      refine (says_tob (equalInts_any _ _ _ [] _ _ _ [] _ sa_3 sb_3) (decide_eq_true rfl)).mono ?_
      rintro e w4 ⟨rfl, b4⟩
      have t4 := t3.trans (b4.mono t3.size)
      have sa_4 := sa_3.later b4
      have sb_4 := sb_3.later b4
      by_cases h0' : v < 0
      · have h0 : v < 0 := by omega
        go_wp2_with fail
        refine (eulS_no v _ Hno.out).mono ?_
        rintro e w5 ⟨u5, rfl, o5, b5⟩
        have t5 := t4.trans (b5.mono t4.size)
        have sa_5 := sa_4.later b5
        have sb_5 := sb_4.later b5
        obtain ⟨adc, cpc, rfl, sc_5⟩ := o5.sl
        clear o5
        go_wp2_with fail
        refine (says_tob (equalInts_any _ _ _ [] _ _ _ [] _ sa_5 sc_5) (decide_eq_true rfl)).mono ?_
        rintro e w6 ⟨rfl, b6⟩
        have t6 := t5.trans (b6.mono t5.size)
        have sa_6 := sa_5.later b6
        have sb_6 := sb_5.later b6
        have sc_6 := sc_5.later b6
        go_wp2
        go_ret
        exact ⟨rfl, t6⟩
      · have h0 : ¬ v < 0 := by omega
        have h00 : 7 < v := by have := Hno.out; omega
        go_wp2_with fail
        refine (eulS_no v _ Hno.out).mono ?_
        rintro e w5 ⟨u5, rfl, o5, b5⟩
        have t5 := t4.trans (b5.mono t4.size)
        have sa_5 := sa_4.later b5
        have sb_5 := sb_4.later b5
        obtain ⟨adc, cpc, rfl, sc_5⟩ := o5.sl
        clear o5
        go_wp2_with fail
        refine (says_tob (equalInts_any _ _ _ [] _ _ _ [] _ sa_5 sc_5) (decide_eq_true rfl)).mono ?_
        rintro e w6 ⟨rfl, b6⟩
        have t6 := t5.trans (b6.mono t5.size)
        have sa_6 := sa_5.later b6
        have sb_6 := sb_5.later b6
        have sc_6 := sc_5.later b6
        go_wp2
        go_ret
        exact ⟨rfl, t6⟩
  · go_enter Try.func13, Try.ntmps13
    go_wp2
    go_ret
    exact ⟨rfl, Below.refl _ _⟩

set_option maxHeartbeats 4000000 in
theorem fnCircleRow (bo : Option Addr) (n cap : Nat) (cs : List Int) (w : World) (h : Slb w bo n cap cs) :
    Calls Try.prog 14 #[.slice bo n cap] w (Says w (.bool true)) := by
  have hbig := h.big
  by_cases hn : n ≤ 1048576
  · go_enter Try.func14, Try.ntmps14
    go_wp2_with fail
    refine (drawCircleRow_any _ _ _ _ _ h).mono ?_
    rintro e w1 ⟨v, rfl, hn8, hp8, t1⟩
    by_cases hv : 0 ≤ v ∧ v ≤ 7
    · obtain ⟨m, rfl⟩ := Int.eq_ofNat_of_zero_le hv.1
      have hm : m ≤ 7 := by omega
      clear hv hn8
      have hf := circle_facts hm
      have Hs := hid hf.1
      have H1 := hid hf.2.1
      have H2 := hid hf.2.2
      clear hf
      have Hb := hid (cir_bd hm)
      have hcl := hid (cir_len hm)
      have h7i : ¬ (7 : Int) < m := by omega
      have h0i : ¬ (m : Int) < 0 := by omega
      go_wp2_with fail
      refine (cirI_yes m _ hm).mono ?_
      rintro e w2 ⟨u2, rfl, o2, b2⟩
      have t2 := t1.trans (b2.mono t1.size)
      obtain ⟨ada, cpa, rfl, sa_2⟩ := o2.sl
      clear o2
      go_wp2_with fail
      refine (cirS_yes m _ hm).mono ?_
      rintro e w3 ⟨u3, rfl, o3, b3⟩
      have t3 := t2.trans (b3.mono t2.size)
      have sa_3 := sa_2.later b3
      obtain ⟨adb, cpb, rfl, sb_3⟩ := o3.sl
      clear o3
      go_wp2_with fail
      refine (says_tob (equalInts_any _ _ _ (cir m) _ _ _ (cir m) _ sa_3 sb_3) (decide_eq_true rfl)).mono ?_
      rintro e w4 ⟨rfl, b4⟩
      have t4 := t3.trans (b4.mono t3.size)
      have sa_4 := sa_3.later b4
      have sb_4 := sb_3.later b4
      have sa := sa_4
      have hcl2 := hcl.out
      obtain ⟨b, off, rfl, hblt, hc⟩ := sa.row (by omega)
      have hcm := hc m (by omega)
      rw [H1.out] at hcm
      rw [hcl2] at sa hc ⊢
      clear hcl2 hbig
      cases m with
      | zero =>
        rw [Nat.add_zero] at hcm
        clear hc
        have hw1 : IntKind.i64.wrap 1 = 1 := IntWalk.i64_in _ ⟨by omega, by omega⟩
        have e1 : sumL (cir 0) = 1 := by decide
        have e2 : fac 0 = 1 := by decide
        go_wp2_with fail
        go_quiet (first
          | (go_at_call 42; exact Calls.quiet_of_same (totalQ_any _ _ _ (cir 0) _ (sa.drewN _) (by omega) Hb))
          | (go_at_call 43; exact Calls.quiet_of_same (product_any _ _ (by omega))))
        go_wp2
        go_ret
        exact ⟨rfl, drewN_below t4 _⟩
      | succ k =>
        have hcz := hc 0 (by omega)
        have hco := hc 1 (by omega)
        have h2 := H2.out (by omega)
        rw [h2.1, Nat.add_zero] at hcz
        rw [h2.2, Nat.add_sub_cancel] at hco
        have Hs2 := Hs.out
        clear h2 hc
        have hw1 : IntKind.i64.wrap ((k : Int) + 1 + 1) = (k : Int) + 1 + 1 := IntWalk.i64_in _ ⟨by omega, by omega⟩
        have hw2 : IntKind.i64.wrap (k : Int) = (k : Int) := IntWalk.i64_in _ ⟨by omega, by omega⟩
        have hk1 : 0 ≤ (k : Int) + 1 := by omega
        have hk2 : (k : Int) + 1 < (k : Int) + 1 + 1 := by omega
        have hk3 : ((k : Int) + 1).toNat = k + 1 := by omega
        have hk4 : 1 < (k : Int) + 1 + 1 := by omega
        have hk5 : 0 < (k : Int) + 1 + 1 := by omega
        have hk0 : ((k : Int) + 1 == 0) = false := by simp; omega
        go_wp2_with fail
        go_quiet (first
          | (go_at_call 42; exact Calls.quiet_of_same (totalQ_any _ _ _ (cir (k + 1)) _ (sa.drewN _) (by omega) Hb))
          | (go_at_call 43; exact Calls.quiet_of_same (product_any _ _ (by omega))))
        go_wp2
        go_ret
        exact ⟨rfl, drewN_below t4 _⟩
    · have hno : v < 0 ∨ 7 < v := by omega
      have Hno := hid hno
      clear hv hno
      go_wp2_with fail
      refine (cirI_no v _ Hno.out).mono ?_
      rintro e w2 ⟨u2, rfl, o2, b2⟩
      have t2 := t1.trans (b2.mono t1.size)
      obtain ⟨ada, cpa, rfl, sa_2⟩ := o2.sl
      clear o2
      go_wp2_with fail
      refine (cirS_no v _ Hno.out).mono ?_
      rintro e w3 ⟨u3, rfl, o3, b3⟩
      have t3 := t2.trans (b3.mono t2.size)
      have sa_3 := sa_2.later b3
      obtain ⟨adb, cpb, rfl, sb_3⟩ := o3.sl
      clear o3
      go_wp2_with fail
      refine (says_tob (equalInts_any _ _ _ [] _ _ _ [] _ sa_3 sb_3) (decide_eq_true rfl)).mono ?_
      rintro e w4 ⟨rfl, b4⟩
      have t4 := t3.trans (b4.mono t3.size)
      have sa_4 := sa_3.later b4
      have sb_4 := sb_3.later b4
      by_cases h0' : v < 0
      · have h0 : v < 0 := by omega
        go_wp2_with fail
        refine (cirS_no v _ Hno.out).mono ?_
        rintro e w5 ⟨u5, rfl, o5, b5⟩
        have t5 := t4.trans (b5.mono t4.size)
        have sa_5 := sa_4.later b5
        have sb_5 := sb_4.later b5
        obtain ⟨adc, cpc, rfl, sc_5⟩ := o5.sl
        clear o5
        go_wp2_with fail
        refine (says_tob (equalInts_any _ _ _ [] _ _ _ [] _ sa_5 sc_5) (decide_eq_true rfl)).mono ?_
        rintro e w6 ⟨rfl, b6⟩
        have t6 := t5.trans (b6.mono t5.size)
        have sa_6 := sa_5.later b6
        have sb_6 := sb_5.later b6
        have sc_6 := sc_5.later b6
        go_wp2
        go_ret
        exact ⟨rfl, t6⟩
      · have h0 : ¬ v < 0 := by omega
        have h00 : 7 < v := by have := Hno.out; omega
        go_wp2_with fail
        refine (cirS_no v _ Hno.out).mono ?_
        rintro e w5 ⟨u5, rfl, o5, b5⟩
        have t5 := t4.trans (b5.mono t4.size)
        have sa_5 := sa_4.later b5
        have sb_5 := sb_4.later b5
        obtain ⟨adc, cpc, rfl, sc_5⟩ := o5.sl
        clear o5
        go_wp2_with fail
        refine (says_tob (equalInts_any _ _ _ [] _ _ _ [] _ sa_5 sc_5) (decide_eq_true rfl)).mono ?_
        rintro e w6 ⟨rfl, b6⟩
        have t6 := t5.trans (b6.mono t5.size)
        have sa_6 := sa_5.later b6
        have sb_6 := sb_5.later b6
        have sc_6 := sc_5.later b6
        go_wp2
        go_ret
        exact ⟨rfl, t6⟩
  · go_enter Try.func14, Try.ntmps14
    go_wp2
    go_ret
    exact ⟨rfl, Below.refl _ _⟩

end Go.Proofs.Ytepikmkkbecdaab
