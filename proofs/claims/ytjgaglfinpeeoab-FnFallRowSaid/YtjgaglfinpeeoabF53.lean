/- The walks of the laws of DoubleRow and FallRow. Condition of the law's own: at most 2^20 bytes. -/
import Derived.Test.YtjgaglfinpeeoabLawRow
import Derived.Test.YtjgaglfinpeeoabDbl
import Derived.Test.YtjgaglfinpeeoabFal
namespace Go.Proofs.Ytjgaglfinpeeoab
open Go.RowKit

/-- a, doubled k times. -/
def pw2 (a : Int) : Nat → Int
  | 0 => a
  | k + 1 => 2 * pw2 a k
theorem pw2_all : ∀ m : Nat, m < 6 → ∀ k : Nat, k < 6 → 0 ≤ pw2 (fac m) k ∧ pw2 (fac m) k ≤ 100000 := by decide
theorem dbl_all : ∀ n : Nat, n < 6 → (decide (turn (dbl n) = dbl n) && decide (sumL (dbl n) = pw2 (fac n) n)) = true := by decide +kernel
theorem dbl_facts {n : Nat} (h : n ≤ 5) : turn (dbl n) = dbl n ∧ sumL (dbl n) = pw2 (fac n) n := by
  have := dbl_all n (by omega)
  simpa only [Bool.and_eq_true, decide_eq_true_eq] using this
theorem fal_all : ∀ n : Nat, n < 6 → (decide (turn (fal n) = fal n) && decide (sumL (fal n) = pw2 (fac n) n)) = true := by decide +kernel
theorem fal_facts {n : Nat} (h : n ≤ 5) : turn (fal n) = fal n ∧ sumL (fal n) = pw2 (fac n) n := by
  have := fal_all n (by omega)
  simpa only [Bool.and_eq_true, decide_eq_true_eq] using this

set_option maxHeartbeats 1000000 in
theorem drawDoubleRow_any (bo : Option Addr) (n cap : Nat) (cs : List Int) (w : World) (h : Slb w bo n cap cs) :
    Calls Try.prog 29 #[.slice bo n cap] w (DrawnI w (-1) 8) := by
  go_enter Try.func29, Try.ntmps29
  go_wp2_with fail
  refine (newReader_any bo n cap cs w h).mono ?_
  rintro e w1 ⟨rfl, hr1, hb1⟩
  have ha := lit_arr w1 [3, 2, 4, 5, 1, 0, 6, -1]
  have hr := hr1.below ((Below.refl w1.heap.size w1).alloc (Nat.le_refl _) (.cells ([3, 2, 4, 5, 1, 0, 6, -1].map (Value.int .i64)).toArray 3))
  have hlt := hr1.lt
  have Ha := hid ha
  have Hr := hid hr
  clear ha hr
  go_wp2_with fail
  refine (one_any w.heap.size 0 w1.heap.size 8 3 [3, 2, 4, 5, 1, 0, 6, -1] _ Hr.out (by omega) Ha.out rfl (by omega) (by omega) (by omega)).mono ?_
  rintro e w2 ⟨j, hj, rfl, hr2, hg2⟩
  have hv : ∀ j, j < 8 → -1 ≤ el [3, 2, 4, 5, 1, 0, 6, -1] j ∧ el [3, 2, 4, 5, 1, 0, 6, -1] j ≤ 8 := by decide
  have hv' := hv j hj
  obtain ⟨v, hv2⟩ : ∃ v, v = el [3, 2, 4, 5, 1, 0, 6, -1] j := ⟨_, rfl⟩
  rw [← hv2] at hv' ⊢
  have hva := hv'.1
  have hvb := hv'.2
  clear hv hv' hv2 hj
  go_wp2
  go_ret
  exact ⟨v, rfl, hva, hvb, below_reader (hb1.alloc hb1.size _) hg2⟩

theorem drawFallRow_any (bo : Option Addr) (n cap : Nat) (cs : List Int) (w : World) (h : Slb w bo n cap cs) :
    Calls Try.prog 35 #[.slice bo n cap] w (DrawnI w (-1) 8) := by
  go_enter Try.func35, Try.ntmps35
  go_wp2_with fail
  refine (drawDoubleRow_any bo n cap cs w h).mono ?_
  rintro e w2 ⟨v, rfl, h1, h2, hb⟩
  go_wp2
  go_ret
  exact ⟨v, rfl, h1, h2, hb⟩

set_option maxHeartbeats 4000000 in
theorem fnDoubleRow (bo : Option Addr) (n cap : Nat) (cs : List Int) (w : World) (h : Slb w bo n cap cs) :
    Calls Try.prog 8 #[.slice bo n cap] w (Says w (.bool true)) := by
  have hbig := h.big
  by_cases hn : n ≤ 1048576
  · go_enter Try.func8, Try.ntmps8
    go_wp2_with fail
    refine (drawDoubleRow_any _ _ _ _ _ h).mono ?_
    rintro e w1 ⟨v, rfl, hn8, hp8, t1⟩
    by_cases hv : 0 ≤ v ∧ v ≤ 5
    · obtain ⟨m, rfl⟩ := Int.eq_ofNat_of_zero_le hv.1
      have hm : m ≤ 5 := by omega
      clear hv hn8
      have hf := dbl_facts hm
      have Ht := hid hf.1
      have Hs := hid hf.2
      clear hf
      have Hlen : Hid ((dbl m).length ≤ 30) := hid (by have := dbl_small hm; omega)
      obtain ⟨P, HP⟩ : ∃ P, Hid (P = ((m * m : Nat) : Int)) := ⟨_, rfl⟩
      have hP : 0 ≤ P ∧ P ≤ 25 := by have : m * m ≤ 5 * 5 := Nat.mul_le_mul hm hm; have := HP.out; omega
      obtain ⟨hP1, hP2⟩ := hP
      have hmul : wrap64 ((m : Int) * (m : Int)) = P := by rw [HP.out, ← Int.natCast_mul]; exact IntWalk.wrap64_in _ ⟨by omega, by have := HP.out; omega⟩
      have hlq : ((((dbl m).length : Nat) : Int) == P + 1) = true := by rw [dbl_len hm, HP.out]; simp
      have Hb := hid (dbl_bd hm)
      have h7i : ¬ (5 : Int) < m := by omega
      have h0i : ¬ (m : Int) < 0 := by omega
      go_wp2_with fail
      refine (dblI_yes m _ hm).mono ?_
      rintro e w2 ⟨u2, rfl, o2, b2⟩
      have t2 := t1.trans (b2.mono t1.size)
      obtain ⟨ada, cpa, rfl, sa_2⟩ := o2.sl
      clear o2
      go_wp2_with fail
      refine (dblS_yes m _ hm).mono ?_
      rintro e w3 ⟨u3, rfl, o3, b3⟩
      have t3 := t2.trans (b3.mono t2.size)
      have sa_3 := sa_2.later b3
      obtain ⟨adb, cpb, rfl, sb_3⟩ := o3.sl
      clear o3
      go_wp2_with fail
      refine (says_tob (equalInts_any _ _ _ (dbl m) _ _ _ (dbl m) _ sa_3 sb_3) (decide_eq_true rfl)).mono ?_
      rintro e w4 ⟨rfl, b4⟩
      have t4 := t3.trans (b4.mono t3.size)
      have sa_4 := sa_3.later b4
      go_wp2_with fail
      refine (product_says m _ (by omega)).mono ?_
      rintro e w5 ⟨rfl, b5⟩
      have t5 := t4.trans (b5.mono t4.size)
      have sa_5 := sa_4.later b5
      go_wp2
      go_loopw [5, 6] (fun v i wr => ∃ k : Nat, k ≤ m ∧ v = .int .i64 (pw2 (fac m) k) ∧ i = .int .i64 k ∧ Below w5.heap.size w5 wr) (fun _ i _ => m - (intOf i).toNat)
      case atStart => exact ⟨0, Nat.zero_le _, rfl, rfl, Below.refl _ _⟩
      case round =>
        obtain ⟨k, hk, rfl, rfl, hbr⟩ := hrel
        by_cases hlt : k < m
        · have hki : (k : Int) < m := by omega
          have hpb := pw2_all m (by omega) k (by omega)
          obtain ⟨X, HX⟩ : ∃ X, Hid (X = pw2 (fac m) k) := ⟨_, rfl⟩
          rw [← HX.out] at hpb ⊢
          obtain ⟨hp1, hp2⟩ := hpb
          go_wp2
          go_roundw
          case rel => exact ⟨k + 1, by omega, by rw [pw2, ← HX.out], by go_num, hbr⟩
          case measure => simp [intOf]; omega
        · obtain rfl : k = m := by omega
          have tr := t5.trans (hbr.mono t5.size)
          have sa_r := sa_5.later hbr
          obtain ⟨X, HX⟩ : ∃ X, Hid (X = pw2 (fac k) k) := ⟨_, rfl⟩
          rw [← HX.out]
          go_wp2_with fail
          refine (made_to (mirrored_any _ _ _ (dbl k) _ sa_r (by have := Hlen.out; omega)) Ht.out).mono ?_
          rintro e w6 ⟨u6, rfl, o6, b6⟩
          have t6 := tr.trans (b6.mono tr.size)
          have sa_6 := sa_r.later b6
          obtain ⟨adt, cpt, rfl, st_6⟩ := o6.sl
          clear o6
          go_wp2_with fail
          refine (says_tob (equalInts_any _ _ _ (dbl k) _ _ _ (dbl k) _ st_6 sa_6) (decide_eq_true rfl)).mono ?_
          rintro e w7 ⟨rfl, b7⟩
          have t7 := t6.trans (b7.mono t6.size)
          have sa_7 := sa_6.later b7
          go_wp2_with fail
          refine (says_to (totalB_any _ _ _ (dbl k) _ sa_7 Hlen.out Hb) (Hs.out.trans HX.out.symm)).mono ?_
          rintro e w8 ⟨rfl, b8⟩
          have t8 := t7.trans (b8.mono t7.size)
          go_wp2
          go_ret
          exact ⟨rfl, t8⟩
    · have hno : v < 0 ∨ 5 < v := by omega
      have Hno := hid hno
      clear hv hno
      go_wp2_with fail
      refine (dblI_no v _ Hno.out).mono ?_
      rintro e w2 ⟨u2, rfl, o2, b2⟩
      have t2 := t1.trans (b2.mono t1.size)
      obtain ⟨ada, cpa, rfl, sa_2⟩ := o2.sl
      clear o2
      go_wp2_with fail
      refine (dblS_no v _ Hno.out).mono ?_
      rintro e w3 ⟨u3, rfl, o3, b3⟩
      have t3 := t2.trans (b3.mono t2.size)
      have sa_3 := sa_2.later b3
      obtain ⟨adb, cpb, rfl, sb_3⟩ := o3.sl
      clear o3
      go_wp2_with fail
      refine (says_tob (equalInts_any _ _ _ [] _ _ _ [] _ sa_3 sb_3) (decide_eq_true rfl)).mono ?_
      rintro e w4 ⟨rfl, b4⟩
      have t4 := t3.trans (b4.mono t3.size)
      have sa_4 := sa_3.later b4
      have sb_4 := sb_3.later b4
      by_cases h0' : v < 0
      · have h0 : v < 0 := by omega
        go_wp2_with fail
        refine (dblS_no v _ Hno.out).mono ?_
        rintro e w5 ⟨u5, rfl, o5, b5⟩
        have t5 := t4.trans (b5.mono t4.size)
        have sa_5 := sa_4.later b5
        have sb_5 := sb_4.later b5
        obtain ⟨adc, cpc, rfl, sc_5⟩ := o5.sl
        clear o5
        go_wp2_with fail
        refine (says_tob (equalInts_any _ _ _ [] _ _ _ [] _ sa_5 sc_5) (decide_eq_true rfl)).mono ?_
        rintro e w6 ⟨rfl, b6⟩
        have t6 := t5.trans (b6.mono t5.size)
        have sa_6 := sa_5.later b6
        have sb_6 := sb_5.later b6
        have sc_6 := sc_5.later b6
        go_wp2
        go_ret
        exact ⟨rfl, t6⟩
      · have h0 : ¬ v < 0 := by omega
        have h00 : 5 < v := by have := Hno.out; omega
        go_wp2_with fail
        refine (dblS_no v _ Hno.out).mono ?_
        rintro e w5 ⟨u5, rfl, o5, b5⟩
        have t5 := t4.trans (b5.mono t4.size)
        have sa_5 := sa_4.later b5
        have sb_5 := sb_4.later b5
        obtain ⟨adc, cpc, rfl, sc_5⟩ := o5.sl
        clear o5
        go_wp2_with fail
        refine (says_tob (equalInts_any _ _ _ [] _ _ _ [] _ sa_5 sc_5) (decide_eq_true rfl)).mono ?_
        rintro e w6 ⟨rfl, b6⟩
        have t6 := t5.trans (b6.mono t5.size)
        have sa_6 := sa_5.later b6
        have sb_6 := sb_5.later b6
        have sc_6 := sc_5.later b6
        go_wp2
        go_ret
        exact ⟨rfl, t6⟩
  · go_enter Try.func8, Try.ntmps8
    go_wp2
    go_ret
    exact ⟨rfl, Below.refl _ _⟩

set_option maxHeartbeats 4000000 in
theorem fnFallRow (bo : Option Addr) (n cap : Nat) (cs : List Int) (w : World) (h : Slb w bo n cap cs) :
    Calls Try.prog 10 #[.slice bo n cap] w (Says w (.bool true)) := by
  have hbig := h.big
  by_cases hn : n ≤ 1048576
  · go_enter Try.func10, Try.ntmps10
    go_wp2_with fail
    refine (drawFallRow_any _ _ _ _ _ h).mono ?_
    rintro e w1 ⟨v, rfl, hn8, hp8, t1⟩
    by_cases hv : 0 ≤ v ∧ v ≤ 5
    · obtain ⟨m, rfl⟩ := Int.eq_ofNat_of_zero_le hv.1
      have hm : m ≤ 5 := by omega
      clear hv hn8
      have hf := fal_facts hm
      have Ht := hid hf.1
      have Hs := hid hf.2
      clear hf
      have Hlen : Hid ((fal m).length ≤ 30) := hid (by have := (fal_fits m (by omega)).2; omega)
      have hlq : ((((fal m).length : Nat) : Int) == (m : Int) + 1) = true := by rw [(fal_fits m (by omega)).2]; simp
      have Hb := hid (fal_bd hm)
      have h7i : ¬ (5 : Int) < m := by omega
      have h0i : ¬ (m : Int) < 0 := by omega
      go_wp2_with fail
      refine (falI_yes m _ hm).mono ?_
      rintro e w2 ⟨u2, rfl, o2, b2⟩
      have t2 := t1.trans (b2.mono t1.size)
      obtain ⟨ada, cpa, rfl, sa_2⟩ := o2.sl
      clear o2
      go_wp2_with fail
      refine (falS_yes m _ hm).mono ?_
      rintro e w3 ⟨u3, rfl, o3, b3⟩
      have t3 := t2.trans (b3.mono t2.size)
      have sa_3 := sa_2.later b3
      obtain ⟨adb, cpb, rfl, sb_3⟩ := o3.sl
      clear o3
      go_wp2_with fail
      refine (says_tob (equalInts_any _ _ _ (fal m) _ _ _ (fal m) _ sa_3 sb_3) (decide_eq_true rfl)).mono ?_
      rintro e w4 ⟨rfl, b4⟩
      have t4 := t3.trans (b4.mono t3.size)
      have sa_4 := sa_3.later b4
      go_wp2_with fail
      refine (product_says m _ (by omega)).mono ?_
      rintro e w5 ⟨rfl, b5⟩
      have t5 := t4.trans (b5.mono t4.size)
      have sa_5 := sa_4.later b5
      go_wp2
      go_loopw [5, 6] (fun v i wr => ∃ k : Nat, k ≤ m ∧ v = .int .i64 (pw2 (fac m) k) ∧ i = .int .i64 k ∧ Below w5.heap.size w5 wr) (fun _ i _ => m - (intOf i).toNat)
      case atStart => exact ⟨0, Nat.zero_le _, rfl, rfl, Below.refl _ _⟩
      case round =>
        obtain ⟨k, hk, rfl, rfl, hbr⟩ := hrel
        by_cases hlt : k < m
        · have hki : (k : Int) < m := by omega
          have hpb := pw2_all m (by omega) k (by omega)
          obtain ⟨X, HX⟩ : ∃ X, Hid (X = pw2 (fac m) k) := ⟨_, rfl⟩
          rw [← HX.out] at hpb ⊢
          obtain ⟨hp1, hp2⟩ := hpb
          go_wp2
          go_roundw
          case rel => exact ⟨k + 1, by omega, by rw [pw2, ← HX.out], by go_num, hbr⟩
          case measure => simp [intOf]; omega
        · obtain rfl : k = m := by omega
          have tr := t5.trans (hbr.mono t5.size)
          have sa_r := sa_5.later hbr
          obtain ⟨X, HX⟩ : ∃ X, Hid (X = pw2 (fac k) k) := ⟨_, rfl⟩
          rw [← HX.out]
          go_wp2_with fail
          refine (made_to (mirrored_any _ _ _ (fal k) _ sa_r (by have := Hlen.out; omega)) Ht.out).mono ?_
          rintro e w6 ⟨u6, rfl, o6, b6⟩
          have t6 := tr.trans (b6.mono tr.size)
          have sa_6 := sa_r.later b6
          obtain ⟨adt, cpt, rfl, st_6⟩ := o6.sl
          clear o6
          go_wp2_with fail
          refine (says_tob (equalInts_any _ _ _ (fal k) _ _ _ (fal k) _ st_6 sa_6) (decide_eq_true rfl)).mono ?_
          rintro e w7 ⟨rfl, b7⟩
          have t7 := t6.trans (b7.mono t6.size)
          have sa_7 := sa_6.later b7
          go_wp2_with fail
          refine (says_to (totalB_any _ _ _ (fal k) _ sa_7 Hlen.out Hb) (Hs.out.trans HX.out.symm)).mono ?_
          rintro e w8 ⟨rfl, b8⟩
          have t8 := t7.trans (b8.mono t7.size)
          go_wp2
          go_ret
          exact ⟨rfl, t8⟩
    · have hno : v < 0 ∨ 5 < v := by omega
      have Hno := hid hno
      clear hv hno
      go_wp2_with fail
      refine (falI_no v _ Hno.out).mono ?_
      rintro e w2 ⟨u2, rfl, o2, b2⟩
      have t2 := t1.trans (b2.mono t1.size)
      obtain ⟨ada, cpa, rfl, sa_2⟩ := o2.sl
      clear o2
      go_wp2_with fail
      refine (falS_no v _ Hno.out).mono ?_
      rintro e w3 ⟨u3, rfl, o3, b3⟩
      have t3 := t2.trans (b3.mono t2.size)
      have sa_3 := sa_2.later b3
      obtain ⟨adb, cpb, rfl, sb_3⟩ := o3.sl
      clear o3
      go_wp2_with fail
      refine (says_tob (equalInts_any _ _ _ [] _ _ _ [] _ sa_3 sb_3) (decide_eq_true rfl)).mono ?_
      rintro e w4 ⟨rfl, b4⟩
      have t4 := t3.trans (b4.mono t3.size)
      have sa_4 := sa_3.later b4
      have sb_4 := sb_3.later b4
      by_cases h0' : v < 0
      · have h0 : v < 0 := by omega
        go_wp2_with fail
        refine (falS_no v _ Hno.out).mono ?_
        rintro e w5 ⟨u5, rfl, o5, b5⟩
        have t5 := t4.trans (b5.mono t4.size)
        have sa_5 := sa_4.later b5
        have sb_5 := sb_4.later b5
        obtain ⟨adc, cpc, rfl, sc_5⟩ := o5.sl
        clear o5
        go_wp2_with fail
        refine (says_tob (equalInts_any _ _ _ [] _ _ _ [] _ sa_5 sc_5) (decide_eq_true rfl)).mono ?_
        rintro e w6 ⟨rfl, b6⟩
        have t6 := t5.trans (b6.mono t5.size)
        have sa_6 := sa_5.later b6
        have sb_6 := sb_5.later b6
        have sc_6 := sc_5.later b6
        go_wp2
        go_ret
        exact ⟨rfl, t6⟩
      · have h0 : ¬ v < 0 := by omega
        have h00 : 5 < v := by have := Hno.out; omega
        go_wp2_with fail
        refine (falS_no v _ Hno.out).mono ?_
        rintro e w5 ⟨u5, rfl, o5, b5⟩
        have t5 := t4.trans (b5.mono t4.size)
        have sa_5 := sa_4.later b5
        have sb_5 := sb_4.later b5
        obtain ⟨adc, cpc, rfl, sc_5⟩ := o5.sl
        clear o5
        go_wp2_with fail
        refine (says_tob (equalInts_any _ _ _ [] _ _ _ [] _ sa_5 sc_5) (decide_eq_true rfl)).mono ?_
        rintro e w6 ⟨rfl, b6⟩
        have t6 := t5.trans (b6.mono t5.size)
        have sa_6 := sa_5.later b6
        have sb_6 := sb_5.later b6
        have sc_6 := sc_5.later b6
        go_wp2
        go_ret
        exact ⟨rfl, t6⟩
  · go_enter Try.func10, Try.ntmps10
    go_wp2
    go_ret
    exact ⟨rfl, Below.refl _ _⟩

end Go.Proofs.Ytjgaglfinpeeoab
