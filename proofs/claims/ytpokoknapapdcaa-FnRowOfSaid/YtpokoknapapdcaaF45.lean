/- The walk of the law of RowOf. Condition of the law's own: at most 2^20 bytes. -/
import Derived.Test.YtpokoknapapdcaaDrN
import Derived.Test.YtpokoknapapdcaaRowS
import Derived.Test.YtpokoknapapdcaaLawRow
import Derived.Test.YtpokoknapapdcaaPrw
import Derived.Test.YtpokoknapapdcaaEul
namespace Go.Proofs.Ytpokoknapapdcaa
open Go.RowKit

theorem rows_all : (List.range 6).all (fun m => decide (tal (numK 0 m) = prw m) && decide (tal (numK 1 m) = prw m) && decide (tal (numK 2 m) = prw m) && decide (tal (numK 4 m) = tal (numK 3 m)) && decide (tal (numK 5 m) = euler m) && decide (tal (numK 6 m) = euler m) && decide (tal (numK 7 m) = cir m) && decide (tal (numK 8 m) = cir m) && decide (sumL (tal (numK 3 m)) = fac m) && (tal (numK 3 m)).all (fun x => decide (0 ≤ x ∧ x ≤ 1000))) = true := by decide +kernel
theorem rows_facts {m : Nat} (h : m ≤ 5) : tal (numK 0 m) = prw m ∧ tal (numK 1 m) = prw m ∧ tal (numK 2 m) = prw m ∧ tal (numK 4 m) = tal (numK 3 m) ∧ tal (numK 5 m) = euler m ∧ tal (numK 6 m) = euler m ∧ tal (numK 7 m) = cir m ∧ tal (numK 8 m) = cir m ∧ sumL (tal (numK 3 m)) = fac m ∧ ∀ j, j < (tal (numK 3 m)).length → 0 ≤ el (tal (numK 3 m)) j ∧ el (tal (numK 3 m)) j ≤ (1000 : Nat) := by
  have t := List.all_eq_true.1 rows_all m (List.mem_range.2 (by omega))
  simp only [Bool.and_eq_true, decide_eq_true_eq] at t
  refine ⟨t.1.1.1.1.1.1.1.1.1, t.1.1.1.1.1.1.1.1.2, t.1.1.1.1.1.1.1.2, t.1.1.1.1.1.1.2, t.1.1.1.1.1.2, t.1.1.1.1.2, t.1.1.1.2, t.1.1.2, t.1.2, fun j hj => ?_⟩
  have := of_decide_eq_true (List.all_eq_true.1 t.2 _ (el_mem hj))
  omega

set_option maxRecDepth 20000 in
set_option maxHeartbeats 8000000 in
theorem fnRowOf (bo : Option Addr) (n cap : Nat) (cs : List Int) (w : World) (h : Slb w bo n cap cs) :
    Calls Try.prog 9 #[.slice bo n cap] w (Says w (.bool true)) := by
  have hbig := h.big
  by_cases hn : n ≤ 1048576
  · go_enter Try.func9, Try.ntmps9
    go_wp2_with fail
    refine (drawRowOf_any _ _ _ _ _ h).mono ?_
    rintro e w1 ⟨s, v, rfl, hv0, hv1, t1⟩
    by_cases hok : ixOf s < 9 ∧ 0 ≤ v ∧ v ≤ 5
    · obtain ⟨m, rfl⟩ := Int.eq_ofNat_of_zero_le hok.2.1
      have hm : m ≤ 5 := by omega
      obtain ⟨k, hk⟩ : ∃ k, k = ixOf s := ⟨_, rfl⟩
      have hc : k = 0 ∨ k = 1 ∨ k = 2 ∨ k = 3 ∨ k = 4 ∨ k = 5 ∨ k = 6 ∨ k = 7 ∨ k = 8 := by have := hok.1; omega
      clear hok hv0 hv1
      rcases hc with rfl | rfl | rfl | rfl | rfl | rfl | rfl | rfl | rfl
      · have e0 : (s.toList == [105, 110, 118, 101, 114, 115, 105, 111, 110, 115]) = true := (eql_inversions s).trans (by rw [← hk]; rfl)
        have e1 : (s.toList == [109, 97, 106, 111, 114]) = false := (eql_major s).trans (by rw [← hk]; rfl)
        have e2 : (s.toList == [100, 101, 110, 101, 114, 116]) = false := (eql_denert s).trans (by rw [← hk]; rfl)
        have e3 : (s.toList == [99, 114, 111, 115, 115, 105, 110, 103, 115]) = false := (eql_crossings s).trans (by rw [← hk]; rfl)
        have e4 : (s.toList == [110, 101, 115, 116, 105, 110, 103, 115]) = false := (eql_nestings s).trans (by rw [← hk]; rfl)
        have e5 : (s.toList == [100, 101, 115, 99, 101, 110, 116, 115]) = false := (eql_descents s).trans (by rw [← hk]; rfl)
        have e6 : (s.toList == [97, 98, 111, 118, 101]) = false := (eql_above s).trans (by rw [← hk]; rfl)
        have e7 : (s.toList == [114, 101, 99, 111, 114, 100, 115]) = false := (eql_records s).trans (by rw [← hk]; rfl)
        have e8 : (s.toList == [99, 105, 114, 99, 108, 101, 115]) = false := (eql_circles s).trans (by rw [← hk]; rfl)
        obtain ⟨l, hL⟩ : ∃ l, l = tal (numK 0 m) := ⟨_, rfl⟩
        have hf := rows_facts hm
        have HI : Hid (∀ w : World, Calls Try.prog 42 #[.string s, .int .i64 (m : Int)] w (Made2 w l true)) := hid fun w => by rw [hL]; exact rowI_yes s 0 m w hk (by omega) hm
        have HS : Hid (∀ w : World, Calls Try.prog 41 #[.string s, .int .i64 (m : Int)] w (Made2 w l true)) := hid fun w => by rw [hL]; exact rowS_yes s 0 m w hk (by omega) hm
        have Hr : Hid (prw m = l) := hid (by rw [hL, hf.1])
        clear hL hf hk
        go_wp2_with fail
        refine (HI.out _).mono ?_
        rintro e w2 ⟨u2, rfl, o2, b2⟩
        have t2 := t1.trans (b2.mono t1.size)
        obtain ⟨ada, cpa, rfl, sa_2⟩ := o2.sl
        clear o2
        go_wp2_with fail
        refine (HS.out _).mono ?_
        rintro e w3 ⟨u3, rfl, o3, b3⟩
        have t3 := t2.trans (b3.mono t2.size)
        have sa_3 := sa_2.later b3
        obtain ⟨adb, cpb, rfl, sb_3⟩ := o3.sl
        clear o3
        go_wp2_with fail
        refine (says_tob (equalInts_any _ _ _ l _ _ _ l _ sa_3 sb_3) (decide_eq_true rfl)).mono ?_
        rintro e w4 ⟨rfl, b4⟩
        have t4 := t3.trans (b4.mono t3.size)
        have sa_4 := sa_3.later b4
        have sb_4 := sb_3.later b4
        go_wp2_with fail
        refine (made_to (prodI_yes m _ (by omega)) Hr.out).mono ?_
        rintro e w5 ⟨u5, rfl, o5, b5⟩
        have t5 := t4.trans (b5.mono t4.size)
        have sa_5 := sa_4.later b5
        have sb_5 := sb_4.later b5
        obtain ⟨adc, cpc, rfl, sc_5⟩ := o5.sl
        clear o5
        go_wp2_with fail
        refine (says_tob (equalInts_any _ _ _ l _ _ _ l _ sa_5 sc_5) (decide_eq_true rfl)).mono ?_
        rintro e w6 ⟨rfl, b6⟩
        have t6 := t5.trans (b6.mono t5.size)
        have sa_6 := sa_5.later b6
        have sb_6 := sb_5.later b6
        have sc_6 := sc_5.later b6
        go_wp2
        go_ret
        exact ⟨rfl, t6⟩
      · have e0 : (s.toList == [105, 110, 118, 101, 114, 115, 105, 111, 110, 115]) = false := (eql_inversions s).trans (by rw [← hk]; rfl)
        have e1 : (s.toList == [109, 97, 106, 111, 114]) = true := (eql_major s).trans (by rw [← hk]; rfl)
        have e2 : (s.toList == [100, 101, 110, 101, 114, 116]) = false := (eql_denert s).trans (by rw [← hk]; rfl)
        have e3 : (s.toList == [99, 114, 111, 115, 115, 105, 110, 103, 115]) = false := (eql_crossings s).trans (by rw [← hk]; rfl)
        have e4 : (s.toList == [110, 101, 115, 116, 105, 110, 103, 115]) = false := (eql_nestings s).trans (by rw [← hk]; rfl)
        have e5 : (s.toList == [100, 101, 115, 99, 101, 110, 116, 115]) = false := (eql_descents s).trans (by rw [← hk]; rfl)
        have e6 : (s.toList == [97, 98, 111, 118, 101]) = false := (eql_above s).trans (by rw [← hk]; rfl)
        have e7 : (s.toList == [114, 101, 99, 111, 114, 100, 115]) = false := (eql_records s).trans (by rw [← hk]; rfl)
        have e8 : (s.toList == [99, 105, 114, 99, 108, 101, 115]) = false := (eql_circles s).trans (by rw [← hk]; rfl)
        obtain ⟨l, hL⟩ : ∃ l, l = tal (numK 1 m) := ⟨_, rfl⟩
        have hf := rows_facts hm
        have HI : Hid (∀ w : World, Calls Try.prog 42 #[.string s, .int .i64 (m : Int)] w (Made2 w l true)) := hid fun w => by rw [hL]; exact rowI_yes s 1 m w hk (by omega) hm
        have HS : Hid (∀ w : World, Calls Try.prog 41 #[.string s, .int .i64 (m : Int)] w (Made2 w l true)) := hid fun w => by rw [hL]; exact rowS_yes s 1 m w hk (by omega) hm
        have Hr : Hid (prw m = l) := hid (by rw [hL, hf.2.1])
        clear hL hf hk
        go_wp2_with fail
        refine (HI.out _).mono ?_
        rintro e w2 ⟨u2, rfl, o2, b2⟩
        have t2 := t1.trans (b2.mono t1.size)
        obtain ⟨ada, cpa, rfl, sa_2⟩ := o2.sl
        clear o2
        go_wp2_with fail
        refine (HS.out _).mono ?_
        rintro e w3 ⟨u3, rfl, o3, b3⟩
        have t3 := t2.trans (b3.mono t2.size)
        have sa_3 := sa_2.later b3
        obtain ⟨adb, cpb, rfl, sb_3⟩ := o3.sl
        clear o3
        go_wp2_with fail
        refine (says_tob (equalInts_any _ _ _ l _ _ _ l _ sa_3 sb_3) (decide_eq_true rfl)).mono ?_
        rintro e w4 ⟨rfl, b4⟩
        have t4 := t3.trans (b4.mono t3.size)
        have sa_4 := sa_3.later b4
        have sb_4 := sb_3.later b4
        go_wp2_with fail
        refine (made_to (prodI_yes m _ (by omega)) Hr.out).mono ?_
        rintro e w5 ⟨u5, rfl, o5, b5⟩
        have t5 := t4.trans (b5.mono t4.size)
        have sa_5 := sa_4.later b5
        have sb_5 := sb_4.later b5
        obtain ⟨adc, cpc, rfl, sc_5⟩ := o5.sl
        clear o5
        go_wp2_with fail
        refine (says_tob (equalInts_any _ _ _ l _ _ _ l _ sa_5 sc_5) (decide_eq_true rfl)).mono ?_
        rintro e w6 ⟨rfl, b6⟩
        have t6 := t5.trans (b6.mono t5.size)
        have sa_6 := sa_5.later b6
        have sb_6 := sb_5.later b6
        have sc_6 := sc_5.later b6
        go_wp2
        go_ret
        exact ⟨rfl, t6⟩
      · have e0 : (s.toList == [105, 110, 118, 101, 114, 115, 105, 111, 110, 115]) = false := (eql_inversions s).trans (by rw [← hk]; rfl)
        have e1 : (s.toList == [109, 97, 106, 111, 114]) = false := (eql_major s).trans (by rw [← hk]; rfl)
        have e2 : (s.toList == [100, 101, 110, 101, 114, 116]) = true := (eql_denert s).trans (by rw [← hk]; rfl)
        have e3 : (s.toList == [99, 114, 111, 115, 115, 105, 110, 103, 115]) = false := (eql_crossings s).trans (by rw [← hk]; rfl)
        have e4 : (s.toList == [110, 101, 115, 116, 105, 110, 103, 115]) = false := (eql_nestings s).trans (by rw [← hk]; rfl)
        have e5 : (s.toList == [100, 101, 115, 99, 101, 110, 116, 115]) = false := (eql_descents s).trans (by rw [← hk]; rfl)
        have e6 : (s.toList == [97, 98, 111, 118, 101]) = false := (eql_above s).trans (by rw [← hk]; rfl)
        have e7 : (s.toList == [114, 101, 99, 111, 114, 100, 115]) = false := (eql_records s).trans (by rw [← hk]; rfl)
        have e8 : (s.toList == [99, 105, 114, 99, 108, 101, 115]) = false := (eql_circles s).trans (by rw [← hk]; rfl)
        obtain ⟨l, hL⟩ : ∃ l, l = tal (numK 2 m) := ⟨_, rfl⟩
        have hf := rows_facts hm
        have HI : Hid (∀ w : World, Calls Try.prog 42 #[.string s, .int .i64 (m : Int)] w (Made2 w l true)) := hid fun w => by rw [hL]; exact rowI_yes s 2 m w hk (by omega) hm
        have HS : Hid (∀ w : World, Calls Try.prog 41 #[.string s, .int .i64 (m : Int)] w (Made2 w l true)) := hid fun w => by rw [hL]; exact rowS_yes s 2 m w hk (by omega) hm
        have Hr : Hid (prw m = l) := hid (by rw [hL, hf.2.2.1])
        clear hL hf hk
        go_wp2_with fail
        refine (HI.out _).mono ?_
        rintro e w2 ⟨u2, rfl, o2, b2⟩
        have t2 := t1.trans (b2.mono t1.size)
        obtain ⟨ada, cpa, rfl, sa_2⟩ := o2.sl
        clear o2
        go_wp2_with fail
        refine (HS.out _).mono ?_
        rintro e w3 ⟨u3, rfl, o3, b3⟩
        have t3 := t2.trans (b3.mono t2.size)
        have sa_3 := sa_2.later b3
        obtain ⟨adb, cpb, rfl, sb_3⟩ := o3.sl
        clear o3
        go_wp2_with fail
        refine (says_tob (equalInts_any _ _ _ l _ _ _ l _ sa_3 sb_3) (decide_eq_true rfl)).mono ?_
        rintro e w4 ⟨rfl, b4⟩
        have t4 := t3.trans (b4.mono t3.size)
        have sa_4 := sa_3.later b4
        have sb_4 := sb_3.later b4
        go_wp2_with fail
        refine (made_to (prodI_yes m _ (by omega)) Hr.out).mono ?_
        rintro e w5 ⟨u5, rfl, o5, b5⟩
        have t5 := t4.trans (b5.mono t4.size)
        have sa_5 := sa_4.later b5
        have sb_5 := sb_4.later b5
        obtain ⟨adc, cpc, rfl, sc_5⟩ := o5.sl
        clear o5
        go_wp2_with fail
        refine (says_tob (equalInts_any _ _ _ l _ _ _ l _ sa_5 sc_5) (decide_eq_true rfl)).mono ?_
        rintro e w6 ⟨rfl, b6⟩
        have t6 := t5.trans (b6.mono t5.size)
        have sa_6 := sa_5.later b6
        have sb_6 := sb_5.later b6
        have sc_6 := sc_5.later b6
        go_wp2
        go_ret
        exact ⟨rfl, t6⟩
      · have e0 : (s.toList == [105, 110, 118, 101, 114, 115, 105, 111, 110, 115]) = false := (eql_inversions s).trans (by rw [← hk]; rfl)
        have e1 : (s.toList == [109, 97, 106, 111, 114]) = false := (eql_major s).trans (by rw [← hk]; rfl)
        have e2 : (s.toList == [100, 101, 110, 101, 114, 116]) = false := (eql_denert s).trans (by rw [← hk]; rfl)
        have e3 : (s.toList == [99, 114, 111, 115, 115, 105, 110, 103, 115]) = true := (eql_crossings s).trans (by rw [← hk]; rfl)
        have e4 : (s.toList == [110, 101, 115, 116, 105, 110, 103, 115]) = false := (eql_nestings s).trans (by rw [← hk]; rfl)
        have e5 : (s.toList == [100, 101, 115, 99, 101, 110, 116, 115]) = false := (eql_descents s).trans (by rw [← hk]; rfl)
        have e6 : (s.toList == [97, 98, 111, 118, 101]) = false := (eql_above s).trans (by rw [← hk]; rfl)
        have e7 : (s.toList == [114, 101, 99, 111, 114, 100, 115]) = false := (eql_records s).trans (by rw [← hk]; rfl)
        have e8 : (s.toList == [99, 105, 114, 99, 108, 101, 115]) = false := (eql_circles s).trans (by rw [← hk]; rfl)
        obtain ⟨l, hL⟩ : ∃ l, l = tal (numK 3 m) := ⟨_, rfl⟩
        have hf := rows_facts hm
        have HI : Hid (∀ w : World, Calls Try.prog 42 #[.string s, .int .i64 (m : Int)] w (Made2 w l true)) := hid fun w => by rw [hL]; exact rowI_yes s 3 m w hk (by omega) hm
        have HS : Hid (∀ w : World, Calls Try.prog 41 #[.string s, .int .i64 (m : Int)] w (Made2 w l true)) := hid fun w => by rw [hL]; exact rowS_yes s 3 m w hk (by omega) hm
        have HC : Hid (∀ w : World, Calls Try.prog 42 #[.string nm_crossings, .int .i64 (m : Int)] w (Made2 w l true)) := hid fun w => by rw [hL]; exact rowI_yes nm_crossings 3 m w (by decide) (by omega) hm
        have HN : Hid (∀ w : World, Calls Try.prog 42 #[.string nm_nestings, .int .i64 (m : Int)] w (Made2 w l true)) := hid fun w => by rw [hL, ← hf.2.2.2.1]; exact rowI_yes nm_nestings 4 m w (by decide) (by omega) hm
        have Hsum := hid hf.2.2.2.2.2.2.2.2.1
        have Hbd := hid hf.2.2.2.2.2.2.2.2.2
        rw [← hL] at Hsum Hbd
        have hll : l.length ≤ 1000 := by have := mxK_le (numK_bd (k := 3) (by omega) hm) (numK 3 m).length; rw [hL, tal_len]; omega
        clear hL hf hk
        go_wp2_with fail
        refine (HI.out _).mono ?_
        rintro e w2 ⟨u2, rfl, o2, b2⟩
        have t2 := t1.trans (b2.mono t1.size)
        obtain ⟨ada, cpa, rfl, sa_2⟩ := o2.sl
        clear o2
        go_wp2_with fail
        refine (HS.out _).mono ?_
        rintro e w3 ⟨u3, rfl, o3, b3⟩
        have t3 := t2.trans (b3.mono t2.size)
        have sa_3 := sa_2.later b3
        obtain ⟨adb, cpb, rfl, sb_3⟩ := o3.sl
        clear o3
        go_wp2_with fail
        refine (says_tob (equalInts_any _ _ _ l _ _ _ l _ sa_3 sb_3) (decide_eq_true rfl)).mono ?_
        rintro e w4 ⟨rfl, b4⟩
        have t4 := t3.trans (b4.mono t3.size)
        have sa_4 := sa_3.later b4
        have sb_4 := sb_3.later b4
        go_wp2_with fail
        refine (HC.out _).mono ?_
        rintro e w5 ⟨u5, rfl, o5, b5⟩
        have t5 := t4.trans (b5.mono t4.size)
        have sa_5 := sa_4.later b5
        have sb_5 := sb_4.later b5
        obtain ⟨adc, cpc, rfl, sc_5⟩ := o5.sl
        clear o5
        go_wp2_with fail
        refine (HN.out _).mono ?_
        rintro e w6 ⟨u6, rfl, o6, b6⟩
        have t6 := t5.trans (b6.mono t5.size)
        have sa_6 := sa_5.later b6
        have sb_6 := sb_5.later b6
        have sc_6 := sc_5.later b6
        obtain ⟨add, cpd, rfl, sd_6⟩ := o6.sl
        clear o6
        go_wp2_with fail
        refine (says_tob (equalInts_any _ _ _ l _ _ _ l _ sc_6 sd_6) (decide_eq_true rfl)).mono ?_
        rintro e w7 ⟨rfl, b7⟩
        have t7 := t6.trans (b7.mono t6.size)
        have sa_7 := sa_6.later b7
        have sb_7 := sb_6.later b7
        have sc_7 := sc_6.later b7
        have sd_7 := sd_6.later b7
        go_wp2_with fail
        refine (total_any _ _ _ l _ sa_7 hll Hbd).mono ?_
        rintro e w8 ⟨rfl, b8⟩
        have t8 := t7.trans (b8.mono t7.size)
        have sa_8 := sa_7.later b8
        have sb_8 := sb_7.later b8
        have sc_8 := sc_7.later b8
        have sd_8 := sd_7.later b8
        rw [Hsum.out]
        go_wp2_with fail
        refine (product_any m _ (by omega)).mono ?_
        rintro e wz ⟨rfl, hwz⟩
        subst hwz
        go_wp2
        go_ret
        exact ⟨rfl, t8⟩
      · have e0 : (s.toList == [105, 110, 118, 101, 114, 115, 105, 111, 110, 115]) = false := (eql_inversions s).trans (by rw [← hk]; rfl)
        have e1 : (s.toList == [109, 97, 106, 111, 114]) = false := (eql_major s).trans (by rw [← hk]; rfl)
        have e2 : (s.toList == [100, 101, 110, 101, 114, 116]) = false := (eql_denert s).trans (by rw [← hk]; rfl)
        have e3 : (s.toList == [99, 114, 111, 115, 115, 105, 110, 103, 115]) = false := (eql_crossings s).trans (by rw [← hk]; rfl)
        have e4 : (s.toList == [110, 101, 115, 116, 105, 110, 103, 115]) = true := (eql_nestings s).trans (by rw [← hk]; rfl)
        have e5 : (s.toList == [100, 101, 115, 99, 101, 110, 116, 115]) = false := (eql_descents s).trans (by rw [← hk]; rfl)
        have e6 : (s.toList == [97, 98, 111, 118, 101]) = false := (eql_above s).trans (by rw [← hk]; rfl)
        have e7 : (s.toList == [114, 101, 99, 111, 114, 100, 115]) = false := (eql_records s).trans (by rw [← hk]; rfl)
        have e8 : (s.toList == [99, 105, 114, 99, 108, 101, 115]) = false := (eql_circles s).trans (by rw [← hk]; rfl)
        obtain ⟨l, hL⟩ : ∃ l, l = tal (numK 3 m) := ⟨_, rfl⟩
        have hf := rows_facts hm
        have HI : Hid (∀ w : World, Calls Try.prog 42 #[.string s, .int .i64 (m : Int)] w (Made2 w l true)) := hid fun w => by rw [hL, ← hf.2.2.2.1]; exact rowI_yes s 4 m w hk (by omega) hm
        have HS : Hid (∀ w : World, Calls Try.prog 41 #[.string s, .int .i64 (m : Int)] w (Made2 w l true)) := hid fun w => by rw [hL, ← hf.2.2.2.1]; exact rowS_yes s 4 m w hk (by omega) hm
        have HC : Hid (∀ w : World, Calls Try.prog 42 #[.string nm_crossings, .int .i64 (m : Int)] w (Made2 w l true)) := hid fun w => by rw [hL]; exact rowI_yes nm_crossings 3 m w (by decide) (by omega) hm
        have HN : Hid (∀ w : World, Calls Try.prog 42 #[.string nm_nestings, .int .i64 (m : Int)] w (Made2 w l true)) := hid fun w => by rw [hL, ← hf.2.2.2.1]; exact rowI_yes nm_nestings 4 m w (by decide) (by omega) hm
        have Hsum := hid hf.2.2.2.2.2.2.2.2.1
        have Hbd := hid hf.2.2.2.2.2.2.2.2.2
        rw [← hL] at Hsum Hbd
        have hll : l.length ≤ 1000 := by have := mxK_le (numK_bd (k := 3) (by omega) hm) (numK 3 m).length; rw [hL, tal_len]; omega
        clear hL hf hk
        go_wp2_with fail
        refine (HI.out _).mono ?_
        rintro e w2 ⟨u2, rfl, o2, b2⟩
        have t2 := t1.trans (b2.mono t1.size)
        obtain ⟨ada, cpa, rfl, sa_2⟩ := o2.sl
        clear o2
        go_wp2_with fail
        refine (HS.out _).mono ?_
        rintro e w3 ⟨u3, rfl, o3, b3⟩
        have t3 := t2.trans (b3.mono t2.size)
        have sa_3 := sa_2.later b3
        obtain ⟨adb, cpb, rfl, sb_3⟩ := o3.sl
        clear o3
        go_wp2_with fail
        refine (says_tob (equalInts_any _ _ _ l _ _ _ l _ sa_3 sb_3) (decide_eq_true rfl)).mono ?_
        rintro e w4 ⟨rfl, b4⟩
        have t4 := t3.trans (b4.mono t3.size)
        have sa_4 := sa_3.later b4
        have sb_4 := sb_3.later b4
        go_wp2_with fail
        refine (HC.out _).mono ?_
        rintro e w5 ⟨u5, rfl, o5, b5⟩
        have t5 := t4.trans (b5.mono t4.size)
        have sa_5 := sa_4.later b5
        have sb_5 := sb_4.later b5
        obtain ⟨adc, cpc, rfl, sc_5⟩ := o5.sl
        clear o5
        go_wp2_with fail
        refine (HN.out _).mono ?_
        rintro e w6 ⟨u6, rfl, o6, b6⟩
        have t6 := t5.trans (b6.mono t5.size)
        have sa_6 := sa_5.later b6
        have sb_6 := sb_5.later b6
        have sc_6 := sc_5.later b6
        obtain ⟨add, cpd, rfl, sd_6⟩ := o6.sl
        clear o6
        go_wp2_with fail
        refine (says_tob (equalInts_any _ _ _ l _ _ _ l _ sc_6 sd_6) (decide_eq_true rfl)).mono ?_
        rintro e w7 ⟨rfl, b7⟩
        have t7 := t6.trans (b7.mono t6.size)
        have sa_7 := sa_6.later b7
        have sb_7 := sb_6.later b7
        have sc_7 := sc_6.later b7
        have sd_7 := sd_6.later b7
        go_wp2_with fail
        refine (total_any _ _ _ l _ sa_7 hll Hbd).mono ?_
        rintro e w8 ⟨rfl, b8⟩
        have t8 := t7.trans (b8.mono t7.size)
        have sa_8 := sa_7.later b8
        have sb_8 := sb_7.later b8
        have sc_8 := sc_7.later b8
        have sd_8 := sd_7.later b8
        rw [Hsum.out]
        go_wp2_with fail
        refine (product_any m _ (by omega)).mono ?_
        rintro e wz ⟨rfl, hwz⟩
        subst hwz
        go_wp2
        go_ret
        exact ⟨rfl, t8⟩
      · have e0 : (s.toList == [105, 110, 118, 101, 114, 115, 105, 111, 110, 115]) = false := (eql_inversions s).trans (by rw [← hk]; rfl)
        have e1 : (s.toList == [109, 97, 106, 111, 114]) = false := (eql_major s).trans (by rw [← hk]; rfl)
        have e2 : (s.toList == [100, 101, 110, 101, 114, 116]) = false := (eql_denert s).trans (by rw [← hk]; rfl)
        have e3 : (s.toList == [99, 114, 111, 115, 115, 105, 110, 103, 115]) = false := (eql_crossings s).trans (by rw [← hk]; rfl)
        have e4 : (s.toList == [110, 101, 115, 116, 105, 110, 103, 115]) = false := (eql_nestings s).trans (by rw [← hk]; rfl)
        have e5 : (s.toList == [100, 101, 115, 99, 101, 110, 116, 115]) = true := (eql_descents s).trans (by rw [← hk]; rfl)
        have e6 : (s.toList == [97, 98, 111, 118, 101]) = false := (eql_above s).trans (by rw [← hk]; rfl)
        have e7 : (s.toList == [114, 101, 99, 111, 114, 100, 115]) = false := (eql_records s).trans (by rw [← hk]; rfl)
        have e8 : (s.toList == [99, 105, 114, 99, 108, 101, 115]) = false := (eql_circles s).trans (by rw [← hk]; rfl)
        obtain ⟨l, hL⟩ : ∃ l, l = tal (numK 5 m) := ⟨_, rfl⟩
        have hf := rows_facts hm
        have HI : Hid (∀ w : World, Calls Try.prog 42 #[.string s, .int .i64 (m : Int)] w (Made2 w l true)) := hid fun w => by rw [hL]; exact rowI_yes s 5 m w hk (by omega) hm
        have HS : Hid (∀ w : World, Calls Try.prog 41 #[.string s, .int .i64 (m : Int)] w (Made2 w l true)) := hid fun w => by rw [hL]; exact rowS_yes s 5 m w hk (by omega) hm
        have Hr : Hid (euler m = l) := hid (by rw [hL, hf.2.2.2.2.1])
        clear hL hf hk
        go_wp2_with fail
        refine (HI.out _).mono ?_
        rintro e w2 ⟨u2, rfl, o2, b2⟩
        have t2 := t1.trans (b2.mono t1.size)
        obtain ⟨ada, cpa, rfl, sa_2⟩ := o2.sl
        clear o2
        go_wp2_with fail
        refine (HS.out _).mono ?_
        rintro e w3 ⟨u3, rfl, o3, b3⟩
        have t3 := t2.trans (b3.mono t2.size)
        have sa_3 := sa_2.later b3
        obtain ⟨adb, cpb, rfl, sb_3⟩ := o3.sl
        clear o3
        go_wp2_with fail
        refine (says_tob (equalInts_any _ _ _ l _ _ _ l _ sa_3 sb_3) (decide_eq_true rfl)).mono ?_
        rintro e w4 ⟨rfl, b4⟩
        have t4 := t3.trans (b4.mono t3.size)
        have sa_4 := sa_3.later b4
        have sb_4 := sb_3.later b4
        go_wp2_with fail
        refine (made_to (eulI_yes m _ (by omega)) Hr.out).mono ?_
        rintro e w5 ⟨u5, rfl, o5, b5⟩
        have t5 := t4.trans (b5.mono t4.size)
        have sa_5 := sa_4.later b5
        have sb_5 := sb_4.later b5
        obtain ⟨adc, cpc, rfl, sc_5⟩ := o5.sl
        clear o5
        go_wp2_with fail
        refine (says_tob (equalInts_any _ _ _ l _ _ _ l _ sa_5 sc_5) (decide_eq_true rfl)).mono ?_
        rintro e w6 ⟨rfl, b6⟩
        have t6 := t5.trans (b6.mono t5.size)
        have sa_6 := sa_5.later b6
        have sb_6 := sb_5.later b6
        have sc_6 := sc_5.later b6
        go_wp2
        go_ret
        exact ⟨rfl, t6⟩
      · have e0 : (s.toList == [105, 110, 118, 101, 114, 115, 105, 111, 110, 115]) = false := (eql_inversions s).trans (by rw [← hk]; rfl)
        have e1 : (s.toList == [109, 97, 106, 111, 114]) = false := (eql_major s).trans (by rw [← hk]; rfl)
        have e2 : (s.toList == [100, 101, 110, 101, 114, 116]) = false := (eql_denert s).trans (by rw [← hk]; rfl)
        have e3 : (s.toList == [99, 114, 111, 115, 115, 105, 110, 103, 115]) = false := (eql_crossings s).trans (by rw [← hk]; rfl)
        have e4 : (s.toList == [110, 101, 115, 116, 105, 110, 103, 115]) = false := (eql_nestings s).trans (by rw [← hk]; rfl)
        have e5 : (s.toList == [100, 101, 115, 99, 101, 110, 116, 115]) = false := (eql_descents s).trans (by rw [← hk]; rfl)
        have e6 : (s.toList == [97, 98, 111, 118, 101]) = true := (eql_above s).trans (by rw [← hk]; rfl)
        have e7 : (s.toList == [114, 101, 99, 111, 114, 100, 115]) = false := (eql_records s).trans (by rw [← hk]; rfl)
        have e8 : (s.toList == [99, 105, 114, 99, 108, 101, 115]) = false := (eql_circles s).trans (by rw [← hk]; rfl)
        obtain ⟨l, hL⟩ : ∃ l, l = tal (numK 6 m) := ⟨_, rfl⟩
        have hf := rows_facts hm
        have HI : Hid (∀ w : World, Calls Try.prog 42 #[.string s, .int .i64 (m : Int)] w (Made2 w l true)) := hid fun w => by rw [hL]; exact rowI_yes s 6 m w hk (by omega) hm
        have HS : Hid (∀ w : World, Calls Try.prog 41 #[.string s, .int .i64 (m : Int)] w (Made2 w l true)) := hid fun w => by rw [hL]; exact rowS_yes s 6 m w hk (by omega) hm
        have Hr : Hid (euler m = l) := hid (by rw [hL, hf.2.2.2.2.2.1])
        clear hL hf hk
        go_wp2_with fail
        refine (HI.out _).mono ?_
        rintro e w2 ⟨u2, rfl, o2, b2⟩
        have t2 := t1.trans (b2.mono t1.size)
        obtain ⟨ada, cpa, rfl, sa_2⟩ := o2.sl
        clear o2
        go_wp2_with fail
        refine (HS.out _).mono ?_
        rintro e w3 ⟨u3, rfl, o3, b3⟩
        have t3 := t2.trans (b3.mono t2.size)
        have sa_3 := sa_2.later b3
        obtain ⟨adb, cpb, rfl, sb_3⟩ := o3.sl
        clear o3
        go_wp2_with fail
        refine (says_tob (equalInts_any _ _ _ l _ _ _ l _ sa_3 sb_3) (decide_eq_true rfl)).mono ?_
        rintro e w4 ⟨rfl, b4⟩
        have t4 := t3.trans (b4.mono t3.size)
        have sa_4 := sa_3.later b4
        have sb_4 := sb_3.later b4
        go_wp2_with fail
        refine (made_to (eulI_yes m _ (by omega)) Hr.out).mono ?_
        rintro e w5 ⟨u5, rfl, o5, b5⟩
        have t5 := t4.trans (b5.mono t4.size)
        have sa_5 := sa_4.later b5
        have sb_5 := sb_4.later b5
        obtain ⟨adc, cpc, rfl, sc_5⟩ := o5.sl
        clear o5
        go_wp2_with fail
        refine (says_tob (equalInts_any _ _ _ l _ _ _ l _ sa_5 sc_5) (decide_eq_true rfl)).mono ?_
        rintro e w6 ⟨rfl, b6⟩
        have t6 := t5.trans (b6.mono t5.size)
        have sa_6 := sa_5.later b6
        have sb_6 := sb_5.later b6
        have sc_6 := sc_5.later b6
        go_wp2
        go_ret
        exact ⟨rfl, t6⟩
      · have e0 : (s.toList == [105, 110, 118, 101, 114, 115, 105, 111, 110, 115]) = false := (eql_inversions s).trans (by rw [← hk]; rfl)
        have e1 : (s.toList == [109, 97, 106, 111, 114]) = false := (eql_major s).trans (by rw [← hk]; rfl)
        have e2 : (s.toList == [100, 101, 110, 101, 114, 116]) = false := (eql_denert s).trans (by rw [← hk]; rfl)
        have e3 : (s.toList == [99, 114, 111, 115, 115, 105, 110, 103, 115]) = false := (eql_crossings s).trans (by rw [← hk]; rfl)
        have e4 : (s.toList == [110, 101, 115, 116, 105, 110, 103, 115]) = false := (eql_nestings s).trans (by rw [← hk]; rfl)
        have e5 : (s.toList == [100, 101, 115, 99, 101, 110, 116, 115]) = false := (eql_descents s).trans (by rw [← hk]; rfl)
        have e6 : (s.toList == [97, 98, 111, 118, 101]) = false := (eql_above s).trans (by rw [← hk]; rfl)
        have e7 : (s.toList == [114, 101, 99, 111, 114, 100, 115]) = true := (eql_records s).trans (by rw [← hk]; rfl)
        have e8 : (s.toList == [99, 105, 114, 99, 108, 101, 115]) = false := (eql_circles s).trans (by rw [← hk]; rfl)
        obtain ⟨l, hL⟩ : ∃ l, l = tal (numK 7 m) := ⟨_, rfl⟩
        have hf := rows_facts hm
        have HI : Hid (∀ w : World, Calls Try.prog 42 #[.string s, .int .i64 (m : Int)] w (Made2 w l true)) := hid fun w => by rw [hL]; exact rowI_yes s 7 m w hk (by omega) hm
        have HS : Hid (∀ w : World, Calls Try.prog 41 #[.string s, .int .i64 (m : Int)] w (Made2 w l true)) := hid fun w => by rw [hL]; exact rowS_yes s 7 m w hk (by omega) hm
        have Hr : Hid (cir m = l) := hid (by rw [hL, hf.2.2.2.2.2.2.1])
        clear hL hf hk
        go_wp2_with fail
        refine (HI.out _).mono ?_
        rintro e w2 ⟨u2, rfl, o2, b2⟩
        have t2 := t1.trans (b2.mono t1.size)
        obtain ⟨ada, cpa, rfl, sa_2⟩ := o2.sl
        clear o2
        go_wp2_with fail
        refine (HS.out _).mono ?_
        rintro e w3 ⟨u3, rfl, o3, b3⟩
        have t3 := t2.trans (b3.mono t2.size)
        have sa_3 := sa_2.later b3
        obtain ⟨adb, cpb, rfl, sb_3⟩ := o3.sl
        clear o3
        go_wp2_with fail
        refine (says_tob (equalInts_any _ _ _ l _ _ _ l _ sa_3 sb_3) (decide_eq_true rfl)).mono ?_
        rintro e w4 ⟨rfl, b4⟩
        have t4 := t3.trans (b4.mono t3.size)
        have sa_4 := sa_3.later b4
        have sb_4 := sb_3.later b4
        go_wp2_with fail
        refine (made_to (cirI_yes m _ (by omega)) Hr.out).mono ?_
        rintro e w5 ⟨u5, rfl, o5, b5⟩
        have t5 := t4.trans (b5.mono t4.size)
        have sa_5 := sa_4.later b5
        have sb_5 := sb_4.later b5
        obtain ⟨adc, cpc, rfl, sc_5⟩ := o5.sl
        clear o5
        go_wp2_with fail
        refine (says_tob (equalInts_any _ _ _ l _ _ _ l _ sa_5 sc_5) (decide_eq_true rfl)).mono ?_
        rintro e w6 ⟨rfl, b6⟩
        have t6 := t5.trans (b6.mono t5.size)
        have sa_6 := sa_5.later b6
        have sb_6 := sb_5.later b6
        have sc_6 := sc_5.later b6
        go_wp2
        go_ret
        exact ⟨rfl, t6⟩
      · have e0 : (s.toList == [105, 110, 118, 101, 114, 115, 105, 111, 110, 115]) = false := (eql_inversions s).trans (by rw [← hk]; rfl)
        have e1 : (s.toList == [109, 97, 106, 111, 114]) = false := (eql_major s).trans (by rw [← hk]; rfl)
        have e2 : (s.toList == [100, 101, 110, 101, 114, 116]) = false := (eql_denert s).trans (by rw [← hk]; rfl)
        have e3 : (s.toList == [99, 114, 111, 115, 115, 105, 110, 103, 115]) = false := (eql_crossings s).trans (by rw [← hk]; rfl)
        have e4 : (s.toList == [110, 101, 115, 116, 105, 110, 103, 115]) = false := (eql_nestings s).trans (by rw [← hk]; rfl)
        have e5 : (s.toList == [100, 101, 115, 99, 101, 110, 116, 115]) = false := (eql_descents s).trans (by rw [← hk]; rfl)
        have e6 : (s.toList == [97, 98, 111, 118, 101]) = false := (eql_above s).trans (by rw [← hk]; rfl)
        have e7 : (s.toList == [114, 101, 99, 111, 114, 100, 115]) = false := (eql_records s).trans (by rw [← hk]; rfl)
        have e8 : (s.toList == [99, 105, 114, 99, 108, 101, 115]) = true := (eql_circles s).trans (by rw [← hk]; rfl)
        obtain ⟨l, hL⟩ : ∃ l, l = tal (numK 8 m) := ⟨_, rfl⟩
        have hf := rows_facts hm
        have HI : Hid (∀ w : World, Calls Try.prog 42 #[.string s, .int .i64 (m : Int)] w (Made2 w l true)) := hid fun w => by rw [hL]; exact rowI_yes s 8 m w hk (by omega) hm
        have HS : Hid (∀ w : World, Calls Try.prog 41 #[.string s, .int .i64 (m : Int)] w (Made2 w l true)) := hid fun w => by rw [hL]; exact rowS_yes s 8 m w hk (by omega) hm
        have Hr : Hid (cir m = l) := hid (by rw [hL, hf.2.2.2.2.2.2.2.1])
        clear hL hf hk
        go_wp2_with fail
        refine (HI.out _).mono ?_
        rintro e w2 ⟨u2, rfl, o2, b2⟩
        have t2 := t1.trans (b2.mono t1.size)
        obtain ⟨ada, cpa, rfl, sa_2⟩ := o2.sl
        clear o2
        go_wp2_with fail
        refine (HS.out _).mono ?_
        rintro e w3 ⟨u3, rfl, o3, b3⟩
        have t3 := t2.trans (b3.mono t2.size)
        have sa_3 := sa_2.later b3
        obtain ⟨adb, cpb, rfl, sb_3⟩ := o3.sl
        clear o3
        go_wp2_with fail
        refine (says_tob (equalInts_any _ _ _ l _ _ _ l _ sa_3 sb_3) (decide_eq_true rfl)).mono ?_
        rintro e w4 ⟨rfl, b4⟩
        have t4 := t3.trans (b4.mono t3.size)
        have sa_4 := sa_3.later b4
        have sb_4 := sb_3.later b4
        go_wp2_with fail
        refine (made_to (cirI_yes m _ (by omega)) Hr.out).mono ?_
        rintro e w5 ⟨u5, rfl, o5, b5⟩
        have t5 := t4.trans (b5.mono t4.size)
        have sa_5 := sa_4.later b5
        have sb_5 := sb_4.later b5
        obtain ⟨adc, cpc, rfl, sc_5⟩ := o5.sl
        clear o5
        go_wp2_with fail
        refine (says_tob (equalInts_any _ _ _ l _ _ _ l _ sa_5 sc_5) (decide_eq_true rfl)).mono ?_
        rintro e w6 ⟨rfl, b6⟩
        have t6 := t5.trans (b6.mono t5.size)
        have sa_6 := sa_5.later b6
        have sb_6 := sb_5.later b6
        have sc_6 := sc_5.later b6
        go_wp2
        go_ret
        exact ⟨rfl, t6⟩
    · have hno := hid hok
      clear hok
      have HI : Hid (∀ w : World, Calls Try.prog 42 #[.string s, .int .i64 v] w (Made2 w [] false)) := hid fun w => rowI_no s v w hno.out
      have HS : Hid (∀ w : World, Calls Try.prog 41 #[.string s, .int .i64 v] w (Made2 w [] false)) := hid fun w => rowS_no s v w hno.out
      go_wp2_with fail
      refine (HI.out _).mono ?_
      rintro e w2 ⟨u2, rfl, o2, b2⟩
      have t2 := t1.trans (b2.mono t1.size)
      obtain ⟨ada, cpa, rfl, sa_2⟩ := o2.sl
      clear o2
      go_wp2_with fail
      refine (HS.out _).mono ?_
      rintro e w3 ⟨u3, rfl, o3, b3⟩
      have t3 := t2.trans (b3.mono t2.size)
      have sa_3 := sa_2.later b3
      obtain ⟨adb, cpb, rfl, sb_3⟩ := o3.sl
      clear o3
      go_wp2_with fail
      refine (says_tob (equalInts_any _ _ _ [] _ _ _ [] _ sa_3 sb_3) (decide_eq_true rfl)).mono ?_
      rintro e w4 ⟨rfl, b4⟩
      have t4 := t3.trans (b4.mono t3.size)
      have sa_4 := sa_3.later b4
      have sb_4 := sb_3.later b4
      go_wp2_with fail
      refine (says_tob (equalInts_any _ _ _ [] _ _ _ [] _ sa_4 sb_4) (decide_eq_true rfl)).mono ?_
      rintro e w5 ⟨rfl, b5⟩
      have t5 := t4.trans (b5.mono t4.size)
      have sa_5 := sa_4.later b5
      have sb_5 := sb_4.later b5
      go_wp2
      go_ret
      exact ⟨rfl, t5⟩
  · go_enter Try.func9, Try.ntmps9
    go_wp2
    go_ret
    exact ⟨rfl, Below.refl _ _⟩

end Go.Proofs.Ytpokoknapapdcaa
