/- The draw and the walk of the law of AllOrders. Condition of the law's own: at most 2^20 bytes. -/
import Derived.Test.YtpokoknapapdcaaAllo
import Derived.Test.YtpokoknapapdcaaAlls
import Derived.Test.YtpokoknapapdcaaLawL
import Derived.Test.YtpokoknapapdcaaLawRow
import Derived.Test.YtpokoknapapdcaaDraw5
namespace Go.Proofs.Ytpokoknapapdcaa
open Go.RowKit

set_option maxHeartbeats 1000000 in
theorem drawAllOrders_any (bo : Option Addr) (n cap : Nat) (cs : List Int) (w : World) (h : Slb w bo n cap cs) :
    Calls Try.prog 33 #[.slice bo n cap] w (DrawnI w (-1) 6) := by
  go_enter Try.func33, Try.ntmps33
  go_wp2_with fail
  refine (newReader_any bo n cap cs w h).mono ?_
  rintro e w1 ⟨rfl, hr1, hb1⟩
  have ha := lit_arr w1 [3, 4, 2, 1, 0, 5, 6, -1]
  have hr := hr1.below ((Below.refl w1.heap.size w1).alloc (Nat.le_refl _) (.cells ([3, 4, 2, 1, 0, 5, 6, -1].map (Value.int .i64)).toArray 3))
  have hlt := hr1.lt
  have Ha := hid ha
  have Hr := hid hr
  clear ha hr
  go_wp2_with fail
  refine (one_any w.heap.size 0 w1.heap.size 8 3 [3, 4, 2, 1, 0, 5, 6, -1] _ Hr.out (by omega) Ha.out rfl (by omega) (by omega) (by omega)).mono ?_
  rintro e w2 ⟨j, hj, rfl, hr2, hg2⟩
  have hv : ∀ j, j < 8 → -1 ≤ el [3, 4, 2, 1, 0, 5, 6, -1] j ∧ el [3, 4, 2, 1, 0, 5, 6, -1] j ≤ 6 := by decide
  have hv' := hv j hj
  obtain ⟨v, hv2⟩ : ∃ v, v = el [3, 4, 2, 1, 0, 5, 6, -1] j := ⟨_, rfl⟩
  rw [← hv2] at hv' ⊢
  have hva := hv'.1
  have hvb := hv'.2
  clear hv hv' hv2 hj
  go_wp2
  go_ret
  exact ⟨v, rfl, hva, hvb, below_reader (hb1.alloc hb1.size _) hg2⟩

set_option maxHeartbeats 4000000 in
theorem fnAllOrders (bo : Option Addr) (n cap : Nat) (cs : List Int) (w : World) (h : Slb w bo n cap cs) :
    Calls Try.prog 5 #[.slice bo n cap] w (Says w (.bool true)) := by
  have hbig := h.big
  by_cases hn : n ≤ 1048576
  · go_enter Try.func5, Try.ntmps5
    go_wp2_with fail
    refine (drawAllOrders_any _ _ _ _ _ h).mono ?_
    rintro e w1 ⟨v, rfl, v0, v1, t1⟩
    by_cases hv : 0 ≤ v ∧ v ≤ 5
    · obtain ⟨m, rfl⟩ := Int.eq_ofNat_of_zero_le hv.1
      have hm : m ≤ 5 := by omega
      clear hv v0 v1
      go_wp2_with fail
      refine (allI_yes m _ hm).mono ?_
      rintro e w2 ⟨u2, rfl, o2, b2⟩
      have t2 := t1.trans (b2.mono t1.size)
      obtain ⟨ad2, cp2, rfl, s2⟩ := o2.sl
      rw [allK_len] at s2 ⊢
      clear o2
      go_wp2_with fail
      refine (allS_yes m _ hm).mono ?_
      rintro e w3 ⟨u3, rfl, o3, b3⟩
      have t3 := t2.trans (b3.mono t2.size)
      obtain ⟨ad3, cp3, rfl, s3⟩ := o3.sl
      rw [allK_len] at s3 ⊢
      have s23 := s2.later b3
      clear o3
      go_wp2_with fail
      refine (says_tob (equalLists_any _ _ _ (allK m) _ _ _ (allK m) _ s23 s3) (decide_eq_true rfl)).mono ?_
      rintro e w4 ⟨rfl, b4⟩
      have t4 := t3.trans (b4.mono t3.size)
      have s24 := s23.later b4
      have hf1 := (facN_pos m (by omega)).2
      have hfe := facN_fac m (by omega)
      have Hfe := hid hfe
      clear hfe s2 s23 s3
      go_wp2
      go_loopw [5] (fun i wr => ∃ k : Nat, k ≤ facN m ∧ i = .int .i64 k ∧ Below w4.heap.size w4 wr) (fun i _ => facN m - (intOf i).toNat)
      case atStart => exact ⟨0, Nat.zero_le _, rfl, Below.refl _ _⟩
      case round =>
        obtain ⟨k, hk, rfl, hbr⟩ := hrel
        by_cases hlt : k < facN m
        · have hki : (k : Int) < (facN m : Int) := by omega
          obtain ⟨b, off, rfl, hblt, hc⟩ := (s24.later hbr).row (by omega)
          obtain ⟨ai, ci, hcell, hsi⟩ := hc k hlt
          have hek : ell (allK m) k = ordK m k := by rw [ell_lt (by rw [allK_len]; exact hlt)]; simp [allK]
          rw [hek, ordK_len] at hcell hsi
          have Hek := hid hek
          clear hc hek
          go_wp2_with fail
          refine (says_to (rankI_any _ _ _ (ordK m k) _ hsi) ((onVi_yes (ordK_valid (by omega) k)).trans (ordK_rank hm hlt))).mono ?_
          rintro e w6 ⟨rfl, b6⟩
          have hcell6 := (b6.cell (p := ⟨b, off + k, none⟩) hblt).trans hcell
          have hb6 := hbr.trans (b6.mono hbr.size)
          clear hcell hsi
          go_wp2
          go_roundw
          case rel => exact ⟨k + 1, by omega, by go_num, hb6⟩
          case measure => simp [intOf]; omega
        · obtain rfl : k = facN m := by omega
          go_wp2_with fail
          refine (product_says m _ (by omega)).mono ?_
          rintro e w6 ⟨rfl, b6⟩
          rw [← Hfe.out]
          go_wp2
          go_ret
          exact ⟨rfl, (t4.trans (hbr.mono t4.size)).trans (b6.mono (Nat.le_trans t4.size hbr.size))⟩
    · have hno : v < 0 ∨ 5 < v := by omega
      have Hno := hid hno
      clear hno hv
      go_wp2_with fail
      refine (allI_no v _ Hno.out).mono ?_
      rintro e w2 ⟨u2, rfl, o2, b2⟩
      have t2 := t1.trans (b2.mono t1.size)
      obtain ⟨ad2, cp2, rfl, s2⟩ := o2.sl
      clear o2
      go_wp2_with fail
      refine (allS_no v _ Hno.out).mono ?_
      rintro e w3 ⟨u3, rfl, o3, b3⟩
      have t3 := t2.trans (b3.mono t2.size)
      obtain ⟨ad3, cp3, rfl, s3⟩ := o3.sl
      have s23 := s2.later b3
      clear o3
      go_wp2_with fail
      refine (says_tob (equalLists_any _ _ _ ([] : List (List Int)) _ _ _ ([] : List (List Int)) _ s23 s3) (decide_eq_true rfl)).mono ?_
      rintro e w4 ⟨rfl, b4⟩
      have t4 := t3.trans (b4.mono t3.size)
      have s24 := s23.later b4
      by_cases h0 : v < 0
      · go_wp2_with fail
        refine (allS_no v _ Hno.out).mono ?_
        rintro e w5 ⟨u5, rfl, o5, b5⟩
        have t5 := t4.trans (b5.mono t4.size)
        obtain ⟨ad5, cp5, rfl, s5⟩ := o5.sl
        clear o5
        go_wp2_with fail
        refine (says_tob (equalLists_any _ _ _ ([] : List (List Int)) _ _ _ ([] : List (List Int)) _ (s24.later b5) s5) (decide_eq_true rfl)).mono ?_
        rintro e w6 ⟨rfl, b6⟩
        go_wp2
        go_ret
        exact ⟨rfl, t5.trans (b6.mono t5.size)⟩
      · have h5 : 5 < v := by have := Hno.out; omega
        go_wp2_with fail
        refine (allS_no v _ Hno.out).mono ?_
        rintro e w5 ⟨u5, rfl, o5, b5⟩
        have t5 := t4.trans (b5.mono t4.size)
        obtain ⟨ad5, cp5, rfl, s5⟩ := o5.sl
        clear o5
        go_wp2_with fail
        refine (says_tob (equalLists_any _ _ _ ([] : List (List Int)) _ _ _ ([] : List (List Int)) _ (s24.later b5) s5) (decide_eq_true rfl)).mono ?_
        rintro e w6 ⟨rfl, b6⟩
        go_wp2
        go_ret
        exact ⟨rfl, t5.trans (b6.mono t5.size)⟩
  · go_enter Try.func5, Try.ntmps5
    go_wp2
    go_ret
    exact ⟨rfl, Below.refl _ _⟩

end Go.Proofs.Ytpokoknapapdcaa
