/- The walk of the law of StandardOf. Condition of the law's own: at most 2^20 bytes. -/
import Derived.Test.YthaiodjeamjjnaaLawFn
import Derived.Test.YthaiodjeamjjnaaDrawW
import Derived.Test.YthaiodjeamjjnaaWrd
namespace Go.Proofs.Ythaiodjeamjjnaa
open Go.RowKit

set_option maxHeartbeats 2000000 in
theorem fnStandardOf (bo : Option Addr) (n cap : Nat) (cs : List Int) (w : World) (h : Slb w bo n cap cs) :
    Calls Try.prog 13 #[.slice bo n cap] w (Says w (.bool true)) := by
  have hbig := h.big
  by_cases hn : n ≤ 1048576
  · go_enter Try.func13, Try.ntmps13
    go_wp2_with fail
    refine (drawStandardOf_any _ _ _ _ _ h).mono ?_
    rintro e w1 ⟨u1, ys, rfl, o1, hl, t1⟩
    obtain ⟨adp, cpp, rfl, sp_1⟩ := o1.sl
    have Hl := hid hl
    clear hl o1
    by_cases hv : VW ys
    · have Hv := hid hv
      clear hv
      go_wp2_with fail
      refine (made_to (stdI_any _ _ _ ys _ sp_1) (onW_yes Hv.out)).mono ?_
      rintro e w2 ⟨u2, rfl, o2, b2⟩
      have t2 := t1.trans (b2.mono t1.size)
      have sp_2 := sp_1.later b2
      obtain ⟨ado, cpo, rfl, so_2⟩ := o2.sl
      clear o2
      go_wp2_with fail
      refine (made_to (stdS_any _ _ _ ys _ sp_2) (onW_yes Hv.out)).mono ?_
      rintro e w3 ⟨u3, rfl, o3, b3⟩
      have t3 := t2.trans (b3.mono t2.size)
      have sp_3 := sp_2.later b3
      have so_3 := so_2.later b3
      obtain ⟨adx, cpx, rfl, sx_3⟩ := o3.sl
      clear o3
      go_wp2_with fail
      refine (says_tob (equalInts_any _ _ _ (rkA ys) _ _ _ (rkA ys) _ so_3 sx_3) (decide_eq_true rfl)).mono ?_
      rintro e w4 ⟨rfl, b4⟩
      have t4 := t3.trans (b4.mono t3.size)
      have sp_4 := sp_3.later b4
      have so_4 := so_3.later b4
      have sx_4 := sx_3.later b4
      go_wp2_with fail
      refine (says_tob (vwI_any _ _ _ ys _ sp_4) (decide_eq_true Hv.out)).mono ?_
      rintro e w5 ⟨rfl, b5⟩
      have t5 := t4.trans (b5.mono t4.size)
      have sp_5 := sp_4.later b5
      have so_5 := so_4.later b5
      have sx_5 := sx_4.later b5
      have hl7 := Hv.out.len
      have Hvs := hid (rkA_valid Hv.out.len)
      have hrl := hid (rkA_len ys)
      have hso := so_5
      have hsp := sp_5
      obtain ⟨n2, hn2⟩ : ∃ n2, n2 = ys.length := ⟨_, rfl⟩
      rw [hrl.out] at hso ⊢
      rw [← hn2] at hso hsp ⊢
      have Hn2 := hid hn2
      have hn7 : n2 ≤ 7 := by omega
      clear hn2 hl7
      go_wp2
      go_loopw [5] (fun i wr => ∃ k : Nat, k ≤ n2 ∧ i = .int .i64 k ∧ Below w5.heap.size w5 wr) (fun i _ => n2 - (intOf i).toNat)
      case atStart => exact ⟨0, Nat.zero_le _, rfl, Below.refl _ _⟩
      case round =>
        obtain ⟨k, hk7, rfl, hbr⟩ := hrel
        by_cases hlt : k < n2
        · have hi1 : (k : Int) < n2 := by omega
          obtain ⟨b1, o1, rfl, hb1, hc1⟩ := hso.row (by omega)
          obtain ⟨b2, o2, rfl, hb2, hc2⟩ := hsp.row (by omega)
          have Hc1 := hid hc1
          have Hc2 := hid hc2
          clear hc1 hc2
          go_wp2
          obtain ⟨wo, hwo⟩ : ∃ wo : World, wo = wr := ⟨_, rfl⟩
          subst hwo
          go_loopw [6] (fun j wr => ∃ t : Nat, t ≤ k ∧ j = .int .i64 t ∧ Below w5.heap.size w5 wr) (fun j _ => k - (intOf j).toNat)
          case atStart => exact ⟨0, Nat.zero_le _, rfl, hbr⟩
          case round =>
            obtain ⟨t, ht, rfl, hbr⟩ := hrel
            by_cases htl : t < k
            · have hi2 : (t : Int) < k := by omega
              have hi3 : (t : Int) < n2 := by omega
              have hck := (hbr.cell (p := ⟨b1, o1 + k, none⟩) hb1).trans (Hc1.out k hlt)
              have hct := (hbr.cell (p := ⟨b1, o1 + t, none⟩) hb1).trans (Hc1.out t (by omega))
              have hdk := (hbr.cell (p := ⟨b2, o2 + k, none⟩) hb2).trans (Hc2.out k hlt)
              have hdt := (hbr.cell (p := ⟨b2, o2 + t, none⟩) hb2).trans (Hc2.out t (by omega))
              have hst := rkA_step (zs := ys) (i := t) (k := k) htl (by rw [← Hn2.out]; exact hlt)
              have hT : (!decide (el (rkA ys) t < el (rkA ys) k) == decide (el ys t ≤ el ys k)) = false := by
                rcases hst with ⟨h1, h2⟩ | ⟨h1, h2⟩
                · rw [decide_eq_false (show ¬ el (rkA ys) t < el (rkA ys) k by omega), decide_eq_false (show ¬ el ys t ≤ el ys k by omega)]; rfl
                · rw [decide_eq_true h2, decide_eq_true h1]; rfl
              clear hst
              go_wp2_with fail
              go_quiet (fail)
              go_wp2
              go_roundw
              case rel => exact ⟨t + 1, by omega, by go_num, drewN_below hbr _⟩
              case measure => simp [intOf]; omega
            · obtain rfl : t = k := by omega
              go_wp2
              go_roundw
              case rel => exact ⟨t + 1, by omega, by go_num, hbr⟩
              case measure => simp [intOf]; omega
        · obtain rfl : k = n2 := by omega
          obtain ⟨w6, hw⟩ : ∃ w6, w6 = wr := ⟨_, rfl⟩
          subst hw
          have t6 := t5.trans (hbr.mono t5.size)
          have sso := hso.later hbr
          go_wp2_with fail
          refine (says_tob (validI_any _ _ _ (rkA ys) _ sso) (decide_eq_true Hvs.out)).mono ?_
          rintro e w7 ⟨rfl, b7⟩
          have t7 := t6.trans (b7.mono t6.size)
          go_wp2
          go_ret
          exact ⟨rfl, t7⟩
    · have Hv := hid hv
      clear hv
      go_wp2_with fail
      refine (made_to (stdI_any _ _ _ ys _ sp_1) (onW_no Hv.out)).mono ?_
      rintro e w2 ⟨u2, rfl, o2, b2⟩
      have t2 := t1.trans (b2.mono t1.size)
      have sp_2 := sp_1.later b2
      obtain ⟨ado, cpo, rfl, so_2⟩ := o2.sl
      clear o2
      go_wp2_with fail
      refine (made_to (stdS_any _ _ _ ys _ sp_2) (onW_no Hv.out)).mono ?_
      rintro e w3 ⟨u3, rfl, o3, b3⟩
      have t3 := t2.trans (b3.mono t2.size)
      have sp_3 := sp_2.later b3
      have so_3 := so_2.later b3
      obtain ⟨adx, cpx, rfl, sx_3⟩ := o3.sl
      clear o3
      go_wp2_with fail
      refine (says_tob (equalInts_any _ _ _ ([] : List Int) _ _ _ ([] : List Int) _ so_3 sx_3) (decide_eq_true rfl)).mono ?_
      rintro e w4 ⟨rfl, b4⟩
      have t4 := t3.trans (b4.mono t3.size)
      have sp_4 := sp_3.later b4
      have so_4 := so_3.later b4
      have sx_4 := sx_3.later b4
      go_wp2_with fail
      refine (says_tob (vwI_any _ _ _ ys _ sp_4) (decide_eq_false Hv.out)).mono ?_
      rintro e w5 ⟨rfl, b5⟩
      have t5 := t4.trans (b5.mono t4.size)
      have sp_5 := sp_4.later b5
      have so_5 := so_4.later b5
      have sx_5 := sx_4.later b5
      go_wp2_with fail
      refine (made_to (stdS_any _ _ _ ys _ sp_5) (onW_no Hv.out)).mono ?_
      rintro e w6 ⟨u6, rfl, o6, b6⟩
      have t6 := t5.trans (b6.mono t5.size)
      have sp_6 := sp_5.later b6
      have so_6 := so_5.later b6
      have sx_6 := sx_5.later b6
      obtain ⟨adx2, cpx2, rfl, sx2_6⟩ := o6.sl
      clear o6
      go_wp2_with fail
      refine (says_tob (equalInts_any _ _ _ ([] : List Int) _ _ _ ([] : List Int) _ so_6 sx2_6) (decide_eq_true rfl)).mono ?_
      rintro e w7 ⟨rfl, b7⟩
      have t7 := t6.trans (b7.mono t6.size)
      have sp_7 := sp_6.later b7
      have so_7 := so_6.later b7
      have sx_7 := sx_6.later b7
      have sx2_7 := sx2_6.later b7
      go_wp2
      go_ret
      exact ⟨rfl, t7⟩
  · go_enter Try.func13, Try.ntmps13
    go_wp2
    go_ret
    exact ⟨rfl, Below.refl _ _⟩

end Go.Proofs.Ythaiodjeamjjnaa
