/- The walk of the law of RecordsOf. Condition of the laws' own: at most 2^20 bytes. -/
import Derived.Test.YtepikmkkbecdaacLawFn2
import Derived.Test.YtepikmkkbecdaacDraw4
import Derived.Test.YtepikmkkbecdaacFinCnt
import Derived.Test.YtepikmkkbecdaacCnt
namespace Go.Proofs.Ytepikmkkbecdaac
open Go.RowKit

set_option maxHeartbeats 2000000 in
theorem fnRecordsOf (bo : Option Addr) (n cap : Nat) (cs : List Int) (w : World) (h : Slb w bo n cap cs) :
    Calls Try.prog 6 #[.slice bo n cap] w (Says w (.bool true)) := by
  have hbig := h.big
  by_cases hn : n ≤ 1048576
  · go_enter Try.func6, Try.ntmps6
    go_wp2_with fail
    refine (drawRecordsOf_any _ _ _ _ _ h).mono ?_
    rintro e w1 ⟨u1, ys, rfl, o1, hl, t1⟩
    obtain ⟨adp, cpp, rfl, sp_1⟩ := o1.sl
    have Hl := hid hl
    clear hl o1
    by_cases hv : Valid ys
    · have Hv := hid hv
      clear hv
      go_wp2_with fail
      refine (made_to (recordsI_any _ _ _ ys _ sp_1) (onV_yes Hv.out)).mono ?_
      rintro e w2 ⟨u2, rfl, o2, b2⟩
      have t2 := t1.trans (b2.mono t1.size)
      have sp_2 := sp_1.later b2
      obtain ⟨ada, cpa, rfl, sa_2⟩ := o2.sl
      clear o2
      go_wp2_with fail
      refine (made_to (recordsS_any _ _ _ ys _ sp_2) (onV_yes Hv.out)).mono ?_
      rintro e w3 ⟨u3, rfl, o3, b3⟩
      have t3 := t2.trans (b3.mono t2.size)
      have sp_3 := sp_2.later b3
      have sa_3 := sa_2.later b3
      obtain ⟨ade, cpe, rfl, se_3⟩ := o3.sl
      clear o3
      go_wp2_with fail
      refine (says_tob (equalInts_any _ _ _ (records ys) _ _ _ (records ys) _ sa_3 se_3) (decide_eq_true rfl)).mono ?_
      rintro e w4 ⟨rfl, b4⟩
      have t4 := t3.trans (b4.mono t3.size)
      have sp_4 := sp_3.later b4
      have sa_4 := sa_3.later b4
      have se_4 := se_3.later b4
      go_wp2_with fail
      refine (says_tob (validI_any _ _ _ ys _ sp_4) (decide_eq_true Hv.out)).mono ?_
      rintro e w5 ⟨rfl, b5⟩
      have t5 := t4.trans (b5.mono t4.size)
      have sp_5 := sp_4.later b5
      have sa_5 := sa_4.later b5
      have se_5 := se_4.later b5
      have hl7 := Hv.out.len
      have lr := records_len ys
      by_cases hz : ys.length = 0
      · have hz1 : ((ys.length : Int) == 0) = true := by simp [hz]
        have hz2 : (((records ys).length : Int) == 0) = true := by rw [beq_iff_eq]; omega
        have Hz := hid hz
        clear hz
        go_wp2
        go_ret
        exact ⟨rfl, t5⟩
      · have hz1 : ((ys.length : Int) == 0) = false := by rw [beq_eq_false_iff_ne]; omega
        have Hf := hid (rec_facts Hv.out (by omega))
        have Hrise := hid (rcP_rise ys ys.length).2
        have Hmem := hid (rcP_mem ys ys.length)
        have hp0 := Hf.out.1
        obtain ⟨m, hm⟩ : ∃ m, m = (records ys).length := ⟨_, rfl⟩
        obtain ⟨n', hn'⟩ : ∃ n', n' = ys.length := ⟨_, rfl⟩
        obtain ⟨rs, hrs⟩ : ∃ rs, rs = records ys := ⟨_, rfl⟩
        have sa := sa_5
        have sp := sp_5
        have Hrow : Hid (∀ j, j < m → ∃ x : Nat, el rs j = x ∧ x < n') := fun j hj => by
          have h1 : 0 ≤ el (records ys) j ∧ el (records ys) j < (ys.length : Int) := Hmem.out _ (el_mem (by show j < (records ys).length; rw [← hm]; exact hj))
          exact ⟨(el rs j).toNat, by rw [hrs]; omega, by rw [hrs]; omega⟩
        have Hup : Hid (∀ j, j < m → 0 < j → el ys (el rs (j - 1)).toNat < el ys (el rs j).toNat) := fun j hj h0 => by rw [hrs]; exact Hrise.out j (by show j < (records ys).length; rw [← hm]; exact hj) h0
        have H0 : Hid (el rs 0 = 0) := hid (by rw [hrs]; exact Hf.out.2.1)
        have Ht : Hid (el ys (el rs (m - 1)).toNat = (n' : Int) - 1) := hid (by rw [hrs, hm, hn']; exact Hf.out.2.2)
        have Hasc : Hid (Asc rs) := hid (by rw [hrs]; exact asc_rcP ys _)
        rw [← hm, ← hrs] at sa
        rw [← hn'] at sp hl7 lr hz1 ⊢
        rw [← hm] at lr hp0 ⊢
        have Hm := hid hm
        have Hn := hid hn'
        have Hrs := hid hrs
        clear hm hn' hrs hz
        obtain ⟨b1, off1, rfl, hblt1, hc1⟩ := sa.row (by omega)
        obtain ⟨b2, off2, rfl, hblt2, hc2⟩ := sp.row (by omega)
        have hcc1 := hid hc1
        have hcc2 := hid hc2
        clear hc1 hc2
        go_wp2
        go_loopw [5] (fun i wr => ∃ k : Nat, k + 1 ≤ m ∧ i = .int .i64 ((k : Int) + 1) ∧ Below w5.heap.size w5 wr)
          (fun i _ => m - (intOf i).toNat)
        case atStart => exact ⟨0, by omega, rfl, Below.refl _ _⟩
        case round =>
          obtain ⟨k, hk, rfl, hbr⟩ := hrel
          by_cases hlt : k + 1 < m
          · obtain ⟨x, hx, hxn⟩ := Hrow.out k (by omega)
            obtain ⟨x', hx', hxn'⟩ := Hrow.out (k + 1) hlt
            have hup := Hup.out (k + 1) hlt (by omega)
            rw [Nat.add_sub_cancel, hx, hx', Int.toNat_natCast, Int.toNat_natCast] at hup
            have hcell := (hbr.cell (p := ⟨b1, off1 + k, none⟩) hblt1).trans (hcc1.out k (by omega))
            have hcell2 := (hbr.cell (p := ⟨b1, off1 + (k + 1), none⟩) hblt1).trans (hcc1.out (k + 1) hlt)
            rw [hx] at hcell
            rw [hx'] at hcell2
            have hcell3 := (hbr.cell (p := ⟨b2, off2 + x, none⟩) hblt2).trans (hcc2.out x hxn)
            have hcell4 := (hbr.cell (p := ⟨b2, off2 + x', none⟩) hblt2).trans (hcc2.out x' hxn')
            have hi1 : (k : Int) + 1 < m := by omega
            have hi2 : (k : Int) < m := by omega
            have hi3 : (x : Int) < n' := by omega
            have hi4 : (x' : Int) < n' := by omega
            have hno : ¬ el ys x' ≤ el ys x := by omega
            have Hx := hid hx
            have Hx' := hid hx'
            clear hx hx' hup
            go_wp2_with fail
            go_quiet (fail)
            go_wp2
            go_roundw
            case rel => exact ⟨k + 1, by omega, by go_num, drewN_below hbr _⟩
            case measure => simp [intOf]; omega
          · have hi1 : ¬ (k : Int) + 1 < m := by omega
            have saq := sa.later hbr
            go_wp2_with fail
            refine (says_tob (ascends_any _ _ _ rs _ saq) (decide_eq_true Hasc.out)).mono ?_
            rintro e wz ⟨rfl, bz⟩
            have hbz := hbr.trans (bz.mono hbr.size)
            obtain ⟨x, hx, hxn⟩ := Hrow.out (m - 1) (by omega)
            have ht := Ht.out
            rw [hx, Int.toNat_natCast] at ht
            have hcell := (hbz.cell (p := ⟨b1, off1 + 0, none⟩) hblt1).trans (hcc1.out 0 (by omega))
            rw [H0.out, Nat.add_zero] at hcell
            have hcell2 := (hbz.cell (p := ⟨b1, off1 + (m - 1), none⟩) hblt1).trans (hcc1.out (m - 1) (by omega))
            rw [hx] at hcell2
            have hcell3 := (hbz.cell (p := ⟨b2, off2 + x, none⟩) hblt2).trans (hcc2.out x hxn)
            rw [ht] at hcell3
            have hi3 : (x : Int) < n' := by omega
            obtain ⟨m1, hm1⟩ : ∃ m1, m1 = m - 1 := ⟨_, rfl⟩
            have hm2 : m = m1 + 1 := by omega
            rw [← hm1] at hcell2
            clear hx ht hm1 Hrow Hup H0 Ht saq hi1 hk
            subst hm2
            go_wp2
            go_ret
            exact ⟨rfl, t5.trans (hbz.mono t5.size)⟩
    · have Hv := hid hv
      clear hv
      go_wp2_with fail
      refine (made_to (recordsI_any _ _ _ ys _ sp_1) (onV_no Hv.out)).mono ?_
      rintro e w2 ⟨u2, rfl, o2, b2⟩
      have t2 := t1.trans (b2.mono t1.size)
      have sp_2 := sp_1.later b2
      obtain ⟨add, cpd, rfl, sd_2⟩ := o2.sl
      clear o2
      go_wp2_with fail
      refine (made_to (recordsS_any _ _ _ ys _ sp_2) (onV_no Hv.out)).mono ?_
      rintro e w3 ⟨u3, rfl, o3, b3⟩
      have t3 := t2.trans (b3.mono t2.size)
      have sp_3 := sp_2.later b3
      have sd_3 := sd_2.later b3
      obtain ⟨ade, cpe, rfl, se_3⟩ := o3.sl
      clear o3
      go_wp2_with fail
      refine (says_tob (equalInts_any _ _ _ [] _ _ _ [] _ sd_3 se_3) (decide_eq_true rfl)).mono ?_
      rintro e w4 ⟨rfl, b4⟩
      have t4 := t3.trans (b4.mono t3.size)
      have sp_4 := sp_3.later b4
      have sd_4 := sd_3.later b4
      have se_4 := se_3.later b4
      go_wp2_with fail
      refine (says_tob (validI_any _ _ _ ys _ sp_4) (decide_eq_false Hv.out)).mono ?_
      rintro e w5 ⟨rfl, b5⟩
      have t5 := t4.trans (b5.mono t4.size)
      have sp_5 := sp_4.later b5
      have sd_5 := sd_4.later b5
      have se_5 := se_4.later b5
      go_wp2_with fail
      refine (made_to (recordsS_any _ _ _ ys _ sp_5) (onV_no Hv.out)).mono ?_
      rintro e w6 ⟨u6, rfl, o6, b6⟩
      have t6 := t5.trans (b6.mono t5.size)
      have sp_6 := sp_5.later b6
      have sd_6 := sd_5.later b6
      have se_6 := se_5.later b6
      obtain ⟨ade2, cpe2, rfl, se2_6⟩ := o6.sl
      clear o6
      go_wp2_with fail
      refine (says_tob (equalInts_any _ _ _ [] _ _ _ [] _ sd_6 se2_6) (decide_eq_true rfl)).mono ?_
      rintro e w7 ⟨rfl, b7⟩
      have t7 := t6.trans (b7.mono t6.size)
      have sp_7 := sp_6.later b7
      have sd_7 := sd_6.later b7
      have se_7 := se_6.later b7
      have se2_7 := se2_6.later b7
      go_wp2
      go_ret
      exact ⟨rfl, t7⟩
  · go_enter Try.func6, Try.ntmps6
    go_wp2
    go_ret
    exact ⟨rfl, Below.refl _ _⟩

end Go.Proofs.Ytepikmkkbecdaac
