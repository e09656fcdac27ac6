/- The walk of the law of MajorTable. Condition of the laws' own: at most 2^20 bytes. -/
import Derived.Test.YtlhphgldmefefabLawFn2
import Derived.Test.YtlhphgldmefefabDrawM
import Derived.Test.YtlhphgldmefefabMtI
namespace Go.Proofs.Ytlhphgldmefefab
open Go.RowKit

theorem made2_to {P : Program} {f : FuncId} {a : Array Value} {w : World} {v v' : List Int} {b b' : Bool} (h : Calls P f a w (Made2 w v b)) (e : v = v') (eb : b = b') : Calls P f a w (Made2 w v' b') := e ▸ eb ▸ h

set_option maxHeartbeats 2000000 in
theorem fnMajorTable (bo : Option Addr) (n cap : Nat) (cs : List Int) (w : World) (h : Slb w bo n cap cs) :
    Calls Try.prog 6 #[.slice bo n cap] w (Says w (.bool true)) := by
  have hbig := h.big
  by_cases hn : n ≤ 1048576
  · go_enter Try.func6, Try.ntmps6
    go_wp2_with fail
    refine (drawMajorTable_any _ _ _ _ _ h).mono ?_
    rintro e w1 ⟨u1, ys, rfl, o1, hl, t1⟩
    obtain ⟨adp, cpp, rfl, sp_1⟩ := o1.sl
    have Hl := hid hl
    clear hl o1
    by_cases hv : Valid ys
    · have Hv := hid hv
      clear hv
      go_wp2_with fail
      refine (made_to (mtabI_any _ _ _ ys _ sp_1) (onV_yes Hv.out)).mono ?_
      rintro e w2 ⟨u2, rfl, o2, b2⟩
      have t2 := t1.trans (b2.mono t1.size)
      have sp_2 := sp_1.later b2
      obtain ⟨ada, cpa, rfl, sa_2⟩ := o2.sl
      clear o2
      go_wp2_with fail
      refine (made_to (mtabS_any _ _ _ ys _ sp_2) (onV_yes Hv.out)).mono ?_
      rintro e w3 ⟨u3, rfl, o3, b3⟩
      have t3 := t2.trans (b3.mono t2.size)
      have sp_3 := sp_2.later b3
      have sa_3 := sa_2.later b3
      obtain ⟨ade, cpe, rfl, se_3⟩ := o3.sl
      clear o3
      go_wp2_with fail
      refine (says_tob (equalInts_any _ _ _ (mtab ys) _ _ _ (mtab ys) _ sa_3 se_3) (decide_eq_true rfl)).mono ?_
      rintro e w4 ⟨rfl, b4⟩
      have t4 := t3.trans (b4.mono t3.size)
      have sp_4 := sp_3.later b4
      have sa_4 := sa_3.later b4
      have se_4 := se_3.later b4
      go_wp2_with fail
      refine (says_tob (validI_any _ _ _ ys _ sp_4) (decide_eq_true Hv.out)).mono ?_
      rintro e w5 ⟨rfl, b5⟩
      have t5 := t4.trans (b5.mono t4.size)
      have sp_5 := sp_4.later b5
      have sa_5 := sa_4.later b5
      have se_5 := se_4.later b5
      have Hr := hid (mtab_vr Hv.out)
      go_wp2_with fail
      refine (made2_to (omI_any _ _ _ (mtab ys) _ sa_5) ((onVR_yes Hr.out).trans (omT_mtab Hv.out)) (decide_eq_true Hr.out)).mono ?_
      rintro e w6 ⟨u6, rfl, o6, b6⟩
      have t6 := t5.trans (b6.mono t5.size)
      have sp_6 := sp_5.later b6
      have sa_6 := sa_5.later b6
      have se_6 := se_5.later b6
      obtain ⟨adb, cpb, rfl, sb_6⟩ := o6.sl
      clear o6
      have hl7 := Hv.out.len
      have hml := mtab_len ys
      obtain ⟨L, hL⟩ : ∃ L, L = (mtab ys).length := ⟨_, rfl⟩
      have sA := sa_6
      rw [← hL] at sA ⊢
      have HL := hid hL
      have hL7 : L ≤ 7 := by omega
      clear hL sa_6
      go_wp2
      go_loopw [7] (fun x wr => ∃ (k : Nat), k ≤ L ∧ x = .int .i64 k ∧ w6 = wr)
        (fun x _ => L - (intOf x).toNat)
      case atStart => exact ⟨0, Nat.zero_le _, rfl, rfl⟩
      case round =>
        obtain ⟨k, hk, rfl, rfl⟩ := hrel
        by_cases hlt : k < L
        · have hi1 : (k : Int) < L := by omega
          obtain ⟨b, off, rfl, hblt, hc⟩ := sA.row (by omega)
          have hcell := hc k hlt
          have h1 := Hr.out.lo k (by rw [← HL.out]; exact hlt)
          have h2 := Hr.out.hi k (by rw [← HL.out]; exact hlt)
          clear hc
          go_wp2
          go_roundw
          case rel => exact ⟨k + 1, by omega, by go_num, trivial⟩
          case measure => simp [intOf]; omega
        · obtain rfl : k = L := by omega
          go_wp2_with fail
          refine (says_to (total_any _ _ _ (mtab ys) _ sA (by omega) (hid (fun j hj => ⟨Hr.out.lo j hj, by have a := Hr.out.hi j hj; omega⟩))) (mtab_total Hv.out)).mono ?_
          rintro e wx ⟨rfl, bx⟩
          have tx := t6.trans (bx.mono t6.size)
          have spx := sp_6.later bx
          have sbx := sb_6.later bx
          go_wp2_with fail
          refine (says_to (majorI_any _ _ _ ys _ spx) (onVi_yes Hv.out)).mono ?_
          rintro e wy ⟨rfl, by'⟩
          have ty := tx.trans (by'.mono tx.size)
          have spy := spx.later by'
          have sby := sbx.later by'
          go_wp2_with fail
          refine (says_tob (equalInts_any _ _ _ ys _ _ _ ys _ sby spy) (decide_eq_true rfl)).mono ?_
          rintro e wz ⟨rfl, bz⟩
          go_wp2
          go_ret
          exact ⟨rfl, ty.trans (bz.mono ty.size)⟩
    · have Hv := hid hv
      clear hv
      go_wp2_with fail
      refine (made_to (mtabI_any _ _ _ ys _ sp_1) (onV_no Hv.out)).mono ?_
      rintro e w2 ⟨u2, rfl, o2, b2⟩
      have t2 := t1.trans (b2.mono t1.size)
      have sp_2 := sp_1.later b2
      obtain ⟨add, cpd, rfl, sd_2⟩ := o2.sl
      clear o2
      go_wp2_with fail
      refine (made_to (mtabS_any _ _ _ ys _ sp_2) (onV_no Hv.out)).mono ?_
      rintro e w3 ⟨u3, rfl, o3, b3⟩
      have t3 := t2.trans (b3.mono t2.size)
      have sp_3 := sp_2.later b3
      have sd_3 := sd_2.later b3
      obtain ⟨ade, cpe, rfl, se_3⟩ := o3.sl
      clear o3
      go_wp2_with fail
      refine (says_tob (equalInts_any _ _ _ [] _ _ _ [] _ sd_3 se_3) (decide_eq_true rfl)).mono ?_
      rintro e w4 ⟨rfl, b4⟩
      have t4 := t3.trans (b4.mono t3.size)
      have sp_4 := sp_3.later b4
      have sd_4 := sd_3.later b4
      have se_4 := se_3.later b4
      go_wp2_with fail
      refine (says_tob (validI_any _ _ _ ys _ sp_4) (decide_eq_false Hv.out)).mono ?_
      rintro e w5 ⟨rfl, b5⟩
      have t5 := t4.trans (b5.mono t4.size)
      have sp_5 := sp_4.later b5
      have sd_5 := sd_4.later b5
      have se_5 := se_4.later b5
      go_wp2_with fail
      refine (made_to (mtabS_any _ _ _ ys _ sp_5) (onV_no Hv.out)).mono ?_
      rintro e w6 ⟨u6, rfl, o6, b6⟩
      have t6 := t5.trans (b6.mono t5.size)
      have sp_6 := sp_5.later b6
      have sd_6 := sd_5.later b6
      have se_6 := se_5.later b6
      obtain ⟨ade2, cpe2, rfl, se2_6⟩ := o6.sl
      clear o6
      go_wp2_with fail
      refine (says_tob (equalInts_any _ _ _ [] _ _ _ [] _ sd_6 se2_6) (decide_eq_true rfl)).mono ?_
      rintro e w7 ⟨rfl, b7⟩
      have t7 := t6.trans (b7.mono t6.size)
      have sp_7 := sp_6.later b7
      have sd_7 := sd_6.later b7
      have se_7 := se_6.later b7
      have se2_7 := se2_6.later b7
      go_wp2
      go_ret
      exact ⟨rfl, t7⟩
  · go_enter Try.func6, Try.ntmps6
    go_wp2
    go_ret
    exact ⟨rfl, Below.refl _ _⟩

end Go.Proofs.Ytlhphgldmefefab
