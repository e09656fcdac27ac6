/- The walk of the law of OrderOfMajorTable. Condition of the laws' own: at most 2^20 bytes. -/
import Derived.Test.YtlhphgldmefefabLawFn2
import Derived.Test.YtlhphgldmefefabDrawI
import Derived.Test.YtlhphgldmefefabMtI
import Derived.Test.YtlhphgldmefefabIns2
namespace Go.Proofs.Ytlhphgldmefefab
open Go.RowKit

theorem made2_to {P : Program} {f : FuncId} {a : Array Value} {w : World} {v v' : List Int} {b b' : Bool} (h : Calls P f a w (Made2 w v b)) (e : v = v') (eb : b = b') : Calls P f a w (Made2 w v' b') := e ▸ eb ▸ h

set_option maxHeartbeats 2000000 in
theorem fnOrderOfMajorTable (bo : Option Addr) (n cap : Nat) (cs : List Int) (w : World) (h : Slb w bo n cap cs) :
    Calls Try.prog 7 #[.slice bo n cap] w (Says w (.bool true)) := by
  have hbig := h.big
  by_cases hn : n ≤ 1048576
  · go_enter Try.func7, Try.ntmps7
    go_wp2_with fail
    refine (drawOrderOfMajorTable_any _ _ _ _ _ h).mono ?_
    rintro e w1 ⟨u1, ys, rfl, o1, hl, t1⟩
    obtain ⟨adp, cpp, rfl, sp_1⟩ := o1.sl
    have Hl := hid hl
    clear hl o1
    by_cases hv : VR ys
    · have Hv := hid hv
      clear hv
      go_wp2_with fail
      refine (made2_to (omI_any _ _ _ ys _ sp_1) (onVR_yes Hv.out) (decide_eq_true Hv.out)).mono ?_
      rintro e w2 ⟨u2, rfl, o2, b2⟩
      have t2 := t1.trans (b2.mono t1.size)
      have sp_2 := sp_1.later b2
      obtain ⟨ada, cpa, rfl, sa_2⟩ := o2.sl
      clear o2
      go_wp2_with fail
      refine (made2_to (omS_any _ _ _ ys _ sp_2) (onVR_yes Hv.out) (decide_eq_true Hv.out)).mono ?_
      rintro e w3 ⟨u3, rfl, o3, b3⟩
      have t3 := t2.trans (b3.mono t2.size)
      have sp_3 := sp_2.later b3
      have sa_3 := sa_2.later b3
      obtain ⟨ade, cpe, rfl, se_3⟩ := o3.sl
      clear o3
      have Ho := hid (omT_valid Hv.out)
      go_wp2_with fail
      refine (says_tob (equalInts_any _ _ _ (omT ys) _ _ _ (omT ys) _ sa_3 se_3) (decide_eq_true rfl)).mono ?_
      rintro e w4 ⟨rfl, b4⟩
      have t4 := t3.trans (b4.mono t3.size)
      have sp_4 := sp_3.later b4
      have sa_4 := sa_3.later b4
      have se_4 := se_3.later b4
      go_wp2_with fail
      refine (made_to (mtabI_any _ _ _ (omT ys) _ sa_4) ((onV_yes Ho.out).trans (mtab_omT Hv.out))).mono ?_
      rintro e w5 ⟨u5, rfl, o5, b5⟩
      have t5 := t4.trans (b5.mono t4.size)
      have sp_5 := sp_4.later b5
      have sa_5 := sa_4.later b5
      have se_5 := se_4.later b5
      obtain ⟨adb, cpb, rfl, sb_5⟩ := o5.sl
      clear o5
      go_wp2_with fail
      refine (says_tob (equalInts_any _ _ _ ys _ _ _ ys _ sb_5 sp_5) (decide_eq_true rfl)).mono ?_
      rintro e w6 ⟨rfl, b6⟩
      have t6 := t5.trans (b6.mono t5.size)
      have sp_6 := sp_5.later b6
      have sa_6 := sa_5.later b6
      have se_6 := se_5.later b6
      have sb_6 := sb_5.later b6
      go_wp2_with fail
      refine (says_tob (validI_any _ _ _ (omT ys) _ sa_6) (decide_eq_true Ho.out)).mono ?_
      rintro e w7 ⟨rfl, b7⟩
      have t7 := t6.trans (b7.mono t6.size)
      have sp_7 := sp_6.later b7
      have sa_7 := sa_6.later b7
      have se_7 := se_6.later b7
      have sb_7 := sb_6.later b7
      go_wp2
      go_ret
      exact ⟨rfl, t7⟩
    · have Hv := hid hv
      clear hv
      go_wp2_with fail
      refine (made2_to (omI_any _ _ _ ys _ sp_1) (onVR_no Hv.out) (decide_eq_false Hv.out)).mono ?_
      rintro e w2 ⟨u2, rfl, o2, b2⟩
      have t2 := t1.trans (b2.mono t1.size)
      have sp_2 := sp_1.later b2
      obtain ⟨ada, cpa, rfl, sa_2⟩ := o2.sl
      clear o2
      go_wp2_with fail
      refine (made2_to (omS_any _ _ _ ys _ sp_2) (onVR_no Hv.out) (decide_eq_false Hv.out)).mono ?_
      rintro e w3 ⟨u3, rfl, o3, b3⟩
      have t3 := t2.trans (b3.mono t2.size)
      have sp_3 := sp_2.later b3
      have sa_3 := sa_2.later b3
      obtain ⟨ade, cpe, rfl, se_3⟩ := o3.sl
      clear o3
      go_wp2_with fail
      refine (says_tob (equalInts_any _ _ _ [] _ _ _ [] _ sa_3 se_3) (decide_eq_true rfl)).mono ?_
      rintro e w4 ⟨rfl, b4⟩
      have t4 := t3.trans (b4.mono t3.size)
      have sp_4 := sp_3.later b4
      have sa_4 := sa_3.later b4
      have se_4 := se_3.later b4
      go_wp2_with fail
      refine (says_tob (equalInts_any _ _ _ [] _ _ _ [] _ sa_4 se_4) (decide_eq_true rfl)).mono ?_
      rintro e w5 ⟨rfl, b5⟩
      have t5 := t4.trans (b5.mono t4.size)
      have sp_5 := sp_4.later b5
      have sa_5 := sa_4.later b5
      have se_5 := se_4.later b5
      go_wp2
      go_ret
      exact ⟨rfl, t5⟩
  · go_enter Try.func7, Try.ntmps7
    go_wp2
    go_ret
    exact ⟨rfl, Below.refl _ _⟩

end Go.Proofs.Ytlhphgldmefefab
