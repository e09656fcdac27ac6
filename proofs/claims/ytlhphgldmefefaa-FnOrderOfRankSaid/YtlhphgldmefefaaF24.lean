/- The walk of the law of OrderOfRank. Condition of the laws' own: at most 2^20 bytes. -/
import Derived.Test.YtlhphgldmefefaaLawFn
import Derived.Test.YtlhphgldmefefaaLawRow
import Derived.Test.YtlhphgldmefefaaDrawR
import Derived.Test.YtlhphgldmefefaaOfR
namespace Go.Proofs.Ytlhphgldmefefaa
open Go.RowKit

theorem made2_to'' {P : Program} {f : FuncId} {a : Array Value} {w : World} {v v' : List Int} {b b' : Bool} (h : Calls P f a w (Made2 w v b)) (e : v = v') (eb : b = b') : Calls P f a w (Made2 w v' b') := e ▸ eb ▸ h

set_option maxHeartbeats 2000000 in
theorem fnOrderOfRank (bo : Option Addr) (n cap : Nat) (cs : List Int) (w : World) (h : Slb w bo n cap cs) :
    Calls Try.prog 3 #[.slice bo n cap] w (Says w (.bool true)) := by
  have hbig := h.big
  by_cases hn : n ≤ 1048576
  · go_enter Try.func3, Try.ntmps3
    go_wp2_with fail
    refine (drawOrderOfRank_any _ _ _ _ _ h).mono ?_
    rintro e w1 ⟨x, r, rfl, x0, x1, r0, r1, t1⟩
    by_cases hv : RK x r
    · have Hk := hid hv
      clear x0 x1 r0 r1 hv
      obtain ⟨m, hm⟩ := Int.eq_ofNat_of_zero_le Hk.out.1
      subst hm
      have hm7 : m ≤ 7 := by have := Hk.out.2.1; omega
      have hr0 := Hk.out.2.2.1
      have hr1 : r < fac m := by have := Hk.out.2.2.2; rwa [Int.toNat_natCast] at this
      have hf := fac_le hm7
      obtain ⟨zs, hzs⟩ : ∃ zs, zs = ordT (digs m r) := ⟨_, rfl⟩
      have hz : zs.length = m := by rw [hzs, ordT_len, digs_len]
      have Hv : Hid (Valid zs) := hid (by rw [hzs]; exact ordT_valid (digs_vt hm7))
      have Hr : Hid (rk zs = r) := hid (by rw [hzs]; exact rank_digs hm7 hr0 hr1)
      have He : Hid (onR (m : Int) r = zs) := hid ((onR_yes Hk.out).trans (by rw [Int.toNat_natCast, ← hzs]))
      have hr63 : r ≤ 9223372036854775807 := by omega
      have Hz := hid hz
      clear hzs hf hr0 hr1 hz
      go_wp2_with fail
      refine (made2_to'' (ofRI_any (m : Int) r _ hr63) He.out (isR_yes Hk.out)).mono ?_
      rintro e w2 ⟨u2, rfl, o2, b2⟩
      have t2 := t1.trans (b2.mono t1.size)
      obtain ⟨adb, cpb, rfl, sb_2⟩ := o2.sl
      clear o2
      go_wp2_with fail
      refine (made2_to'' (ofRS_any (m : Int) r _) He.out (isR_yes Hk.out)).mono ?_
      rintro e w3 ⟨u3, rfl, o3, b3⟩
      have t3 := t2.trans (b3.mono t2.size)
      have sb_3 := sb_2.later b3
      obtain ⟨adg, cpg, rfl, sg_3⟩ := o3.sl
      clear o3
      go_wp2_with fail
      refine (says_tob (equalInts_any _ _ _ zs _ _ _ zs _ sb_3 sg_3) (decide_eq_true rfl)).mono ?_
      rintro e w4 ⟨rfl, b4⟩
      have t4 := t3.trans (b4.mono t3.size)
      have sb_4 := sb_3.later b4
      have sg_4 := sg_3.later b4
      go_wp2_with fail
      refine (says_to (rankI_any _ _ _ zs _ sb_4) ((onVi_yes Hv.out).trans Hr.out)).mono ?_
      rintro e w5 ⟨rfl, b5⟩
      have t5 := t4.trans (b5.mono t4.size)
      have sb_5 := sb_4.later b5
      have sg_5 := sg_4.later b5
      have hz := Hz.out
      clear Hz
      subst hz
      go_wp2
      go_ret
      exact ⟨rfl, t5⟩
    · have Hn := hid hv
      clear hv
      have hr63 : r ≤ 9223372036854775807 := by omega
      clear x0 x1 r0 r1
      go_wp2_with fail
      refine (made2_to'' (ofRI_any x r _ hr63) (onR_no Hn.out) (isR_no Hn.out)).mono ?_
      rintro e w2 ⟨u2, rfl, o2, b2⟩
      have t2 := t1.trans (b2.mono t1.size)
      obtain ⟨adb, cpb, rfl, sb_2⟩ := o2.sl
      clear o2
      go_wp2_with fail
      refine (made2_to'' (ofRS_any x r _) (onR_no Hn.out) (isR_no Hn.out)).mono ?_
      rintro e w3 ⟨u3, rfl, o3, b3⟩
      have t3 := t2.trans (b3.mono t2.size)
      have sb_3 := sb_2.later b3
      obtain ⟨adg, cpg, rfl, sg_3⟩ := o3.sl
      clear o3
      go_wp2_with fail
      refine (says_tob (equalInts_any _ _ _ [] _ _ _ [] _ sb_3 sg_3) (decide_eq_true rfl)).mono ?_
      rintro e w4 ⟨rfl, b4⟩
      have t4 := t3.trans (b4.mono t3.size)
      have sb_4 := sb_3.later b4
      have sg_4 := sg_3.later b4
      go_wp2_with fail
      refine (says_tob (equalInts_any _ _ _ [] _ _ _ [] _ sb_4 sg_4) (decide_eq_true rfl)).mono ?_
      rintro e w5 ⟨rfl, b5⟩
      have t5 := t4.trans (b5.mono t4.size)
      have sb_5 := sb_4.later b5
      have sg_5 := sg_4.later b5
      go_wp2
      go_ret
      exact ⟨rfl, t5⟩
  · go_enter Try.func3, Try.ntmps3
    go_wp2
    go_ret
    exact ⟨rfl, Below.refl _ _⟩

end Go.Proofs.Ytlhphgldmefefaa
