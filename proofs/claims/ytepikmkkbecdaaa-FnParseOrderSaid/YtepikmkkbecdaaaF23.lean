/- The walk of the law of ParseOrder. Condition of the laws' own: at most 2^20 bytes. -/
import Derived.Test.YtepikmkkbecdaaaLawFn
import Derived.Test.YtepikmkkbecdaaaDrawS
namespace Go.Proofs.Ytepikmkkbecdaaa
open Go.RowKit

theorem made2_to2 {P : Program} {f : FuncId} {a : Array Value} {w : World} {v v' : List Int} {b b' : Bool} (h : Calls P f a w (Made2 w v b)) (e : v = v') (eb : b = b') : Calls P f a w (Made2 w v' b') := e ▸ eb ▸ h
theorem says_tos {P : Program} {f : FuncId} {a : Array Value} {w : World} {v v' : ByteArray} (h : Calls P f a w (Says w (.string v))) (e : v = v') : Calls P f a w (Says w (.string v')) := e ▸ h
theorem write_back (s : ByteArray) : strOfNums (dgs (prs s)) = s := by
  have e : dgs (prs s) = s.data.toList.map fun c => (c.toNat : Int) := by
    refine List.ext_getElem (by simp [dgs, prs]) (fun j h1 h2 => ?_)
    have hj : j < (prs s).length := by simpa [dgs] using h1
    simp only [dgs, List.getElem_map, List.getElem_range]
    rw [el_lt hj]
    simp only [prs, List.getElem_map]
    omega
  rw [e, strOfNums, List.map_map]
  have e2 : (s.data.toList.map ((fun n : Int => UInt8.ofNat n.toNat) ∘ fun c : UInt8 => (c.toNat : Int))) = s.data.toList := by
    conv => rhs; rw [← List.map_id s.data.toList]
    refine List.map_congr_left (fun c _ => ?_)
    simp
  rw [e2]

set_option maxHeartbeats 2000000 in
theorem fnParseOrder (bo : Option Addr) (n cap : Nat) (cs : List Int) (w : World) (h : Slb w bo n cap cs) :
    Calls Try.prog 10 #[.slice bo n cap] w (Says w (.bool true)) := by
  have hbig := h.big
  by_cases hn : n ≤ 1048576
  · go_enter Try.func10, Try.ntmps10
    go_wp2_with fail
    refine (drawParseOrder_any _ _ _ _ _ h).mono ?_
    rintro e w1 ⟨s, rfl, hs, t1⟩
    by_cases hv : Valid (prs s)
    · have Hv := hid hv
      clear hv
      go_wp2_with fail
      refine (made2_to2 (parseI_any s _ (by omega)) (onV_yes Hv.out) (decide_eq_true Hv.out)).mono ?_
      rintro e w2 ⟨u2, rfl, o2, b2⟩
      have t2 := t1.trans (b2.mono t1.size)
      obtain ⟨ada, cpa, rfl, sa_2⟩ := o2.sl
      clear o2
      go_wp2_with fail
      refine (made2_to2 (parseS_any s _ (by omega)) (onV_yes Hv.out) (decide_eq_true Hv.out)).mono ?_
      rintro e w3 ⟨u3, rfl, o3, b3⟩
      have t3 := t2.trans (b3.mono t2.size)
      have sa_3 := sa_2.later b3
      obtain ⟨adb, cpb, rfl, sb_3⟩ := o3.sl
      clear o3
      go_wp2_with fail
      refine (says_tob (equalInts_any _ _ _ (prs s) _ _ _ (prs s) _ sa_3 sb_3) (decide_eq_true rfl)).mono ?_
      rintro e w4 ⟨rfl, b4⟩
      have t4 := t3.trans (b4.mono t3.size)
      have sa_4 := sa_3.later b4
      have sb_4 := sb_3.later b4
      go_wp2_with fail
      refine (says_tos (textI_any _ _ _ (prs s) _ sa_4) ((txt_yes Hv.out).trans (write_back s))).mono ?_
      rintro e w5 ⟨rfl, b5⟩
      have t5 := t4.trans (b5.mono t4.size)
      have sa_5 := sa_4.later b5
      have sb_5 := sb_4.later b5
      go_wp2_with fail
      refine (says_tob (validI_any _ _ _ (prs s) _ sa_5) (decide_eq_true Hv.out)).mono ?_
      rintro e w6 ⟨rfl, b6⟩
      have t6 := t5.trans (b6.mono t5.size)
      have sa_6 := sa_5.later b6
      have sb_6 := sb_5.later b6
      go_wp2
      go_ret
      exact ⟨rfl, t6⟩
    · have Hv := hid hv
      clear hv
      go_wp2_with fail
      refine (made2_to2 (parseI_any s _ (by omega)) (onV_no Hv.out) (decide_eq_false Hv.out)).mono ?_
      rintro e w2 ⟨u2, rfl, o2, b2⟩
      have t2 := t1.trans (b2.mono t1.size)
      obtain ⟨ada, cpa, rfl, sa_2⟩ := o2.sl
      clear o2
      go_wp2_with fail
      refine (made2_to2 (parseS_any s _ (by omega)) (onV_no Hv.out) (decide_eq_false Hv.out)).mono ?_
      rintro e w3 ⟨u3, rfl, o3, b3⟩
      have t3 := t2.trans (b3.mono t2.size)
      have sa_3 := sa_2.later b3
      obtain ⟨adb, cpb, rfl, sb_3⟩ := o3.sl
      clear o3
      go_wp2_with fail
      refine (says_tob (equalInts_any _ _ _ [] _ _ _ [] _ sa_3 sb_3) (decide_eq_true rfl)).mono ?_
      rintro e w4 ⟨rfl, b4⟩
      have t4 := t3.trans (b4.mono t3.size)
      have sa_4 := sa_3.later b4
      have sb_4 := sb_3.later b4
      go_wp2_with fail
      refine (says_tob (equalInts_any _ _ _ [] _ _ _ [] _ sa_4 sb_4) (decide_eq_true rfl)).mono ?_
      rintro e w5 ⟨rfl, b5⟩
      have t5 := t4.trans (b5.mono t4.size)
      have sa_5 := sa_4.later b5
      have sb_5 := sb_4.later b5
      go_wp2
      go_ret
      exact ⟨rfl, t5⟩
  · go_enter Try.func10, Try.ntmps10
    go_wp2
    go_ret
    exact ⟨rfl, Below.refl _ _⟩

end Go.Proofs.Ytepikmkkbecdaaa
