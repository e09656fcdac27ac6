/- The walk of the exact law of ValidOrder. Condition of the law's own: at most 2^20 numbers, else it answers true at once. -/
import Derived.Test.YtagfmimaaedolabWrapS
import Derived.Test.YtagfmimaaedolabValidI
import Derived.Test.YtagfmimaaedolabCopy
namespace Go.Proofs.Ytagfmimaaedolab
open Go.RowKit

set_option maxHeartbeats 1000000 in
theorem exactValidOrder (ao : Option Addr) (n cap : Nat) (xs : List Int) (w : World) (h : Sl w ao n cap xs) :
    Calls Try.prog 11 #[.slice ao n cap] w (Says w (.bool true)) := by
  have hbig := h.big
  by_cases hn : n ≤ 1048576
  · go_enter Try.func11, Try.ntmps11
    go_wp2_with fail
    refine (toIntS_any _ _ _ xs _ h hn).mono ?_
    rintro e w1 ⟨u1, rfl, o1, b1⟩
    obtain ⟨a1, c1, rfl, s1⟩ := o1.sl
    go_wp2_with fail
    refine (validSW_any _ _ _ xs _ s1).mono ?_
    rintro e w2 ⟨rfl, b2⟩
    have t2 := b1.trans (b2.mono b1.size)
    go_wp2_with fail
    refine (toIntS_any _ _ _ xs _ (h.later t2) hn).mono ?_
    rintro e w3 ⟨u3, rfl, o3, b3⟩
    have t3 := t2.trans (b3.mono t2.size)
    obtain ⟨a3, c3, rfl, s3⟩ := o3.sl
    go_wp2_with fail
    refine (validI_any _ _ _ xs _ s3).mono ?_
    rintro e w4 ⟨rfl, b4⟩
    have t4 := t3.trans (b4.mono t3.size)
    go_wp2_with fail
    refine (toIntS_any _ _ _ xs _ (h.later t4) hn).mono ?_
    rintro e w5 ⟨u5, rfl, o5, b5⟩
    have t5 := t4.trans (b5.mono t4.size)
    obtain ⟨a5, c5, rfl, s5⟩ := o5.sl
    go_wp2_with fail
    refine (eqIntS_any _ _ _ xs _ _ _ xs _ ((s3.later b4).later b5) s5).mono ?_
    rintro e w6 ⟨rfl, b6⟩
    have t6 := t5.trans (b6.mono t5.size)
    go_wp2
    go_ret
    exact ⟨rfl, t6⟩
  · go_enter Try.func11, Try.ntmps11
    go_wp2
    go_ret
    exact ⟨rfl, Below.refl _ _⟩
end Go.Proofs.Ytagfmimaaedolab
