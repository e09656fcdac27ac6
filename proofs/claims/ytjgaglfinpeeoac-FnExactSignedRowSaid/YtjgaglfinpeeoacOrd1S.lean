/- The model's functions of one order that make a list: rising, RisingOrder, inverse, InverseOrder, turned, TurnOrder, OppositeOrder. Condition: the list's cells can be read. -/
import Derived.Test.YtjgaglfinpeeoacBnd
import Derived.Test.YtjgaglfinpeeoacValid
namespace Go.Proofs.Ytjgaglfinpeeoac
open Go.RowKit

theorem own_lit (w : World) : Own (w.alloc (.cells #[] 3)) w.heap.size (.slice (some ⟨w.heap.size, 0, none⟩) 0 0) [] :=
  World.ownsRow_lit w #[] 0 (Nat.le_refl _) (Nat.zero_le _) rfl

theorem own_lit_at {w : World} {B : Nat} (hB : B ≤ w.heap.size) : Own (w.alloc (.cells #[] 3)) B (.slice (some ⟨w.heap.size, 0, none⟩) 0 0) [] := (own_lit w).mono hB

set_option maxHeartbeats 400000 in
theorem rising_any (n : Nat) (w : World) (h : n ≤ 1000) :
    Calls Try.prog 119 #[.int .i64 n] w (Made w (rise n)) := by
  go_enter Try.func119, Try.ntmps119
  go_wp2
  go_loopw [3] (fun v wr => ∃ (k : Nat) (ao : Option Addr) (cap : Nat), k ≤ n ∧ v = .slice ao k cap ∧ Below w.heap.size w wr ∧ Own wr w.heap.size (.slice ao k cap) (rise k))
    (fun v _ => n - lenOf v)
  case atStart => exact ⟨0, _, _, Nat.zero_le _, rfl, (Below.refl _ _).alloc (Nat.le_refl _) _, own_lit w⟩
  case round =>
    obtain ⟨k, ao, cap, hk, rfl, hbr, ho⟩ := hrel
    by_cases hlt : k < n
    · have hsz := hbr.size
      have hl : (rise k).length ≤ 2000000 := by rw [rise_len]; omega
      go_wp2_with (at_builtin; refine app_int _ _ rfl _ _ rfl w.heap.size _ _ rfl ho rfl hl hsz ?_)
      intro u' w' ho' hg'
      have hb' := below_app hbr ho hg'
      obtain ⟨ao', cap', rfl, hs'⟩ := ho'.sl
      rw [← rise_succ, rise_len] at *
      go_wp2
      go_roundw
      case rel => exact ⟨k + 1, _, _, by omega, rfl, hb', ho'⟩
      case measure => simp [lenOf]; omega
    · obtain rfl : k = n := by omega
      go_wp2
      go_ret
      exact ⟨_, rfl, ho, hbr⟩

end Go.Proofs.Ytjgaglfinpeeoac
