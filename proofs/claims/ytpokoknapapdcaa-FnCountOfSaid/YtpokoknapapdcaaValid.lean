/- What the program and its model answer when asked whether numbers are an order: both say so exactly if they are. No condition but that the list's cells can be read. -/
import Derived.Test.YtpokoknapapdcaaKit
import Derived.Test.YtpokoknapapdcaaChecked
namespace Go.Proofs.Ytpokoknapapdcaa
open Go.RowKit

set_option maxHeartbeats 1000000 in
theorem validS_any (ao : Option Addr) (n cap : Nat) (xs : List Int) (w : World) (h : Sl w ao n cap xs) :
    Calls Try.prog 65 #[.slice ao n cap] w (Says w (.bool (decide (Valid xs)))) := by
  have hbig := h.big
  have hlen := hid h.len
  go_enter Try.func65, Try.ntmps65
  go_wp2
  go_loopw [3] (fun i wr => ∃ (k : Nat), k ≤ n ∧ i = .int .i64 k ∧ Below w.heap.size w wr ∧ Hid (∀ j, j < k → 0 ≤ el xs j ∧ el xs j < n ∧ ∀ t, t < j → el xs t ≠ el xs j))
    (fun i _ => n - (intOf i).toNat)
  case atStart => exact ⟨0, Nat.zero_le _, rfl, Below.refl _ _, fun j hj => by omega⟩
  case round =>
    obtain ⟨k, hk, rfl, hbr, hm⟩ := hrel
    by_cases hlt : k < n
    · obtain ⟨b, off, rfl, hblt, hc⟩ := h.row (by omega)
      have hcell := (hbr.cell (p := ⟨b, off + k, none⟩) hblt).trans (hc k hlt)
      by_cases hr : 0 ≤ el xs k ∧ el xs k ≤ (n : Int) - 1
      · obtain ⟨hr0, hr1⟩ := hr
        have hcc := hid hc
        clear hc
        go_wp2
        obtain ⟨wo, hwo⟩ : ∃ wo : World, wo = wr := ⟨_, rfl⟩
        subst hwo
        go_loopw [4] (fun i wr => ∃ (j : Nat), j ≤ k ∧ i = .int .i64 j ∧ Below w.heap.size w wr ∧ Hid (∀ t, t < j → el xs t ≠ el xs k))
          (fun i _ => k - (intOf i).toNat)
        case atStart => exact ⟨0, Nat.zero_le _, rfl, hbr, fun j hj => by omega⟩
        case round =>
          obtain ⟨j, hj, rfl, hbr2, hm2⟩ := hrel
          have hcellk := (hbr2.cell (p := ⟨b, off + k, none⟩) hblt).trans (hcc.out k hlt)
          by_cases hjlt : j < k
          · have hcell2 := (hbr2.cell (p := ⟨b, off + j, none⟩) hblt).trans (hcc.out j (by omega))
            have hi1 : (k : Int) < n := by omega
            have hi2 : (j : Int) < n := by omega
            go_wp2
            go_quiet (fail)
            go_wp2
            · have he : (el xs j == el xs k) = true := by assumption
              go_ret
              exact says_false (fun v => v.ne j k hjlt (by rw [hlen.out]; exact hlt) (not_ne he)) (drewN_below hbr2 _)
            · have he : (el xs j == el xs k) = false := by assumption
              go_roundw
              case rel => exact ⟨j + 1, by omega, by go_num, drewN_below hbr2 _, upto_step hm2.out (is_ne he)⟩
              case measure => simp [intOf]; omega
          · obtain rfl : j = k := by omega
            go_wp2
            go_roundw
            case rel => exact ⟨j + 1, by omega, by go_num, hbr2, upto_step hm.out ⟨hr0, by omega, hm2.out⟩⟩
            case measure => simp [intOf]; omega
      · have hno : Hid (¬ Valid xs) := fun v => hr ⟨v.lo k (by rw [hlen.out]; exact hlt), by have := v.hi k (by rw [hlen.out]; exact hlt); rw [hlen.out] at this; omega⟩
        have hnr := hid hr
        clear hc
        by_cases hr0 : 0 ≤ el xs k
        · have hr1 : ¬ el xs k ≤ (n : Int) - 1 := fun e => hnr.out ⟨hr0, e⟩
          clear hr
          go_wp2
          go_ret
          exact says_false hno.out hbr
        · clear hr
          go_wp2
          go_ret
          exact says_false hno.out hbr
    · obtain rfl : k = n := by omega
      go_wp2
      go_ret
      refine says_bool (decide_eq_decide.2 ⟨fun h7 => ⟨by rw [hlen.out]; omega, fun j hj => (hm.out j (by rw [hlen.out] at hj; exact hj)).1, fun j hj => ?_, fun i j hij hj => (hm.out j (by rw [hlen.out] at hj; exact hj)).2.2 i hij⟩, fun v => ?_⟩) hbr
      · rw [hlen.out] at hj ⊢
        exact (hm.out j hj).2.1
      · have := v.len
        rw [hlen.out] at this
        omega
end Go.Proofs.Ytpokoknapapdcaa
