/- Whether numbers are a table, in the program and in its model. Condition: the list's cells can be read. -/
import Derived.Test.YtlhphgldmefefaaOrd1I
import Derived.Test.YtlhphgldmefefaaOrd1S
namespace Go.Proofs.Ytlhphgldmefefaa
open Go.RowKit

set_option maxHeartbeats 1000000 in
theorem vtI_any (ao : Option Addr) (n cap : Nat) (xs : List Int) (w : World) (h : Sl w ao n cap xs) :
    Calls Try.prog 95 #[.slice ao n cap] w (Says w (.bool (decide (VT xs)))) := by
  have hbig := h.big
  have hlen := hid h.len
  by_cases h7 : n ≤ 7
  · go_enter Try.func95, Try.ntmps95
    go_wp2
    go_loopw [10] (fun i wr => ∃ (k : Nat), k ≤ n ∧ i = .int .i64 k ∧ Below w.heap.size w wr ∧ Hid (∀ j, j < k → 0 ≤ el xs j ∧ el xs j ≤ (n : Int) - 1 - j))
      (fun i _ => n - (intOf i).toNat)
    case atStart => exact ⟨0, Nat.zero_le _, rfl, Below.refl _ _, fun j hj => by omega⟩
    case round =>
      obtain ⟨k, hk, rfl, hbr, hm⟩ := hrel
      by_cases hlt : k < n
      · obtain ⟨b, off, rfl, hblt, hc⟩ := h.row (by omega)
        have hcell := (hbr.cell (p := ⟨b, off + k, none⟩) hblt).trans (hc k hlt)
        have hkx : k < xs.length := by rw [hlen.out]; exact hlt
        clear hc
        by_cases h0 : 0 ≤ el xs k
        · by_cases h1 : el xs k ≤ (n : Int) - 1 - k
          · go_wp2
            go_roundw
            case rel => exact ⟨k + 1, by omega, by go_num, hbr, upto_step hm.out ⟨h0, h1⟩⟩
            case measure => simp [intOf]; omega
          · have hno : Hid (¬ VT xs) := fun v => h1 (by have := v.hi k hkx; rwa [hlen.out] at this)
            go_wp2
            go_ret
            exact says_false hno.out hbr
        · have hno : Hid (¬ VT xs) := fun v => h0 (v.lo k hkx)
          go_wp2
          go_ret
          exact says_false hno.out hbr
      · obtain rfl : k = n := by omega
        go_wp2
        go_ret
        exact says_true ⟨by rw [hlen.out]; exact h7, fun j hj => (hm.out j (by rw [hlen.out] at hj; exact hj)).1, fun j hj => by rw [hlen.out] at hj ⊢; exact (hm.out j hj).2⟩ hbr
  · have hno : Hid (¬ VT xs) := fun v => h7 (by have := v.len; rw [hlen.out] at this; exact this)
    go_enter Try.func95, Try.ntmps95
    go_wp2
    go_ret
    exact says_false hno.out (Below.refl _ _)

end Go.Proofs.Ytlhphgldmefefaa
