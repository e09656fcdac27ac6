/- A list that is among no others. Condition: at most a thousand lists. -/
import Derived.Test.YtjphaphnmclbcaaLawL
namespace Go.Proofs.Ytjphaphnmclbcaa
open Go.RowKit

theorem SlL.take {w : World} {ao : Option Addr} {n cap : Nat} {yss : List (List Int)} (h : SlL w ao n cap yss) {k : Nat} (hk : k ≤ n) : SlL w ao k cap (yss.take k) := by
  refine ⟨by rw [List.length_take, h.len]; omega, by have := h.le; omega, h.max, fun hn => ?_⟩
  obtain ⟨b, off, e, hlt, hc⟩ := h.row (by omega)
  refine ⟨b, off, e, hlt, fun j hj => ?_⟩
  have e2 : ell (yss.take k) j = ell yss j := by simp [ell, List.getD, hj]
  rw [e2]
  exact hc j (by omega)

set_option maxHeartbeats 1000000 in
theorem holdsL_no (ao : Option Addr) (n cap : Nat) (yss : List (List Int)) (bo : Option Addr) (m cap2 : Nat) (zs : List Int) (w : World) (h : SlL w ao n cap yss) (g : Sl w bo m cap2 zs) (hn : n ≤ 1000) (Hne : Hid (∀ j, j < n → ell yss j ≠ zs)) :
    Calls Try.prog 34 #[.slice ao n cap, .slice bo m cap2] w (Says w (.bool false)) := by
  have hbig := h.big
  go_enter Try.func34, Try.ntmps34
  go_wp2
  go_loopw [5] (fun i wr => ∃ k : Nat, k ≤ n ∧ i = .int .i64 k ∧ Below w.heap.size w wr) (fun i _ => n - (intOf i).toNat)
  case atStart => exact ⟨0, Nat.zero_le _, rfl, Below.refl _ _⟩
  case round =>
    obtain ⟨k, hk, rfl, hbr⟩ := hrel
    by_cases hlt : k < n
    · have hki : (k : Int) < n := by omega
      obtain ⟨b, off, rfl, hblt, hc⟩ := (h.later hbr).row (by omega)
      obtain ⟨ai, ci, hcell, hsi⟩ := hc k hlt
      have hg := g.later hbr
      clear hc
      go_wp2_with fail
      refine (says_tob (equalInts_any _ _ _ _ _ _ _ _ _ hsi hg) (decide_eq_false (Hne.out k hlt))).mono ?_
      rintro e w2 ⟨rfl, b2⟩
      have hb2 := hbr.trans (b2.mono hbr.size)
      go_wp2
      go_roundw
      case rel => exact ⟨k + 1, by omega, by go_num, hb2⟩
      case measure => simp [intOf]; omega
    · obtain rfl : k = n := by omega
      go_wp2
      go_ret
      exact ⟨rfl, hbr⟩

end Go.Proofs.Ytjphaphnmclbcaa
