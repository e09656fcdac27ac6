/- The product of many rows, whatever list they come in. Condition: their cells can be read. -/
import Derived.Test.YtjphaphnmclbcaaMrw
import Derived.Test.YtjphaphnmclbcaaTm
namespace Go.Proofs.Ytjphaphnmclbcaa
open Go Go.RowKit

def prodQ (ps : List (List Int)) : Nat → List Int
  | 0 => [1]
  | k + 1 => mul (prodQ ps k) (ell ps k)

set_option maxHeartbeats 2000000 in
theorem prodOfC_any (ao0 : Option Addr) (m cap0 : Nat) (ps : List (List Int)) (w : World) (h0 : SlL w ao0 m cap0 ps) (hm0 : 0 < m) (hm : ps.length = m) (hm4 : m ≤ 4) (HB : Hid (∀ j, j < m → Bs (ell ps j) 1000000 ∧ 0 < (ell ps j).length ∧ (ell ps j).length ≤ 30))
    (HP : Hid (∀ k, k < m → Bs (prodQ ps k) 1000000 ∧ 0 < (prodQ ps k).length ∧ (prodQ ps k).length ≤ 30)) :
    Calls Try.prog 84 #[.slice ao0 m cap0] w (Made w (prodQ ps m)) := by
  have Hm := hid hm
  clear hm
  obtain ⟨b0, off0, rfl, hgl, hat⟩ := h0.row hm0
  have Hat := hid hat
  have hbig := h0.big
  clear hat
  go_enter Try.func84, Try.ntmps84
  go_wp2
  go_loopw [3, 9] (fun v i wr => ∃ (k q : Nat) (ao' : Option Addr) (cap' : Nat), k ≤ m ∧ v = .slice ao' q cap' ∧ i = .int .i64 k ∧ Below w.heap.size w wr ∧ Own wr w.heap.size (.slice ao' q cap') (prodQ ps k))
    (fun _ i _ => m - (intOf i).toNat)
  case atStart => exact ⟨0, _, _, _, Nat.zero_le _, rfl, rfl, (Below.refl _ _).alloc (Nat.le_refl _) _, own_one w 1 w.heap.size (Nat.le_refl _)⟩
  case round =>
    obtain ⟨k, q, ao', cap', hk, rfl, rfl, hbr, ho⟩ := hrel
    by_cases hlt : k < m
    · have hi1 : (k : Int) < m := by omega
      obtain ⟨ao, cap, hc, hs⟩ := Hat.out k hlt
      obtain ⟨n, hn⟩ : ∃ n, n = (ell ps k).length := ⟨_, rfl⟩
      rw [← hn] at hc hs
      have hcell := (hbr.cell (p := ⟨b0, off0 + k, none⟩) hgl).trans hc
      have hs2 := hs.later hbr
      have hq := ho.read.len
      have hB := HB.out k hlt
      have hP := HP.out k hlt
      have hq0 : 0 < q := by omega
      have hn0 : 0 < n := by omega
      have hq30 : q ≤ 30 := by omega
      have hn30 : n ≤ 30 := by omega
      have HBk := hid hB.1
      have HPk := hid hP.1
      clear hs hc hq hn hB hP
      go_wp2_with fail
      refine (timesI3_any _ _ _ (prodQ ps k) _ _ _ (ell ps k) _ ho.read hs2 hq0 hn0 hq30 hn30 HPk HBk).mono ?_
      rintro e w2 ⟨u2, rfl, o2, b2⟩
      have hb2 := hbr.trans (b2.mono hbr.size)
      have ho2 := o2.mono hbr.size
      obtain ⟨ad2, cp2, rfl, -⟩ := ho2.sl
      have e1 : mul (prodQ ps k) (ell ps k) = prodQ ps (k + 1) := rfl
      rw [e1] at ho2 ⊢
      obtain ⟨Q, hQ⟩ : ∃ Q, Q = (prodQ ps (k + 1)).length := ⟨_, rfl⟩
      rw [← hQ] at ho2 ⊢
      clear o2 b2 e1 hQ ho hs2 hcell
      go_wp2
      go_roundw
      case rel => exact ⟨k + 1, _, _, _, by omega, rfl, by go_num, hb2, ho2⟩
      case measure => simp [intOf]; omega
    · obtain rfl : k = m := by omega
      go_wp2
      go_ret
      exact ⟨_, rfl, ho, hbr⟩

end Go.Proofs.Ytjphaphnmclbcaa
