/- The rows of products, in the program and in its model. No condition. -/
import Derived.Test.YtjphaphnmclbcaaRep
namespace Go.Proofs.Ytjphaphnmclbcaa
open Go.RowKit

set_option maxHeartbeats 2000000 in
theorem prodI_yes (n : Nat) (w : World) (h7 : n ≤ 7) :
    Calls Try.prog 49 #[.int .i64 n] w (Made w (prw n)) := by
  go_enter Try.func49, Try.ntmps49
  have h7i : (n : Int) ≤ 7 := by omega
  go_wp2
  go_loopw [3, 4] (fun v i wr => ∃ (k m : Nat) (ao' : Option Addr) (cap' : Nat), 1 ≤ k ∧ k ≤ n + 1 ∧ v = .slice ao' m cap' ∧ i = .int .i64 k ∧ Below w.heap.size w wr ∧ Own wr w.heap.size (.slice ao' m cap') (prw (k - 1)))
    (fun _ i _ => n + 1 - (intOf i).toNat)
  case atStart => exact ⟨1, _, _, _, Nat.le_refl _, by omega, rfl, rfl, (Below.refl _ _).alloc (Nat.le_refl _) _, own_one w 1 _ (Nat.le_refl _)⟩
  case round =>
    obtain ⟨k, m, ao', cap', hk1, hk, rfl, rfl, hbr, ho⟩ := hrel
    have hsz := hbr.size
    by_cases hlt : k ≤ n
    · have hi1 : (k : Int) ≤ n := by omega
      have hf := prw_fits (k - 1) (by omega)
      have hm := ho.read.len
      have hm1 : 0 < m := by omega
      have hm2 : m ≤ 30 := by omega
      clear hf hm
      go_wp2_with fail
      refine (repeat_any _ _ k _ (own_one wr 1 w.heap.size hsz).read hk1 (by omega)).mono ?_
      rintro e w2 ⟨u2, rfl, ho2, hb2⟩
      obtain ⟨ao2, cap2, rfl, hs2⟩ := ho2.sl
      have hl2 : (List.replicate k (1 : Int)).length = k := by simp
      rw [hl2] at hs2 ⊢
      have hr2 := (ho.alloc' (.cells #[.int .i64 1] 3)).read.later hb2
      clear hl2 ho2
      go_wp2_with fail
      refine (timesI_any _ _ _ (prw (k - 1)) _ _ _ (onesL k) _ hr2 hs2 hm1 (by omega) hm2 (by omega) (prw_bd (by omega)) (onesL_bd k)).mono ?_
      rintro e w3 ⟨u3, rfl, ho3, hb3⟩
      have e : mul (prw (k - 1)) (onesL k) = prw k := by
        obtain ⟨j, rfl⟩ : ∃ j, k = j + 1 := ⟨k - 1, by omega⟩
        rfl
      rw [e] at ho3
      have hl' := hid (rfl : (prw k).length = (prw k).length)
      obtain ⟨ao3, cap3, rfl, hs3⟩ := ho3.sl
      have hsa : w.heap.size ≤ (wr.alloc (.cells #[.int .i64 1] 3)).heap.size := by simp; omega
      have hb13 := ((hbr.alloc hsz (.cells #[.int .i64 1] 3)).trans (hb2.mono hsa))
      clear e
      go_wp2
      go_roundw
      case rel => exact ⟨k + 1, _, _, _, by omega, by omega, rfl, by go_num, hb13.trans (hb3.mono hb13.size), by rw [Nat.add_sub_cancel]; exact ho3.mono hb13.size⟩
      case measure => simp [intOf]; omega
    · obtain rfl : k = n + 1 := by omega
      rw [Nat.add_sub_cancel] at ho
      have hi1 : ¬ (n : Int) + 1 ≤ n := by omega
      go_wp2
      go_ret
      exact ⟨_, rfl, ho, hbr⟩

set_option maxHeartbeats 1000000 in
theorem prodI_no (n : Int) (w : World) (h : n < 0 ∨ 7 < n) : Calls Try.prog 49 #[.int .i64 n] w (Made w []) := by
  go_enter Try.func49, Try.ntmps49
  rcases h with h | h
  · go_wp2
    go_ret
    exact ⟨_, rfl, Own.nil, Below.refl _ _⟩
  · have h0 : ¬ n < 0 := by omega
    go_wp2
    go_ret
    exact ⟨_, rfl, Own.nil, Below.refl _ _⟩

end Go.Proofs.Ytjphaphnmclbcaa
