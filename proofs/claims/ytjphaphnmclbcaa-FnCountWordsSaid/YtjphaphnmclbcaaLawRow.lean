/- What the laws of rows ask beside: rows from the last number to the first one, sums and products. Conditions: of sums: few small numbers; of products: at most seven. -/
import Derived.Test.YtjphaphnmclbcaaBnh
import Derived.Test.YtjphaphnmclbcaaDraw5
import Derived.Test.YtjphaphnmclbcaaBnf
namespace Go.Proofs.Ytjphaphnmclbcaa
open Go.RowKit

set_option maxHeartbeats 1000000 in
theorem mirrored_any (ao : Option Addr) (n cap : Nat) (xs : List Int) (w : World) (h : Sl w ao n cap xs) (h7 : n ≤ 1000) :
    Calls Try.prog 45 #[.slice ao n cap] w (Made w (turn xs)) := by
  have hbig := h.big
  have hlen := hid h.len
  go_enter Try.func45, Try.ntmps45
  go_wp2
  go_loopw [3, 4] (fun v i wr => ∃ (k : Nat) (ao' : Option Addr) (cap' : Nat), k ≤ n ∧ v = .slice ao' k cap' ∧ i = .int .i64 ((n : Int) - 1 - k) ∧ Below w.heap.size w wr ∧ Own wr w.heap.size (.slice ao' k cap') ((List.range k).map (fun j => el xs (n - 1 - j))))
    (fun v _ _ => n - lenOf v)
  case atStart => exact ⟨0, _, _, Nat.zero_le _, rfl, by simp, (Below.refl _ _).alloc (Nat.le_refl _) _, own_lit w⟩
  case round =>
    obtain ⟨k, ao', cap', hk, rfl, rfl, hbr, ho⟩ := hrel
    by_cases hlt : k < n
    · obtain ⟨b, off, rfl, hblt, hc⟩ := h.row (by omega)
      have hsz := hbr.size
      have hl : ((List.range k).map (fun j => el xs (n - 1 - j))).length ≤ 2000000 := by rw [map_range_len]; omega
      obtain ⟨t, ht⟩ : ∃ t, Hid (t = n - 1 - k) := ⟨_, rfl⟩
      have hti : (n : Int) - 1 - k = t := by have := ht.out; omega
      rw [hti]
      have htn : t < n := by have := ht.out; omega
      have hti2 : (t : Int) < n := by omega
      have hcell := (hbr.cell (p := ⟨b, off + t, none⟩) hblt).trans (hc t htn)
      have Hti := hid hti
      clear hc hti
      go_wp2_with (at_builtin; refine app_int _ _ rfl _ _ rfl w.heap.size _ _ rfl ho rfl hl hsz ?_)
      intro u' w' ho' hg'
      have hb' := below_app hbr ho hg'
      obtain ⟨ao', cap', rfl, hs'⟩ := ho'.sl
      have e : el xs t = el xs (n - 1 - k) := by rw [ht.out]
      rw [e, ← map_range_succ (fun j => el xs (n - 1 - j)), map_range_len] at ho'
      rw [e, ← map_range_succ (fun j => el xs (n - 1 - j)), map_range_len]
      clear hs' e
      go_wp2
      go_roundw
      case rel => exact ⟨k + 1, _, _, by omega, rfl, by have := Hti.out; go_num, hb', ho'⟩
      case measure => simp [lenOf]; omega
    · obtain rfl : k = n := by omega
      have hneg : (k : Int) - 1 - k = -1 := by omega
      rw [hneg]
      clear hneg
      go_wp2
      go_ret
      refine ⟨_, rfl, ?_, hbr⟩
      rw [turn, hlen.out]
      exact ho

set_option maxHeartbeats 1000000 in
theorem totalB_any (ao : Option Addr) (n cap : Nat) (xs : List Int) (w : World) (h : Sl w ao n cap xs) (h7 : n ≤ 30) (hs : Hid (Bd xs 10000)) :
    Calls Try.prog 32 #[.slice ao n cap] w (Says w (.int .i64 (sumL xs))) := by
  have hbig := h.big
  have hlen := hid h.len
  go_enter Try.func32, Try.ntmps32
  go_wp2
  go_loopw [3, 4] (fun v i wr => ∃ (k : Nat), k ≤ n ∧ v = .int .i64 (sumTo xs k) ∧ i = .int .i64 k ∧ Below w.heap.size w wr)
    (fun _ i _ => n - (intOf i).toNat)
  case atStart => exact ⟨0, Nat.zero_le _, rfl, rfl, Below.refl _ _⟩
  case round =>
    obtain ⟨k, hk, rfl, rfl, hbr⟩ := hrel
    have hbd := sumTo_bd (M := 10000) (fun j _ => hs.out j) k (by rw [hlen.out]; exact hk)
    have hb2 : sumTo xs k ≤ 300000 := Int.le_trans hbd.2 (by have : (k : Int) * (10000 : Nat) ≤ 30 * (10000 : Nat) := Int.mul_le_mul_of_nonneg_right (by omega) (by omega); omega)
    have hb1 := hbd.1
    clear hbd
    by_cases hlt : k < n
    · obtain ⟨b, off, rfl, hblt, hc⟩ := h.row (by omega)
      have hcell := (hbr.cell (p := ⟨b, off + k, none⟩) hblt).trans (hc k hlt)
      have he := hs.out k
      have he0 := he.1
      have he1 := he.2
      clear hc he
      go_wp2
      go_roundw
      case rel => exact ⟨k + 1, by omega, by rw [sumTo], by go_num, hbr⟩
      case measure => simp [intOf]; omega
    · obtain rfl : k = n := by omega
      go_wp2
      go_ret
      exact says_int (by rw [sumL, hlen.out]) hbr

theorem Sl.drewN {w : World} {ao : Option Addr} {n cap : Nat} {xs : List Int} (h : Sl w ao n cap xs) (m : Nat) : Sl (w.drewN m) ao n cap xs := ⟨h.len, h.le, h.max, h.row⟩

set_option maxHeartbeats 1000000 in
theorem totalQ_any (ao : Option Addr) (n cap : Nat) (xs : List Int) (w : World) (h : Sl w ao n cap xs) (h7 : n ≤ 30) (hs : Hid (Bd xs 10000)) :
    Calls Try.prog 32 #[.slice ao n cap] w fun e w' => e = .returned (.int .i64 (sumL xs)) ∧ w' = w := by
  have hbig := h.big
  have hlen := hid h.len
  go_enter Try.func32, Try.ntmps32
  go_wp2
  go_loop [3, 4] (fun v i => ∃ (k : Nat), k ≤ n ∧ v = .int .i64 (sumTo xs k) ∧ i = .int .i64 k)
    (fun _ i => n - (intOf i).toNat)
  case atStart => exact ⟨0, Nat.zero_le _, rfl, rfl⟩
  case round =>
    obtain ⟨k, hk, rfl, rfl⟩ := hrel
    have hbd := sumTo_bd (M := 10000) (fun j _ => hs.out j) k (by rw [hlen.out]; exact hk)
    have hb2 : sumTo xs k ≤ 300000 := Int.le_trans hbd.2 (by have : (k : Int) * (10000 : Nat) ≤ 30 * (10000 : Nat) := Int.mul_le_mul_of_nonneg_right (by omega) (by omega); omega)
    have hb1 := hbd.1
    clear hbd
    by_cases hlt : k < n
    · obtain ⟨b, off, rfl, hblt, hc⟩ := h.row (by omega)
      have hcell := hc k hlt
      have he := hs.out k
      have he0 := he.1
      have he1 := he.2
      clear hc he
      go_wp2
      go_round
      case rel => exact ⟨k + 1, by omega, by rw [sumTo], by go_num⟩
      case measure => simp [intOf]; omega
    · obtain rfl : k = n := by omega
      go_wp2
      go_ret
      exact ⟨fac_ret (by rw [sumL, hlen.out]), rfl⟩

end Go.Proofs.Ytjphaphnmclbcaa
