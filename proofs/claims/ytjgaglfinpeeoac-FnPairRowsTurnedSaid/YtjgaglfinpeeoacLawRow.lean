/- What the laws of rows ask beside: rows from the last number to the first one, sums and products. Conditions: of sums: few small numbers; of products: at most seven. -/
import Derived.Test.YtjgaglfinpeeoacBnd
import Derived.Test.YtjgaglfinpeeoacDraw5
import Derived.Test.YtjgaglfinpeeoacMirRow
namespace Go.Proofs.Ytjgaglfinpeeoac
open Go.RowKit

set_option maxHeartbeats 1000000 in
theorem totalB_any (ao : Option Addr) (n cap : Nat) (xs : List Int) (w : World) (h : Sl w ao n cap xs) (h7 : n ≤ 30) (hs : Hid (Bd xs 10000)) :
    Calls Try.prog 35 #[.slice ao n cap] w (Says w (.int .i64 (sumL xs))) := by
  have hbig := h.big
  have hlen := hid h.len
  go_enter Try.func35, Try.ntmps35
  go_wp2
  go_loopw [3, 4] (fun v i wr => ∃ (k : Nat), k ≤ n ∧ v = .int .i64 (sumTo xs k) ∧ i = .int .i64 k ∧ Below w.heap.size w wr)
    (fun _ i _ => n - (intOf i).toNat)
  case atStart => exact ⟨0, Nat.zero_le _, rfl, rfl, Below.refl _ _⟩
  case round =>
    obtain ⟨k, hk, rfl, rfl, hbr⟩ := hrel
    have hbd := sumTo_bd (M := 10000) (fun j _ => hs.out j) k (by rw [hlen.out]; exact hk)
    have hb2 : sumTo xs k ≤ 300000 := Int.le_trans hbd.2 (by have : (k : Int) * (10000 : Nat) ≤ 30 * (10000 : Nat) := Int.mul_le_mul_of_nonneg_right (by omega) (by omega); omega)
    have hb1 := hbd.1
    clear hbd
    by_cases hlt : k < n
    · obtain ⟨b, off, rfl, hblt, hc⟩ := h.row (by omega)
      have hcell := (hbr.cell (p := ⟨b, off + k, none⟩) hblt).trans (hc k hlt)
      have he := hs.out k
      have he0 := he.1
      have he1 := he.2
      clear hc he
      go_wp2
      go_roundw
      case rel => exact ⟨k + 1, by omega, by rw [sumTo], by go_num, hbr⟩
      case measure => simp [intOf]; omega
    · obtain rfl : k = n := by omega
      go_wp2
      go_ret
      exact says_int (by rw [sumL, hlen.out]) hbr

theorem Sl.drewN {w : World} {ao : Option Addr} {n cap : Nat} {xs : List Int} (h : Sl w ao n cap xs) (m : Nat) : Sl (w.drewN m) ao n cap xs := ⟨h.len, h.le, h.max, h.row⟩

set_option maxHeartbeats 1000000 in
theorem totalQ_any (ao : Option Addr) (n cap : Nat) (xs : List Int) (w : World) (h : Sl w ao n cap xs) (h7 : n ≤ 30) (hs : Hid (Bd xs 10000)) :
    Calls Try.prog 35 #[.slice ao n cap] w fun e w' => e = .returned (.int .i64 (sumL xs)) ∧ w' = w := by
  have hbig := h.big
  have hlen := hid h.len
  go_enter Try.func35, Try.ntmps35
  go_wp2
  go_loop [3, 4] (fun v i => ∃ (k : Nat), k ≤ n ∧ v = .int .i64 (sumTo xs k) ∧ i = .int .i64 k)
    (fun _ i => n - (intOf i).toNat)
  case atStart => exact ⟨0, Nat.zero_le _, rfl, rfl⟩
  case round =>
    obtain ⟨k, hk, rfl, rfl⟩ := hrel
    have hbd := sumTo_bd (M := 10000) (fun j _ => hs.out j) k (by rw [hlen.out]; exact hk)
    have hb2 : sumTo xs k ≤ 300000 := Int.le_trans hbd.2 (by have : (k : Int) * (10000 : Nat) ≤ 30 * (10000 : Nat) := Int.mul_le_mul_of_nonneg_right (by omega) (by omega); omega)
    have hb1 := hbd.1
    clear hbd
    by_cases hlt : k < n
    · obtain ⟨b, off, rfl, hblt, hc⟩ := h.row (by omega)
      have hcell := hc k hlt
      have he := hs.out k
      have he0 := he.1
      have he1 := he.2
      clear hc he
      go_wp2
      go_round
      case rel => exact ⟨k + 1, by omega, by rw [sumTo], by go_num⟩
      case measure => simp [intOf]; omega
    · obtain rfl : k = n := by omega
      go_wp2
      go_ret
      exact ⟨fac_ret (by rw [sumL, hlen.out]), rfl⟩

set_option maxHeartbeats 400000 in
theorem product_any (n : Nat) (w : World) (h : n ≤ 7) :
    Calls Try.prog 17 #[.int .i64 n] w (fun e w' => e = .returned (.int .i64 (fac n)) ∧ w' = w) := by
  go_enter Try.func17, Try.ntmps17
  go_wp2
  go_loop [3, 4] (fun v i => ∃ j : Nat, j ≤ n - 1 ∧ v = .int .i64 (fac (j + 1)) ∧ i = .int .i64 ((j : Int) + 2)) (fun _ i => n + 2 - (intOf i).toNat)
  case atStart => exact ⟨0, Nat.zero_le _, rfl, rfl⟩
  case round =>
    obtain ⟨j, hj, rfl, rfl⟩ := hrel
    by_cases hlt : j + 2 ≤ n
    · have hm := fac_mul (j := j + 1) (by omega)
      have e1 : ((j + 1 : Nat) : Int) + 1 = (j : Int) + 2 := by omega
      rw [e1] at hm
      have hi : (j : Int) + 2 ≤ n := by omega
      clear e1
      go_wp2
      go_round
      case rel => exact ⟨j + 1, by omega, by rw [hm], by go_num⟩
      case measure => simp [intOf]; omega
    · have hi : ¬ (j : Int) + 2 ≤ n := by omega
      have e : fac (j + 1) = fac n := by
        rcases Nat.lt_or_ge j (n - 1) with h1 | h1
        · omega
        · rcases Nat.eq_zero_or_pos n with h0 | h0
          · subst h0; obtain rfl : j = 0 := by omega
            rfl
          · obtain rfl : n = j + 1 := by omega
            rfl
      have He := hid e
      clear e
      go_wp2
      go_ret
      exact ⟨fac_ret He.out, rfl⟩

theorem product_says (n : Nat) (w : World) (h : n ≤ 7) : Calls Try.prog 17 #[.int .i64 n] w (Says w (.int .i64 (fac n))) :=
  (product_any n w h).mono (fun _ _ ⟨h1, h2⟩ => ⟨h1, h2 ▸ Below.refl _ _⟩)

end Go.Proofs.Ytjgaglfinpeeoac
