/- What the laws of rows ask beside: rows from the last number to the first one, sums and products. Conditions: of sums: few small numbers; of products: at most seven. -/
import Derived.Test.YtepikmkkbecdaaaLawFn
import Derived.Test.YtepikmkkbecdaaaDraw5
import Derived.Test.YtepikmkkbecdaaaRank
import Derived.Test.YtepikmkkbecdaaaMirRow
namespace Go.Proofs.Ytepikmkkbecdaaa
open Go.RowKit

theorem Sl.drewN {w : World} {ao : Option Addr} {n cap : Nat} {xs : List Int} (h : Sl w ao n cap xs) (m : Nat) : Sl (w.drewN m) ao n cap xs := ⟨h.len, h.le, h.max, h.row⟩

set_option maxHeartbeats 400000 in
theorem product_any (n : Nat) (w : World) (h : n ≤ 7) :
    Calls Try.prog 27 #[.int .i64 n] w (fun e w' => e = .returned (.int .i64 (fac n)) ∧ w' = w) := by
  go_enter Try.func27, Try.ntmps27
  go_wp2
  go_loop [3, 4] (fun v i => ∃ j : Nat, j ≤ n - 1 ∧ v = .int .i64 (fac (j + 1)) ∧ i = .int .i64 ((j : Int) + 2)) (fun _ i => n + 2 - (intOf i).toNat)
  case atStart => exact ⟨0, Nat.zero_le _, rfl, rfl⟩
  case round =>
    obtain ⟨j, hj, rfl, rfl⟩ := hrel
    by_cases hlt : j + 2 ≤ n
    · have hm := fac_mul (j := j + 1) (by omega)
      have e1 : ((j + 1 : Nat) : Int) + 1 = (j : Int) + 2 := by omega
      rw [e1] at hm
      have hi : (j : Int) + 2 ≤ n := by omega
      clear e1
      go_wp2
      go_round
      case rel => exact ⟨j + 1, by omega, by rw [hm], by go_num⟩
      case measure => simp [intOf]; omega
    · have hi : ¬ (j : Int) + 2 ≤ n := by omega
      have e : fac (j + 1) = fac n := by
        rcases Nat.lt_or_ge j (n - 1) with h1 | h1
        · omega
        · rcases Nat.eq_zero_or_pos n with h0 | h0
          · subst h0; obtain rfl : j = 0 := by omega
            rfl
          · obtain rfl : n = j + 1 := by omega
            rfl
      have He := hid e
      clear e
      go_wp2
      go_ret
      exact ⟨fac_ret He.out, rfl⟩

theorem product_says (n : Nat) (w : World) (h : n ≤ 7) : Calls Try.prog 27 #[.int .i64 n] w (Says w (.int .i64 (fac n))) :=
  (product_any n w h).mono (fun _ _ ⟨h1, h2⟩ => ⟨h1, h2 ▸ Below.refl _ _⟩)

end Go.Proofs.Ytepikmkkbecdaaa
