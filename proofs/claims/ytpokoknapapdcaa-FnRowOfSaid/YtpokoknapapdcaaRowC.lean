/- The rows of circles and of descents, in the program and in its model. No condition. -/
import Derived.Test.YtpokoknapapdcaaRowM
import Derived.Test.YtpokoknapapdcaaBnd
namespace Go.Proofs.Ytpokoknapapdcaa
open Go.RowKit

theorem Own.alloc' {w : World} {B : Nat} {u : Value} {ys : List Int} (h : Own w B u ys) (o : Obj) : Own (w.alloc o) B u ys := World.ownsRow.alloc h o
theorem Own.slAt {w : World} {B : Nat} {ao : Option Addr} {n cap : Nat} {ys : List Int} (h : Own w B (.slice ao n cap) ys) : Sl w ao n cap ys := h.read

set_option maxHeartbeats 1000000 in
theorem inRange_any (n lo hi : Int) (w : World) : Calls Try.prog 56 #[.int .i64 n, .int .i64 lo, .int .i64 hi] w fun e w' => e = .returned (.bool (decide (lo ≤ n ∧ n ≤ hi))) ∧ w = w' := by
  go_enter Try.func56, Try.ntmps56
  by_cases h1 : lo ≤ n <;> by_cases h2 : n ≤ hi
  all_goals go_wp2
  all_goals go_ret
  all_goals exact ⟨ret_eq (congrArg Value.bool (by simp [h1, h2])), rfl⟩

set_option maxHeartbeats 2000000 in
theorem cirI_yes (n : Nat) (w : World) (h7 : n ≤ 7) :
    Calls Try.prog 50 #[.int .i64 n] w (Made w (cir n)) := by
  go_enter Try.func50, Try.ntmps50
  have h7i : (n : Int) ≤ 7 := by omega
  go_wp2
  go_loopw [3, 13] (fun v i wr => ∃ (k : Nat) (ao' : Option Addr) (cap' : Nat), k ≤ n ∧ v = .slice ao' (k + 1) cap' ∧ i = .int .i64 k ∧ Below w.heap.size w wr ∧ Own wr w.heap.size (.slice ao' (k + 1) cap') (cir k))
    (fun _ i _ => n - (intOf i).toNat)
  case atStart => exact ⟨0, _, _, Nat.zero_le _, rfl, rfl, (Below.refl _ _).alloc (Nat.le_refl _) _, own_one w 1 _ (Nat.le_refl _)⟩
  case round =>
    obtain ⟨k, ao', cap', hk, rfl, rfl, hbr, ho⟩ := hrel
    have hsz := hbr.size
    by_cases hlt : k < n
    · have hi1 : (k : Int) < n := by omega
      go_wp2_with fail
      refine (timesI_any _ _ _ (cir k) _ _ _ [(k : Int), 1] _ ((ho.alloc' _).read) ((own_two wr k 1 w.heap.size hsz).read) (by omega) (by omega) (by omega) (by omega) (cir_bd (by omega)) (two_bd (by omega))).mono ?_
      rintro e w2 ⟨u2, rfl, ho2, hb2⟩
      have e : mul (cir k) [(k : Int), 1] = cir (k + 1) := rfl
      rw [e] at ho2
      obtain ⟨ao2, cap2, rfl, hs2⟩ := ho2.sl
      rw [cir_len (by omega)] at ho2 ⊢
      clear hs2 e
      go_wp2
      go_roundw
      case rel => exact ⟨k + 1, _, _, by omega, rfl, by go_num, (hbr.alloc hsz _).trans (hb2.mono (by simp; omega)), ho2.mono (by simp; omega)⟩
      case measure => simp [intOf]; omega
    · obtain rfl : k = n := by omega
      go_wp2
      go_ret
      exact ⟨_, rfl, ho, hbr⟩

set_option maxHeartbeats 1000000 in
theorem cirI_no (n : Int) (w : World) (h : n < 0 ∨ 7 < n) : Calls Try.prog 50 #[.int .i64 n] w (Made w []) := by
  go_enter Try.func50, Try.ntmps50
  rcases h with h | h
  · go_wp2
    go_ret
    exact ⟨_, rfl, Own.nil, Below.refl _ _⟩
  · have h0 : ¬ n < 0 := by omega
    go_wp2
    go_ret
    exact ⟨_, rfl, Own.nil, Below.refl _ _⟩

end Go.Proofs.Ytpokoknapapdcaa
