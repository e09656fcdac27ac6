/- The draws of two orders: whatever the bytes, two lists of at most nine numbers. Condition: the bytes can be read. -/
import Derived.Test.YtjphaphnmclbcaaBne
namespace Go.Proofs.Ytjphaphnmclbcaa
open Go.RowKit

set_option maxHeartbeats 1000000 in
theorem anOrderN_any (R q n : Nat) (w : World) (h : Rdr w R q) (hq : q ≤ 60000) (hn : n ≤ 9) :
    Calls Try.prog 96 #[.pointer (some ⟨R, 0, none⟩), .int .i64 n] w (Drew w R n (q + 9)) := by
  have hlt := h.lt
  go_enter Try.func96, Try.ntmps96
  go_wp2
  go_loopw [5, 6] (fun p x wr => ∃ (k : Nat) (ao : Option Addr) (cap : Nat) (ys : List Int), k ≤ n ∧ p = .slice ao k cap ∧ x = .int .i64 k ∧ Own wr w.heap.size (.slice ao k cap) ys ∧ Rdr wr R (q + k) ∧ w.grownBy wr (some R))
    (fun p _ _ => n - lenOf p)
  case atStart => exact ⟨0, _, _, [], Nat.zero_le _, rfl, rfl, own_lit w, h.below ((Below.refl _ _).alloc (Nat.le_refl _) _), World.grownBy_alloc w _ _⟩
  case round =>
    obtain ⟨k, ao, cap, ys, hk, rfl, rfl, ho, hr, hg⟩ := hrel
    by_cases hlt2 : k < n
    · go_wp2_with fail
      refine (pick_any R (q + k) ((k : Int) + 1) wr hr (by omega) (by omega)).mono ?_
      rintro e w1 ⟨v, rfl, hv0, hv1, hr1, hg1⟩
      obtain ⟨j, rfl⟩ := Int.eq_ofNat_of_zero_le hv0
      have hj : j ≤ k := by have := Int.max_eq_left (show (1 : Int) ≤ (k : Int) + 1 by omega); omega
      have ho1 := ho.kept hg1 (ho.farR hlt)
      have hyl := ho1.read.len
      clear hv0 hv1
      go_wp2_with fail
      refine (insertAt_any ao k cap ys k j w1 ho1.read ho1.nilcap hj (by omega)).mono ?_
      rintro e w2 ⟨u2, rfl, ho2, hb2⟩
      have hl2 : (ys.take j ++ [(k : Int)] ++ ys.drop j).length = k + 1 := by
        rw [List.length_append, List.length_append, List.length_take, List.length_drop, List.length_singleton, hyl]; omega
      have hsz : w.heap.size ≤ w1.heap.size := Nat.le_trans hg.size hg1.size
      have ho3 := ho2.mono hsz
      have hr2 := hr1.below hb2
      have hg2 := grown_trans (grown_trans hg hg1) (grown_of_below (row := some R) hb2)
      obtain ⟨ao2, cap2, rfl, -⟩ := ho3.sl
      rw [hl2] at ho3 ⊢
      clear ho2 hl2 hyl
      go_wp2
      go_roundw
      case rel => exact ⟨k + 1, _, _, _, by omega, rfl, by go_num, ho3, hr2, hg2⟩
      case measure => simp [lenOf]; omega
    · obtain rfl : k = n := by omega
      go_wp2
      go_ret
      exact ⟨_, ys, _, rfl, ho, ho.read.len, by omega, hr, hg⟩

/-- What a law's draw of two lists leaves. -/
def Drew2 (w : World) (R : Nat) (e : Ending) (w' : World) : Prop := ∃ u v ys zs, e = .returned (.tuple #[u, v]) ∧ Own w' w.heap.size u ys ∧ Own w' w.heap.size v zs ∧ ys.length ≤ 9 ∧ zs.length ≤ 9 ∧ w.grownBy w' (some R)
def Drawn2 (w : World) (e : Ending) (w' : World) : Prop := ∃ u v ys zs, e = .returned (.tuple #[u, v]) ∧ Own w' w.heap.size u ys ∧ Own w' w.heap.size v zs ∧ ys.length ≤ 9 ∧ zs.length ≤ 9 ∧ Below w.heap.size w w'

end Go.Proofs.Ytjphaphnmclbcaa
