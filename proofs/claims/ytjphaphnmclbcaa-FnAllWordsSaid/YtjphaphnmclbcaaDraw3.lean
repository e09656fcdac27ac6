/- The orders and bent orders that the laws draw: whatever the bytes, a list of at most nine numbers. Condition: the bytes can be read. -/
import Derived.Test.YtjphaphnmclbcaaDraw2
namespace Go.Proofs.Ytjphaphnmclbcaa
open Go.RowKit

theorem grown_of_below {w w' : World} {row : Option Nat} (h : Below w.heap.size w w') : w.grownBy w' row := ⟨h.os, h.tape, h.output, h.size, fun k hk _ => h.block k hk⟩

theorem Own.farR {w : World} {B R : Nat} {u : Value} {ys : List Int} (h : Own w B u ys) (hR : R < B) : u.ownBlock = none ∨ u.ownBlock ≠ some R := by
  cases e : u.ownBlock with
  | none => exact Or.inl rfl
  | some k =>
    refine Or.inr (fun e2 => ?_)
    have := (h.blocks k e).1
    have := Option.some.inj e2
    omega

/-- A call that draws a list of n numbers: it makes a list and turns the reader. -/
def Drew (w : World) (R n Q : Nat) (e : Ending) (w' : World) : Prop := ∃ u ys q, e = .returned u ∧ Own w' w.heap.size u ys ∧ ys.length = n ∧ q ≤ Q ∧ Rdr w' R q ∧ w.grownBy w' (some R)

set_option maxHeartbeats 1000000 in
theorem anOrder_any (R q n : Nat) (w : World) (h : Rdr w R q) (hq : q ≤ 60000) (hn : n ≤ 8) :
    Calls Try.prog 96 #[.pointer (some ⟨R, 0, none⟩), .int .i64 n] w (Drew w R n (q + 8)) := by
  have hlt := h.lt
  go_enter Try.func96, Try.ntmps96
  go_wp2
  go_loopw [5, 6] (fun p x wr => ∃ (k : Nat) (ao : Option Addr) (cap : Nat) (ys : List Int), k ≤ n ∧ p = .slice ao k cap ∧ x = .int .i64 k ∧ Own wr w.heap.size (.slice ao k cap) ys ∧ Rdr wr R (q + k) ∧ w.grownBy wr (some R))
    (fun p _ _ => n - lenOf p)
  case atStart => exact ⟨0, _, _, [], Nat.zero_le _, rfl, rfl, own_lit w, h.below ((Below.refl _ _).alloc (Nat.le_refl _) _), World.grownBy_alloc w _ _⟩
  case round =>
    obtain ⟨k, ao, cap, ys, hk, rfl, rfl, ho, hr, hg⟩ := hrel
    by_cases hlt2 : k < n
    · go_wp2_with fail
      refine (pick_any R (q + k) ((k : Int) + 1) wr hr (by omega) (by omega)).mono ?_
      rintro e w1 ⟨v, rfl, hv0, hv1, hr1, hg1⟩
      obtain ⟨j, rfl⟩ := Int.eq_ofNat_of_zero_le hv0
      have hj : j ≤ k := by have := Int.max_eq_left (show (1 : Int) ≤ (k : Int) + 1 by omega); omega
      have ho1 := ho.kept hg1 (ho.farR hlt)
      have hyl := ho1.read.len
      clear hv0 hv1
      go_wp2_with fail
      refine (insertAt_any ao k cap ys k j w1 ho1.read ho1.nilcap hj (by omega)).mono ?_
      rintro e w2 ⟨u2, rfl, ho2, hb2⟩
      have hl2 : (ys.take j ++ [(k : Int)] ++ ys.drop j).length = k + 1 := by
        rw [List.length_append, List.length_append, List.length_take, List.length_drop, List.length_singleton, hyl]; omega
      have hsz : w.heap.size ≤ w1.heap.size := Nat.le_trans hg.size hg1.size
      have ho3 := ho2.mono hsz
      have hr2 := hr1.below hb2
      have hg2 := grown_trans (grown_trans hg hg1) (grown_of_below (row := some R) hb2)
      obtain ⟨ao2, cap2, rfl, -⟩ := ho3.sl
      rw [hl2] at ho3 ⊢
      clear ho2 hl2 hyl
      go_wp2
      go_roundw
      case rel => exact ⟨k + 1, _, _, _, by omega, rfl, by go_num, ho3, hr2, hg2⟩
      case measure => simp [lenOf]; omega
    · obtain rfl : k = n := by omega
      go_wp2
      go_ret
      exact ⟨_, ys, _, rfl, ho, ho.read.len, by omega, hr, hg⟩

theorem lit_arr (w : World) (fs : List Int) : Arr (w.alloc (.cells (fs.map (Value.int .i64)).toArray 3)) w.heap.size 3 fs := Arr.made w 3 fs

set_option maxHeartbeats 1000000 in
theorem goodOrder_any (R q : Nat) (w : World) (h : Rdr w R q) (hq : q ≤ 50000) :
    Calls Try.prog 108 #[.pointer (some ⟨R, 0, none⟩)] w fun e w' => ∃ n, n ≤ 7 ∧ Drew w R n (q + 9) e w' := by
  have hlt := h.lt
  have ha := lit_arr w [4, 5, 6, 3, 7, 2, 1, 0]
  have hr := h.below ((Below.refl w.heap.size w).alloc (Nat.le_refl _) (.cells ([4, 5, 6, 3, 7, 2, 1, 0].map (Value.int .i64)).toArray 3))
  have Ha := hid ha
  have Hr := hid hr
  clear ha hr
  go_enter Try.func108, Try.ntmps108
  go_wp2_with fail
  refine (one_any R q w.heap.size 8 3 [4, 5, 6, 3, 7, 2, 1, 0] _ Hr.out (by omega) Ha.out rfl (by omega) (by omega) (by omega)).mono ?_
  rintro e w1 ⟨j, hj, rfl, hr1, hg1⟩
  have hv : ∀ j, j < 8 → 0 ≤ el [4, 5, 6, 3, 7, 2, 1, 0] j ∧ el [4, 5, 6, 3, 7, 2, 1, 0] j ≤ 7 := by decide
  obtain ⟨n, hn⟩ := Int.eq_ofNat_of_zero_le (hv j hj).1
  have hn7 : n ≤ 7 := by have := (hv j hj).2; omega
  rw [hn]
  clear hv hn hj
  go_wp2_with fail
  refine (anOrder_any R (q + 1) n w1 hr1 (by omega) (by omega)).mono ?_
  rintro e w2 ⟨u, ys, q2, rfl, ho, hl, hq2, hr2, hg2⟩
  have hsz : w.heap.size ≤ w1.heap.size := Nat.le_trans (by simp) hg1.size
  go_wp2
  go_ret
  exact ⟨n, hn7, _, ys, q2, rfl, ho.mono hsz, hl, hq2, hr2, grown_trans (grown_trans (World.grownBy_alloc w _ _) hg1) hg2⟩

end Go.Proofs.Ytjphaphnmclbcaa
