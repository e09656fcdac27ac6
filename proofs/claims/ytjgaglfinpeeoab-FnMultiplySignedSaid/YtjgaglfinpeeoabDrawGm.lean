/- The draw of two signed orders. Condition: the bytes can be read. -/
import Derived.Test.YtjgaglfinpeeoabDrawG
namespace Go.Proofs.Ytjgaglfinpeeoab
open Go.RowKit

/-- What a law's draw of two lists of numbers leaves; nothing that was there has turned. -/
def DrawnG2 (w : World) (e : Ending) (w' : World) : Prop := ∃ u v xs ys, e = .returned (.tuple #[u, v]) ∧ Own w' w.heap.size u xs ∧ Own w' w.heap.size v ys ∧ Hid (R64 xs) ∧ Hid (R64 ys) ∧ xs.length ≤ 20 ∧ ys.length ≤ 20 ∧ Below w.heap.size w w'

set_option maxHeartbeats 2000000 in
theorem drawMultiplySigned_any (bo : Option Addr) (n cap : Nat) (cs : List Int) (w : World) (h : Slb w bo n cap cs) :
    Calls Try.prog 12 #[.slice bo n cap] w (DrawnG2 w) := by
  go_enter Try.func12, Try.ntmps12
  go_wp2_with fail
  refine (newReader_any bo n cap cs w h).mono ?_
  rintro e w1 ⟨rfl, hr1, hb1⟩
  have hlt := hr1.lt
  go_wp2_with fail
  refine (someSigned_any w.heap.size 0 w1 hr1 (by omega)).mono ?_
  rintro e w2 ⟨u, xs, q, rfl, ho, hl, hq, hr2, hg2, h64⟩
  have hB1 : w.heap.size < w1.heap.size := hlt
  have hB2 : w1.heap.size ≤ w2.heap.size := hg2.size
  go_wp2_with fail
  refine (pick_any w.heap.size q 16 w2 hr2 (by omega) (by omega)).mono ?_
  rintro e w3 ⟨v, rfl, hv0, hv1, hr3, hg3⟩
  have ho3 := ho.kept hg3 (ho.farR hB1)
  have hG3 := grown_trans hg2 hg3
  have hB3 : w1.heap.size ≤ w3.heap.size := hG3.size
  obtain ⟨ax, cx, rfl, -⟩ := ho3.sl
  have Hl := hid hl
  obtain ⟨m, hm⟩ : ∃ m, xs.length = m := ⟨_, rfl⟩
  rw [hm] at ho3 ho hl ⊢
  have Hm := hid hm
  clear hm hv0 hv1 ho
  by_cases hs : v = 0 ∨ 5 < m
  · have Hs := hid hs
    have key : ∀ (hvm : (v == 0) = true ∨ ((v == 0) = false ∧ (5 : Int) < m)), Hid True := fun _ => trivial
    clear key
    by_cases hv : v = 0
    · have hv2 : (v == 0) = true := by simpa using hv
      clear hv hs
      go_wp2_with fail
      refine (someSigned_any w.heap.size (q + 1) w3 hr3 (by omega)).mono ?_
      rintro e w4 ⟨u4, ys, q4, rfl, ho4, hl4, hq4, hr4, hg4, h64b⟩
      go_wp2
      go_ret2
      exact ⟨_, _, xs, ys, rfl, (ho3.kept hg4 (ho3.farR hB1)).mono hb1.size, ho4.mono (by omega), h64, h64b, by rw [Hm.out]; omega, by omega, below_reader hb1 (grown_trans hG3 hg4)⟩
    · have hv2 : (v == 0) = false := by simpa using hv
      have hm5 : (5 : Int) < m := by rcases hs with e | e <;> omega
      clear hv hs
      go_wp2_with fail
      refine (someSigned_any w.heap.size (q + 1) w3 hr3 (by omega)).mono ?_
      rintro e w4 ⟨u4, ys, q4, rfl, ho4, hl4, hq4, hr4, hg4, h64b⟩
      go_wp2
      go_ret2
      exact ⟨_, _, xs, ys, rfl, (ho3.kept hg4 (ho3.farR hB1)).mono hb1.size, ho4.mono (by omega), h64, h64b, by rw [Hm.out]; omega, by omega, below_reader hb1 (grown_trans hG3 hg4)⟩
  · have hv2 : (v == 0) = false := by simp; omega
    have hm5 : ¬ (5 : Int) < m := by omega
    clear hs
    go_wp2_with fail
    refine (aSigned_any w.heap.size (q + 1) m w3 hr3 (by omega) (by omega)).mono ?_
    rintro e w4 ⟨u4, ys, q4, rfl, ho4, hl4, hq4, hr4, hg4, hzb⟩
    have h64b : Hid (R64 ys) := fun j hj => by rw [hl4] at hj; have := hzb.out j hj; omega
    go_wp2
    go_ret2
    exact ⟨_, _, xs, ys, rfl, (ho3.kept hg4 (ho3.farR hB1)).mono hb1.size, ho4.mono (by omega), h64, h64b, by rw [Hm.out]; omega, by omega, below_reader hb1 (grown_trans hG3 hg4)⟩

end Go.Proofs.Ytjgaglfinpeeoab
