/- Denert's number, in the program and in its model. Condition: the list's cells can be read. -/
import Derived.Test.YtjphaphnmclbcaaPrs
import Derived.Test.YtjphaphnmclbcaaCnt
import Derived.Test.YtjphaphnmclbcaaBnd
namespace Go.Proofs.Ytjphaphnmclbcaa
open Go.RowKit

theorem own_lit2 (w : World) (o : Obj) : Own ((w.alloc o).alloc (.cells #[] 3)) w.heap.size (.slice (some ⟨w.heap.size + 1, 0, none⟩) 0 0) [] := by
  have := own_lit_at (B := w.heap.size) (w := w.alloc o) (by simp)
  rw [World.size_alloc] at this
  exact this

set_option maxHeartbeats 1000000 in
theorem invs0_any (ao : Option Addr) (n cap : Nat) (xs : List Int) (w : World) (h : Sl w ao n cap xs) (h7 : n ≤ 7) :
    Calls Try.prog 68 #[.slice ao n cap] w (Says w (.int .i64 (sumL (table xs)))) := by
  have hbig := h.big
  have hlen := hid h.len
  have hl2 : (table xs).length ≤ 1000 := by rw [table_len, hlen.out]; omega
  have hts : Hid (∀ j, j < (table xs).length → 0 ≤ el (table xs) j ∧ el (table xs) j ≤ (1000 : Nat)) := fun j hj => by have := table_bd xs j hj; rw [hlen.out] at this; omega
  go_enter Try.func68, Try.ntmps68
  go_wp2_with fail
  refine (lesser_any _ _ _ xs _ h (by omega)).mono ?_
  rintro e w2 ⟨u2, rfl, ho2, hb2⟩
  obtain ⟨a2, c2, rfl, hs2⟩ := ho2.sl
  go_wp2_with fail
  refine (sum_any _ _ _ _ _ hs2 hl2 hts).mono ?_
  rintro e w3 ⟨rfl, hb3⟩
  go_wp2
  go_ret
  exact ⟨rfl, hb2.trans (hb3.mono hb2.size)⟩

end Go.Proofs.Ytjphaphnmclbcaa
