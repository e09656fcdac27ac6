/- What the frames of the laws of signed orders share: numbers that came in have 64 bits. No condition. -/
import Derived.Test.YtjgaglfinpeeoabDoorFrame
import Derived.Test.YtjgaglfinpeeoabDoorMirG
namespace Go.Proofs.YtjgaglfinpeeoabDoor
open Go.ChangeShapes Go.WideShapes Go.ChangeAt Go.RowKit

theorem IsRow.r64 {w : World} {a : Option Addr} {len cap : Nat} {zs : List Int} (h : IsRow .i64 w a len cap zs) : R64 (zs.take len) := by
  rcases h with ⟨rfl, rfl, rfl, rfl⟩ | ⟨x, rfl, hl, hm, hz, hc, hw⟩
  · intro j hj; simp at hj
  · intro j hj
    rw [List.length_take] at hj
    have e : el (zs.take len) j = zs[j]'(by omega) := by simp [el, show j < len by omega, show j < zs.length by omega]
    rw [e]
    exact int_bounds (hw _ (List.getElem_mem _))

end Go.Proofs.YtjgaglfinpeeoabDoor
