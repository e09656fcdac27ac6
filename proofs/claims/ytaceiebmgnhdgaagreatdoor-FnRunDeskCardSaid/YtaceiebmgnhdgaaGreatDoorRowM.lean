/- Products of rows of numbers, and the rows of circles and of descents, in the program and in its model. Conditions: of products: few small numbers, at least one on each side. -/
import Derived.Test.YtaceiebmgnhdgaaGreatDoorBnd
import Derived.StillTailTactics
namespace Go.Proofs.YtaceiebmgnhdgaaGreatDoor
open Go.RowKit

theorem own_list (w : World) (ys : List Int) (B : Nat) (hB : B ≤ w.heap.size) (hl : ys.length ≤ 1000) : Own (w.alloc (.cells (ys.map (Value.int .i64)).toArray 3)) B (.slice (some ⟨w.heap.size, 0, none⟩) ys.length ys.length) ys :=
  World.ownsRow_lit w (ys.map (Value.int .i64)).toArray ys.length hB (by unfold maxLen; omega) (by simp)
theorem own_one (w : World) (x : Int) (B : Nat) (hB : B ≤ w.heap.size) : Own (w.alloc (.cells #[.int .i64 x] 3)) B (.slice (some ⟨w.heap.size, 0, none⟩) 1 1) [x] := own_list w [x] B hB (by simp)
theorem own_two (w : World) (x y : Int) (B : Nat) (hB : B ≤ w.heap.size) : Own (w.alloc (.cells #[.int .i64 x, .int .i64 y] 3)) B (.slice (some ⟨w.heap.size, 0, none⟩) 2 2) [x, y] := own_list w [x, y] B hB (by simp)

end Go.Proofs.YtaceiebmgnhdgaaGreatDoor
