/- The rows of circles and of descents, in the program and in its model. No condition. -/
import Derived.Test.YtaceiebmgnhdgaaGreatDoorRowM
import Derived.Test.YtaceiebmgnhdgaaGreatDoorBnd
namespace Go.Proofs.YtaceiebmgnhdgaaGreatDoor
open Go.RowKit

theorem Own.alloc' {w : World} {B : Nat} {u : Value} {ys : List Int} (h : Own w B u ys) (o : Obj) : Own (w.alloc o) B u ys := World.ownsRow.alloc h o
theorem Own.slAt {w : World} {B : Nat} {ao : Option Addr} {n cap : Nat} {ys : List Int} (h : Own w B (.slice ao n cap) ys) : Sl w ao n cap ys := h.read

set_option maxHeartbeats 1000000 in
theorem inRange_any (n lo hi : Int) (w : World) : Calls Tryz.prog 43 #[.int .i64 n, .int .i64 lo, .int .i64 hi] w fun e w' => e = .returned (.bool (decide (lo ≤ n ∧ n ≤ hi))) ∧ w = w' := by
  go_enter Tryz.func43, Tryz.ntmps43
  by_cases h1 : lo ≤ n <;> by_cases h2 : n ≤ hi
  all_goals go_wp2
  all_goals go_ret
  all_goals exact ⟨ret_eq (congrArg Value.bool (by simp [h1, h2])), rfl⟩

end Go.Proofs.YtaceiebmgnhdgaaGreatDoor
