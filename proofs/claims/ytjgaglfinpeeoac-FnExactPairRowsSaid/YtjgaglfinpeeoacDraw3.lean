/- The orders and bent orders that the laws draw: whatever the bytes, a list of at most nine numbers. Condition: the bytes can be read. -/
import Derived.Test.YtjgaglfinpeeoacDraw2
namespace Go.Proofs.Ytjgaglfinpeeoac
open Go.RowKit

theorem grown_of_below {w w' : World} {row : Option Nat} (h : Below w.heap.size w w') : w.grownBy w' row := ⟨h.os, h.tape, h.output, h.size, fun k hk _ => h.block k hk⟩

theorem Own.farR {w : World} {B R : Nat} {u : Value} {ys : List Int} (h : Own w B u ys) (hR : R < B) : u.ownBlock = none ∨ u.ownBlock ≠ some R := by
  cases e : u.ownBlock with
  | none => exact Or.inl rfl
  | some k =>
    refine Or.inr (fun e2 => ?_)
    have := (h.blocks k e).1
    have := Option.some.inj e2
    omega

/-- A call that draws a list of n numbers: it makes a list and turns the reader. -/
def Drew (w : World) (R n Q : Nat) (e : Ending) (w' : World) : Prop := ∃ u ys q, e = .returned u ∧ Own w' w.heap.size u ys ∧ ys.length = n ∧ q ≤ Q ∧ Rdr w' R q ∧ w.grownBy w' (some R)

theorem lit_arr (w : World) (fs : List Int) : Arr (w.alloc (.cells (fs.map (Value.int .i64)).toArray 3)) w.heap.size 3 fs := Arr.made w 3 fs

end Go.Proofs.Ytjgaglfinpeeoac
