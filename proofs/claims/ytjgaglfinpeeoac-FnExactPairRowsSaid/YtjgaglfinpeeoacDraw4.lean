/- The bent orders that the laws draw, and the draws themselves: whatever the bytes, lists of at most nine numbers. Condition: the bytes can be read. -/
import Derived.Test.YtjgaglfinpeeoacDraw3
namespace Go.Proofs.Ytjgaglfinpeeoac
open Go.RowKit

/-- Below B all is as it was but for block R. -/
structure ExR (B R : Nat) (w w' : World) : Prop where
  os : w'.os = w.os
  tape : w'.tape = w.tape
  output : w'.output = w.output
  size : w.heap.size ≤ w'.heap.size
  block : ∀ k, k < B → k ≠ R → w'.heap[k]? = w.heap[k]?

theorem ExR.of_grown {B R : Nat} {w w' : World} (h : w.grownBy w' (some R)) (hB : B ≤ w.heap.size) : ExR B R w w' :=
  ⟨h.os, h.tape, h.output, h.size, fun k hk hne => h.block k (by omega) (fun e => hne (Option.some.inj e))⟩
theorem ExR.trans {B R : Nat} {a b c : World} (h : ExR B R a b) (k : ExR B R b c) : ExR B R a c :=
  ⟨k.os.trans h.os, k.tape.trans h.tape, k.output.trans h.output, Nat.le_trans h.size k.size, fun i hi hne => (k.block i hi hne).trans (h.block i hi hne)⟩
theorem ExR.of_row {B R : Nat} {w w' : World} {row : Option Nat} (h : w.grownBy w' row) (hB : B ≤ w.heap.size) (hr : ∀ k, row = some k → B ≤ k) : ExR B R w w' :=
  ⟨h.os, h.tape, h.output, h.size, fun k hk _ => h.block k (by omega) (fun e => by have := hr k e.symm; omega)⟩
theorem grown_exR {R : Nat} {w a b : World} (h : w.grownBy a (some R)) (k : ExR w.heap.size R a b) : w.grownBy b (some R) :=
  ⟨k.os.trans h.os, k.tape.trans h.tape, k.output.trans h.output, Nat.le_trans h.size k.size, fun i hi hne => (k.block i hi (fun e => hne (by rw [e]))).trans (h.block i hi hne)⟩

/-- A list was bent: it is the call's own still, and has at most one number more. -/
def Bent (w : World) (B R n Q : Nat) (e : Ending) (w' : World) : Prop := ∃ u ys q, e = .returned u ∧ Own w' B u ys ∧ ys.length ≤ n ∧ q ≤ Q ∧ Rdr w' R q ∧ ExR B R w w'

theorem Rdr.row {w w' : World} {R q : Nat} {row : Option Nat} (h : Rdr w R q) (hg : w.grownBy w' row) (hr : ∀ k, row = some k → R < k) : Rdr w' R q :=
  h.kept (below_of_grown hg h.lt (fun k hk => hr k hk))

/-- A call that draws a list of at most m numbers: it makes a list and turns the reader. -/
def DrewU (w : World) (R m Q : Nat) (e : Ending) (w' : World) : Prop := ∃ u ys q, e = .returned u ∧ Own w' w.heap.size u ys ∧ ys.length ≤ m ∧ q ≤ Q ∧ Rdr w' R q ∧ w.grownBy w' (some R)

/-- What a law's draw of one list leaves: a list of at most nine numbers; nothing that was there has turned. -/
def Drawn (w : World) (e : Ending) (w' : World) : Prop := ∃ u ys, e = .returned u ∧ Own w' w.heap.size u ys ∧ ys.length ≤ 9 ∧ Below w.heap.size w w'

theorem below_reader {w w1 w2 : World} (h : Below w.heap.size w w1) (hg : w1.grownBy w2 (some w.heap.size)) : Below w.heap.size w w2 :=
  h.grown hg h.size (fun k hk => by have := Option.some.inj hk; omega)

end Go.Proofs.Ytjgaglfinpeeoac
