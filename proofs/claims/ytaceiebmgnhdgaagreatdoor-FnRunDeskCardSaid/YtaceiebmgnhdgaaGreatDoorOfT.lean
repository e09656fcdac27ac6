/- Orders of tables, in the program and in its model. Condition: the list's cells can be read. -/
import Derived.Test.YtaceiebmgnhdgaaGreatDoorVt
import Derived.Test.YtaceiebmgnhdgaaGreatDoorBnd
import Derived.Test.YtaceiebmgnhdgaaGreatDoorReg
import Derived.Deep.LoopGhost
namespace Go.Proofs.YtaceiebmgnhdgaaGreatDoor
open Go.RowKit

/-- What a function of tables answers. -/
def onVT (ts zs : List Int) : List Int := if VT ts then zs else []
def isVT (ts : List Int) : Bool := decide (VT ts)
theorem onVT_yes {ts zs : List Int} (h : VT ts) : onVT ts zs = zs := if_pos h
theorem onVT_no {ts zs : List Int} (h : ¬ VT ts) : onVT ts zs = [] := if_neg h
theorem isVT_yes {ts : List Int} (h : VT ts) : isVT ts = true := decide_eq_true h
theorem isVT_no {ts : List Int} (h : ¬ VT ts) : isVT ts = false := decide_eq_false h

/-- What ofTable appends at place k. -/
def tabG (ts : List Int) (k : Nat) : Int := el (leP ts k) (el ts k).toNat

theorem OwS.mono {B B' g n cap : Nat} {w : World} {ys : List Int} (h : OwS w B g n cap ys) (hB : B' ≤ B) : OwS w B' g n cap ys := by
  refine ⟨h.1, ?_⟩
  rcases h.2 with ⟨h1, _⟩ | ⟨g', cap', cur, hv, hg, r⟩
  · simp at h1
  · exact Or.inr ⟨g', cap', cur, hv, Nat.le_trans hB hg, r⟩

/-- Block g is an array that holds the truth values bs. -/
def ArrB (w : World) (g T : Nat) (bs : List Bool) : Prop := w.heap[g]? = some (.cells (bs.map Value.bool).toArray T (0, 0))
def elB (bs : List Bool) (k : Nat) : Bool := bs.getD k false
theorem elB_set_same {bs : List Bool} {k : Nat} {v : Bool} (h : k < bs.length) : elB (bs.set k v) k = v := by simp [elB, h]
theorem elB_set_ne {bs : List Bool} {j k : Nat} {v : Bool} (h : k ≠ j) : elB (bs.set k v) j = elB bs j := by simp [elB, List.getD, h]
theorem ArrB.lt {w : World} {g T : Nat} {fs : List Bool} (h : ArrB w g T fs) : g < w.heap.size := (Array.getElem?_eq_some_iff.1 h).1
theorem ArrB.cell {w : World} {g T : Nat} {fs : List Bool} (h : ArrB w g T fs) {j : Nat} (hj : j < fs.length) : w.cell? ⟨g, j, none⟩ = some (.bool (elB fs j)) := by
  rw [cell_of_row w g j _ T (0, 0) h]
  simp [elB, hj]
theorem ArrB.frozen {w : World} {g T : Nat} {fs : List Bool} (h : ArrB w g T fs) (j : Nat) : w.frozen? ⟨g, j, none⟩ = false := frozen_of_row w g j _ T h
theorem ArrB.set {w : World} {g T : Nat} {fs : List Bool} (h : ArrB w g T fs) (j : Nat) (v : Bool) : ArrB (w.setCell ⟨g, j, none⟩ (.bool v)) g T (fs.set j v) := by
  have := heap_setCell_same w g j _ T (.bool v) h
  rw [ArrB, this]
  simp [List.map_set]
theorem ArrB.other {w : World} {g T : Nat} {fs : List Bool} (h : ArrB w g T fs) {a : Addr} (ha : a.block ≠ g) (v : Value) : ArrB (w.setCell a v) g T fs := by
  rw [ArrB, Below.heap_setCell _ _ _ _ (by omega)]; exact h
theorem ArrB.made (w : World) (T : Nat) (fs : List Bool) : ArrB (w.alloc (.cells (fs.map Value.bool).toArray T)) w.heap.size T fs := heap_alloc_new w _
theorem nots : ∀ v, v < 7 → elB [false, false, false, false, false, false, false] v = false := by decide

end Go.Proofs.YtaceiebmgnhdgaaGreatDoor
