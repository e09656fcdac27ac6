/- The texts that the laws draw: whatever the bytes, a text of at most twelve bytes. Condition: the bytes can be read. -/
import Derived.Test.YtjgaglfinpeeoacDraw4
import Derived.Test.YtjgaglfinpeeoacText
import Derived.Test.YtjgaglfinpeeoacParse
import Derived.Deep.RegionWith
namespace Go.Proofs.Ytjgaglfinpeeoac
open Go.RowKit

/-- A call that draws a list of n numbers, each below n: it makes a list and turns the reader. -/
def DrewV (w : World) (R n Q : Nat) (e : Ending) (w' : World) : Prop := ∃ u ys q, e = .returned u ∧ Own w' w.heap.size u ys ∧ ys.length = n ∧ q ≤ Q ∧ Rdr w' R q ∧ w.grownBy w' (some R) ∧ Hid (∀ y ∈ ys, 0 ≤ y ∧ y < n)

/-- Block g is an array that holds the texts ss. -/
def ArrS (w : World) (g T : Nat) (ss : List ByteArray) : Prop := w.heap[g]? = some (.cells (ss.map Value.string).toArray T (0, 0))
def els (ss : List ByteArray) (j : Nat) : ByteArray := ss.getD j ⟨#[]⟩
theorem ArrS.cell {w : World} {g T : Nat} {ss : List ByteArray} (h : ArrS w g T ss) {j : Nat} (hj : j < ss.length) : w.cell? ⟨g, j, none⟩ = some (.string (els ss j)) := by
  rw [cell_of_row w g j _ T (0, 0) h]
  simp [els, hj]
theorem ArrS.made (w : World) (T : Nat) (ss : List ByteArray) : ArrS (w.alloc (.cells (ss.map Value.string).toArray T)) w.heap.size T ss := heap_alloc_new w _

set_option maxHeartbeats 400000 in
theorem of_any (R q g n T : Nat) (ss : List ByteArray) (w : World) (h : Rdr w R q) (hq : q ≤ 100000) (ha : ArrS w g T ss) (hl : ss.length = n) (hn : 0 < n) (hn2 : n ≤ 1000) (hg : g ≠ R) :
    Calls Try.prog 45 #[.pointer (some ⟨R, 0, none⟩), .slice (some ⟨g, 0, none⟩) n n] w fun e w' => ∃ j, j < ss.length ∧ e = .returned (.string (els ss j)) ∧ Rdr w' R (q + 1) ∧ w.grownBy w' (some R) := by
  have hcell := fun j (hj : j < n) => ha.cell (j := j) (by omega)
  have Hc := hid hcell
  have Hl := hid hl
  clear hcell hl
  go_enter Try.func45, Try.ntmps45
  go_wp2_with fail
  refine (pick_any R q n w h hq (by omega)).mono ?_
  rintro e w1 ⟨v, rfl, hv0, hv1, hr, hgr⟩
  obtain ⟨j, rfl⟩ := Int.eq_ofNat_of_zero_le hv0
  have hj : j < n := by have := Int.max_eq_left (show (1 : Int) ≤ n by omega); omega
  have hc := grown_far hgr hg (Hc.out j hj)
  clear hv0 hv1
  go_wp2
  go_ret
  exact ⟨j, by rw [Hl.out]; exact hj, rfl, hr, hgr⟩

theorem grown_drew (w : World) (row : Option Nat) : w.grownBy w.drew row := ⟨rfl, rfl, rfl, Nat.le_refl _, fun _ _ _ => rfl⟩

/-- A text was drawn. -/
def DrewS (w : World) (R : Nat) (e : Ending) (w' : World) : Prop := ∃ t : ByteArray, e = .returned (.string t) ∧ t.size ≤ 12 ∧ w.grownBy w' (some R)
def s7 : List ByteArray := [⟨#[48]⟩, ⟨#[49]⟩, ⟨#[54]⟩, ⟨#[55]⟩, ⟨#[45]⟩, ⟨#[97]⟩, ⟨#[32]⟩]
def s5 : List ByteArray := [⟨#[48]⟩, ⟨#[49]⟩, ⟨#[32]⟩, ⟨#[45]⟩, ⟨#[57]⟩]
theorem s7_one : ∀ j, j < 7 → (els s7 j).size = 1 := by decide
theorem s5_one : ∀ j, j < 5 → (els s5 j).size = 1 := by decide

end Go.Proofs.Ytjgaglfinpeeoac
