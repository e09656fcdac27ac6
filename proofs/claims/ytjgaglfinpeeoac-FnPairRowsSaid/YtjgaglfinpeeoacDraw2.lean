/- More of the readers: one of a list, a value put in, orders and bent orders. Condition: the bytes can be read. -/
import Derived.Test.YtjgaglfinpeeoacDraw
import Derived.Test.YtjgaglfinpeeoacBnd
namespace Go.Proofs.Ytjgaglfinpeeoac
open Go.RowKit

theorem grown_far {w w' : World} {R b o : Nat} {v : Value} (hg : w.grownBy w' (some R)) (hb : b ≠ R) (h : w.cell? ⟨b, o, none⟩ = some v) : w'.cell? ⟨b, o, none⟩ = some v :=
  hg.cell h (fun e => hb (by simpa using e))

/-- What one of a list turns: the reader alone. -/
def Oned (w : World) (R q : Nat) (fs : List Int) (e : Ending) (w' : World) : Prop := ∃ j, j < fs.length ∧ e = .returned (.int .i64 (el fs j)) ∧ Rdr w' R (q + 1) ∧ w.grownBy w' (some R)

set_option maxHeartbeats 400000 in
theorem one_any (R q g n T : Nat) (fs : List Int) (w : World) (h : Rdr w R q) (hq : q ≤ 100000) (ha : Arr w g T fs) (hl : fs.length = n) (hn : 0 < n) (hn2 : n ≤ 1000) (hg : g ≠ R) :
    Calls Try.prog 38 #[.pointer (some ⟨R, 0, none⟩), .slice (some ⟨g, 0, none⟩) n n] w (Oned w R q fs) := by
  have hcell := fun j (hj : j < n) => ha.cell (j := j) (by omega)
  have Hc := hid hcell
  have Hl := hid hl
  clear hcell hl
  go_enter Try.func38, Try.ntmps38
  go_wp2_with fail
  refine (pick_any R q n w h hq (by omega)).mono ?_
  rintro e w1 ⟨v, rfl, hv0, hv1, hr, hgr⟩
  obtain ⟨j, rfl⟩ := Int.eq_ofNat_of_zero_le hv0
  have hj : j < n := by have := Int.max_eq_left (show (1 : Int) ≤ n by omega); omega
  have hc := grown_far hgr hg (Hc.out j hj)
  clear hv0 hv1
  go_wp2
  go_ret
  exact ⟨j, by rw [Hl.out]; exact hj, rfl, hr, hgr⟩

end Go.Proofs.Ytjgaglfinpeeoac
