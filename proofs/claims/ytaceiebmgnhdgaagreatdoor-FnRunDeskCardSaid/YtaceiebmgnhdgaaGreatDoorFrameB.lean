/- How a slice of bytes that came in reads. No condition. -/
import Derived.Test.YtaceiebmgnhdgaaGreatDoorFrame
import Derived.Test.YtaceiebmgnhdgaaGreatDoorBne
namespace Go.Proofs.YtaceiebmgnhdgaaGreatDoor
open Go.RowKit

theorem byte_bounds {x : Int} (h : (Lit.int .u8 x).wf = true) : 0 ≤ x ∧ x ≤ 255 := by
  have h1 : decide (0 ≤ x) = true ∧ decide (x ≤ 255) = true := by
    simpa [Lit.wf, IntKind.min, IntKind.max, IntKind.signed, IntKind.bits] using h
  simpa using h1

theorem IsRow.slb {w : World} {a : Option Addr} {len cap : Nat} {zs : List Int} (h : IsRow .u8 w a len cap zs) : Slb w a len cap (zs.take len) := by
  rcases h with ⟨rfl, rfl, rfl, rfl⟩ | ⟨x, rfl, hl, hm, hz, hc, hw⟩
  · exact ⟨rfl, Nat.le_refl _, Nat.zero_le _, fun j hj => by omega, fun h => by omega⟩
  · have e : ∀ j, j < len → el (zs.take len) j = zs.getD j 0 := fun j hj => by simp [el, hj]
    refine ⟨by simp; omega, hl, hm, fun j hj => ?_, fun hn => ?_⟩
    · rw [e j hj]
      have hj2 : j < zs.length := by omega
      have : zs.getD j 0 ∈ zs := by simp [List.getD, hj2]
      exact byte_bounds (hw _ this)
    · obtain ⟨b, off, spot⟩ := x
      have hc0 := hc 0 (by omega)
      have hspot : spot = none := by simpa [Addr.add] using World.cell?_spot hc0
      subst hspot
      refine ⟨b, off, rfl, World.block_lt_of_cell? w _ hc0, fun j hj => ?_⟩
      have := hc j (by omega)
      rw [Addr.add_lit] at this
      rw [this, e j hj]

end Go.Proofs.YtaceiebmgnhdgaaGreatDoor
