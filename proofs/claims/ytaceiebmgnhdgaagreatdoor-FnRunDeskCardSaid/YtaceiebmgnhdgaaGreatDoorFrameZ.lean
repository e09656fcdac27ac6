/- What the frames of the laws of RunDesk share: what the listed variables give, a world in which they lie as their initialisers lay them, and a slice of texts that came in. No condition. -/
import Derived.Test.YtaceiebmgnhdgaaGreatDoorDkx
import Derived.Test.YtaceiebmgnhdgaaGreatDoorRows
import Derived.Test.YtaceiebmgnhdgaaGreatDoorFrame
import Derived.Stop.LaidErr
import Derived.LaidMore
import Derived.LaidHandle
import Derived.LaidLaws
import Derived.MakeChecks
import Derived.Stop.Joined
import Derived.SliceStrings
namespace Go.Proofs.YtaceiebmgnhdgaaGreatDoor
open Go.ChangeShapes Go.WideShapes Go.ChangeAt Go.RowKit

def laid5 : List (String × DataW Unit) := Rows.fnRunDeskRow.laid
theorem rtT : (Tryz.prog.cutTypes.find? (·.1 == "internal/reflectlite.rtype")).map (·.2) = some 105 := by kernel_rfl
theorem oneRowE : ((List.range 198).filter fun t => Tryz.prog.rowNamed t [101, 114, 114, 111, 114]) = [45] := by kernel_rfl
theorem sizeT : Tryz.prog.types.size = 198 := by kernel_rfl
theorem gTy : Tryz.prog.globalNamed "errors.errorType" = some 1 := by kernel_rfl
theorem gOt : Tryz.prog.globalNamed "loop.example/ordercounts/impl.errOtherLine" = some 0 := by kernel_rfl
theorem starE : "*errors.errorString" = "*" ++ "errors.errorString" := by decide
theorem rowE (u : TypeId) (h : Tryz.prog.typeName? 3 u = some "*errors.errorString") : u = 168 :=
  typeName_ptr_named (nm := "errors.errorString") (by rw [← starE]; kernel_rfl) (by kernel_rfl) (by decide) u (by rw [← starE]; exact h)

theorem laid_glb {W : World} (h : laidMetH Tryz.prog laid5 W) : Glb W := by
  have h' : laidMet Tryz.prog [("math/bits.deBruijn32tab", Rows.laid_math_bits_deBruijn32tab), ("math/bits.deBruijn64tab", Rows.laid_math_bits_deBruijn64tab), ("internal/strconv.uint64pow10", Rows.laid_internal_strconv_uint64pow10), ("loop.example/ordercounts/impl.errOtherLine", Rows.laid_loop_example_ordercounts_impl_errOtherLine)] W ∧ handlesMet Tryz.prog [("errors.errorType", Rows.laid_errors_errorType)] W := h
  have h3 := h'.1.tail.tail
  obtain ⟨a1, s1, hv1, -, -, -⟩ := laid_sentinel h3.tail gOt (by kernel_rfl) Tryz.underlying45 rowE Tryz.underlying168 Tryz.underlying186 rfl rfl Tryz.underlying9 (by kernel_rfl) (by kernel_rfl)
  refine ⟨?_, ⟨_, by simpa using World.var?_cell gOt hv1 0⟩, Lib.tabIs_of_head (g := 3) (t := 162) (e := 155) (n := 20) gPow (by kernel_rfl) Tryz.underlying162 Tryz.underlying155 (by kernel_rfl) (by kernel_rfl) h3⟩
  obtain ⟨name, u, ty, e1, e2, e3, e4, e5⟩ := h'.2 _ (List.mem_singleton.2 rfl)
  have en : name = [101, 114, 114, 111, 114] := (Option.some.inj e1).symm
  subst en
  obtain rfl := Option.some.inj (rtT.symm.trans e2)
  have hm : ty ∈ (List.range 198).filter fun t => Tryz.prog.rowNamed t [101, 114, 114, 111, 114] := List.mem_filter.2 ⟨List.mem_range.2 (by rw [← sizeT]; exact e3), e4⟩
  rw [oneRowE] at hm
  obtain rfl := List.mem_singleton.1 hm
  have hh : typeHandle Tryz.prog 45 = .pointer (some ⟨6, 45, none⟩) := by kernel_rfl
  rw [hh] at e5
  simpa using World.var?_cell gTy e5 0

theorem door_met5 (os : Os) (args : Array Value) : laidMetH Tryz.prog laid5 ((World.doorLaid Tryz.prog 400 os).forCall (fun _ _ => 0) ⟨#[], args, []⟩).memory :=
  laidMetH_of_parts3 (fuel := 8) (laidMet_of_run' 8 (by kernel_rfl) (by kernel_rfl)) (by kernel_rfl) (by kernel_rfl)

theorem slT_of {W : World} {x : Addr} {l c : Nat} {ss : List ByteArray} (hl : l ≤ c) (hm : c ≤ maxLen) (hz : ss.length = c) (hcell : ∀ i, i < ss.length → W.cell? (x.add i) = some (.string (ss.getD i ByteArray.empty))) : SlT W (some x) l c (ss.take l) := by
  refine ⟨by simp; omega, hl, hm, fun hn => ?_⟩
  obtain ⟨b, off, spot⟩ := x
  have hc0 := hcell 0 (by omega)
  have hspot : spot = none := by simpa [Addr.add] using World.cell?_spot hc0
  subst hspot
  refine ⟨b, off, rfl, World.block_lt_of_cell? W _ hc0, fun j hj => ?_⟩
  have := hcell j (by omega)
  rw [Addr.add_lit] at this
  rw [this]
  have hj2 : j < ss.length := by omega
  simp [elt, hj, hj2]
theorem sizes_of {l : Nat} {ss : List ByteArray} (h : ∀ s ∈ ss, s.size ≤ maxLen) : ∀ j, j < l → (elt (ss.take l) j).size ≤ 9223372036854775807 := fun j hj => by
  by_cases hj2 : j < (ss.take l).length
  · rw [elt_lt hj2]
    have := h _ (List.mem_of_mem_take (List.getElem_mem hj2))
    unfold maxLen at this
    omega
  · have : elt (ss.take l) j = ⟨#[]⟩ := by unfold elt; rw [List.getD, List.getElem?_eq_none (by omega)]; rfl
    rw [this]
    exact Nat.zero_le _

end Go.Proofs.YtaceiebmgnhdgaaGreatDoor
