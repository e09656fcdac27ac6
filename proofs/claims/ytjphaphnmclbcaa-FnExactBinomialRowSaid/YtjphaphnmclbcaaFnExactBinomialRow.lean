/- The exact law of BinomialRow. No condition. -/
import Derived.Test.YtjphaphnmclbcaaRows
import Derived.Test.YtjphaphnmclbcaaE61
import Derived.Test.YtjphaphnmclbcaaFrame
import Derived.Conc.Holds
import Derived.Conc.LeavingOf
namespace Go.Proofs.Ytjphaphnmclbcaa.fnExactBinomialRow
open Go.ChangeShapes Go.WideShapes Go.ChangeAt Go.RowKit
open Go.ChangeMaps (open_string shut_string)

set_option maxRecDepth 100000 in
theorem lifted (os : Os) (started : os.Started) (H : Type) (enc : TypeId × Value → H) :
    ReturnsInLeavingWide {} Try.checked os 10 .any (Rows.fnExactBinomialRowSpec.pre6 enc Try.prog Try.f10 Rows.fnExactBinomialRowRow.domain false) (Rows.fnExactBinomialRowSpec.post enc Try.prog Try.f10 false true false false) := by
  refine returnsInLeavingWide_of_change_sized (C := Try.checked) own started Try.func10
    (ChangeSpec.witness6 (enc := enc) (C := Try.checked) false ⟨#[], #[.int .i64 0, .int .i64 0], []⟩ 8 (by kernel_rfl) (by kernel_rfl) (by kernel_rfl) (by kernel_rfl)) ?_
  intro W base args ds gs before hval0 hW hcnd _ _
  have hval : ∀ (j : Nat) t v, Try.f10.params[j]? = some t → args[j]? = some v → Value.okWide Try.prog W .any base t v := hval0
  have hW' := hW
  obtain ⟨p, q, hA0, hV, rfl, hfz, hnd⟩ := hW
  have hA : DataW.TrodAll enc Try.prog W 0 (fun _ => true) true Try.f10.params.toList args.toList ds p := hA0
  rw [Try.params10] at hA hval
  obtain ⟨v0, vs0, d0, ds0, p0, q0, hargs, rfl, rfl, h0, r0⟩ := trodAll_cons hA
  obtain ⟨v1, vs1, d1, ds1, p1, q1, rfl, rfl, rfl, h1, r1⟩ := trodAll_cons r0
  obtain ⟨rfl, rfl, rfl⟩ := trodAll_nil r1
  obtain rfl : args = #[v0, v1] := by cases args; simp_all
  obtain ⟨rfl, rfl⟩ := trodVars_none hV
  obtain ⟨a0, rfl, rfl, rfl, w0⟩ := open_int Try.underlying3 (hval 0 3 v0 rfl rfl) h0
  obtain ⟨a1, rfl, rfl, rfl, w1⟩ := open_int Try.underlying3 (hval 1 3 v1 rfl rfl) h1
  clear hA0 hval0
  obtain ⟨N, last, out, w', t', g1, g2, g3, g4⟩ := fnExactBinomialRow_T a0 a1 W (int_bounds w0) (int_bounds w1)
  refine ⟨N, last, out, w', t', g1, g2, g3, g4.mono fun v hv => ?_⟩
  obtain ⟨rfl, ho⟩ := hv
  have bel : Below W.heap.size W { w' with tape := W.tape } := ho.below
  exact ⟨_, _, _, [], _, [], hW', trodAll_mk1 (shut_bool Try.underlying4 _), (DataW.TrodAll.of_heap (w := { w' with tape := W.tape }) (w' := w') rfl (trodAll_cons_mk (shut_int Try.underlying3 w0) (trodAll_cons_mk (shut_int Try.underlying3 w1) trodAll_mk0))), rfl, ho.frame _, fun h => by cases h⟩

theorem over : Rows.fnExactBinomialRowRow.holds Try.pinned (OpenSpec.ofChange Rows.fnExactBinomialRowSpec) :=
  OpenClaim.holds_of_wide_leaving 10 Try.f10 rfl rfl rfl rfl rfl rfl rfl ⟨rfl, rfl, rfl, rfl, rfl⟩ rfl rfl rfl rfl rfl (by kernel_rfl) Try.func10 (by kernel_rfl)
    (of_decide_eq_true (by kernel_rfl)) (by unfold Func.isWrapper; first | (rw [if_pos (by decide +kernel)]; kernel_rfl) | (rw [if_neg (by decide +kernel)]; exact ⟨rfl, rfl⟩))
    (fun os started H enc _ => lifted os started H enc)

theorem proved : Rows.FnExactBinomialRowSaid := over
end Go.Proofs.Ytjphaphnmclbcaa.fnExactBinomialRow
