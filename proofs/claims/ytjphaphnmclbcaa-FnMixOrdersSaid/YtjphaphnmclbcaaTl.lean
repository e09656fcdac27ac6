/- Tools for the laws that go beside leavers: bytes that stay, lists drawn. No condition. -/
import Derived.Test.YtjphaphnmclbcaaTk
import Derived.Test.YtjphaphnmclbcaaDrC
namespace Go.Proofs.Ytjphaphnmclbcaa
open Go Go.Conc Go.RowKit

theorem Slb.only {w w' : World} {ao : Option Addr} {n cap : Nat} {cs : List Int} (h : Slb w ao n cap cs) (o : Only w w') : Slb w' ao n cap cs := by
  refine ⟨h.len, h.le, h.max, h.bd, fun hn => ?_⟩
  obtain ⟨b, off, e, hlt, hc⟩ := h.row hn
  exact ⟨b, off, e, Nat.lt_of_lt_of_le hlt o.size, fun j hj => (cell_eq (o.keep b hlt)).trans (hc j hj)⟩
theorem drawnVC {Stop : Goroutine → World → Prop} {f : FuncId} {args : Array Value} {w : World} (hf : Fp f = true) (h : ∀ w₁, Only w w₁ → Calls Try.prog f args w₁ (DrawnV w₁)) :
    CallsC Try.prog (TF Try.prog Stop) f args w M00 (fun r w' M' => M' = M00 ∧ ∃ ao n cap ys, r = .slice ao n cap ∧ Sl w' ao n cap ys ∧ n ≤ 20 ∧ Only w w') :=
  callsC_lone (R := fun r w' => ∃ ao n cap ys, r = .slice ao n cap ∧ Sl w' ao n cap ys ∧ n ≤ 20 ∧ Only w w') plain_prog hf fun w₁ hr => (h w₁ (Only.re hr)).mono (by
    rintro e w' ⟨ao, n, cap, ys, rfl, hs, hl, hb⟩
    exact ⟨_, rfl, ao, n, cap, ys, rfl, hs, hl, Only.of_re hr hb⟩)
theorem drawnVBC {Stop : Goroutine → World → Prop} {f : FuncId} {args : Array Value} {w : World} (hf : Fp f = true) (h : ∀ w₁, Only w w₁ → Calls Try.prog f args w₁ (DrawnVB w₁)) :
    CallsC Try.prog (TF Try.prog Stop) f args w M00 (fun r w' M' => M' = M00 ∧ ∃ ao n cap ys b, r = .tuple #[.slice ao n cap, .bool b] ∧ Sl w' ao n cap ys ∧ n ≤ 20 ∧ Only w w') :=
  callsC_lone (R := fun r w' => ∃ ao n cap ys b, r = .tuple #[.slice ao n cap, .bool b] ∧ Sl w' ao n cap ys ∧ n ≤ 20 ∧ Only w w') plain_prog hf fun w₁ hr => (h w₁ (Only.re hr)).mono (by
    rintro e w' ⟨ao, n, cap, ys, b, rfl, hs, hl, hb⟩
    exact ⟨_, rfl, ao, n, cap, ys, b, rfl, hs, hl, Only.of_re hr hb⟩)
theorem drawnIIC {Stop : Goroutine → World → Prop} {f : FuncId} {args : Array Value} {w : World} (hf : Fp f = true) (h : ∀ w₁, Only w w₁ → Calls Try.prog f args w₁ (DrawnII w₁)) :
    CallsC Try.prog (TF Try.prog Stop) f args w M00 (fun r w' M' => M' = M00 ∧ ∃ n k : Int, r = .tuple #[.int .i64 n, .int .i64 k] ∧ -1 ≤ n ∧ n ≤ 8 ∧ -1 ≤ k ∧ k ≤ 7 ∧ Only w w') :=
  callsC_lone (R := fun r w' => ∃ n k : Int, r = .tuple #[.int .i64 n, .int .i64 k] ∧ -1 ≤ n ∧ n ≤ 8 ∧ -1 ≤ k ∧ k ≤ 7 ∧ Only w w') plain_prog hf fun w₁ hr => (h w₁ (Only.re hr)).mono (by
    rintro e w' ⟨n, k, rfl, h1, h2, h3, h4, hb⟩
    exact ⟨_, rfl, n, k, rfl, h1, h2, h3, h4, Only.of_re hr hb⟩)

end Go.Proofs.Ytjphaphnmclbcaa
