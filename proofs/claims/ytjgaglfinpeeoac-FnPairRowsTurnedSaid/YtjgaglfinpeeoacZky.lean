/- The key's type of two numbers. No condition. -/
import Derived.Test.YtjgaglfinpeeoacMpz
import Derived.Test.YtjgaglfinpeeoacFrame
import Derived.DeepKeys4
namespace Go.Proofs.Ytjgaglfinpeeoac
open Go.RowKit

theorem small_wf {x : Int} (h : SmZ x) : (Lit.int .i64 x).wf = true := by
  have h1 := h.1
  have h2 := h.2
  simp [Lit.wf, IntKind.min, IntKind.max, IntKind.signed, IntKind.bits]
  omega
theorem zkey_lits (x y : Int) (h1 : (Lit.int .i64 x).wf = true) (h2 : (Lit.int .i64 y).wf = true) : Try.prog.keyLits (Try.prog.types.size + 1) 70 [.int .i64 x, .int .i64 y] = some [.int .i64 x, .int .i64 y] := by
  have c0 : Try.prog.cellsOf 70 = 2 := by kernel_rfl
  have c1 : Try.prog.cellsOf 3 = 1 := by kernel_rfl
  obtain ⟨n, hn⟩ : ∃ n, Try.prog.types.size = n + 1 := ⟨_, (by kernel_rfl : Try.prog.types.size = (Try.prog.types.size - 1) + 1)⟩
  rw [hn]
  unfold Program.keyLits
  rw [Try.underlying70]
  simp [c0, c1, Program.keyLits, Try.underlying3, h1, h2]
theorem zkeys : ZKeys Try.prog 70 :=
  ⟨deep_law_laid laidOut (m := 2) (by omega) (of_decide_eq_true (by kernel_rfl)) (by kernel_rfl) (by kernel_rfl), fun x y hx hy => by
    have e1 := small_wf hx
    have e2 := small_wf hy
    refine ⟨.string (keyBytes [.int .i64 x, .int .i64 y]), ?_⟩
    have h3 : Try.prog.keyType 70 = true := by kernel_rfl
    have h4 : (keyZ x y).cells.toList = [.int .i64 x, .int .i64 y] := rfl
    unfold keyOf
    rw [Try.underlying70]
    have h5 : (keyZ x y).formed Try.prog 70 = true := by kernel_rfl
    simp only [h3, h4, h5, zkey_lits x y e1 e2, Bool.and_self, if_true, Option.map_some]⟩

end Go.Proofs.Ytjgaglfinpeeoac
