/-
  No cell of these rows narrows 'for every input' (looked for: loops, veiled, ifaces, maps, wideKeys, modest, calm, conditions, laid).
  DERIVED. THE GIVEN ROWS OF THIS SEAT. 9 by the template 'for every input the law returns true; each argument reads behind the call as it read before'; 0 by the template 'total and deterministic' (their statements: YtjgaglfinpeeoabTotals.lean).
  GIVEN WITH THE SEED: the statements are not yours to turn. If you find one false, say at which input.
  Laid BY PROGRAM, IN A SANDBOX (cutbox-rows.mjs): the forced cells as the released guide's own fill.sh prints them over the translation ec968b84edffb639… (all of the seat's roots in one cut). By AI agents, Wed Nov 11 2026. No macro, syntax, notation, axiom, sorry.
-/
import Derived.Test.YtjgaglfinpeeoabChecked
import GoSem.Claim
import GoSem.ClaimJoined
import GoSem.ClaimMapViews
import Derived.JoinedTies
import Derived.KernelRfl
namespace Go.Proofs.Ytjgaglfinpeeoab
/- THE CELL 'sum', in the pinned program and in every row, IS THE sha256 OF THE DUMP (.gsa) THAT YtjgaglfinpeeoabProg.lean LOADS. Nothing in Lean hashes anything: it is a label: what it is worth is what the hold of that sum in a sandbox is worth. -/
noncomputable def Try.pinned : Pinned := { name := "ytjgaglfinpeeoab", sum := "ec968b84edffb639744a3ed09c1722d52dfb1db0a2a908c234680e4b5b3ccce4", checked := Try.checked }
namespace Rows
def none {H : Type} : Left H := { results := [], args := [] }

/-- 'laws.FnMultiplySigned': WHATEVER THE INPUT: true; the input reads as it did. -/
def fnMultiplySignedSpec : ChangeSpec := { name := "fnMultiplySigned", fn := fun _ => fun
  | [d] => { results := [.lit (.bool true)], args := [d] }
  | _ => none }
def fnMultiplySignedRow : OpenClaim := { program := "ytjgaglfinpeeoab", sum := "ec968b84edffb639744a3ed09c1722d52dfb1db0a2a908c234680e4b5b3ccce4", func := "loop.example/ordercounts/laws.FnMultiplySigned", spec := "fnMultiplySigned", apart := false }
def FnMultiplySignedSaid : Prop := fnMultiplySignedRow.holds Try.pinned (OpenSpec.ofChange fnMultiplySignedSpec)

/-- ITS FALSE NEIGHBOUR: 'it returns false'. Refute it at one input. -/
def fnMultiplySignedWrong : ChangeSpec := { name := "fnMultiplySigned", fn := fun _ => fun
  | [d] => { results := [.lit (.bool false)], args := [d] }
  | _ => none }
def FnMultiplySignedWrongFalsely : Prop := fnMultiplySignedRow.holds Try.pinned (OpenSpec.ofChange fnMultiplySignedWrong)

/-- 'laws.FnExactMultiplySigned': WHATEVER THE INPUT: true; the input reads as it did. -/
def fnExactMultiplySignedSpec : ChangeSpec := { name := "fnExactMultiplySigned", fn := fun _ => fun
  | [d1, d2] => { results := [.lit (.bool true)], args := [d1, d2] }
  | _ => none }
def fnExactMultiplySignedRow : OpenClaim := { program := "ytjgaglfinpeeoab", sum := "ec968b84edffb639744a3ed09c1722d52dfb1db0a2a908c234680e4b5b3ccce4", func := "loop.example/ordercounts/laws.FnExactMultiplySigned", spec := "fnExactMultiplySigned", apart := false }
def FnExactMultiplySignedSaid : Prop := fnExactMultiplySignedRow.holds Try.pinned (OpenSpec.ofChange fnExactMultiplySignedSpec)

/-- ITS FALSE NEIGHBOUR: 'it returns false'. Refute it at one input. -/
def fnExactMultiplySignedWrong : ChangeSpec := { name := "fnExactMultiplySigned", fn := fun _ => fun
  | [d1, d2] => { results := [.lit (.bool false)], args := [d1, d2] }
  | _ => none }
def FnExactMultiplySignedWrongFalsely : Prop := fnExactMultiplySignedRow.holds Try.pinned (OpenSpec.ofChange fnExactMultiplySignedWrong)

/-- 'laws.FnInverseSigned': WHATEVER THE INPUT: true; the input reads as it did. -/
def fnInverseSignedSpec : ChangeSpec := { name := "fnInverseSigned", fn := fun _ => fun
  | [d] => { results := [.lit (.bool true)], args := [d] }
  | _ => none }
def fnInverseSignedRow : OpenClaim := { program := "ytjgaglfinpeeoab", sum := "ec968b84edffb639744a3ed09c1722d52dfb1db0a2a908c234680e4b5b3ccce4", func := "loop.example/ordercounts/laws.FnInverseSigned", spec := "fnInverseSigned", apart := false }
def FnInverseSignedSaid : Prop := fnInverseSignedRow.holds Try.pinned (OpenSpec.ofChange fnInverseSignedSpec)

/-- ITS FALSE NEIGHBOUR: 'it returns false'. Refute it at one input. -/
def fnInverseSignedWrong : ChangeSpec := { name := "fnInverseSigned", fn := fun _ => fun
  | [d] => { results := [.lit (.bool false)], args := [d] }
  | _ => none }
def FnInverseSignedWrongFalsely : Prop := fnInverseSignedRow.holds Try.pinned (OpenSpec.ofChange fnInverseSignedWrong)

/-- 'laws.FnExactInverseSigned': WHATEVER THE INPUT: true; the input reads as it did. -/
def fnExactInverseSignedSpec : ChangeSpec := { name := "fnExactInverseSigned", fn := fun _ => fun
  | [d] => { results := [.lit (.bool true)], args := [d] }
  | _ => none }
def fnExactInverseSignedRow : OpenClaim := { program := "ytjgaglfinpeeoab", sum := "ec968b84edffb639744a3ed09c1722d52dfb1db0a2a908c234680e4b5b3ccce4", func := "loop.example/ordercounts/laws.FnExactInverseSigned", spec := "fnExactInverseSigned", apart := false }
def FnExactInverseSignedSaid : Prop := fnExactInverseSignedRow.holds Try.pinned (OpenSpec.ofChange fnExactInverseSignedSpec)

/-- ITS FALSE NEIGHBOUR: 'it returns false'. Refute it at one input. -/
def fnExactInverseSignedWrong : ChangeSpec := { name := "fnExactInverseSigned", fn := fun _ => fun
  | [d] => { results := [.lit (.bool false)], args := [d] }
  | _ => none }
def FnExactInverseSignedWrongFalsely : Prop := fnExactInverseSignedRow.holds Try.pinned (OpenSpec.ofChange fnExactInverseSignedWrong)

/-- 'laws.FnExactParseSigned': WHATEVER THE INPUT: true; the input reads as it did. -/
def fnExactParseSignedSpec : ChangeSpec := { name := "fnExactParseSigned", fn := fun _ => fun
  | [d] => { results := [.lit (.bool true)], args := [d] }
  | _ => none }
def fnExactParseSignedRow : OpenClaim := { program := "ytjgaglfinpeeoab", sum := "ec968b84edffb639744a3ed09c1722d52dfb1db0a2a908c234680e4b5b3ccce4", func := "loop.example/ordercounts/laws.FnExactParseSigned", spec := "fnExactParseSigned", apart := false }
def FnExactParseSignedSaid : Prop := fnExactParseSignedRow.holds Try.pinned (OpenSpec.ofChange fnExactParseSignedSpec)

/-- ITS FALSE NEIGHBOUR: 'it returns false'. Refute it at one input. -/
def fnExactParseSignedWrong : ChangeSpec := { name := "fnExactParseSigned", fn := fun _ => fun
  | [d] => { results := [.lit (.bool false)], args := [d] }
  | _ => none }
def FnExactParseSignedWrongFalsely : Prop := fnExactParseSignedRow.holds Try.pinned (OpenSpec.ofChange fnExactParseSignedWrong)

/-- 'laws.FnDoubleRow': WHATEVER THE INPUT: true; the input reads as it did. -/
def fnDoubleRowSpec : ChangeSpec := { name := "fnDoubleRow", fn := fun _ => fun
  | [d] => { results := [.lit (.bool true)], args := [d] }
  | _ => none }
def fnDoubleRowRow : OpenClaim := { program := "ytjgaglfinpeeoab", sum := "ec968b84edffb639744a3ed09c1722d52dfb1db0a2a908c234680e4b5b3ccce4", func := "loop.example/ordercounts/laws.FnDoubleRow", spec := "fnDoubleRow", apart := false }
def FnDoubleRowSaid : Prop := fnDoubleRowRow.holds Try.pinned (OpenSpec.ofChange fnDoubleRowSpec)

/-- ITS FALSE NEIGHBOUR: 'it returns false'. Refute it at one input. -/
def fnDoubleRowWrong : ChangeSpec := { name := "fnDoubleRow", fn := fun _ => fun
  | [d] => { results := [.lit (.bool false)], args := [d] }
  | _ => none }
def FnDoubleRowWrongFalsely : Prop := fnDoubleRowRow.holds Try.pinned (OpenSpec.ofChange fnDoubleRowWrong)

/-- 'laws.FnExactDoubleRow': WHATEVER THE INPUT: true; the input reads as it did. -/
def fnExactDoubleRowSpec : ChangeSpec := { name := "fnExactDoubleRow", fn := fun _ => fun
  | [d] => { results := [.lit (.bool true)], args := [d] }
  | _ => none }
def fnExactDoubleRowRow : OpenClaim := { program := "ytjgaglfinpeeoab", sum := "ec968b84edffb639744a3ed09c1722d52dfb1db0a2a908c234680e4b5b3ccce4", func := "loop.example/ordercounts/laws.FnExactDoubleRow", spec := "fnExactDoubleRow", apart := false }
def FnExactDoubleRowSaid : Prop := fnExactDoubleRowRow.holds Try.pinned (OpenSpec.ofChange fnExactDoubleRowSpec)

/-- ITS FALSE NEIGHBOUR: 'it returns false'. Refute it at one input. -/
def fnExactDoubleRowWrong : ChangeSpec := { name := "fnExactDoubleRow", fn := fun _ => fun
  | [d] => { results := [.lit (.bool false)], args := [d] }
  | _ => none }
def FnExactDoubleRowWrongFalsely : Prop := fnExactDoubleRowRow.holds Try.pinned (OpenSpec.ofChange fnExactDoubleRowWrong)

/-- 'laws.FnFallRow': WHATEVER THE INPUT: true; the input reads as it did. -/
def fnFallRowSpec : ChangeSpec := { name := "fnFallRow", fn := fun _ => fun
  | [d] => { results := [.lit (.bool true)], args := [d] }
  | _ => none }
def fnFallRowRow : OpenClaim := { program := "ytjgaglfinpeeoab", sum := "ec968b84edffb639744a3ed09c1722d52dfb1db0a2a908c234680e4b5b3ccce4", func := "loop.example/ordercounts/laws.FnFallRow", spec := "fnFallRow", apart := false }
def FnFallRowSaid : Prop := fnFallRowRow.holds Try.pinned (OpenSpec.ofChange fnFallRowSpec)

/-- ITS FALSE NEIGHBOUR: 'it returns false'. Refute it at one input. -/
def fnFallRowWrong : ChangeSpec := { name := "fnFallRow", fn := fun _ => fun
  | [d] => { results := [.lit (.bool false)], args := [d] }
  | _ => none }
def FnFallRowWrongFalsely : Prop := fnFallRowRow.holds Try.pinned (OpenSpec.ofChange fnFallRowWrong)

/-- 'laws.FnExactFallRow': WHATEVER THE INPUT: true; the input reads as it did. -/
def fnExactFallRowSpec : ChangeSpec := { name := "fnExactFallRow", fn := fun _ => fun
  | [d] => { results := [.lit (.bool true)], args := [d] }
  | _ => none }
def fnExactFallRowRow : OpenClaim := { program := "ytjgaglfinpeeoab", sum := "ec968b84edffb639744a3ed09c1722d52dfb1db0a2a908c234680e4b5b3ccce4", func := "loop.example/ordercounts/laws.FnExactFallRow", spec := "fnExactFallRow", apart := false }
def FnExactFallRowSaid : Prop := fnExactFallRowRow.holds Try.pinned (OpenSpec.ofChange fnExactFallRowSpec)

/-- ITS FALSE NEIGHBOUR: 'it returns false'. Refute it at one input. -/
def fnExactFallRowWrong : ChangeSpec := { name := "fnExactFallRow", fn := fun _ => fun
  | [d] => { results := [.lit (.bool false)], args := [d] }
  | _ => none }
def FnExactFallRowWrongFalsely : Prop := fnExactFallRowRow.holds Try.pinned (OpenSpec.ofChange fnExactFallRowWrong)

/- THE SECOND FORM. 'bulk': how many values and letters a reading holds, each counted each time it is reached (what is shared counts as often as it is met; a slice's spare places count too). A statement '..UptoSaid' is the law's where the arguments, and the package variables that the reading takes, are together of bulk at most 1048576: NARROWER than '..Said'. Prove '..Said' where nothing that the law and all that it calls make is longer than what came in: it says more and counts as full. Else prove '..UptoSaid'. A law counts once. -/
mutual
def uptoBulk {H : Type} : DataW H → Nat
  | .lit (.string bytes) => bytes.length + 1
  | .lit _ => 1
  | .nil => 1
  | .ptr d => uptoBulk d + 1
  | .slice elems spare => uptoBulkAll elems + uptoBulkAll spare + 1
  | .agg parts => uptoBulkAll parts + 1
  | .iface _ d => uptoBulk d + 1
  | .map entries => uptoBulkEntries entries + 1
  | .held _ => 1
def uptoBulkAll {H : Type} : List (DataW H) → Nat
  | [] => 0
  | d :: r => uptoBulk d + uptoBulkAll r
def uptoBulkEntries {H : Type} : List (Lit × DataW H) → Nat
  | [] => 0
  | x :: r => uptoBulkEntry x + uptoBulkEntries r
def uptoBulkEntry {H : Type} : Lit × DataW H → Nat
  | (.string bytes, d) => bytes.length + uptoBulk d + 1
  | (_, d) => uptoBulk d + 1
 end
def uptoSmall : (H : Type) → List (DataW H) → Bool := fun _ ds => decide (uptoBulkAll ds ≤ 1048576)
def OpenSpec.upto (s : _root_.Go.ChangeSpec) : _root_.Go.OpenSpec := { _root_.Go.OpenSpec.ofChange s with cond := some uptoSmall }

/-- 'laws.FnMultiplySigned', WHERE WHAT IT READS IS OF BULK AT MOST 1048576: true; the input reads as it did. -/
def fnMultiplySignedUptoRow : OpenClaim := { program := "ytjgaglfinpeeoab", sum := "ec968b84edffb639744a3ed09c1722d52dfb1db0a2a908c234680e4b5b3ccce4", func := "loop.example/ordercounts/laws.FnMultiplySigned", spec := "fnMultiplySigned", apart := false, narrowed := true }
def FnMultiplySignedUptoSaid : Prop := fnMultiplySignedUptoRow.holds Try.pinned (OpenSpec.upto fnMultiplySignedSpec)

/-- 'laws.FnExactMultiplySigned', WHERE WHAT IT READS IS OF BULK AT MOST 1048576: true; the input reads as it did. -/
def fnExactMultiplySignedUptoRow : OpenClaim := { program := "ytjgaglfinpeeoab", sum := "ec968b84edffb639744a3ed09c1722d52dfb1db0a2a908c234680e4b5b3ccce4", func := "loop.example/ordercounts/laws.FnExactMultiplySigned", spec := "fnExactMultiplySigned", apart := false, narrowed := true }
def FnExactMultiplySignedUptoSaid : Prop := fnExactMultiplySignedUptoRow.holds Try.pinned (OpenSpec.upto fnExactMultiplySignedSpec)

/-- 'laws.FnInverseSigned', WHERE WHAT IT READS IS OF BULK AT MOST 1048576: true; the input reads as it did. -/
def fnInverseSignedUptoRow : OpenClaim := { program := "ytjgaglfinpeeoab", sum := "ec968b84edffb639744a3ed09c1722d52dfb1db0a2a908c234680e4b5b3ccce4", func := "loop.example/ordercounts/laws.FnInverseSigned", spec := "fnInverseSigned", apart := false, narrowed := true }
def FnInverseSignedUptoSaid : Prop := fnInverseSignedUptoRow.holds Try.pinned (OpenSpec.upto fnInverseSignedSpec)

/-- 'laws.FnExactInverseSigned', WHERE WHAT IT READS IS OF BULK AT MOST 1048576: true; the input reads as it did. -/
def fnExactInverseSignedUptoRow : OpenClaim := { program := "ytjgaglfinpeeoab", sum := "ec968b84edffb639744a3ed09c1722d52dfb1db0a2a908c234680e4b5b3ccce4", func := "loop.example/ordercounts/laws.FnExactInverseSigned", spec := "fnExactInverseSigned", apart := false, narrowed := true }
def FnExactInverseSignedUptoSaid : Prop := fnExactInverseSignedUptoRow.holds Try.pinned (OpenSpec.upto fnExactInverseSignedSpec)

/-- 'laws.FnExactParseSigned', WHERE WHAT IT READS IS OF BULK AT MOST 1048576: true; the input reads as it did. -/
def fnExactParseSignedUptoRow : OpenClaim := { program := "ytjgaglfinpeeoab", sum := "ec968b84edffb639744a3ed09c1722d52dfb1db0a2a908c234680e4b5b3ccce4", func := "loop.example/ordercounts/laws.FnExactParseSigned", spec := "fnExactParseSigned", apart := false, narrowed := true }
def FnExactParseSignedUptoSaid : Prop := fnExactParseSignedUptoRow.holds Try.pinned (OpenSpec.upto fnExactParseSignedSpec)

/-- 'laws.FnDoubleRow', WHERE WHAT IT READS IS OF BULK AT MOST 1048576: true; the input reads as it did. -/
def fnDoubleRowUptoRow : OpenClaim := { program := "ytjgaglfinpeeoab", sum := "ec968b84edffb639744a3ed09c1722d52dfb1db0a2a908c234680e4b5b3ccce4", func := "loop.example/ordercounts/laws.FnDoubleRow", spec := "fnDoubleRow", apart := false, narrowed := true }
def FnDoubleRowUptoSaid : Prop := fnDoubleRowUptoRow.holds Try.pinned (OpenSpec.upto fnDoubleRowSpec)

/-- 'laws.FnExactDoubleRow', WHERE WHAT IT READS IS OF BULK AT MOST 1048576: true; the input reads as it did. -/
def fnExactDoubleRowUptoRow : OpenClaim := { program := "ytjgaglfinpeeoab", sum := "ec968b84edffb639744a3ed09c1722d52dfb1db0a2a908c234680e4b5b3ccce4", func := "loop.example/ordercounts/laws.FnExactDoubleRow", spec := "fnExactDoubleRow", apart := false, narrowed := true }
def FnExactDoubleRowUptoSaid : Prop := fnExactDoubleRowUptoRow.holds Try.pinned (OpenSpec.upto fnExactDoubleRowSpec)

/-- 'laws.FnFallRow', WHERE WHAT IT READS IS OF BULK AT MOST 1048576: true; the input reads as it did. -/
def fnFallRowUptoRow : OpenClaim := { program := "ytjgaglfinpeeoab", sum := "ec968b84edffb639744a3ed09c1722d52dfb1db0a2a908c234680e4b5b3ccce4", func := "loop.example/ordercounts/laws.FnFallRow", spec := "fnFallRow", apart := false, narrowed := true }
def FnFallRowUptoSaid : Prop := fnFallRowUptoRow.holds Try.pinned (OpenSpec.upto fnFallRowSpec)

/-- 'laws.FnExactFallRow', WHERE WHAT IT READS IS OF BULK AT MOST 1048576: true; the input reads as it did. -/
def fnExactFallRowUptoRow : OpenClaim := { program := "ytjgaglfinpeeoab", sum := "ec968b84edffb639744a3ed09c1722d52dfb1db0a2a908c234680e4b5b3ccce4", func := "loop.example/ordercounts/laws.FnExactFallRow", spec := "fnExactFallRow", apart := false, narrowed := true }
def FnExactFallRowUptoSaid : Prop := fnExactFallRowUptoRow.holds Try.pinned (OpenSpec.upto fnExactFallRowSpec)

end Rows
end Go.Proofs.Ytjgaglfinpeeoab
