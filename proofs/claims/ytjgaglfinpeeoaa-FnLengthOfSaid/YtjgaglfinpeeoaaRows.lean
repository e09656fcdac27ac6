/-
  No cell of these rows narrows 'for every input' (looked for: loops, veiled, ifaces, maps, wideKeys, modest, calm, conditions, laid).
  DERIVED. THE GIVEN ROWS OF THIS SEAT. 12 by the template 'for every input the law returns true; each argument reads behind the call as it read before'; 0 by the template 'total and deterministic' (their statements: YtjgaglfinpeeoaaTotals.lean).
  GIVEN WITH THE SEED: the statements are not yours to turn. If you find one false, say at which input.
  Laid BY PROGRAM, IN A SANDBOX (cutbox-rows.mjs): the forced cells as the released guide's own fill.sh prints them over the translation 572ad127968200c1… (all of the seat's roots in one cut). By AI agents, Wed Nov 11 2026. No macro, syntax, notation, axiom, sorry.
-/
import Derived.Test.YtjgaglfinpeeoaaChecked
import GoSem.Claim
import GoSem.ClaimJoined
import GoSem.ClaimMapViews
import Derived.JoinedTies
import Derived.KernelRfl
namespace Go.Proofs.Ytjgaglfinpeeoaa
/- THE CELL 'sum', in the pinned program and in every row, IS THE sha256 OF THE DUMP (.gsa) THAT YtjgaglfinpeeoaaProg.lean LOADS. Nothing in Lean hashes anything: it is a label: what it is worth is what the hold of that sum in a sandbox is worth. -/
noncomputable def Try.pinned : Pinned := { name := "ytjgaglfinpeeoaa", sum := "572ad127968200c11a6c97eb6e2493f1ae341b62872cc8f86ca4fb6b9d402819", checked := Try.checked }
namespace Rows
def none {H : Type} : Left H := { results := [], args := [] }

/-- 'laws.FnValidSigned': WHATEVER THE INPUT: true; the input reads as it did. -/
def fnValidSignedSpec : ChangeSpec := { name := "fnValidSigned", fn := fun _ => fun
  | [d] => { results := [.lit (.bool true)], args := [d] }
  | _ => none }
def fnValidSignedRow : OpenClaim := { program := "ytjgaglfinpeeoaa", sum := "572ad127968200c11a6c97eb6e2493f1ae341b62872cc8f86ca4fb6b9d402819", func := "loop.example/ordercounts/laws.FnValidSigned", spec := "fnValidSigned", apart := false }
def FnValidSignedSaid : Prop := fnValidSignedRow.holds Try.pinned (OpenSpec.ofChange fnValidSignedSpec)

/-- ITS FALSE NEIGHBOUR: 'it returns false'. Refute it at one input. -/
def fnValidSignedWrong : ChangeSpec := { name := "fnValidSigned", fn := fun _ => fun
  | [d] => { results := [.lit (.bool false)], args := [d] }
  | _ => none }
def FnValidSignedWrongFalsely : Prop := fnValidSignedRow.holds Try.pinned (OpenSpec.ofChange fnValidSignedWrong)

/-- 'laws.FnExactValidSigned': WHATEVER THE INPUT: true; the input reads as it did. -/
def fnExactValidSignedSpec : ChangeSpec := { name := "fnExactValidSigned", fn := fun _ => fun
  | [d] => { results := [.lit (.bool true)], args := [d] }
  | _ => none }
def fnExactValidSignedRow : OpenClaim := { program := "ytjgaglfinpeeoaa", sum := "572ad127968200c11a6c97eb6e2493f1ae341b62872cc8f86ca4fb6b9d402819", func := "loop.example/ordercounts/laws.FnExactValidSigned", spec := "fnExactValidSigned", apart := false }
def FnExactValidSignedSaid : Prop := fnExactValidSignedRow.holds Try.pinned (OpenSpec.ofChange fnExactValidSignedSpec)

/-- ITS FALSE NEIGHBOUR: 'it returns false'. Refute it at one input. -/
def fnExactValidSignedWrong : ChangeSpec := { name := "fnExactValidSigned", fn := fun _ => fun
  | [d] => { results := [.lit (.bool false)], args := [d] }
  | _ => none }
def FnExactValidSignedWrongFalsely : Prop := fnExactValidSignedRow.holds Try.pinned (OpenSpec.ofChange fnExactValidSignedWrong)

/-- 'laws.FnSizesOf': WHATEVER THE INPUT: true; the input reads as it did. -/
def fnSizesOfSpec : ChangeSpec := { name := "fnSizesOf", fn := fun _ => fun
  | [d] => { results := [.lit (.bool true)], args := [d] }
  | _ => none }
def fnSizesOfRow : OpenClaim := { program := "ytjgaglfinpeeoaa", sum := "572ad127968200c11a6c97eb6e2493f1ae341b62872cc8f86ca4fb6b9d402819", func := "loop.example/ordercounts/laws.FnSizesOf", spec := "fnSizesOf", apart := false }
def FnSizesOfSaid : Prop := fnSizesOfRow.holds Try.pinned (OpenSpec.ofChange fnSizesOfSpec)

/-- ITS FALSE NEIGHBOUR: 'it returns false'. Refute it at one input. -/
def fnSizesOfWrong : ChangeSpec := { name := "fnSizesOf", fn := fun _ => fun
  | [d] => { results := [.lit (.bool false)], args := [d] }
  | _ => none }
def FnSizesOfWrongFalsely : Prop := fnSizesOfRow.holds Try.pinned (OpenSpec.ofChange fnSizesOfWrong)

/-- 'laws.FnExactSizesOf': WHATEVER THE INPUT: true; the input reads as it did. -/
def fnExactSizesOfSpec : ChangeSpec := { name := "fnExactSizesOf", fn := fun _ => fun
  | [d] => { results := [.lit (.bool true)], args := [d] }
  | _ => none }
def fnExactSizesOfRow : OpenClaim := { program := "ytjgaglfinpeeoaa", sum := "572ad127968200c11a6c97eb6e2493f1ae341b62872cc8f86ca4fb6b9d402819", func := "loop.example/ordercounts/laws.FnExactSizesOf", spec := "fnExactSizesOf", apart := false }
def FnExactSizesOfSaid : Prop := fnExactSizesOfRow.holds Try.pinned (OpenSpec.ofChange fnExactSizesOfSpec)

/-- ITS FALSE NEIGHBOUR: 'it returns false'. Refute it at one input. -/
def fnExactSizesOfWrong : ChangeSpec := { name := "fnExactSizesOf", fn := fun _ => fun
  | [d] => { results := [.lit (.bool false)], args := [d] }
  | _ => none }
def FnExactSizesOfWrongFalsely : Prop := fnExactSizesOfRow.holds Try.pinned (OpenSpec.ofChange fnExactSizesOfWrong)

/-- 'laws.FnNegativesOf': WHATEVER THE INPUT: true; the input reads as it did. -/
def fnNegativesOfSpec : ChangeSpec := { name := "fnNegativesOf", fn := fun _ => fun
  | [d] => { results := [.lit (.bool true)], args := [d] }
  | _ => none }
def fnNegativesOfRow : OpenClaim := { program := "ytjgaglfinpeeoaa", sum := "572ad127968200c11a6c97eb6e2493f1ae341b62872cc8f86ca4fb6b9d402819", func := "loop.example/ordercounts/laws.FnNegativesOf", spec := "fnNegativesOf", apart := false }
def FnNegativesOfSaid : Prop := fnNegativesOfRow.holds Try.pinned (OpenSpec.ofChange fnNegativesOfSpec)

/-- ITS FALSE NEIGHBOUR: 'it returns false'. Refute it at one input. -/
def fnNegativesOfWrong : ChangeSpec := { name := "fnNegativesOf", fn := fun _ => fun
  | [d] => { results := [.lit (.bool false)], args := [d] }
  | _ => none }
def FnNegativesOfWrongFalsely : Prop := fnNegativesOfRow.holds Try.pinned (OpenSpec.ofChange fnNegativesOfWrong)

/-- 'laws.FnExactNegativesOf': WHATEVER THE INPUT: true; the input reads as it did. -/
def fnExactNegativesOfSpec : ChangeSpec := { name := "fnExactNegativesOf", fn := fun _ => fun
  | [d] => { results := [.lit (.bool true)], args := [d] }
  | _ => none }
def fnExactNegativesOfRow : OpenClaim := { program := "ytjgaglfinpeeoaa", sum := "572ad127968200c11a6c97eb6e2493f1ae341b62872cc8f86ca4fb6b9d402819", func := "loop.example/ordercounts/laws.FnExactNegativesOf", spec := "fnExactNegativesOf", apart := false }
def FnExactNegativesOfSaid : Prop := fnExactNegativesOfRow.holds Try.pinned (OpenSpec.ofChange fnExactNegativesOfSpec)

/-- ITS FALSE NEIGHBOUR: 'it returns false'. Refute it at one input. -/
def fnExactNegativesOfWrong : ChangeSpec := { name := "fnExactNegativesOf", fn := fun _ => fun
  | [d] => { results := [.lit (.bool false)], args := [d] }
  | _ => none }
def FnExactNegativesOfWrongFalsely : Prop := fnExactNegativesOfRow.holds Try.pinned (OpenSpec.ofChange fnExactNegativesOfWrong)

/-- 'laws.FnLengthOf': WHATEVER THE INPUT: true; the input reads as it did. -/
def fnLengthOfSpec : ChangeSpec := { name := "fnLengthOf", fn := fun _ => fun
  | [d] => { results := [.lit (.bool true)], args := [d] }
  | _ => none }
def fnLengthOfRow : OpenClaim := { program := "ytjgaglfinpeeoaa", sum := "572ad127968200c11a6c97eb6e2493f1ae341b62872cc8f86ca4fb6b9d402819", func := "loop.example/ordercounts/laws.FnLengthOf", spec := "fnLengthOf", apart := false }
def FnLengthOfSaid : Prop := fnLengthOfRow.holds Try.pinned (OpenSpec.ofChange fnLengthOfSpec)

/-- ITS FALSE NEIGHBOUR: 'it returns false'. Refute it at one input. -/
def fnLengthOfWrong : ChangeSpec := { name := "fnLengthOf", fn := fun _ => fun
  | [d] => { results := [.lit (.bool false)], args := [d] }
  | _ => none }
def FnLengthOfWrongFalsely : Prop := fnLengthOfRow.holds Try.pinned (OpenSpec.ofChange fnLengthOfWrong)

/-- 'laws.FnExactLengthOf': WHATEVER THE INPUT: true; the input reads as it did. -/
def fnExactLengthOfSpec : ChangeSpec := { name := "fnExactLengthOf", fn := fun _ => fun
  | [d] => { results := [.lit (.bool true)], args := [d] }
  | _ => none }
def fnExactLengthOfRow : OpenClaim := { program := "ytjgaglfinpeeoaa", sum := "572ad127968200c11a6c97eb6e2493f1ae341b62872cc8f86ca4fb6b9d402819", func := "loop.example/ordercounts/laws.FnExactLengthOf", spec := "fnExactLengthOf", apart := false }
def FnExactLengthOfSaid : Prop := fnExactLengthOfRow.holds Try.pinned (OpenSpec.ofChange fnExactLengthOfSpec)

/-- ITS FALSE NEIGHBOUR: 'it returns false'. Refute it at one input. -/
def fnExactLengthOfWrong : ChangeSpec := { name := "fnExactLengthOf", fn := fun _ => fun
  | [d] => { results := [.lit (.bool false)], args := [d] }
  | _ => none }
def FnExactLengthOfWrongFalsely : Prop := fnExactLengthOfRow.holds Try.pinned (OpenSpec.ofChange fnExactLengthOfWrong)

/-- 'laws.FnFlagMajor': WHATEVER THE INPUT: true; the input reads as it did. -/
def fnFlagMajorSpec : ChangeSpec := { name := "fnFlagMajor", fn := fun _ => fun
  | [d] => { results := [.lit (.bool true)], args := [d] }
  | _ => none }
def fnFlagMajorRow : OpenClaim := { program := "ytjgaglfinpeeoaa", sum := "572ad127968200c11a6c97eb6e2493f1ae341b62872cc8f86ca4fb6b9d402819", func := "loop.example/ordercounts/laws.FnFlagMajor", spec := "fnFlagMajor", apart := false }
def FnFlagMajorSaid : Prop := fnFlagMajorRow.holds Try.pinned (OpenSpec.ofChange fnFlagMajorSpec)

/-- ITS FALSE NEIGHBOUR: 'it returns false'. Refute it at one input. -/
def fnFlagMajorWrong : ChangeSpec := { name := "fnFlagMajor", fn := fun _ => fun
  | [d] => { results := [.lit (.bool false)], args := [d] }
  | _ => none }
def FnFlagMajorWrongFalsely : Prop := fnFlagMajorRow.holds Try.pinned (OpenSpec.ofChange fnFlagMajorWrong)

/-- 'laws.FnExactFlagMajor': WHATEVER THE INPUT: true; the input reads as it did. -/
def fnExactFlagMajorSpec : ChangeSpec := { name := "fnExactFlagMajor", fn := fun _ => fun
  | [d] => { results := [.lit (.bool true)], args := [d] }
  | _ => none }
def fnExactFlagMajorRow : OpenClaim := { program := "ytjgaglfinpeeoaa", sum := "572ad127968200c11a6c97eb6e2493f1ae341b62872cc8f86ca4fb6b9d402819", func := "loop.example/ordercounts/laws.FnExactFlagMajor", spec := "fnExactFlagMajor", apart := false }
def FnExactFlagMajorSaid : Prop := fnExactFlagMajorRow.holds Try.pinned (OpenSpec.ofChange fnExactFlagMajorSpec)

/-- ITS FALSE NEIGHBOUR: 'it returns false'. Refute it at one input. -/
def fnExactFlagMajorWrong : ChangeSpec := { name := "fnExactFlagMajor", fn := fun _ => fun
  | [d] => { results := [.lit (.bool false)], args := [d] }
  | _ => none }
def FnExactFlagMajorWrongFalsely : Prop := fnExactFlagMajorRow.holds Try.pinned (OpenSpec.ofChange fnExactFlagMajorWrong)

/-- 'laws.FnFallsOf': WHATEVER THE INPUT: true; the input reads as it did. -/
def fnFallsOfSpec : ChangeSpec := { name := "fnFallsOf", fn := fun _ => fun
  | [d] => { results := [.lit (.bool true)], args := [d] }
  | _ => none }
def fnFallsOfRow : OpenClaim := { program := "ytjgaglfinpeeoaa", sum := "572ad127968200c11a6c97eb6e2493f1ae341b62872cc8f86ca4fb6b9d402819", func := "loop.example/ordercounts/laws.FnFallsOf", spec := "fnFallsOf", apart := false }
def FnFallsOfSaid : Prop := fnFallsOfRow.holds Try.pinned (OpenSpec.ofChange fnFallsOfSpec)

/-- ITS FALSE NEIGHBOUR: 'it returns false'. Refute it at one input. -/
def fnFallsOfWrong : ChangeSpec := { name := "fnFallsOf", fn := fun _ => fun
  | [d] => { results := [.lit (.bool false)], args := [d] }
  | _ => none }
def FnFallsOfWrongFalsely : Prop := fnFallsOfRow.holds Try.pinned (OpenSpec.ofChange fnFallsOfWrong)

/-- 'laws.FnExactFallsOf': WHATEVER THE INPUT: true; the input reads as it did. -/
def fnExactFallsOfSpec : ChangeSpec := { name := "fnExactFallsOf", fn := fun _ => fun
  | [d] => { results := [.lit (.bool true)], args := [d] }
  | _ => none }
def fnExactFallsOfRow : OpenClaim := { program := "ytjgaglfinpeeoaa", sum := "572ad127968200c11a6c97eb6e2493f1ae341b62872cc8f86ca4fb6b9d402819", func := "loop.example/ordercounts/laws.FnExactFallsOf", spec := "fnExactFallsOf", apart := false }
def FnExactFallsOfSaid : Prop := fnExactFallsOfRow.holds Try.pinned (OpenSpec.ofChange fnExactFallsOfSpec)

/-- ITS FALSE NEIGHBOUR: 'it returns false'. Refute it at one input. -/
def fnExactFallsOfWrong : ChangeSpec := { name := "fnExactFallsOf", fn := fun _ => fun
  | [d] => { results := [.lit (.bool false)], args := [d] }
  | _ => none }
def FnExactFallsOfWrongFalsely : Prop := fnExactFallsOfRow.holds Try.pinned (OpenSpec.ofChange fnExactFallsOfWrong)

/- THE SECOND FORM. 'bulk': how many values and letters a reading holds, each counted each time it is reached (what is shared counts as often as it is met; a slice's spare places count too). A statement '..UptoSaid' is the law's where the arguments, and the package variables that the reading takes, are together of bulk at most 1048576: NARROWER than '..Said'. Prove '..Said' where nothing that the law and all that it calls make is longer than what came in: it says more and counts as full. Else prove '..UptoSaid'. A law counts once. -/
mutual
def uptoBulk {H : Type} : DataW H → Nat
  | .lit (.string bytes) => bytes.length + 1
  | .lit _ => 1
  | .nil => 1
  | .ptr d => uptoBulk d + 1
  | .slice elems spare => uptoBulkAll elems + uptoBulkAll spare + 1
  | .agg parts => uptoBulkAll parts + 1
  | .iface _ d => uptoBulk d + 1
  | .map entries => uptoBulkEntries entries + 1
  | .held _ => 1
def uptoBulkAll {H : Type} : List (DataW H) → Nat
  | [] => 0
  | d :: r => uptoBulk d + uptoBulkAll r
def uptoBulkEntries {H : Type} : List (Lit × DataW H) → Nat
  | [] => 0
  | x :: r => uptoBulkEntry x + uptoBulkEntries r
def uptoBulkEntry {H : Type} : Lit × DataW H → Nat
  | (.string bytes, d) => bytes.length + uptoBulk d + 1
  | (_, d) => uptoBulk d + 1
 end
def uptoSmall : (H : Type) → List (DataW H) → Bool := fun _ ds => decide (uptoBulkAll ds ≤ 1048576)
def OpenSpec.upto (s : _root_.Go.ChangeSpec) : _root_.Go.OpenSpec := { _root_.Go.OpenSpec.ofChange s with cond := some uptoSmall }

/-- 'laws.FnValidSigned', WHERE WHAT IT READS IS OF BULK AT MOST 1048576: true; the input reads as it did. -/
def fnValidSignedUptoRow : OpenClaim := { program := "ytjgaglfinpeeoaa", sum := "572ad127968200c11a6c97eb6e2493f1ae341b62872cc8f86ca4fb6b9d402819", func := "loop.example/ordercounts/laws.FnValidSigned", spec := "fnValidSigned", apart := false, narrowed := true }
def FnValidSignedUptoSaid : Prop := fnValidSignedUptoRow.holds Try.pinned (OpenSpec.upto fnValidSignedSpec)

/-- 'laws.FnExactValidSigned', WHERE WHAT IT READS IS OF BULK AT MOST 1048576: true; the input reads as it did. -/
def fnExactValidSignedUptoRow : OpenClaim := { program := "ytjgaglfinpeeoaa", sum := "572ad127968200c11a6c97eb6e2493f1ae341b62872cc8f86ca4fb6b9d402819", func := "loop.example/ordercounts/laws.FnExactValidSigned", spec := "fnExactValidSigned", apart := false, narrowed := true }
def FnExactValidSignedUptoSaid : Prop := fnExactValidSignedUptoRow.holds Try.pinned (OpenSpec.upto fnExactValidSignedSpec)

/-- 'laws.FnSizesOf', WHERE WHAT IT READS IS OF BULK AT MOST 1048576: true; the input reads as it did. -/
def fnSizesOfUptoRow : OpenClaim := { program := "ytjgaglfinpeeoaa", sum := "572ad127968200c11a6c97eb6e2493f1ae341b62872cc8f86ca4fb6b9d402819", func := "loop.example/ordercounts/laws.FnSizesOf", spec := "fnSizesOf", apart := false, narrowed := true }
def FnSizesOfUptoSaid : Prop := fnSizesOfUptoRow.holds Try.pinned (OpenSpec.upto fnSizesOfSpec)

/-- 'laws.FnExactSizesOf', WHERE WHAT IT READS IS OF BULK AT MOST 1048576: true; the input reads as it did. -/
def fnExactSizesOfUptoRow : OpenClaim := { program := "ytjgaglfinpeeoaa", sum := "572ad127968200c11a6c97eb6e2493f1ae341b62872cc8f86ca4fb6b9d402819", func := "loop.example/ordercounts/laws.FnExactSizesOf", spec := "fnExactSizesOf", apart := false, narrowed := true }
def FnExactSizesOfUptoSaid : Prop := fnExactSizesOfUptoRow.holds Try.pinned (OpenSpec.upto fnExactSizesOfSpec)

/-- 'laws.FnNegativesOf', WHERE WHAT IT READS IS OF BULK AT MOST 1048576: true; the input reads as it did. -/
def fnNegativesOfUptoRow : OpenClaim := { program := "ytjgaglfinpeeoaa", sum := "572ad127968200c11a6c97eb6e2493f1ae341b62872cc8f86ca4fb6b9d402819", func := "loop.example/ordercounts/laws.FnNegativesOf", spec := "fnNegativesOf", apart := false, narrowed := true }
def FnNegativesOfUptoSaid : Prop := fnNegativesOfUptoRow.holds Try.pinned (OpenSpec.upto fnNegativesOfSpec)

/-- 'laws.FnExactNegativesOf', WHERE WHAT IT READS IS OF BULK AT MOST 1048576: true; the input reads as it did. -/
def fnExactNegativesOfUptoRow : OpenClaim := { program := "ytjgaglfinpeeoaa", sum := "572ad127968200c11a6c97eb6e2493f1ae341b62872cc8f86ca4fb6b9d402819", func := "loop.example/ordercounts/laws.FnExactNegativesOf", spec := "fnExactNegativesOf", apart := false, narrowed := true }
def FnExactNegativesOfUptoSaid : Prop := fnExactNegativesOfUptoRow.holds Try.pinned (OpenSpec.upto fnExactNegativesOfSpec)

/-- 'laws.FnLengthOf', WHERE WHAT IT READS IS OF BULK AT MOST 1048576: true; the input reads as it did. -/
def fnLengthOfUptoRow : OpenClaim := { program := "ytjgaglfinpeeoaa", sum := "572ad127968200c11a6c97eb6e2493f1ae341b62872cc8f86ca4fb6b9d402819", func := "loop.example/ordercounts/laws.FnLengthOf", spec := "fnLengthOf", apart := false, narrowed := true }
def FnLengthOfUptoSaid : Prop := fnLengthOfUptoRow.holds Try.pinned (OpenSpec.upto fnLengthOfSpec)

/-- 'laws.FnExactLengthOf', WHERE WHAT IT READS IS OF BULK AT MOST 1048576: true; the input reads as it did. -/
def fnExactLengthOfUptoRow : OpenClaim := { program := "ytjgaglfinpeeoaa", sum := "572ad127968200c11a6c97eb6e2493f1ae341b62872cc8f86ca4fb6b9d402819", func := "loop.example/ordercounts/laws.FnExactLengthOf", spec := "fnExactLengthOf", apart := false, narrowed := true }
def FnExactLengthOfUptoSaid : Prop := fnExactLengthOfUptoRow.holds Try.pinned (OpenSpec.upto fnExactLengthOfSpec)

/-- 'laws.FnFlagMajor', WHERE WHAT IT READS IS OF BULK AT MOST 1048576: true; the input reads as it did. -/
def fnFlagMajorUptoRow : OpenClaim := { program := "ytjgaglfinpeeoaa", sum := "572ad127968200c11a6c97eb6e2493f1ae341b62872cc8f86ca4fb6b9d402819", func := "loop.example/ordercounts/laws.FnFlagMajor", spec := "fnFlagMajor", apart := false, narrowed := true }
def FnFlagMajorUptoSaid : Prop := fnFlagMajorUptoRow.holds Try.pinned (OpenSpec.upto fnFlagMajorSpec)

/-- 'laws.FnExactFlagMajor', WHERE WHAT IT READS IS OF BULK AT MOST 1048576: true; the input reads as it did. -/
def fnExactFlagMajorUptoRow : OpenClaim := { program := "ytjgaglfinpeeoaa", sum := "572ad127968200c11a6c97eb6e2493f1ae341b62872cc8f86ca4fb6b9d402819", func := "loop.example/ordercounts/laws.FnExactFlagMajor", spec := "fnExactFlagMajor", apart := false, narrowed := true }
def FnExactFlagMajorUptoSaid : Prop := fnExactFlagMajorUptoRow.holds Try.pinned (OpenSpec.upto fnExactFlagMajorSpec)

/-- 'laws.FnFallsOf', WHERE WHAT IT READS IS OF BULK AT MOST 1048576: true; the input reads as it did. -/
def fnFallsOfUptoRow : OpenClaim := { program := "ytjgaglfinpeeoaa", sum := "572ad127968200c11a6c97eb6e2493f1ae341b62872cc8f86ca4fb6b9d402819", func := "loop.example/ordercounts/laws.FnFallsOf", spec := "fnFallsOf", apart := false, narrowed := true }
def FnFallsOfUptoSaid : Prop := fnFallsOfUptoRow.holds Try.pinned (OpenSpec.upto fnFallsOfSpec)

/-- 'laws.FnExactFallsOf', WHERE WHAT IT READS IS OF BULK AT MOST 1048576: true; the input reads as it did. -/
def fnExactFallsOfUptoRow : OpenClaim := { program := "ytjgaglfinpeeoaa", sum := "572ad127968200c11a6c97eb6e2493f1ae341b62872cc8f86ca4fb6b9d402819", func := "loop.example/ordercounts/laws.FnExactFallsOf", spec := "fnExactFallsOf", apart := false, narrowed := true }
def FnExactFallsOfUptoSaid : Prop := fnExactFallsOfUptoRow.holds Try.pinned (OpenSpec.upto fnExactFallsOfSpec)

end Rows
end Go.Proofs.Ytjgaglfinpeeoaa
