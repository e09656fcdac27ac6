/-
  No cell of these rows narrows 'for every input' (looked for: loops, veiled, ifaces, maps, wideKeys, modest, calm, conditions, laid).
  DERIVED. THE GIVEN ROWS OF THIS SEAT. 12 by the template 'for every input the law returns true; each argument reads behind the call as it read before'; 0 by the template 'total and deterministic' (their statements: YtagfmimaaedolacTotals.lean).
  GIVEN WITH THE SEED: the statements are not yours to turn. If you find one false, say at which input.
  Laid BY PROGRAM, IN A SANDBOX (cutbox-rows.mjs): the forced cells as the released guide's own fill.sh prints them over the translation 5774fa46d912b35d… (all of the seat's roots in one cut). By AI agents, Wed Nov 11 2026. No macro, syntax, notation, axiom, sorry.
-/
import Derived.Test.YtagfmimaaedolacChecked
import GoSem.Claim
import GoSem.ClaimJoined
import GoSem.ClaimMapViews
import Derived.JoinedTies
import Derived.KernelRfl
namespace Go.Proofs.Ytagfmimaaedolac
/- THE CELL 'sum', in the pinned program and in every row, IS THE sha256 OF THE DUMP (.gsa) THAT YtagfmimaaedolacProg.lean LOADS. Nothing in Lean hashes anything: it is a label: what it is worth is what the hold of that sum in a sandbox is worth. -/
noncomputable def Try.pinned : Pinned := { name := "ytagfmimaaedolac", sum := "5774fa46d912b35d62843aa8f12c7fb4c7d441e5dba575a4a41f68b444129841", checked := Try.checked }
namespace Rows
def none {H : Type} : Left H := { results := [], args := [] }

/-- 'laws.FnExactMultiplyOrders': WHATEVER THE INPUT: true; the input reads as it did. -/
def fnExactMultiplyOrdersSpec : ChangeSpec := { name := "fnExactMultiplyOrders", fn := fun _ => fun
  | [d1, d2] => { results := [.lit (.bool true)], args := [d1, d2] }
  | _ => none }
def fnExactMultiplyOrdersRow : OpenClaim := { program := "ytagfmimaaedolac", sum := "5774fa46d912b35d62843aa8f12c7fb4c7d441e5dba575a4a41f68b444129841", func := "loop.example/ordercounts/laws.FnExactMultiplyOrders", spec := "fnExactMultiplyOrders", apart := false }
def FnExactMultiplyOrdersSaid : Prop := fnExactMultiplyOrdersRow.holds Try.pinned (OpenSpec.ofChange fnExactMultiplyOrdersSpec)

/-- ITS FALSE NEIGHBOUR: 'it returns false'. Refute it at one input. -/
def fnExactMultiplyOrdersWrong : ChangeSpec := { name := "fnExactMultiplyOrders", fn := fun _ => fun
  | [d1, d2] => { results := [.lit (.bool false)], args := [d1, d2] }
  | _ => none }
def FnExactMultiplyOrdersWrongFalsely : Prop := fnExactMultiplyOrdersRow.holds Try.pinned (OpenSpec.ofChange fnExactMultiplyOrdersWrong)

/-- 'laws.FnExactTableOf': WHATEVER THE INPUT: true; the input reads as it did. -/
def fnExactTableOfSpec : ChangeSpec := { name := "fnExactTableOf", fn := fun _ => fun
  | [d] => { results := [.lit (.bool true)], args := [d] }
  | _ => none }
def fnExactTableOfRow : OpenClaim := { program := "ytagfmimaaedolac", sum := "5774fa46d912b35d62843aa8f12c7fb4c7d441e5dba575a4a41f68b444129841", func := "loop.example/ordercounts/laws.FnExactTableOf", spec := "fnExactTableOf", apart := false }
def FnExactTableOfSaid : Prop := fnExactTableOfRow.holds Try.pinned (OpenSpec.ofChange fnExactTableOfSpec)

/-- ITS FALSE NEIGHBOUR: 'it returns false'. Refute it at one input. -/
def fnExactTableOfWrong : ChangeSpec := { name := "fnExactTableOf", fn := fun _ => fun
  | [d] => { results := [.lit (.bool false)], args := [d] }
  | _ => none }
def FnExactTableOfWrongFalsely : Prop := fnExactTableOfRow.holds Try.pinned (OpenSpec.ofChange fnExactTableOfWrong)

/-- 'laws.FnExactInversionsOf': WHATEVER THE INPUT: true; the input reads as it did. -/
def fnExactInversionsOfSpec : ChangeSpec := { name := "fnExactInversionsOf", fn := fun _ => fun
  | [d] => { results := [.lit (.bool true)], args := [d] }
  | _ => none }
def fnExactInversionsOfRow : OpenClaim := { program := "ytagfmimaaedolac", sum := "5774fa46d912b35d62843aa8f12c7fb4c7d441e5dba575a4a41f68b444129841", func := "loop.example/ordercounts/laws.FnExactInversionsOf", spec := "fnExactInversionsOf", apart := false }
def FnExactInversionsOfSaid : Prop := fnExactInversionsOfRow.holds Try.pinned (OpenSpec.ofChange fnExactInversionsOfSpec)

/-- ITS FALSE NEIGHBOUR: 'it returns false'. Refute it at one input. -/
def fnExactInversionsOfWrong : ChangeSpec := { name := "fnExactInversionsOf", fn := fun _ => fun
  | [d] => { results := [.lit (.bool false)], args := [d] }
  | _ => none }
def FnExactInversionsOfWrongFalsely : Prop := fnExactInversionsOfRow.holds Try.pinned (OpenSpec.ofChange fnExactInversionsOfWrong)

/-- 'laws.FnExactOrderOfTable': WHATEVER THE INPUT: true; the input reads as it did. -/
def fnExactOrderOfTableSpec : ChangeSpec := { name := "fnExactOrderOfTable", fn := fun _ => fun
  | [d] => { results := [.lit (.bool true)], args := [d] }
  | _ => none }
def fnExactOrderOfTableRow : OpenClaim := { program := "ytagfmimaaedolac", sum := "5774fa46d912b35d62843aa8f12c7fb4c7d441e5dba575a4a41f68b444129841", func := "loop.example/ordercounts/laws.FnExactOrderOfTable", spec := "fnExactOrderOfTable", apart := false }
def FnExactOrderOfTableSaid : Prop := fnExactOrderOfTableRow.holds Try.pinned (OpenSpec.ofChange fnExactOrderOfTableSpec)

/-- ITS FALSE NEIGHBOUR: 'it returns false'. Refute it at one input. -/
def fnExactOrderOfTableWrong : ChangeSpec := { name := "fnExactOrderOfTable", fn := fun _ => fun
  | [d] => { results := [.lit (.bool false)], args := [d] }
  | _ => none }
def FnExactOrderOfTableWrongFalsely : Prop := fnExactOrderOfTableRow.holds Try.pinned (OpenSpec.ofChange fnExactOrderOfTableWrong)

/-- 'laws.FnExactRankOf': WHATEVER THE INPUT: true; the input reads as it did. -/
def fnExactRankOfSpec : ChangeSpec := { name := "fnExactRankOf", fn := fun _ => fun
  | [d] => { results := [.lit (.bool true)], args := [d] }
  | _ => none }
def fnExactRankOfRow : OpenClaim := { program := "ytagfmimaaedolac", sum := "5774fa46d912b35d62843aa8f12c7fb4c7d441e5dba575a4a41f68b444129841", func := "loop.example/ordercounts/laws.FnExactRankOf", spec := "fnExactRankOf", apart := false }
def FnExactRankOfSaid : Prop := fnExactRankOfRow.holds Try.pinned (OpenSpec.ofChange fnExactRankOfSpec)

/-- ITS FALSE NEIGHBOUR: 'it returns false'. Refute it at one input. -/
def fnExactRankOfWrong : ChangeSpec := { name := "fnExactRankOf", fn := fun _ => fun
  | [d] => { results := [.lit (.bool false)], args := [d] }
  | _ => none }
def FnExactRankOfWrongFalsely : Prop := fnExactRankOfRow.holds Try.pinned (OpenSpec.ofChange fnExactRankOfWrong)

/-- 'laws.FnExactOrderOfRank': WHATEVER THE INPUT: true; the input reads as it did. -/
def fnExactOrderOfRankSpec : ChangeSpec := { name := "fnExactOrderOfRank", fn := fun _ => fun
  | [d1, d2] => { results := [.lit (.bool true)], args := [d1, d2] }
  | _ => none }
def fnExactOrderOfRankRow : OpenClaim := { program := "ytagfmimaaedolac", sum := "5774fa46d912b35d62843aa8f12c7fb4c7d441e5dba575a4a41f68b444129841", func := "loop.example/ordercounts/laws.FnExactOrderOfRank", spec := "fnExactOrderOfRank", apart := false }
def FnExactOrderOfRankSaid : Prop := fnExactOrderOfRankRow.holds Try.pinned (OpenSpec.ofChange fnExactOrderOfRankSpec)

/-- ITS FALSE NEIGHBOUR: 'it returns false'. Refute it at one input. -/
def fnExactOrderOfRankWrong : ChangeSpec := { name := "fnExactOrderOfRank", fn := fun _ => fun
  | [d1, d2] => { results := [.lit (.bool false)], args := [d1, d2] }
  | _ => none }
def FnExactOrderOfRankWrongFalsely : Prop := fnExactOrderOfRankRow.holds Try.pinned (OpenSpec.ofChange fnExactOrderOfRankWrong)

/-- 'laws.FnExactAllOrders': WHATEVER THE INPUT: true; the input reads as it did. -/
def fnExactAllOrdersSpec : ChangeSpec := { name := "fnExactAllOrders", fn := fun _ => fun
  | [d] => { results := [.lit (.bool true)], args := [d] }
  | _ => none }
def fnExactAllOrdersRow : OpenClaim := { program := "ytagfmimaaedolac", sum := "5774fa46d912b35d62843aa8f12c7fb4c7d441e5dba575a4a41f68b444129841", func := "loop.example/ordercounts/laws.FnExactAllOrders", spec := "fnExactAllOrders", unfollowed := true, recurses := true, apart := false }
def FnExactAllOrdersSaid : Prop := fnExactAllOrdersRow.holds Try.pinned (OpenSpec.ofChange fnExactAllOrdersSpec)

/-- ITS FALSE NEIGHBOUR: 'it returns false'. Refute it at one input. -/
def fnExactAllOrdersWrong : ChangeSpec := { name := "fnExactAllOrders", fn := fun _ => fun
  | [d] => { results := [.lit (.bool false)], args := [d] }
  | _ => none }
def FnExactAllOrdersWrongFalsely : Prop := fnExactAllOrdersRow.holds Try.pinned (OpenSpec.ofChange fnExactAllOrdersWrong)

/-- 'laws.FnExactDescentsOf': WHATEVER THE INPUT: true; the input reads as it did. -/
def fnExactDescentsOfSpec : ChangeSpec := { name := "fnExactDescentsOf", fn := fun _ => fun
  | [d] => { results := [.lit (.bool true)], args := [d] }
  | _ => none }
def fnExactDescentsOfRow : OpenClaim := { program := "ytagfmimaaedolac", sum := "5774fa46d912b35d62843aa8f12c7fb4c7d441e5dba575a4a41f68b444129841", func := "loop.example/ordercounts/laws.FnExactDescentsOf", spec := "fnExactDescentsOf", apart := false }
def FnExactDescentsOfSaid : Prop := fnExactDescentsOfRow.holds Try.pinned (OpenSpec.ofChange fnExactDescentsOfSpec)

/-- ITS FALSE NEIGHBOUR: 'it returns false'. Refute it at one input. -/
def fnExactDescentsOfWrong : ChangeSpec := { name := "fnExactDescentsOf", fn := fun _ => fun
  | [d] => { results := [.lit (.bool false)], args := [d] }
  | _ => none }
def FnExactDescentsOfWrongFalsely : Prop := fnExactDescentsOfRow.holds Try.pinned (OpenSpec.ofChange fnExactDescentsOfWrong)

/-- 'laws.FnExactMajorOf': WHATEVER THE INPUT: true; the input reads as it did. -/
def fnExactMajorOfSpec : ChangeSpec := { name := "fnExactMajorOf", fn := fun _ => fun
  | [d] => { results := [.lit (.bool true)], args := [d] }
  | _ => none }
def fnExactMajorOfRow : OpenClaim := { program := "ytagfmimaaedolac", sum := "5774fa46d912b35d62843aa8f12c7fb4c7d441e5dba575a4a41f68b444129841", func := "loop.example/ordercounts/laws.FnExactMajorOf", spec := "fnExactMajorOf", apart := false }
def FnExactMajorOfSaid : Prop := fnExactMajorOfRow.holds Try.pinned (OpenSpec.ofChange fnExactMajorOfSpec)

/-- ITS FALSE NEIGHBOUR: 'it returns false'. Refute it at one input. -/
def fnExactMajorOfWrong : ChangeSpec := { name := "fnExactMajorOf", fn := fun _ => fun
  | [d] => { results := [.lit (.bool false)], args := [d] }
  | _ => none }
def FnExactMajorOfWrongFalsely : Prop := fnExactMajorOfRow.holds Try.pinned (OpenSpec.ofChange fnExactMajorOfWrong)

/-- 'laws.FnExactCirclesOf': WHATEVER THE INPUT: true; the input reads as it did. -/
def fnExactCirclesOfSpec : ChangeSpec := { name := "fnExactCirclesOf", fn := fun _ => fun
  | [d] => { results := [.lit (.bool true)], args := [d] }
  | _ => none }
def fnExactCirclesOfRow : OpenClaim := { program := "ytagfmimaaedolac", sum := "5774fa46d912b35d62843aa8f12c7fb4c7d441e5dba575a4a41f68b444129841", func := "loop.example/ordercounts/laws.FnExactCirclesOf", spec := "fnExactCirclesOf", apart := false }
def FnExactCirclesOfSaid : Prop := fnExactCirclesOfRow.holds Try.pinned (OpenSpec.ofChange fnExactCirclesOfSpec)

/-- ITS FALSE NEIGHBOUR: 'it returns false'. Refute it at one input. -/
def fnExactCirclesOfWrong : ChangeSpec := { name := "fnExactCirclesOf", fn := fun _ => fun
  | [d] => { results := [.lit (.bool false)], args := [d] }
  | _ => none }
def FnExactCirclesOfWrongFalsely : Prop := fnExactCirclesOfRow.holds Try.pinned (OpenSpec.ofChange fnExactCirclesOfWrong)

/-- 'laws.FnExactSignOf': WHATEVER THE INPUT: true; the input reads as it did. -/
def fnExactSignOfSpec : ChangeSpec := { name := "fnExactSignOf", fn := fun _ => fun
  | [d] => { results := [.lit (.bool true)], args := [d] }
  | _ => none }
def fnExactSignOfRow : OpenClaim := { program := "ytagfmimaaedolac", sum := "5774fa46d912b35d62843aa8f12c7fb4c7d441e5dba575a4a41f68b444129841", func := "loop.example/ordercounts/laws.FnExactSignOf", spec := "fnExactSignOf", apart := false }
def FnExactSignOfSaid : Prop := fnExactSignOfRow.holds Try.pinned (OpenSpec.ofChange fnExactSignOfSpec)

/-- ITS FALSE NEIGHBOUR: 'it returns false'. Refute it at one input. -/
def fnExactSignOfWrong : ChangeSpec := { name := "fnExactSignOf", fn := fun _ => fun
  | [d] => { results := [.lit (.bool false)], args := [d] }
  | _ => none }
def FnExactSignOfWrongFalsely : Prop := fnExactSignOfRow.holds Try.pinned (OpenSpec.ofChange fnExactSignOfWrong)

/-- 'laws.FnExactSumOrders': WHATEVER THE INPUT: true; the input reads as it did. -/
def fnExactSumOrdersSpec : ChangeSpec := { name := "fnExactSumOrders", fn := fun _ => fun
  | [d1, d2] => { results := [.lit (.bool true)], args := [d1, d2] }
  | _ => none }
def fnExactSumOrdersRow : OpenClaim := { program := "ytagfmimaaedolac", sum := "5774fa46d912b35d62843aa8f12c7fb4c7d441e5dba575a4a41f68b444129841", func := "loop.example/ordercounts/laws.FnExactSumOrders", spec := "fnExactSumOrders", apart := false }
def FnExactSumOrdersSaid : Prop := fnExactSumOrdersRow.holds Try.pinned (OpenSpec.ofChange fnExactSumOrdersSpec)

/-- ITS FALSE NEIGHBOUR: 'it returns false'. Refute it at one input. -/
def fnExactSumOrdersWrong : ChangeSpec := { name := "fnExactSumOrders", fn := fun _ => fun
  | [d1, d2] => { results := [.lit (.bool false)], args := [d1, d2] }
  | _ => none }
def FnExactSumOrdersWrongFalsely : Prop := fnExactSumOrdersRow.holds Try.pinned (OpenSpec.ofChange fnExactSumOrdersWrong)

/- THE SECOND FORM. 'bulk': how many values and letters a reading holds, each counted each time it is reached (what is shared counts as often as it is met; a slice's spare places count too). A statement '..UptoSaid' is the law's where the arguments, and the package variables that the reading takes, are together of bulk at most 1048576: NARROWER than '..Said'. Prove '..Said' where nothing that the law and all that it calls make is longer than what came in: it says more and counts as full. Else prove '..UptoSaid'. A law counts once. -/
mutual
def uptoBulk {H : Type} : DataW H → Nat
  | .lit (.string bytes) => bytes.length + 1
  | .lit _ => 1
  | .nil => 1
  | .ptr d => uptoBulk d + 1
  | .slice elems spare => uptoBulkAll elems + uptoBulkAll spare + 1
  | .agg parts => uptoBulkAll parts + 1
  | .iface _ d => uptoBulk d + 1
  | .map entries => uptoBulkEntries entries + 1
  | .held _ => 1
def uptoBulkAll {H : Type} : List (DataW H) → Nat
  | [] => 0
  | d :: r => uptoBulk d + uptoBulkAll r
def uptoBulkEntries {H : Type} : List (Lit × DataW H) → Nat
  | [] => 0
  | x :: r => uptoBulkEntry x + uptoBulkEntries r
def uptoBulkEntry {H : Type} : Lit × DataW H → Nat
  | (.string bytes, d) => bytes.length + uptoBulk d + 1
  | (_, d) => uptoBulk d + 1
 end
def uptoSmall : (H : Type) → List (DataW H) → Bool := fun _ ds => decide (uptoBulkAll ds ≤ 1048576)
def OpenSpec.upto (s : _root_.Go.ChangeSpec) : _root_.Go.OpenSpec := { _root_.Go.OpenSpec.ofChange s with cond := some uptoSmall }

/-- 'laws.FnExactMultiplyOrders', WHERE WHAT IT READS IS OF BULK AT MOST 1048576: true; the input reads as it did. -/
def fnExactMultiplyOrdersUptoRow : OpenClaim := { program := "ytagfmimaaedolac", sum := "5774fa46d912b35d62843aa8f12c7fb4c7d441e5dba575a4a41f68b444129841", func := "loop.example/ordercounts/laws.FnExactMultiplyOrders", spec := "fnExactMultiplyOrders", apart := false, narrowed := true }
def FnExactMultiplyOrdersUptoSaid : Prop := fnExactMultiplyOrdersUptoRow.holds Try.pinned (OpenSpec.upto fnExactMultiplyOrdersSpec)

/-- 'laws.FnExactTableOf', WHERE WHAT IT READS IS OF BULK AT MOST 1048576: true; the input reads as it did. -/
def fnExactTableOfUptoRow : OpenClaim := { program := "ytagfmimaaedolac", sum := "5774fa46d912b35d62843aa8f12c7fb4c7d441e5dba575a4a41f68b444129841", func := "loop.example/ordercounts/laws.FnExactTableOf", spec := "fnExactTableOf", apart := false, narrowed := true }
def FnExactTableOfUptoSaid : Prop := fnExactTableOfUptoRow.holds Try.pinned (OpenSpec.upto fnExactTableOfSpec)

/-- 'laws.FnExactInversionsOf', WHERE WHAT IT READS IS OF BULK AT MOST 1048576: true; the input reads as it did. -/
def fnExactInversionsOfUptoRow : OpenClaim := { program := "ytagfmimaaedolac", sum := "5774fa46d912b35d62843aa8f12c7fb4c7d441e5dba575a4a41f68b444129841", func := "loop.example/ordercounts/laws.FnExactInversionsOf", spec := "fnExactInversionsOf", apart := false, narrowed := true }
def FnExactInversionsOfUptoSaid : Prop := fnExactInversionsOfUptoRow.holds Try.pinned (OpenSpec.upto fnExactInversionsOfSpec)

/-- 'laws.FnExactOrderOfTable', WHERE WHAT IT READS IS OF BULK AT MOST 1048576: true; the input reads as it did. -/
def fnExactOrderOfTableUptoRow : OpenClaim := { program := "ytagfmimaaedolac", sum := "5774fa46d912b35d62843aa8f12c7fb4c7d441e5dba575a4a41f68b444129841", func := "loop.example/ordercounts/laws.FnExactOrderOfTable", spec := "fnExactOrderOfTable", apart := false, narrowed := true }
def FnExactOrderOfTableUptoSaid : Prop := fnExactOrderOfTableUptoRow.holds Try.pinned (OpenSpec.upto fnExactOrderOfTableSpec)

/-- 'laws.FnExactRankOf', WHERE WHAT IT READS IS OF BULK AT MOST 1048576: true; the input reads as it did. -/
def fnExactRankOfUptoRow : OpenClaim := { program := "ytagfmimaaedolac", sum := "5774fa46d912b35d62843aa8f12c7fb4c7d441e5dba575a4a41f68b444129841", func := "loop.example/ordercounts/laws.FnExactRankOf", spec := "fnExactRankOf", apart := false, narrowed := true }
def FnExactRankOfUptoSaid : Prop := fnExactRankOfUptoRow.holds Try.pinned (OpenSpec.upto fnExactRankOfSpec)

/-- 'laws.FnExactOrderOfRank', WHERE WHAT IT READS IS OF BULK AT MOST 1048576: true; the input reads as it did. -/
def fnExactOrderOfRankUptoRow : OpenClaim := { program := "ytagfmimaaedolac", sum := "5774fa46d912b35d62843aa8f12c7fb4c7d441e5dba575a4a41f68b444129841", func := "loop.example/ordercounts/laws.FnExactOrderOfRank", spec := "fnExactOrderOfRank", apart := false, narrowed := true }
def FnExactOrderOfRankUptoSaid : Prop := fnExactOrderOfRankUptoRow.holds Try.pinned (OpenSpec.upto fnExactOrderOfRankSpec)

/-- 'laws.FnExactAllOrders', WHERE WHAT IT READS IS OF BULK AT MOST 1048576: true; the input reads as it did. -/
def fnExactAllOrdersUptoRow : OpenClaim := { program := "ytagfmimaaedolac", sum := "5774fa46d912b35d62843aa8f12c7fb4c7d441e5dba575a4a41f68b444129841", func := "loop.example/ordercounts/laws.FnExactAllOrders", spec := "fnExactAllOrders", unfollowed := true, recurses := true, apart := false, narrowed := true }
def FnExactAllOrdersUptoSaid : Prop := fnExactAllOrdersUptoRow.holds Try.pinned (OpenSpec.upto fnExactAllOrdersSpec)

/-- 'laws.FnExactDescentsOf', WHERE WHAT IT READS IS OF BULK AT MOST 1048576: true; the input reads as it did. -/
def fnExactDescentsOfUptoRow : OpenClaim := { program := "ytagfmimaaedolac", sum := "5774fa46d912b35d62843aa8f12c7fb4c7d441e5dba575a4a41f68b444129841", func := "loop.example/ordercounts/laws.FnExactDescentsOf", spec := "fnExactDescentsOf", apart := false, narrowed := true }
def FnExactDescentsOfUptoSaid : Prop := fnExactDescentsOfUptoRow.holds Try.pinned (OpenSpec.upto fnExactDescentsOfSpec)

/-- 'laws.FnExactMajorOf', WHERE WHAT IT READS IS OF BULK AT MOST 1048576: true; the input reads as it did. -/
def fnExactMajorOfUptoRow : OpenClaim := { program := "ytagfmimaaedolac", sum := "5774fa46d912b35d62843aa8f12c7fb4c7d441e5dba575a4a41f68b444129841", func := "loop.example/ordercounts/laws.FnExactMajorOf", spec := "fnExactMajorOf", apart := false, narrowed := true }
def FnExactMajorOfUptoSaid : Prop := fnExactMajorOfUptoRow.holds Try.pinned (OpenSpec.upto fnExactMajorOfSpec)

/-- 'laws.FnExactCirclesOf', WHERE WHAT IT READS IS OF BULK AT MOST 1048576: true; the input reads as it did. -/
def fnExactCirclesOfUptoRow : OpenClaim := { program := "ytagfmimaaedolac", sum := "5774fa46d912b35d62843aa8f12c7fb4c7d441e5dba575a4a41f68b444129841", func := "loop.example/ordercounts/laws.FnExactCirclesOf", spec := "fnExactCirclesOf", apart := false, narrowed := true }
def FnExactCirclesOfUptoSaid : Prop := fnExactCirclesOfUptoRow.holds Try.pinned (OpenSpec.upto fnExactCirclesOfSpec)

/-- 'laws.FnExactSignOf', WHERE WHAT IT READS IS OF BULK AT MOST 1048576: true; the input reads as it did. -/
def fnExactSignOfUptoRow : OpenClaim := { program := "ytagfmimaaedolac", sum := "5774fa46d912b35d62843aa8f12c7fb4c7d441e5dba575a4a41f68b444129841", func := "loop.example/ordercounts/laws.FnExactSignOf", spec := "fnExactSignOf", apart := false, narrowed := true }
def FnExactSignOfUptoSaid : Prop := fnExactSignOfUptoRow.holds Try.pinned (OpenSpec.upto fnExactSignOfSpec)

/-- 'laws.FnExactSumOrders', WHERE WHAT IT READS IS OF BULK AT MOST 1048576: true; the input reads as it did. -/
def fnExactSumOrdersUptoRow : OpenClaim := { program := "ytagfmimaaedolac", sum := "5774fa46d912b35d62843aa8f12c7fb4c7d441e5dba575a4a41f68b444129841", func := "loop.example/ordercounts/laws.FnExactSumOrders", spec := "fnExactSumOrders", apart := false, narrowed := true }
def FnExactSumOrdersUptoSaid : Prop := fnExactSumOrdersUptoRow.holds Try.pinned (OpenSpec.upto fnExactSumOrdersSpec)

end Rows
end Go.Proofs.Ytagfmimaaedolac
