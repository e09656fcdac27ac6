/-
  No cell of these rows narrows 'for every input' (looked for: loops, veiled, ifaces, maps, wideKeys, modest, calm, conditions, laid).
  DERIVED. THE GIVEN ROWS OF THIS SEAT. 12 by the template 'for every input the law returns true; each argument reads behind the call as it read before'; 0 by the template 'total and deterministic' (their statements: YtepikmkkbecdaaaTotals.lean).
  GIVEN WITH THE SEED: the statements are not yours to turn. If you find one false, say at which input.
  Laid BY PROGRAM, IN A SANDBOX (cutbox-rows.mjs): the forced cells as the released guide's own fill.sh prints them over the translation ce05291498592690… (all of the seat's roots in one cut). By AI agents, Wed Nov 11 2026. No macro, syntax, notation, axiom, sorry.
-/
import Derived.Test.YtepikmkkbecdaaaChecked
import GoSem.Claim
import GoSem.ClaimJoined
import GoSem.ClaimMapViews
import Derived.JoinedTies
import Derived.KernelRfl
namespace Go.Proofs.Ytepikmkkbecdaaa
/- THE CELL 'sum', in the pinned program and in every row, IS THE sha256 OF THE DUMP (.gsa) THAT YtepikmkkbecdaaaProg.lean LOADS. Nothing in Lean hashes anything: it is a label: what it is worth is what the hold of that sum in a sandbox is worth. -/
noncomputable def Try.pinned : Pinned := { name := "ytepikmkkbecdaaa", sum := "ce052914985926908de0ed8c53245dc449f8ba48a48fe9421fc5897d3eb33e9a", checked := Try.checked }
namespace Rows
def none {H : Type} : Left H := { results := [], args := [] }

/-- 'laws.FnTableOf': WHATEVER THE INPUT: true; the input reads as it did. -/
def fnTableOfSpec : ChangeSpec := { name := "fnTableOf", fn := fun _ => fun
  | [d] => { results := [.lit (.bool true)], args := [d] }
  | _ => none }
def fnTableOfRow : OpenClaim := { program := "ytepikmkkbecdaaa", sum := "ce052914985926908de0ed8c53245dc449f8ba48a48fe9421fc5897d3eb33e9a", func := "loop.example/ordercounts/laws.FnTableOf", spec := "fnTableOf", apart := false }
def FnTableOfSaid : Prop := fnTableOfRow.holds Try.pinned (OpenSpec.ofChange fnTableOfSpec)

/-- ITS FALSE NEIGHBOUR: 'it returns false'. Refute it at one input. -/
def fnTableOfWrong : ChangeSpec := { name := "fnTableOf", fn := fun _ => fun
  | [d] => { results := [.lit (.bool false)], args := [d] }
  | _ => none }
def FnTableOfWrongFalsely : Prop := fnTableOfRow.holds Try.pinned (OpenSpec.ofChange fnTableOfWrong)

/-- 'laws.FnOrderOfTable': WHATEVER THE INPUT: true; the input reads as it did. -/
def fnOrderOfTableSpec : ChangeSpec := { name := "fnOrderOfTable", fn := fun _ => fun
  | [d] => { results := [.lit (.bool true)], args := [d] }
  | _ => none }
def fnOrderOfTableRow : OpenClaim := { program := "ytepikmkkbecdaaa", sum := "ce052914985926908de0ed8c53245dc449f8ba48a48fe9421fc5897d3eb33e9a", func := "loop.example/ordercounts/laws.FnOrderOfTable", spec := "fnOrderOfTable", apart := false }
def FnOrderOfTableSaid : Prop := fnOrderOfTableRow.holds Try.pinned (OpenSpec.ofChange fnOrderOfTableSpec)

/-- ITS FALSE NEIGHBOUR: 'it returns false'. Refute it at one input. -/
def fnOrderOfTableWrong : ChangeSpec := { name := "fnOrderOfTable", fn := fun _ => fun
  | [d] => { results := [.lit (.bool false)], args := [d] }
  | _ => none }
def FnOrderOfTableWrongFalsely : Prop := fnOrderOfTableRow.holds Try.pinned (OpenSpec.ofChange fnOrderOfTableWrong)

/-- 'laws.FnRankOf': WHATEVER THE INPUT: true; the input reads as it did. -/
def fnRankOfSpec : ChangeSpec := { name := "fnRankOf", fn := fun _ => fun
  | [d] => { results := [.lit (.bool true)], args := [d] }
  | _ => none }
def fnRankOfRow : OpenClaim := { program := "ytepikmkkbecdaaa", sum := "ce052914985926908de0ed8c53245dc449f8ba48a48fe9421fc5897d3eb33e9a", func := "loop.example/ordercounts/laws.FnRankOf", spec := "fnRankOf", apart := false }
def FnRankOfSaid : Prop := fnRankOfRow.holds Try.pinned (OpenSpec.ofChange fnRankOfSpec)

/-- ITS FALSE NEIGHBOUR: 'it returns false'. Refute it at one input. -/
def fnRankOfWrong : ChangeSpec := { name := "fnRankOf", fn := fun _ => fun
  | [d] => { results := [.lit (.bool false)], args := [d] }
  | _ => none }
def FnRankOfWrongFalsely : Prop := fnRankOfRow.holds Try.pinned (OpenSpec.ofChange fnRankOfWrong)

/-- 'laws.FnOrderOfRank': WHATEVER THE INPUT: true; the input reads as it did. -/
def fnOrderOfRankSpec : ChangeSpec := { name := "fnOrderOfRank", fn := fun _ => fun
  | [d] => { results := [.lit (.bool true)], args := [d] }
  | _ => none }
def fnOrderOfRankRow : OpenClaim := { program := "ytepikmkkbecdaaa", sum := "ce052914985926908de0ed8c53245dc449f8ba48a48fe9421fc5897d3eb33e9a", func := "loop.example/ordercounts/laws.FnOrderOfRank", spec := "fnOrderOfRank", apart := false }
def FnOrderOfRankSaid : Prop := fnOrderOfRankRow.holds Try.pinned (OpenSpec.ofChange fnOrderOfRankSpec)

/-- ITS FALSE NEIGHBOUR: 'it returns false'. Refute it at one input. -/
def fnOrderOfRankWrong : ChangeSpec := { name := "fnOrderOfRank", fn := fun _ => fun
  | [d] => { results := [.lit (.bool false)], args := [d] }
  | _ => none }
def FnOrderOfRankWrongFalsely : Prop := fnOrderOfRankRow.holds Try.pinned (OpenSpec.ofChange fnOrderOfRankWrong)

/-- 'laws.FnAllOrders': WHATEVER THE INPUT: true; the input reads as it did. -/
def fnAllOrdersSpec : ChangeSpec := { name := "fnAllOrders", fn := fun _ => fun
  | [d] => { results := [.lit (.bool true)], args := [d] }
  | _ => none }
def fnAllOrdersRow : OpenClaim := { program := "ytepikmkkbecdaaa", sum := "ce052914985926908de0ed8c53245dc449f8ba48a48fe9421fc5897d3eb33e9a", func := "loop.example/ordercounts/laws.FnAllOrders", spec := "fnAllOrders", unfollowed := true, recurses := true, apart := false }
def FnAllOrdersSaid : Prop := fnAllOrdersRow.holds Try.pinned (OpenSpec.ofChange fnAllOrdersSpec)

/-- ITS FALSE NEIGHBOUR: 'it returns false'. Refute it at one input. -/
def fnAllOrdersWrong : ChangeSpec := { name := "fnAllOrders", fn := fun _ => fun
  | [d] => { results := [.lit (.bool false)], args := [d] }
  | _ => none }
def FnAllOrdersWrongFalsely : Prop := fnAllOrdersRow.holds Try.pinned (OpenSpec.ofChange fnAllOrdersWrong)

/-- 'laws.FnCirclesOf': WHATEVER THE INPUT: true; the input reads as it did. -/
def fnCirclesOfSpec : ChangeSpec := { name := "fnCirclesOf", fn := fun _ => fun
  | [d] => { results := [.lit (.bool true)], args := [d] }
  | _ => none }
def fnCirclesOfRow : OpenClaim := { program := "ytepikmkkbecdaaa", sum := "ce052914985926908de0ed8c53245dc449f8ba48a48fe9421fc5897d3eb33e9a", func := "loop.example/ordercounts/laws.FnCirclesOf", spec := "fnCirclesOf", apart := false }
def FnCirclesOfSaid : Prop := fnCirclesOfRow.holds Try.pinned (OpenSpec.ofChange fnCirclesOfSpec)

/-- ITS FALSE NEIGHBOUR: 'it returns false'. Refute it at one input. -/
def fnCirclesOfWrong : ChangeSpec := { name := "fnCirclesOf", fn := fun _ => fun
  | [d] => { results := [.lit (.bool false)], args := [d] }
  | _ => none }
def FnCirclesOfWrongFalsely : Prop := fnCirclesOfRow.holds Try.pinned (OpenSpec.ofChange fnCirclesOfWrong)

/-- 'laws.FnSumOrders': WHATEVER THE INPUT: true; the input reads as it did. -/
def fnSumOrdersSpec : ChangeSpec := { name := "fnSumOrders", fn := fun _ => fun
  | [d] => { results := [.lit (.bool true)], args := [d] }
  | _ => none }
def fnSumOrdersRow : OpenClaim := { program := "ytepikmkkbecdaaa", sum := "ce052914985926908de0ed8c53245dc449f8ba48a48fe9421fc5897d3eb33e9a", func := "loop.example/ordercounts/laws.FnSumOrders", spec := "fnSumOrders", apart := false }
def FnSumOrdersSaid : Prop := fnSumOrdersRow.holds Try.pinned (OpenSpec.ofChange fnSumOrdersSpec)

/-- ITS FALSE NEIGHBOUR: 'it returns false'. Refute it at one input. -/
def fnSumOrdersWrong : ChangeSpec := { name := "fnSumOrders", fn := fun _ => fun
  | [d] => { results := [.lit (.bool false)], args := [d] }
  | _ => none }
def FnSumOrdersWrongFalsely : Prop := fnSumOrdersRow.holds Try.pinned (OpenSpec.ofChange fnSumOrdersWrong)

/-- 'laws.FnParseOrder': WHATEVER THE INPUT: true; the input reads as it did. -/
def fnParseOrderSpec : ChangeSpec := { name := "fnParseOrder", fn := fun _ => fun
  | [d] => { results := [.lit (.bool true)], args := [d] }
  | _ => none }
def fnParseOrderRow : OpenClaim := { program := "ytepikmkkbecdaaa", sum := "ce052914985926908de0ed8c53245dc449f8ba48a48fe9421fc5897d3eb33e9a", func := "loop.example/ordercounts/laws.FnParseOrder", spec := "fnParseOrder", apart := false }
def FnParseOrderSaid : Prop := fnParseOrderRow.holds Try.pinned (OpenSpec.ofChange fnParseOrderSpec)

/-- ITS FALSE NEIGHBOUR: 'it returns false'. Refute it at one input. -/
def fnParseOrderWrong : ChangeSpec := { name := "fnParseOrder", fn := fun _ => fun
  | [d] => { results := [.lit (.bool false)], args := [d] }
  | _ => none }
def FnParseOrderWrongFalsely : Prop := fnParseOrderRow.holds Try.pinned (OpenSpec.ofChange fnParseOrderWrong)

/-- 'laws.FnExactOrderOfTable': WHATEVER THE INPUT: true; the input reads as it did. -/
def fnExactOrderOfTableSpec : ChangeSpec := { name := "fnExactOrderOfTable", fn := fun _ => fun
  | [d] => { results := [.lit (.bool true)], args := [d] }
  | _ => none }
def fnExactOrderOfTableRow : OpenClaim := { program := "ytepikmkkbecdaaa", sum := "ce052914985926908de0ed8c53245dc449f8ba48a48fe9421fc5897d3eb33e9a", func := "loop.example/ordercounts/laws.FnExactOrderOfTable", spec := "fnExactOrderOfTable", apart := false }
def FnExactOrderOfTableSaid : Prop := fnExactOrderOfTableRow.holds Try.pinned (OpenSpec.ofChange fnExactOrderOfTableSpec)

/-- ITS FALSE NEIGHBOUR: 'it returns false'. Refute it at one input. -/
def fnExactOrderOfTableWrong : ChangeSpec := { name := "fnExactOrderOfTable", fn := fun _ => fun
  | [d] => { results := [.lit (.bool false)], args := [d] }
  | _ => none }
def FnExactOrderOfTableWrongFalsely : Prop := fnExactOrderOfTableRow.holds Try.pinned (OpenSpec.ofChange fnExactOrderOfTableWrong)

/-- 'laws.FnExactOrderOfRank': WHATEVER THE INPUT: true; the input reads as it did. -/
def fnExactOrderOfRankSpec : ChangeSpec := { name := "fnExactOrderOfRank", fn := fun _ => fun
  | [d1, d2] => { results := [.lit (.bool true)], args := [d1, d2] }
  | _ => none }
def fnExactOrderOfRankRow : OpenClaim := { program := "ytepikmkkbecdaaa", sum := "ce052914985926908de0ed8c53245dc449f8ba48a48fe9421fc5897d3eb33e9a", func := "loop.example/ordercounts/laws.FnExactOrderOfRank", spec := "fnExactOrderOfRank", apart := false }
def FnExactOrderOfRankSaid : Prop := fnExactOrderOfRankRow.holds Try.pinned (OpenSpec.ofChange fnExactOrderOfRankSpec)

/-- ITS FALSE NEIGHBOUR: 'it returns false'. Refute it at one input. -/
def fnExactOrderOfRankWrong : ChangeSpec := { name := "fnExactOrderOfRank", fn := fun _ => fun
  | [d1, d2] => { results := [.lit (.bool false)], args := [d1, d2] }
  | _ => none }
def FnExactOrderOfRankWrongFalsely : Prop := fnExactOrderOfRankRow.holds Try.pinned (OpenSpec.ofChange fnExactOrderOfRankWrong)

/-- 'laws.FnExactAllOrders': WHATEVER THE INPUT: true; the input reads as it did. -/
def fnExactAllOrdersSpec : ChangeSpec := { name := "fnExactAllOrders", fn := fun _ => fun
  | [d] => { results := [.lit (.bool true)], args := [d] }
  | _ => none }
def fnExactAllOrdersRow : OpenClaim := { program := "ytepikmkkbecdaaa", sum := "ce052914985926908de0ed8c53245dc449f8ba48a48fe9421fc5897d3eb33e9a", func := "loop.example/ordercounts/laws.FnExactAllOrders", spec := "fnExactAllOrders", unfollowed := true, recurses := true, apart := false }
def FnExactAllOrdersSaid : Prop := fnExactAllOrdersRow.holds Try.pinned (OpenSpec.ofChange fnExactAllOrdersSpec)

/-- ITS FALSE NEIGHBOUR: 'it returns false'. Refute it at one input. -/
def fnExactAllOrdersWrong : ChangeSpec := { name := "fnExactAllOrders", fn := fun _ => fun
  | [d] => { results := [.lit (.bool false)], args := [d] }
  | _ => none }
def FnExactAllOrdersWrongFalsely : Prop := fnExactAllOrdersRow.holds Try.pinned (OpenSpec.ofChange fnExactAllOrdersWrong)

/-- 'laws.FnExactCirclesOf': WHATEVER THE INPUT: true; the input reads as it did. -/
def fnExactCirclesOfSpec : ChangeSpec := { name := "fnExactCirclesOf", fn := fun _ => fun
  | [d] => { results := [.lit (.bool true)], args := [d] }
  | _ => none }
def fnExactCirclesOfRow : OpenClaim := { program := "ytepikmkkbecdaaa", sum := "ce052914985926908de0ed8c53245dc449f8ba48a48fe9421fc5897d3eb33e9a", func := "loop.example/ordercounts/laws.FnExactCirclesOf", spec := "fnExactCirclesOf", apart := false }
def FnExactCirclesOfSaid : Prop := fnExactCirclesOfRow.holds Try.pinned (OpenSpec.ofChange fnExactCirclesOfSpec)

/-- ITS FALSE NEIGHBOUR: 'it returns false'. Refute it at one input. -/
def fnExactCirclesOfWrong : ChangeSpec := { name := "fnExactCirclesOf", fn := fun _ => fun
  | [d] => { results := [.lit (.bool false)], args := [d] }
  | _ => none }
def FnExactCirclesOfWrongFalsely : Prop := fnExactCirclesOfRow.holds Try.pinned (OpenSpec.ofChange fnExactCirclesOfWrong)

/- THE SECOND FORM. 'bulk': how many values and letters a reading holds, each counted each time it is reached (what is shared counts as often as it is met; a slice's spare places count too). A statement '..UptoSaid' is the law's where the arguments, and the package variables that the reading takes, are together of bulk at most 1048576: NARROWER than '..Said'. Prove '..Said' where nothing that the law and all that it calls make is longer than what came in: it says more and counts as full. Else prove '..UptoSaid'. A law counts once. -/
mutual
def uptoBulk {H : Type} : DataW H → Nat
  | .lit (.string bytes) => bytes.length + 1
  | .lit _ => 1
  | .nil => 1
  | .ptr d => uptoBulk d + 1
  | .slice elems spare => uptoBulkAll elems + uptoBulkAll spare + 1
  | .agg parts => uptoBulkAll parts + 1
  | .iface _ d => uptoBulk d + 1
  | .map entries => uptoBulkEntries entries + 1
  | .held _ => 1
def uptoBulkAll {H : Type} : List (DataW H) → Nat
  | [] => 0
  | d :: r => uptoBulk d + uptoBulkAll r
def uptoBulkEntries {H : Type} : List (Lit × DataW H) → Nat
  | [] => 0
  | x :: r => uptoBulkEntry x + uptoBulkEntries r
def uptoBulkEntry {H : Type} : Lit × DataW H → Nat
  | (.string bytes, d) => bytes.length + uptoBulk d + 1
  | (_, d) => uptoBulk d + 1
 end
def uptoSmall : (H : Type) → List (DataW H) → Bool := fun _ ds => decide (uptoBulkAll ds ≤ 1048576)
def OpenSpec.upto (s : _root_.Go.ChangeSpec) : _root_.Go.OpenSpec := { _root_.Go.OpenSpec.ofChange s with cond := some uptoSmall }

/-- 'laws.FnTableOf', WHERE WHAT IT READS IS OF BULK AT MOST 1048576: true; the input reads as it did. -/
def fnTableOfUptoRow : OpenClaim := { program := "ytepikmkkbecdaaa", sum := "ce052914985926908de0ed8c53245dc449f8ba48a48fe9421fc5897d3eb33e9a", func := "loop.example/ordercounts/laws.FnTableOf", spec := "fnTableOf", apart := false, narrowed := true }
def FnTableOfUptoSaid : Prop := fnTableOfUptoRow.holds Try.pinned (OpenSpec.upto fnTableOfSpec)

/-- 'laws.FnOrderOfTable', WHERE WHAT IT READS IS OF BULK AT MOST 1048576: true; the input reads as it did. -/
def fnOrderOfTableUptoRow : OpenClaim := { program := "ytepikmkkbecdaaa", sum := "ce052914985926908de0ed8c53245dc449f8ba48a48fe9421fc5897d3eb33e9a", func := "loop.example/ordercounts/laws.FnOrderOfTable", spec := "fnOrderOfTable", apart := false, narrowed := true }
def FnOrderOfTableUptoSaid : Prop := fnOrderOfTableUptoRow.holds Try.pinned (OpenSpec.upto fnOrderOfTableSpec)

/-- 'laws.FnRankOf', WHERE WHAT IT READS IS OF BULK AT MOST 1048576: true; the input reads as it did. -/
def fnRankOfUptoRow : OpenClaim := { program := "ytepikmkkbecdaaa", sum := "ce052914985926908de0ed8c53245dc449f8ba48a48fe9421fc5897d3eb33e9a", func := "loop.example/ordercounts/laws.FnRankOf", spec := "fnRankOf", apart := false, narrowed := true }
def FnRankOfUptoSaid : Prop := fnRankOfUptoRow.holds Try.pinned (OpenSpec.upto fnRankOfSpec)

/-- 'laws.FnOrderOfRank', WHERE WHAT IT READS IS OF BULK AT MOST 1048576: true; the input reads as it did. -/
def fnOrderOfRankUptoRow : OpenClaim := { program := "ytepikmkkbecdaaa", sum := "ce052914985926908de0ed8c53245dc449f8ba48a48fe9421fc5897d3eb33e9a", func := "loop.example/ordercounts/laws.FnOrderOfRank", spec := "fnOrderOfRank", apart := false, narrowed := true }
def FnOrderOfRankUptoSaid : Prop := fnOrderOfRankUptoRow.holds Try.pinned (OpenSpec.upto fnOrderOfRankSpec)

/-- 'laws.FnAllOrders', WHERE WHAT IT READS IS OF BULK AT MOST 1048576: true; the input reads as it did. -/
def fnAllOrdersUptoRow : OpenClaim := { program := "ytepikmkkbecdaaa", sum := "ce052914985926908de0ed8c53245dc449f8ba48a48fe9421fc5897d3eb33e9a", func := "loop.example/ordercounts/laws.FnAllOrders", spec := "fnAllOrders", unfollowed := true, recurses := true, apart := false, narrowed := true }
def FnAllOrdersUptoSaid : Prop := fnAllOrdersUptoRow.holds Try.pinned (OpenSpec.upto fnAllOrdersSpec)

/-- 'laws.FnCirclesOf', WHERE WHAT IT READS IS OF BULK AT MOST 1048576: true; the input reads as it did. -/
def fnCirclesOfUptoRow : OpenClaim := { program := "ytepikmkkbecdaaa", sum := "ce052914985926908de0ed8c53245dc449f8ba48a48fe9421fc5897d3eb33e9a", func := "loop.example/ordercounts/laws.FnCirclesOf", spec := "fnCirclesOf", apart := false, narrowed := true }
def FnCirclesOfUptoSaid : Prop := fnCirclesOfUptoRow.holds Try.pinned (OpenSpec.upto fnCirclesOfSpec)

/-- 'laws.FnSumOrders', WHERE WHAT IT READS IS OF BULK AT MOST 1048576: true; the input reads as it did. -/
def fnSumOrdersUptoRow : OpenClaim := { program := "ytepikmkkbecdaaa", sum := "ce052914985926908de0ed8c53245dc449f8ba48a48fe9421fc5897d3eb33e9a", func := "loop.example/ordercounts/laws.FnSumOrders", spec := "fnSumOrders", apart := false, narrowed := true }
def FnSumOrdersUptoSaid : Prop := fnSumOrdersUptoRow.holds Try.pinned (OpenSpec.upto fnSumOrdersSpec)

/-- 'laws.FnParseOrder', WHERE WHAT IT READS IS OF BULK AT MOST 1048576: true; the input reads as it did. -/
def fnParseOrderUptoRow : OpenClaim := { program := "ytepikmkkbecdaaa", sum := "ce052914985926908de0ed8c53245dc449f8ba48a48fe9421fc5897d3eb33e9a", func := "loop.example/ordercounts/laws.FnParseOrder", spec := "fnParseOrder", apart := false, narrowed := true }
def FnParseOrderUptoSaid : Prop := fnParseOrderUptoRow.holds Try.pinned (OpenSpec.upto fnParseOrderSpec)

/-- 'laws.FnExactOrderOfTable', WHERE WHAT IT READS IS OF BULK AT MOST 1048576: true; the input reads as it did. -/
def fnExactOrderOfTableUptoRow : OpenClaim := { program := "ytepikmkkbecdaaa", sum := "ce052914985926908de0ed8c53245dc449f8ba48a48fe9421fc5897d3eb33e9a", func := "loop.example/ordercounts/laws.FnExactOrderOfTable", spec := "fnExactOrderOfTable", apart := false, narrowed := true }
def FnExactOrderOfTableUptoSaid : Prop := fnExactOrderOfTableUptoRow.holds Try.pinned (OpenSpec.upto fnExactOrderOfTableSpec)

/-- 'laws.FnExactOrderOfRank', WHERE WHAT IT READS IS OF BULK AT MOST 1048576: true; the input reads as it did. -/
def fnExactOrderOfRankUptoRow : OpenClaim := { program := "ytepikmkkbecdaaa", sum := "ce052914985926908de0ed8c53245dc449f8ba48a48fe9421fc5897d3eb33e9a", func := "loop.example/ordercounts/laws.FnExactOrderOfRank", spec := "fnExactOrderOfRank", apart := false, narrowed := true }
def FnExactOrderOfRankUptoSaid : Prop := fnExactOrderOfRankUptoRow.holds Try.pinned (OpenSpec.upto fnExactOrderOfRankSpec)

/-- 'laws.FnExactAllOrders', WHERE WHAT IT READS IS OF BULK AT MOST 1048576: true; the input reads as it did. -/
def fnExactAllOrdersUptoRow : OpenClaim := { program := "ytepikmkkbecdaaa", sum := "ce052914985926908de0ed8c53245dc449f8ba48a48fe9421fc5897d3eb33e9a", func := "loop.example/ordercounts/laws.FnExactAllOrders", spec := "fnExactAllOrders", unfollowed := true, recurses := true, apart := false, narrowed := true }
def FnExactAllOrdersUptoSaid : Prop := fnExactAllOrdersUptoRow.holds Try.pinned (OpenSpec.upto fnExactAllOrdersSpec)

/-- 'laws.FnExactCirclesOf', WHERE WHAT IT READS IS OF BULK AT MOST 1048576: true; the input reads as it did. -/
def fnExactCirclesOfUptoRow : OpenClaim := { program := "ytepikmkkbecdaaa", sum := "ce052914985926908de0ed8c53245dc449f8ba48a48fe9421fc5897d3eb33e9a", func := "loop.example/ordercounts/laws.FnExactCirclesOf", spec := "fnExactCirclesOf", apart := false, narrowed := true }
def FnExactCirclesOfUptoSaid : Prop := fnExactCirclesOfUptoRow.holds Try.pinned (OpenSpec.upto fnExactCirclesOfSpec)

end Rows
end Go.Proofs.Ytepikmkkbecdaaa
