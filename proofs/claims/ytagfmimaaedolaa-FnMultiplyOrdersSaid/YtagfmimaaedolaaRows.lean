/-
  No cell of these rows narrows 'for every input' (looked for: loops, veiled, ifaces, maps, wideKeys, modest, calm, conditions, laid).
  DERIVED. THE GIVEN ROWS OF THIS SEAT. 12 by the template 'for every input the law returns true; each argument reads behind the call as it read before'; 0 by the template 'total and deterministic' (their statements: YtagfmimaaedolaaTotals.lean).
  GIVEN WITH THE SEED: the statements are not yours to turn. If you find one false, say at which input.
  Laid BY PROGRAM, IN A SANDBOX (cutbox-rows.mjs): the forced cells as the released guide's own fill.sh prints them over the translation 1da267c9e1ddc622… (all of the seat's roots in one cut). By AI agents, Wed Nov 11 2026. No macro, syntax, notation, axiom, sorry.
-/
import Derived.Test.YtagfmimaaedolaaChecked
import GoSem.Claim
import GoSem.ClaimJoined
import GoSem.ClaimMapViews
import Derived.JoinedTies
import Derived.KernelRfl
namespace Go.Proofs.Ytagfmimaaedolaa
/- THE CELL 'sum', in the pinned program and in every row, IS THE sha256 OF THE DUMP (.gsa) THAT YtagfmimaaedolaaProg.lean LOADS. Nothing in Lean hashes anything: it is a label: what it is worth is what the hold of that sum in a sandbox is worth. -/
noncomputable def Try.pinned : Pinned := { name := "ytagfmimaaedolaa", sum := "1da267c9e1ddc6222acc81e38c53387e2fcae960534041dde838ddd25ffbe697", checked := Try.checked }
namespace Rows
def none {H : Type} : Left H := { results := [], args := [] }

/-- 'laws.FnValidOrder': WHATEVER THE INPUT: true; the input reads as it did. -/
def fnValidOrderSpec : ChangeSpec := { name := "fnValidOrder", fn := fun _ => fun
  | [d] => { results := [.lit (.bool true)], args := [d] }
  | _ => none }
def fnValidOrderRow : OpenClaim := { program := "ytagfmimaaedolaa", sum := "1da267c9e1ddc6222acc81e38c53387e2fcae960534041dde838ddd25ffbe697", func := "loop.example/ordercounts/laws.FnValidOrder", spec := "fnValidOrder", apart := false }
def FnValidOrderSaid : Prop := fnValidOrderRow.holds Try.pinned (OpenSpec.ofChange fnValidOrderSpec)

/-- ITS FALSE NEIGHBOUR: 'it returns false'. Refute it at one input. -/
def fnValidOrderWrong : ChangeSpec := { name := "fnValidOrder", fn := fun _ => fun
  | [d] => { results := [.lit (.bool false)], args := [d] }
  | _ => none }
def FnValidOrderWrongFalsely : Prop := fnValidOrderRow.holds Try.pinned (OpenSpec.ofChange fnValidOrderWrong)

/-- 'laws.FnRisingOrder': WHATEVER THE INPUT: true; the input reads as it did. -/
def fnRisingOrderSpec : ChangeSpec := { name := "fnRisingOrder", fn := fun _ => fun
  | [d] => { results := [.lit (.bool true)], args := [d] }
  | _ => none }
def fnRisingOrderRow : OpenClaim := { program := "ytagfmimaaedolaa", sum := "1da267c9e1ddc6222acc81e38c53387e2fcae960534041dde838ddd25ffbe697", func := "loop.example/ordercounts/laws.FnRisingOrder", spec := "fnRisingOrder", apart := false }
def FnRisingOrderSaid : Prop := fnRisingOrderRow.holds Try.pinned (OpenSpec.ofChange fnRisingOrderSpec)

/-- ITS FALSE NEIGHBOUR: 'it returns false'. Refute it at one input. -/
def fnRisingOrderWrong : ChangeSpec := { name := "fnRisingOrder", fn := fun _ => fun
  | [d] => { results := [.lit (.bool false)], args := [d] }
  | _ => none }
def FnRisingOrderWrongFalsely : Prop := fnRisingOrderRow.holds Try.pinned (OpenSpec.ofChange fnRisingOrderWrong)

/-- 'laws.FnTurnOrder': WHATEVER THE INPUT: true; the input reads as it did. -/
def fnTurnOrderSpec : ChangeSpec := { name := "fnTurnOrder", fn := fun _ => fun
  | [d] => { results := [.lit (.bool true)], args := [d] }
  | _ => none }
def fnTurnOrderRow : OpenClaim := { program := "ytagfmimaaedolaa", sum := "1da267c9e1ddc6222acc81e38c53387e2fcae960534041dde838ddd25ffbe697", func := "loop.example/ordercounts/laws.FnTurnOrder", spec := "fnTurnOrder", apart := false }
def FnTurnOrderSaid : Prop := fnTurnOrderRow.holds Try.pinned (OpenSpec.ofChange fnTurnOrderSpec)

/-- ITS FALSE NEIGHBOUR: 'it returns false'. Refute it at one input. -/
def fnTurnOrderWrong : ChangeSpec := { name := "fnTurnOrder", fn := fun _ => fun
  | [d] => { results := [.lit (.bool false)], args := [d] }
  | _ => none }
def FnTurnOrderWrongFalsely : Prop := fnTurnOrderRow.holds Try.pinned (OpenSpec.ofChange fnTurnOrderWrong)

/-- 'laws.FnOppositeOrder': WHATEVER THE INPUT: true; the input reads as it did. -/
def fnOppositeOrderSpec : ChangeSpec := { name := "fnOppositeOrder", fn := fun _ => fun
  | [d] => { results := [.lit (.bool true)], args := [d] }
  | _ => none }
def fnOppositeOrderRow : OpenClaim := { program := "ytagfmimaaedolaa", sum := "1da267c9e1ddc6222acc81e38c53387e2fcae960534041dde838ddd25ffbe697", func := "loop.example/ordercounts/laws.FnOppositeOrder", spec := "fnOppositeOrder", apart := false }
def FnOppositeOrderSaid : Prop := fnOppositeOrderRow.holds Try.pinned (OpenSpec.ofChange fnOppositeOrderSpec)

/-- ITS FALSE NEIGHBOUR: 'it returns false'. Refute it at one input. -/
def fnOppositeOrderWrong : ChangeSpec := { name := "fnOppositeOrder", fn := fun _ => fun
  | [d] => { results := [.lit (.bool false)], args := [d] }
  | _ => none }
def FnOppositeOrderWrongFalsely : Prop := fnOppositeOrderRow.holds Try.pinned (OpenSpec.ofChange fnOppositeOrderWrong)

/-- 'laws.FnMultiplyOrders': WHATEVER THE INPUT: true; the input reads as it did. -/
def fnMultiplyOrdersSpec : ChangeSpec := { name := "fnMultiplyOrders", fn := fun _ => fun
  | [d] => { results := [.lit (.bool true)], args := [d] }
  | _ => none }
def fnMultiplyOrdersRow : OpenClaim := { program := "ytagfmimaaedolaa", sum := "1da267c9e1ddc6222acc81e38c53387e2fcae960534041dde838ddd25ffbe697", func := "loop.example/ordercounts/laws.FnMultiplyOrders", spec := "fnMultiplyOrders", apart := false }
def FnMultiplyOrdersSaid : Prop := fnMultiplyOrdersRow.holds Try.pinned (OpenSpec.ofChange fnMultiplyOrdersSpec)

/-- ITS FALSE NEIGHBOUR: 'it returns false'. Refute it at one input. -/
def fnMultiplyOrdersWrong : ChangeSpec := { name := "fnMultiplyOrders", fn := fun _ => fun
  | [d] => { results := [.lit (.bool false)], args := [d] }
  | _ => none }
def FnMultiplyOrdersWrongFalsely : Prop := fnMultiplyOrdersRow.holds Try.pinned (OpenSpec.ofChange fnMultiplyOrdersWrong)

/-- 'laws.FnTableOf': WHATEVER THE INPUT: true; the input reads as it did. -/
def fnTableOfSpec : ChangeSpec := { name := "fnTableOf", fn := fun _ => fun
  | [d] => { results := [.lit (.bool true)], args := [d] }
  | _ => none }
def fnTableOfRow : OpenClaim := { program := "ytagfmimaaedolaa", sum := "1da267c9e1ddc6222acc81e38c53387e2fcae960534041dde838ddd25ffbe697", func := "loop.example/ordercounts/laws.FnTableOf", spec := "fnTableOf", apart := false }
def FnTableOfSaid : Prop := fnTableOfRow.holds Try.pinned (OpenSpec.ofChange fnTableOfSpec)

/-- ITS FALSE NEIGHBOUR: 'it returns false'. Refute it at one input. -/
def fnTableOfWrong : ChangeSpec := { name := "fnTableOf", fn := fun _ => fun
  | [d] => { results := [.lit (.bool false)], args := [d] }
  | _ => none }
def FnTableOfWrongFalsely : Prop := fnTableOfRow.holds Try.pinned (OpenSpec.ofChange fnTableOfWrong)

/-- 'laws.FnInversionsOf': WHATEVER THE INPUT: true; the input reads as it did. -/
def fnInversionsOfSpec : ChangeSpec := { name := "fnInversionsOf", fn := fun _ => fun
  | [d] => { results := [.lit (.bool true)], args := [d] }
  | _ => none }
def fnInversionsOfRow : OpenClaim := { program := "ytagfmimaaedolaa", sum := "1da267c9e1ddc6222acc81e38c53387e2fcae960534041dde838ddd25ffbe697", func := "loop.example/ordercounts/laws.FnInversionsOf", spec := "fnInversionsOf", apart := false }
def FnInversionsOfSaid : Prop := fnInversionsOfRow.holds Try.pinned (OpenSpec.ofChange fnInversionsOfSpec)

/-- ITS FALSE NEIGHBOUR: 'it returns false'. Refute it at one input. -/
def fnInversionsOfWrong : ChangeSpec := { name := "fnInversionsOf", fn := fun _ => fun
  | [d] => { results := [.lit (.bool false)], args := [d] }
  | _ => none }
def FnInversionsOfWrongFalsely : Prop := fnInversionsOfRow.holds Try.pinned (OpenSpec.ofChange fnInversionsOfWrong)

/-- 'laws.FnOrderOfTable': WHATEVER THE INPUT: true; the input reads as it did. -/
def fnOrderOfTableSpec : ChangeSpec := { name := "fnOrderOfTable", fn := fun _ => fun
  | [d] => { results := [.lit (.bool true)], args := [d] }
  | _ => none }
def fnOrderOfTableRow : OpenClaim := { program := "ytagfmimaaedolaa", sum := "1da267c9e1ddc6222acc81e38c53387e2fcae960534041dde838ddd25ffbe697", func := "loop.example/ordercounts/laws.FnOrderOfTable", spec := "fnOrderOfTable", apart := false }
def FnOrderOfTableSaid : Prop := fnOrderOfTableRow.holds Try.pinned (OpenSpec.ofChange fnOrderOfTableSpec)

/-- ITS FALSE NEIGHBOUR: 'it returns false'. Refute it at one input. -/
def fnOrderOfTableWrong : ChangeSpec := { name := "fnOrderOfTable", fn := fun _ => fun
  | [d] => { results := [.lit (.bool false)], args := [d] }
  | _ => none }
def FnOrderOfTableWrongFalsely : Prop := fnOrderOfTableRow.holds Try.pinned (OpenSpec.ofChange fnOrderOfTableWrong)

/-- 'laws.FnRankOf': WHATEVER THE INPUT: true; the input reads as it did. -/
def fnRankOfSpec : ChangeSpec := { name := "fnRankOf", fn := fun _ => fun
  | [d] => { results := [.lit (.bool true)], args := [d] }
  | _ => none }
def fnRankOfRow : OpenClaim := { program := "ytagfmimaaedolaa", sum := "1da267c9e1ddc6222acc81e38c53387e2fcae960534041dde838ddd25ffbe697", func := "loop.example/ordercounts/laws.FnRankOf", spec := "fnRankOf", apart := false }
def FnRankOfSaid : Prop := fnRankOfRow.holds Try.pinned (OpenSpec.ofChange fnRankOfSpec)

/-- ITS FALSE NEIGHBOUR: 'it returns false'. Refute it at one input. -/
def fnRankOfWrong : ChangeSpec := { name := "fnRankOf", fn := fun _ => fun
  | [d] => { results := [.lit (.bool false)], args := [d] }
  | _ => none }
def FnRankOfWrongFalsely : Prop := fnRankOfRow.holds Try.pinned (OpenSpec.ofChange fnRankOfWrong)

/-- 'laws.FnOrderOfRank': WHATEVER THE INPUT: true; the input reads as it did. -/
def fnOrderOfRankSpec : ChangeSpec := { name := "fnOrderOfRank", fn := fun _ => fun
  | [d] => { results := [.lit (.bool true)], args := [d] }
  | _ => none }
def fnOrderOfRankRow : OpenClaim := { program := "ytagfmimaaedolaa", sum := "1da267c9e1ddc6222acc81e38c53387e2fcae960534041dde838ddd25ffbe697", func := "loop.example/ordercounts/laws.FnOrderOfRank", spec := "fnOrderOfRank", apart := false }
def FnOrderOfRankSaid : Prop := fnOrderOfRankRow.holds Try.pinned (OpenSpec.ofChange fnOrderOfRankSpec)

/-- ITS FALSE NEIGHBOUR: 'it returns false'. Refute it at one input. -/
def fnOrderOfRankWrong : ChangeSpec := { name := "fnOrderOfRank", fn := fun _ => fun
  | [d] => { results := [.lit (.bool false)], args := [d] }
  | _ => none }
def FnOrderOfRankWrongFalsely : Prop := fnOrderOfRankRow.holds Try.pinned (OpenSpec.ofChange fnOrderOfRankWrong)

/-- 'laws.FnAllOrders': WHATEVER THE INPUT: true; the input reads as it did. -/
def fnAllOrdersSpec : ChangeSpec := { name := "fnAllOrders", fn := fun _ => fun
  | [d] => { results := [.lit (.bool true)], args := [d] }
  | _ => none }
def fnAllOrdersRow : OpenClaim := { program := "ytagfmimaaedolaa", sum := "1da267c9e1ddc6222acc81e38c53387e2fcae960534041dde838ddd25ffbe697", func := "loop.example/ordercounts/laws.FnAllOrders", spec := "fnAllOrders", unfollowed := true, recurses := true, apart := false }
def FnAllOrdersSaid : Prop := fnAllOrdersRow.holds Try.pinned (OpenSpec.ofChange fnAllOrdersSpec)

/-- ITS FALSE NEIGHBOUR: 'it returns false'. Refute it at one input. -/
def fnAllOrdersWrong : ChangeSpec := { name := "fnAllOrders", fn := fun _ => fun
  | [d] => { results := [.lit (.bool false)], args := [d] }
  | _ => none }
def FnAllOrdersWrongFalsely : Prop := fnAllOrdersRow.holds Try.pinned (OpenSpec.ofChange fnAllOrdersWrong)

/-- 'laws.FnDescentsOf': WHATEVER THE INPUT: true; the input reads as it did. -/
def fnDescentsOfSpec : ChangeSpec := { name := "fnDescentsOf", fn := fun _ => fun
  | [d] => { results := [.lit (.bool true)], args := [d] }
  | _ => none }
def fnDescentsOfRow : OpenClaim := { program := "ytagfmimaaedolaa", sum := "1da267c9e1ddc6222acc81e38c53387e2fcae960534041dde838ddd25ffbe697", func := "loop.example/ordercounts/laws.FnDescentsOf", spec := "fnDescentsOf", apart := false }
def FnDescentsOfSaid : Prop := fnDescentsOfRow.holds Try.pinned (OpenSpec.ofChange fnDescentsOfSpec)

/-- ITS FALSE NEIGHBOUR: 'it returns false'. Refute it at one input. -/
def fnDescentsOfWrong : ChangeSpec := { name := "fnDescentsOf", fn := fun _ => fun
  | [d] => { results := [.lit (.bool false)], args := [d] }
  | _ => none }
def FnDescentsOfWrongFalsely : Prop := fnDescentsOfRow.holds Try.pinned (OpenSpec.ofChange fnDescentsOfWrong)

/- THE SECOND FORM. 'bulk': how many values and letters a reading holds, each counted each time it is reached (what is shared counts as often as it is met; a slice's spare places count too). A statement '..UptoSaid' is the law's where the arguments, and the package variables that the reading takes, are together of bulk at most 1048576: NARROWER than '..Said'. Prove '..Said' where nothing that the law and all that it calls make is longer than what came in: it says more and counts as full. Else prove '..UptoSaid'. A law counts once. -/
mutual
def uptoBulk {H : Type} : DataW H → Nat
  | .lit (.string bytes) => bytes.length + 1
  | .lit _ => 1
  | .nil => 1
  | .ptr d => uptoBulk d + 1
  | .slice elems spare => uptoBulkAll elems + uptoBulkAll spare + 1
  | .agg parts => uptoBulkAll parts + 1
  | .iface _ d => uptoBulk d + 1
  | .map entries => uptoBulkEntries entries + 1
  | .held _ => 1
def uptoBulkAll {H : Type} : List (DataW H) → Nat
  | [] => 0
  | d :: r => uptoBulk d + uptoBulkAll r
def uptoBulkEntries {H : Type} : List (Lit × DataW H) → Nat
  | [] => 0
  | x :: r => uptoBulkEntry x + uptoBulkEntries r
def uptoBulkEntry {H : Type} : Lit × DataW H → Nat
  | (.string bytes, d) => bytes.length + uptoBulk d + 1
  | (_, d) => uptoBulk d + 1
 end
def uptoSmall : (H : Type) → List (DataW H) → Bool := fun _ ds => decide (uptoBulkAll ds ≤ 1048576)
def OpenSpec.upto (s : _root_.Go.ChangeSpec) : _root_.Go.OpenSpec := { _root_.Go.OpenSpec.ofChange s with cond := some uptoSmall }

/-- 'laws.FnValidOrder', WHERE WHAT IT READS IS OF BULK AT MOST 1048576: true; the input reads as it did. -/
def fnValidOrderUptoRow : OpenClaim := { program := "ytagfmimaaedolaa", sum := "1da267c9e1ddc6222acc81e38c53387e2fcae960534041dde838ddd25ffbe697", func := "loop.example/ordercounts/laws.FnValidOrder", spec := "fnValidOrder", apart := false, narrowed := true }
def FnValidOrderUptoSaid : Prop := fnValidOrderUptoRow.holds Try.pinned (OpenSpec.upto fnValidOrderSpec)

/-- 'laws.FnRisingOrder', WHERE WHAT IT READS IS OF BULK AT MOST 1048576: true; the input reads as it did. -/
def fnRisingOrderUptoRow : OpenClaim := { program := "ytagfmimaaedolaa", sum := "1da267c9e1ddc6222acc81e38c53387e2fcae960534041dde838ddd25ffbe697", func := "loop.example/ordercounts/laws.FnRisingOrder", spec := "fnRisingOrder", apart := false, narrowed := true }
def FnRisingOrderUptoSaid : Prop := fnRisingOrderUptoRow.holds Try.pinned (OpenSpec.upto fnRisingOrderSpec)

/-- 'laws.FnTurnOrder', WHERE WHAT IT READS IS OF BULK AT MOST 1048576: true; the input reads as it did. -/
def fnTurnOrderUptoRow : OpenClaim := { program := "ytagfmimaaedolaa", sum := "1da267c9e1ddc6222acc81e38c53387e2fcae960534041dde838ddd25ffbe697", func := "loop.example/ordercounts/laws.FnTurnOrder", spec := "fnTurnOrder", apart := false, narrowed := true }
def FnTurnOrderUptoSaid : Prop := fnTurnOrderUptoRow.holds Try.pinned (OpenSpec.upto fnTurnOrderSpec)

/-- 'laws.FnOppositeOrder', WHERE WHAT IT READS IS OF BULK AT MOST 1048576: true; the input reads as it did. -/
def fnOppositeOrderUptoRow : OpenClaim := { program := "ytagfmimaaedolaa", sum := "1da267c9e1ddc6222acc81e38c53387e2fcae960534041dde838ddd25ffbe697", func := "loop.example/ordercounts/laws.FnOppositeOrder", spec := "fnOppositeOrder", apart := false, narrowed := true }
def FnOppositeOrderUptoSaid : Prop := fnOppositeOrderUptoRow.holds Try.pinned (OpenSpec.upto fnOppositeOrderSpec)

/-- 'laws.FnMultiplyOrders', WHERE WHAT IT READS IS OF BULK AT MOST 1048576: true; the input reads as it did. -/
def fnMultiplyOrdersUptoRow : OpenClaim := { program := "ytagfmimaaedolaa", sum := "1da267c9e1ddc6222acc81e38c53387e2fcae960534041dde838ddd25ffbe697", func := "loop.example/ordercounts/laws.FnMultiplyOrders", spec := "fnMultiplyOrders", apart := false, narrowed := true }
def FnMultiplyOrdersUptoSaid : Prop := fnMultiplyOrdersUptoRow.holds Try.pinned (OpenSpec.upto fnMultiplyOrdersSpec)

/-- 'laws.FnTableOf', WHERE WHAT IT READS IS OF BULK AT MOST 1048576: true; the input reads as it did. -/
def fnTableOfUptoRow : OpenClaim := { program := "ytagfmimaaedolaa", sum := "1da267c9e1ddc6222acc81e38c53387e2fcae960534041dde838ddd25ffbe697", func := "loop.example/ordercounts/laws.FnTableOf", spec := "fnTableOf", apart := false, narrowed := true }
def FnTableOfUptoSaid : Prop := fnTableOfUptoRow.holds Try.pinned (OpenSpec.upto fnTableOfSpec)

/-- 'laws.FnInversionsOf', WHERE WHAT IT READS IS OF BULK AT MOST 1048576: true; the input reads as it did. -/
def fnInversionsOfUptoRow : OpenClaim := { program := "ytagfmimaaedolaa", sum := "1da267c9e1ddc6222acc81e38c53387e2fcae960534041dde838ddd25ffbe697", func := "loop.example/ordercounts/laws.FnInversionsOf", spec := "fnInversionsOf", apart := false, narrowed := true }
def FnInversionsOfUptoSaid : Prop := fnInversionsOfUptoRow.holds Try.pinned (OpenSpec.upto fnInversionsOfSpec)

/-- 'laws.FnOrderOfTable', WHERE WHAT IT READS IS OF BULK AT MOST 1048576: true; the input reads as it did. -/
def fnOrderOfTableUptoRow : OpenClaim := { program := "ytagfmimaaedolaa", sum := "1da267c9e1ddc6222acc81e38c53387e2fcae960534041dde838ddd25ffbe697", func := "loop.example/ordercounts/laws.FnOrderOfTable", spec := "fnOrderOfTable", apart := false, narrowed := true }
def FnOrderOfTableUptoSaid : Prop := fnOrderOfTableUptoRow.holds Try.pinned (OpenSpec.upto fnOrderOfTableSpec)

/-- 'laws.FnRankOf', WHERE WHAT IT READS IS OF BULK AT MOST 1048576: true; the input reads as it did. -/
def fnRankOfUptoRow : OpenClaim := { program := "ytagfmimaaedolaa", sum := "1da267c9e1ddc6222acc81e38c53387e2fcae960534041dde838ddd25ffbe697", func := "loop.example/ordercounts/laws.FnRankOf", spec := "fnRankOf", apart := false, narrowed := true }
def FnRankOfUptoSaid : Prop := fnRankOfUptoRow.holds Try.pinned (OpenSpec.upto fnRankOfSpec)

/-- 'laws.FnOrderOfRank', WHERE WHAT IT READS IS OF BULK AT MOST 1048576: true; the input reads as it did. -/
def fnOrderOfRankUptoRow : OpenClaim := { program := "ytagfmimaaedolaa", sum := "1da267c9e1ddc6222acc81e38c53387e2fcae960534041dde838ddd25ffbe697", func := "loop.example/ordercounts/laws.FnOrderOfRank", spec := "fnOrderOfRank", apart := false, narrowed := true }
def FnOrderOfRankUptoSaid : Prop := fnOrderOfRankUptoRow.holds Try.pinned (OpenSpec.upto fnOrderOfRankSpec)

/-- 'laws.FnAllOrders', WHERE WHAT IT READS IS OF BULK AT MOST 1048576: true; the input reads as it did. -/
def fnAllOrdersUptoRow : OpenClaim := { program := "ytagfmimaaedolaa", sum := "1da267c9e1ddc6222acc81e38c53387e2fcae960534041dde838ddd25ffbe697", func := "loop.example/ordercounts/laws.FnAllOrders", spec := "fnAllOrders", unfollowed := true, recurses := true, apart := false, narrowed := true }
def FnAllOrdersUptoSaid : Prop := fnAllOrdersUptoRow.holds Try.pinned (OpenSpec.upto fnAllOrdersSpec)

/-- 'laws.FnDescentsOf', WHERE WHAT IT READS IS OF BULK AT MOST 1048576: true; the input reads as it did. -/
def fnDescentsOfUptoRow : OpenClaim := { program := "ytagfmimaaedolaa", sum := "1da267c9e1ddc6222acc81e38c53387e2fcae960534041dde838ddd25ffbe697", func := "loop.example/ordercounts/laws.FnDescentsOf", spec := "fnDescentsOf", apart := false, narrowed := true }
def FnDescentsOfUptoSaid : Prop := fnDescentsOfUptoRow.holds Try.pinned (OpenSpec.upto fnDescentsOfSpec)

end Rows
end Go.Proofs.Ytagfmimaaedolaa
