/-
  No cell of these rows narrows 'for every input' (looked for: loops, veiled, ifaces, maps, wideKeys, modest, calm, conditions, laid).
  DERIVED. THE GIVEN ROWS OF THIS SEAT. 12 by the template 'for every input the law returns true; each argument reads behind the call as it read before'; 0 by the template 'total and deterministic' (their statements: YtagfmimaaedolabTotals.lean).
  GIVEN WITH THE SEED: the statements are not yours to turn. If you find one false, say at which input.
  Laid BY PROGRAM, IN A SANDBOX (cutbox-rows.mjs): the forced cells as the released guide's own fill.sh prints them over the translation ec54b6b32cef2d16… (all of the seat's roots in one cut). By AI agents, Wed Nov 11 2026. No macro, syntax, notation, axiom, sorry.
-/
import Derived.Test.YtagfmimaaedolabChecked
import GoSem.Claim
import GoSem.ClaimJoined
import GoSem.ClaimMapViews
import Derived.JoinedTies
import Derived.KernelRfl
namespace Go.Proofs.Ytagfmimaaedolab
/- THE CELL 'sum', in the pinned program and in every row, IS THE sha256 OF THE DUMP (.gsa) THAT YtagfmimaaedolabProg.lean LOADS. Nothing in Lean hashes anything: it is a label: what it is worth is what the hold of that sum in a sandbox is worth. -/
noncomputable def Try.pinned : Pinned := { name := "ytagfmimaaedolab", sum := "ec54b6b32cef2d16ae262a0c414b2c7bc321c6ca63eb4908b6184be6cf42ff51", checked := Try.checked }
namespace Rows
def none {H : Type} : Left H := { results := [], args := [] }

/-- 'laws.FnMajorOf': WHATEVER THE INPUT: true; the input reads as it did. -/
def fnMajorOfSpec : ChangeSpec := { name := "fnMajorOf", fn := fun _ => fun
  | [d] => { results := [.lit (.bool true)], args := [d] }
  | _ => none }
def fnMajorOfRow : OpenClaim := { program := "ytagfmimaaedolab", sum := "ec54b6b32cef2d16ae262a0c414b2c7bc321c6ca63eb4908b6184be6cf42ff51", func := "loop.example/ordercounts/laws.FnMajorOf", spec := "fnMajorOf", apart := false }
def FnMajorOfSaid : Prop := fnMajorOfRow.holds Try.pinned (OpenSpec.ofChange fnMajorOfSpec)

/-- ITS FALSE NEIGHBOUR: 'it returns false'. Refute it at one input. -/
def fnMajorOfWrong : ChangeSpec := { name := "fnMajorOf", fn := fun _ => fun
  | [d] => { results := [.lit (.bool false)], args := [d] }
  | _ => none }
def FnMajorOfWrongFalsely : Prop := fnMajorOfRow.holds Try.pinned (OpenSpec.ofChange fnMajorOfWrong)

/-- 'laws.FnCirclesOf': WHATEVER THE INPUT: true; the input reads as it did. -/
def fnCirclesOfSpec : ChangeSpec := { name := "fnCirclesOf", fn := fun _ => fun
  | [d] => { results := [.lit (.bool true)], args := [d] }
  | _ => none }
def fnCirclesOfRow : OpenClaim := { program := "ytagfmimaaedolab", sum := "ec54b6b32cef2d16ae262a0c414b2c7bc321c6ca63eb4908b6184be6cf42ff51", func := "loop.example/ordercounts/laws.FnCirclesOf", spec := "fnCirclesOf", apart := false }
def FnCirclesOfSaid : Prop := fnCirclesOfRow.holds Try.pinned (OpenSpec.ofChange fnCirclesOfSpec)

/-- ITS FALSE NEIGHBOUR: 'it returns false'. Refute it at one input. -/
def fnCirclesOfWrong : ChangeSpec := { name := "fnCirclesOf", fn := fun _ => fun
  | [d] => { results := [.lit (.bool false)], args := [d] }
  | _ => none }
def FnCirclesOfWrongFalsely : Prop := fnCirclesOfRow.holds Try.pinned (OpenSpec.ofChange fnCirclesOfWrong)

/-- 'laws.FnSignOf': WHATEVER THE INPUT: true; the input reads as it did. -/
def fnSignOfSpec : ChangeSpec := { name := "fnSignOf", fn := fun _ => fun
  | [d] => { results := [.lit (.bool true)], args := [d] }
  | _ => none }
def fnSignOfRow : OpenClaim := { program := "ytagfmimaaedolab", sum := "ec54b6b32cef2d16ae262a0c414b2c7bc321c6ca63eb4908b6184be6cf42ff51", func := "loop.example/ordercounts/laws.FnSignOf", spec := "fnSignOf", apart := false }
def FnSignOfSaid : Prop := fnSignOfRow.holds Try.pinned (OpenSpec.ofChange fnSignOfSpec)

/-- ITS FALSE NEIGHBOUR: 'it returns false'. Refute it at one input. -/
def fnSignOfWrong : ChangeSpec := { name := "fnSignOf", fn := fun _ => fun
  | [d] => { results := [.lit (.bool false)], args := [d] }
  | _ => none }
def FnSignOfWrongFalsely : Prop := fnSignOfRow.holds Try.pinned (OpenSpec.ofChange fnSignOfWrong)

/-- 'laws.FnSumOrders': WHATEVER THE INPUT: true; the input reads as it did. -/
def fnSumOrdersSpec : ChangeSpec := { name := "fnSumOrders", fn := fun _ => fun
  | [d] => { results := [.lit (.bool true)], args := [d] }
  | _ => none }
def fnSumOrdersRow : OpenClaim := { program := "ytagfmimaaedolab", sum := "ec54b6b32cef2d16ae262a0c414b2c7bc321c6ca63eb4908b6184be6cf42ff51", func := "loop.example/ordercounts/laws.FnSumOrders", spec := "fnSumOrders", apart := false }
def FnSumOrdersSaid : Prop := fnSumOrdersRow.holds Try.pinned (OpenSpec.ofChange fnSumOrdersSpec)

/-- ITS FALSE NEIGHBOUR: 'it returns false'. Refute it at one input. -/
def fnSumOrdersWrong : ChangeSpec := { name := "fnSumOrders", fn := fun _ => fun
  | [d] => { results := [.lit (.bool false)], args := [d] }
  | _ => none }
def FnSumOrdersWrongFalsely : Prop := fnSumOrdersRow.holds Try.pinned (OpenSpec.ofChange fnSumOrdersWrong)

/-- 'laws.FnSkewOrders': WHATEVER THE INPUT: true; the input reads as it did. -/
def fnSkewOrdersSpec : ChangeSpec := { name := "fnSkewOrders", fn := fun _ => fun
  | [d] => { results := [.lit (.bool true)], args := [d] }
  | _ => none }
def fnSkewOrdersRow : OpenClaim := { program := "ytagfmimaaedolab", sum := "ec54b6b32cef2d16ae262a0c414b2c7bc321c6ca63eb4908b6184be6cf42ff51", func := "loop.example/ordercounts/laws.FnSkewOrders", spec := "fnSkewOrders", apart := false }
def FnSkewOrdersSaid : Prop := fnSkewOrdersRow.holds Try.pinned (OpenSpec.ofChange fnSkewOrdersSpec)

/-- ITS FALSE NEIGHBOUR: 'it returns false'. Refute it at one input. -/
def fnSkewOrdersWrong : ChangeSpec := { name := "fnSkewOrders", fn := fun _ => fun
  | [d] => { results := [.lit (.bool false)], args := [d] }
  | _ => none }
def FnSkewOrdersWrongFalsely : Prop := fnSkewOrdersRow.holds Try.pinned (OpenSpec.ofChange fnSkewOrdersWrong)

/-- 'laws.FnOrderText': WHATEVER THE INPUT: true; the input reads as it did. -/
def fnOrderTextSpec : ChangeSpec := { name := "fnOrderText", fn := fun _ => fun
  | [d] => { results := [.lit (.bool true)], args := [d] }
  | _ => none }
def fnOrderTextRow : OpenClaim := { program := "ytagfmimaaedolab", sum := "ec54b6b32cef2d16ae262a0c414b2c7bc321c6ca63eb4908b6184be6cf42ff51", func := "loop.example/ordercounts/laws.FnOrderText", spec := "fnOrderText", apart := false }
def FnOrderTextSaid : Prop := fnOrderTextRow.holds Try.pinned (OpenSpec.ofChange fnOrderTextSpec)

/-- ITS FALSE NEIGHBOUR: 'it returns false'. Refute it at one input. -/
def fnOrderTextWrong : ChangeSpec := { name := "fnOrderText", fn := fun _ => fun
  | [d] => { results := [.lit (.bool false)], args := [d] }
  | _ => none }
def FnOrderTextWrongFalsely : Prop := fnOrderTextRow.holds Try.pinned (OpenSpec.ofChange fnOrderTextWrong)

/-- 'laws.FnParseOrder': WHATEVER THE INPUT: true; the input reads as it did. -/
def fnParseOrderSpec : ChangeSpec := { name := "fnParseOrder", fn := fun _ => fun
  | [d] => { results := [.lit (.bool true)], args := [d] }
  | _ => none }
def fnParseOrderRow : OpenClaim := { program := "ytagfmimaaedolab", sum := "ec54b6b32cef2d16ae262a0c414b2c7bc321c6ca63eb4908b6184be6cf42ff51", func := "loop.example/ordercounts/laws.FnParseOrder", spec := "fnParseOrder", apart := false }
def FnParseOrderSaid : Prop := fnParseOrderRow.holds Try.pinned (OpenSpec.ofChange fnParseOrderSpec)

/-- ITS FALSE NEIGHBOUR: 'it returns false'. Refute it at one input. -/
def fnParseOrderWrong : ChangeSpec := { name := "fnParseOrder", fn := fun _ => fun
  | [d] => { results := [.lit (.bool false)], args := [d] }
  | _ => none }
def FnParseOrderWrongFalsely : Prop := fnParseOrderRow.holds Try.pinned (OpenSpec.ofChange fnParseOrderWrong)

/-- 'laws.FnExactInverseOrder': WHATEVER THE INPUT: true; the input reads as it did. -/
def fnExactInverseOrderSpec : ChangeSpec := { name := "fnExactInverseOrder", fn := fun _ => fun
  | [d] => { results := [.lit (.bool true)], args := [d] }
  | _ => none }
def fnExactInverseOrderRow : OpenClaim := { program := "ytagfmimaaedolab", sum := "ec54b6b32cef2d16ae262a0c414b2c7bc321c6ca63eb4908b6184be6cf42ff51", func := "loop.example/ordercounts/laws.FnExactInverseOrder", spec := "fnExactInverseOrder", apart := false }
def FnExactInverseOrderSaid : Prop := fnExactInverseOrderRow.holds Try.pinned (OpenSpec.ofChange fnExactInverseOrderSpec)

/-- ITS FALSE NEIGHBOUR: 'it returns false'. Refute it at one input. -/
def fnExactInverseOrderWrong : ChangeSpec := { name := "fnExactInverseOrder", fn := fun _ => fun
  | [d] => { results := [.lit (.bool false)], args := [d] }
  | _ => none }
def FnExactInverseOrderWrongFalsely : Prop := fnExactInverseOrderRow.holds Try.pinned (OpenSpec.ofChange fnExactInverseOrderWrong)

/-- 'laws.FnExactValidOrder': WHATEVER THE INPUT: true; the input reads as it did. -/
def fnExactValidOrderSpec : ChangeSpec := { name := "fnExactValidOrder", fn := fun _ => fun
  | [d] => { results := [.lit (.bool true)], args := [d] }
  | _ => none }
def fnExactValidOrderRow : OpenClaim := { program := "ytagfmimaaedolab", sum := "ec54b6b32cef2d16ae262a0c414b2c7bc321c6ca63eb4908b6184be6cf42ff51", func := "loop.example/ordercounts/laws.FnExactValidOrder", spec := "fnExactValidOrder", apart := false }
def FnExactValidOrderSaid : Prop := fnExactValidOrderRow.holds Try.pinned (OpenSpec.ofChange fnExactValidOrderSpec)

/-- ITS FALSE NEIGHBOUR: 'it returns false'. Refute it at one input. -/
def fnExactValidOrderWrong : ChangeSpec := { name := "fnExactValidOrder", fn := fun _ => fun
  | [d] => { results := [.lit (.bool false)], args := [d] }
  | _ => none }
def FnExactValidOrderWrongFalsely : Prop := fnExactValidOrderRow.holds Try.pinned (OpenSpec.ofChange fnExactValidOrderWrong)

/-- 'laws.FnExactRisingOrder': WHATEVER THE INPUT: true; the input reads as it did. -/
def fnExactRisingOrderSpec : ChangeSpec := { name := "fnExactRisingOrder", fn := fun _ => fun
  | [d] => { results := [.lit (.bool true)], args := [d] }
  | _ => none }
def fnExactRisingOrderRow : OpenClaim := { program := "ytagfmimaaedolab", sum := "ec54b6b32cef2d16ae262a0c414b2c7bc321c6ca63eb4908b6184be6cf42ff51", func := "loop.example/ordercounts/laws.FnExactRisingOrder", spec := "fnExactRisingOrder", apart := false }
def FnExactRisingOrderSaid : Prop := fnExactRisingOrderRow.holds Try.pinned (OpenSpec.ofChange fnExactRisingOrderSpec)

/-- ITS FALSE NEIGHBOUR: 'it returns false'. Refute it at one input. -/
def fnExactRisingOrderWrong : ChangeSpec := { name := "fnExactRisingOrder", fn := fun _ => fun
  | [d] => { results := [.lit (.bool false)], args := [d] }
  | _ => none }
def FnExactRisingOrderWrongFalsely : Prop := fnExactRisingOrderRow.holds Try.pinned (OpenSpec.ofChange fnExactRisingOrderWrong)

/-- 'laws.FnExactTurnOrder': WHATEVER THE INPUT: true; the input reads as it did. -/
def fnExactTurnOrderSpec : ChangeSpec := { name := "fnExactTurnOrder", fn := fun _ => fun
  | [d] => { results := [.lit (.bool true)], args := [d] }
  | _ => none }
def fnExactTurnOrderRow : OpenClaim := { program := "ytagfmimaaedolab", sum := "ec54b6b32cef2d16ae262a0c414b2c7bc321c6ca63eb4908b6184be6cf42ff51", func := "loop.example/ordercounts/laws.FnExactTurnOrder", spec := "fnExactTurnOrder", apart := false }
def FnExactTurnOrderSaid : Prop := fnExactTurnOrderRow.holds Try.pinned (OpenSpec.ofChange fnExactTurnOrderSpec)

/-- ITS FALSE NEIGHBOUR: 'it returns false'. Refute it at one input. -/
def fnExactTurnOrderWrong : ChangeSpec := { name := "fnExactTurnOrder", fn := fun _ => fun
  | [d] => { results := [.lit (.bool false)], args := [d] }
  | _ => none }
def FnExactTurnOrderWrongFalsely : Prop := fnExactTurnOrderRow.holds Try.pinned (OpenSpec.ofChange fnExactTurnOrderWrong)

/-- 'laws.FnExactOppositeOrder': WHATEVER THE INPUT: true; the input reads as it did. -/
def fnExactOppositeOrderSpec : ChangeSpec := { name := "fnExactOppositeOrder", fn := fun _ => fun
  | [d] => { results := [.lit (.bool true)], args := [d] }
  | _ => none }
def fnExactOppositeOrderRow : OpenClaim := { program := "ytagfmimaaedolab", sum := "ec54b6b32cef2d16ae262a0c414b2c7bc321c6ca63eb4908b6184be6cf42ff51", func := "loop.example/ordercounts/laws.FnExactOppositeOrder", spec := "fnExactOppositeOrder", apart := false }
def FnExactOppositeOrderSaid : Prop := fnExactOppositeOrderRow.holds Try.pinned (OpenSpec.ofChange fnExactOppositeOrderSpec)

/-- ITS FALSE NEIGHBOUR: 'it returns false'. Refute it at one input. -/
def fnExactOppositeOrderWrong : ChangeSpec := { name := "fnExactOppositeOrder", fn := fun _ => fun
  | [d] => { results := [.lit (.bool false)], args := [d] }
  | _ => none }
def FnExactOppositeOrderWrongFalsely : Prop := fnExactOppositeOrderRow.holds Try.pinned (OpenSpec.ofChange fnExactOppositeOrderWrong)

/- THE SECOND FORM. 'bulk': how many values and letters a reading holds, each counted each time it is reached (what is shared counts as often as it is met; a slice's spare places count too). A statement '..UptoSaid' is the law's where the arguments, and the package variables that the reading takes, are together of bulk at most 1048576: NARROWER than '..Said'. Prove '..Said' where nothing that the law and all that it calls make is longer than what came in: it says more and counts as full. Else prove '..UptoSaid'. A law counts once. -/
mutual
def uptoBulk {H : Type} : DataW H → Nat
  | .lit (.string bytes) => bytes.length + 1
  | .lit _ => 1
  | .nil => 1
  | .ptr d => uptoBulk d + 1
  | .slice elems spare => uptoBulkAll elems + uptoBulkAll spare + 1
  | .agg parts => uptoBulkAll parts + 1
  | .iface _ d => uptoBulk d + 1
  | .map entries => uptoBulkEntries entries + 1
  | .held _ => 1
def uptoBulkAll {H : Type} : List (DataW H) → Nat
  | [] => 0
  | d :: r => uptoBulk d + uptoBulkAll r
def uptoBulkEntries {H : Type} : List (Lit × DataW H) → Nat
  | [] => 0
  | x :: r => uptoBulkEntry x + uptoBulkEntries r
def uptoBulkEntry {H : Type} : Lit × DataW H → Nat
  | (.string bytes, d) => bytes.length + uptoBulk d + 1
  | (_, d) => uptoBulk d + 1
 end
def uptoSmall : (H : Type) → List (DataW H) → Bool := fun _ ds => decide (uptoBulkAll ds ≤ 1048576)
def OpenSpec.upto (s : _root_.Go.ChangeSpec) : _root_.Go.OpenSpec := { _root_.Go.OpenSpec.ofChange s with cond := some uptoSmall }

/-- 'laws.FnMajorOf', WHERE WHAT IT READS IS OF BULK AT MOST 1048576: true; the input reads as it did. -/
def fnMajorOfUptoRow : OpenClaim := { program := "ytagfmimaaedolab", sum := "ec54b6b32cef2d16ae262a0c414b2c7bc321c6ca63eb4908b6184be6cf42ff51", func := "loop.example/ordercounts/laws.FnMajorOf", spec := "fnMajorOf", apart := false, narrowed := true }
def FnMajorOfUptoSaid : Prop := fnMajorOfUptoRow.holds Try.pinned (OpenSpec.upto fnMajorOfSpec)

/-- 'laws.FnCirclesOf', WHERE WHAT IT READS IS OF BULK AT MOST 1048576: true; the input reads as it did. -/
def fnCirclesOfUptoRow : OpenClaim := { program := "ytagfmimaaedolab", sum := "ec54b6b32cef2d16ae262a0c414b2c7bc321c6ca63eb4908b6184be6cf42ff51", func := "loop.example/ordercounts/laws.FnCirclesOf", spec := "fnCirclesOf", apart := false, narrowed := true }
def FnCirclesOfUptoSaid : Prop := fnCirclesOfUptoRow.holds Try.pinned (OpenSpec.upto fnCirclesOfSpec)

/-- 'laws.FnSignOf', WHERE WHAT IT READS IS OF BULK AT MOST 1048576: true; the input reads as it did. -/
def fnSignOfUptoRow : OpenClaim := { program := "ytagfmimaaedolab", sum := "ec54b6b32cef2d16ae262a0c414b2c7bc321c6ca63eb4908b6184be6cf42ff51", func := "loop.example/ordercounts/laws.FnSignOf", spec := "fnSignOf", apart := false, narrowed := true }
def FnSignOfUptoSaid : Prop := fnSignOfUptoRow.holds Try.pinned (OpenSpec.upto fnSignOfSpec)

/-- 'laws.FnSumOrders', WHERE WHAT IT READS IS OF BULK AT MOST 1048576: true; the input reads as it did. -/
def fnSumOrdersUptoRow : OpenClaim := { program := "ytagfmimaaedolab", sum := "ec54b6b32cef2d16ae262a0c414b2c7bc321c6ca63eb4908b6184be6cf42ff51", func := "loop.example/ordercounts/laws.FnSumOrders", spec := "fnSumOrders", apart := false, narrowed := true }
def FnSumOrdersUptoSaid : Prop := fnSumOrdersUptoRow.holds Try.pinned (OpenSpec.upto fnSumOrdersSpec)

/-- 'laws.FnSkewOrders', WHERE WHAT IT READS IS OF BULK AT MOST 1048576: true; the input reads as it did. -/
def fnSkewOrdersUptoRow : OpenClaim := { program := "ytagfmimaaedolab", sum := "ec54b6b32cef2d16ae262a0c414b2c7bc321c6ca63eb4908b6184be6cf42ff51", func := "loop.example/ordercounts/laws.FnSkewOrders", spec := "fnSkewOrders", apart := false, narrowed := true }
def FnSkewOrdersUptoSaid : Prop := fnSkewOrdersUptoRow.holds Try.pinned (OpenSpec.upto fnSkewOrdersSpec)

/-- 'laws.FnOrderText', WHERE WHAT IT READS IS OF BULK AT MOST 1048576: true; the input reads as it did. -/
def fnOrderTextUptoRow : OpenClaim := { program := "ytagfmimaaedolab", sum := "ec54b6b32cef2d16ae262a0c414b2c7bc321c6ca63eb4908b6184be6cf42ff51", func := "loop.example/ordercounts/laws.FnOrderText", spec := "fnOrderText", apart := false, narrowed := true }
def FnOrderTextUptoSaid : Prop := fnOrderTextUptoRow.holds Try.pinned (OpenSpec.upto fnOrderTextSpec)

/-- 'laws.FnParseOrder', WHERE WHAT IT READS IS OF BULK AT MOST 1048576: true; the input reads as it did. -/
def fnParseOrderUptoRow : OpenClaim := { program := "ytagfmimaaedolab", sum := "ec54b6b32cef2d16ae262a0c414b2c7bc321c6ca63eb4908b6184be6cf42ff51", func := "loop.example/ordercounts/laws.FnParseOrder", spec := "fnParseOrder", apart := false, narrowed := true }
def FnParseOrderUptoSaid : Prop := fnParseOrderUptoRow.holds Try.pinned (OpenSpec.upto fnParseOrderSpec)

/-- 'laws.FnExactInverseOrder', WHERE WHAT IT READS IS OF BULK AT MOST 1048576: true; the input reads as it did. -/
def fnExactInverseOrderUptoRow : OpenClaim := { program := "ytagfmimaaedolab", sum := "ec54b6b32cef2d16ae262a0c414b2c7bc321c6ca63eb4908b6184be6cf42ff51", func := "loop.example/ordercounts/laws.FnExactInverseOrder", spec := "fnExactInverseOrder", apart := false, narrowed := true }
def FnExactInverseOrderUptoSaid : Prop := fnExactInverseOrderUptoRow.holds Try.pinned (OpenSpec.upto fnExactInverseOrderSpec)

/-- 'laws.FnExactValidOrder', WHERE WHAT IT READS IS OF BULK AT MOST 1048576: true; the input reads as it did. -/
def fnExactValidOrderUptoRow : OpenClaim := { program := "ytagfmimaaedolab", sum := "ec54b6b32cef2d16ae262a0c414b2c7bc321c6ca63eb4908b6184be6cf42ff51", func := "loop.example/ordercounts/laws.FnExactValidOrder", spec := "fnExactValidOrder", apart := false, narrowed := true }
def FnExactValidOrderUptoSaid : Prop := fnExactValidOrderUptoRow.holds Try.pinned (OpenSpec.upto fnExactValidOrderSpec)

/-- 'laws.FnExactRisingOrder', WHERE WHAT IT READS IS OF BULK AT MOST 1048576: true; the input reads as it did. -/
def fnExactRisingOrderUptoRow : OpenClaim := { program := "ytagfmimaaedolab", sum := "ec54b6b32cef2d16ae262a0c414b2c7bc321c6ca63eb4908b6184be6cf42ff51", func := "loop.example/ordercounts/laws.FnExactRisingOrder", spec := "fnExactRisingOrder", apart := false, narrowed := true }
def FnExactRisingOrderUptoSaid : Prop := fnExactRisingOrderUptoRow.holds Try.pinned (OpenSpec.upto fnExactRisingOrderSpec)

/-- 'laws.FnExactTurnOrder', WHERE WHAT IT READS IS OF BULK AT MOST 1048576: true; the input reads as it did. -/
def fnExactTurnOrderUptoRow : OpenClaim := { program := "ytagfmimaaedolab", sum := "ec54b6b32cef2d16ae262a0c414b2c7bc321c6ca63eb4908b6184be6cf42ff51", func := "loop.example/ordercounts/laws.FnExactTurnOrder", spec := "fnExactTurnOrder", apart := false, narrowed := true }
def FnExactTurnOrderUptoSaid : Prop := fnExactTurnOrderUptoRow.holds Try.pinned (OpenSpec.upto fnExactTurnOrderSpec)

/-- 'laws.FnExactOppositeOrder', WHERE WHAT IT READS IS OF BULK AT MOST 1048576: true; the input reads as it did. -/
def fnExactOppositeOrderUptoRow : OpenClaim := { program := "ytagfmimaaedolab", sum := "ec54b6b32cef2d16ae262a0c414b2c7bc321c6ca63eb4908b6184be6cf42ff51", func := "loop.example/ordercounts/laws.FnExactOppositeOrder", spec := "fnExactOppositeOrder", apart := false, narrowed := true }
def FnExactOppositeOrderUptoSaid : Prop := fnExactOppositeOrderUptoRow.holds Try.pinned (OpenSpec.upto fnExactOppositeOrderSpec)

end Rows
end Go.Proofs.Ytagfmimaaedolab
