/-
  No cell of these rows narrows 'for every input' (looked for: loops, veiled, ifaces, maps, wideKeys, modest, calm, conditions, laid).
  DERIVED. THE GIVEN ROWS OF THIS SEAT. 14 by the template 'for every input the law returns true; each argument reads behind the call as it read before'; 0 by the template 'total and deterministic' (their statements: YtjphaphnmclbcaaTotals.lean).
  GIVEN WITH THE SEED: the statements are not yours to turn. If you find one false, say at which input.
  Laid BY PROGRAM, IN A SANDBOX (cutbox-rows.mjs): the forced cells as the released guide's own fill.sh prints them over the translation 10f8f1d757edf2f8… (all of the seat's roots in one cut). By AI agents, Wed Nov 11 2026. No macro, syntax, notation, axiom, sorry.
-/
import Derived.Test.YtjphaphnmclbcaaChecked
import GoSem.Claim
import GoSem.ClaimJoined
import GoSem.ClaimMapViews
import Derived.JoinedTies
import Derived.KernelRfl
namespace Go.Proofs.Ytjphaphnmclbcaa
/- THE CELL 'sum', in the pinned program and in every row, IS THE sha256 OF THE DUMP (.gsa) THAT YtjphaphnmclbcaaProg.lean LOADS. Nothing in Lean hashes anything: it is a label: what it is worth is what the hold of that sum in a sandbox is worth. -/
noncomputable def Try.pinned : Pinned := { name := "ytjphaphnmclbcaa", sum := "10f8f1d757edf2f83d9f4537c89ed7f9689773c0c18c99253749464de4ac6fc7", checked := Try.checked }
namespace Rows
def none {H : Type} : Left H := { results := [], args := [] }

/-- 'laws.FnMixRow': WHATEVER THE INPUT: true; the input reads as it did. -/
def fnMixRowSpec : ChangeSpec := { name := "fnMixRow", fn := fun _ => fun
  | [d] => { results := [.lit (.bool true)], args := [d] }
  | _ => none }
def fnMixRowRow : OpenClaim := { program := "ytjphaphnmclbcaa", sum := "10f8f1d757edf2f83d9f4537c89ed7f9689773c0c18c99253749464de4ac6fc7", func := "loop.example/ordercounts/laws.FnMixRow", spec := "fnMixRow", unfollowed := true, recurses := true, leaving := true, apart := false }
def FnMixRowSaid : Prop := fnMixRowRow.holds Try.pinned (OpenSpec.ofChange fnMixRowSpec)

/-- ITS FALSE NEIGHBOUR: 'it returns false'. Refute it at one input. -/
def fnMixRowWrong : ChangeSpec := { name := "fnMixRow", fn := fun _ => fun
  | [d] => { results := [.lit (.bool false)], args := [d] }
  | _ => none }
def FnMixRowWrongFalsely : Prop := fnMixRowRow.holds Try.pinned (OpenSpec.ofChange fnMixRowWrong)

/-- 'laws.FnExactMixRow': WHATEVER THE INPUT: true; the input reads as it did. -/
def fnExactMixRowSpec : ChangeSpec := { name := "fnExactMixRow", fn := fun _ => fun
  | [d1, d2, d3] => { results := [.lit (.bool true)], args := [d1, d2, d3] }
  | _ => none }
def fnExactMixRowRow : OpenClaim := { program := "ytjphaphnmclbcaa", sum := "10f8f1d757edf2f83d9f4537c89ed7f9689773c0c18c99253749464de4ac6fc7", func := "loop.example/ordercounts/laws.FnExactMixRow", spec := "fnExactMixRow", unfollowed := true, recurses := true, leaving := true, apart := false }
def FnExactMixRowSaid : Prop := fnExactMixRowRow.holds Try.pinned (OpenSpec.ofChange fnExactMixRowSpec)

/-- ITS FALSE NEIGHBOUR: 'it returns false'. Refute it at one input. -/
def fnExactMixRowWrong : ChangeSpec := { name := "fnExactMixRow", fn := fun _ => fun
  | [d1, d2, d3] => { results := [.lit (.bool false)], args := [d1, d2, d3] }
  | _ => none }
def FnExactMixRowWrongFalsely : Prop := fnExactMixRowRow.holds Try.pinned (OpenSpec.ofChange fnExactMixRowWrong)

/-- 'laws.FnContentOf': WHATEVER THE INPUT: true; the input reads as it did. -/
def fnContentOfSpec : ChangeSpec := { name := "fnContentOf", fn := fun _ => fun
  | [d] => { results := [.lit (.bool true)], args := [d] }
  | _ => none }
def fnContentOfRow : OpenClaim := { program := "ytjphaphnmclbcaa", sum := "10f8f1d757edf2f83d9f4537c89ed7f9689773c0c18c99253749464de4ac6fc7", func := "loop.example/ordercounts/laws.FnContentOf", spec := "fnContentOf", unfollowed := true, recurses := true, leaving := true, apart := false }
def FnContentOfSaid : Prop := fnContentOfRow.holds Try.pinned (OpenSpec.ofChange fnContentOfSpec)

/-- ITS FALSE NEIGHBOUR: 'it returns false'. Refute it at one input. -/
def fnContentOfWrong : ChangeSpec := { name := "fnContentOf", fn := fun _ => fun
  | [d] => { results := [.lit (.bool false)], args := [d] }
  | _ => none }
def FnContentOfWrongFalsely : Prop := fnContentOfRow.holds Try.pinned (OpenSpec.ofChange fnContentOfWrong)

/-- 'laws.FnAllWords': WHATEVER THE INPUT: true; the input reads as it did. -/
def fnAllWordsSpec : ChangeSpec := { name := "fnAllWords", fn := fun _ => fun
  | [d] => { results := [.lit (.bool true)], args := [d] }
  | _ => none }
def fnAllWordsRow : OpenClaim := { program := "ytjphaphnmclbcaa", sum := "10f8f1d757edf2f83d9f4537c89ed7f9689773c0c18c99253749464de4ac6fc7", func := "loop.example/ordercounts/laws.FnAllWords", spec := "fnAllWords", unfollowed := true, recurses := true, leaving := true, apart := false }
def FnAllWordsSaid : Prop := fnAllWordsRow.holds Try.pinned (OpenSpec.ofChange fnAllWordsSpec)

/-- ITS FALSE NEIGHBOUR: 'it returns false'. Refute it at one input. -/
def fnAllWordsWrong : ChangeSpec := { name := "fnAllWords", fn := fun _ => fun
  | [d] => { results := [.lit (.bool false)], args := [d] }
  | _ => none }
def FnAllWordsWrongFalsely : Prop := fnAllWordsRow.holds Try.pinned (OpenSpec.ofChange fnAllWordsWrong)

/-- 'laws.FnExactAllWords': WHATEVER THE INPUT: true; the input reads as it did. -/
def fnExactAllWordsSpec : ChangeSpec := { name := "fnExactAllWords", fn := fun _ => fun
  | [d] => { results := [.lit (.bool true)], args := [d] }
  | _ => none }
def fnExactAllWordsRow : OpenClaim := { program := "ytjphaphnmclbcaa", sum := "10f8f1d757edf2f83d9f4537c89ed7f9689773c0c18c99253749464de4ac6fc7", func := "loop.example/ordercounts/laws.FnExactAllWords", spec := "fnExactAllWords", unfollowed := true, recurses := true, leaving := true, apart := false }
def FnExactAllWordsSaid : Prop := fnExactAllWordsRow.holds Try.pinned (OpenSpec.ofChange fnExactAllWordsSpec)

/-- ITS FALSE NEIGHBOUR: 'it returns false'. Refute it at one input. -/
def fnExactAllWordsWrong : ChangeSpec := { name := "fnExactAllWords", fn := fun _ => fun
  | [d] => { results := [.lit (.bool false)], args := [d] }
  | _ => none }
def FnExactAllWordsWrongFalsely : Prop := fnExactAllWordsRow.holds Try.pinned (OpenSpec.ofChange fnExactAllWordsWrong)

/-- 'laws.FnCountWords': WHATEVER THE INPUT: true; the input reads as it did. -/
def fnCountWordsSpec : ChangeSpec := { name := "fnCountWords", fn := fun _ => fun
  | [d] => { results := [.lit (.bool true)], args := [d] }
  | _ => none }
def fnCountWordsRow : OpenClaim := { program := "ytjphaphnmclbcaa", sum := "10f8f1d757edf2f83d9f4537c89ed7f9689773c0c18c99253749464de4ac6fc7", func := "loop.example/ordercounts/laws.FnCountWords", spec := "fnCountWords", unfollowed := true, recurses := true, leaving := true, apart := false }
def FnCountWordsSaid : Prop := fnCountWordsRow.holds Try.pinned (OpenSpec.ofChange fnCountWordsSpec)

/-- ITS FALSE NEIGHBOUR: 'it returns false'. Refute it at one input. -/
def fnCountWordsWrong : ChangeSpec := { name := "fnCountWords", fn := fun _ => fun
  | [d] => { results := [.lit (.bool false)], args := [d] }
  | _ => none }
def FnCountWordsWrongFalsely : Prop := fnCountWordsRow.holds Try.pinned (OpenSpec.ofChange fnCountWordsWrong)

/-- 'laws.FnBinomialRow': WHATEVER THE INPUT: true; the input reads as it did. -/
def fnBinomialRowSpec : ChangeSpec := { name := "fnBinomialRow", fn := fun _ => fun
  | [d] => { results := [.lit (.bool true)], args := [d] }
  | _ => none }
def fnBinomialRowRow : OpenClaim := { program := "ytjphaphnmclbcaa", sum := "10f8f1d757edf2f83d9f4537c89ed7f9689773c0c18c99253749464de4ac6fc7", func := "loop.example/ordercounts/laws.FnBinomialRow", spec := "fnBinomialRow", unfollowed := true, recurses := true, leaving := true, apart := false }
def FnBinomialRowSaid : Prop := fnBinomialRowRow.holds Try.pinned (OpenSpec.ofChange fnBinomialRowSpec)

/-- ITS FALSE NEIGHBOUR: 'it returns false'. Refute it at one input. -/
def fnBinomialRowWrong : ChangeSpec := { name := "fnBinomialRow", fn := fun _ => fun
  | [d] => { results := [.lit (.bool false)], args := [d] }
  | _ => none }
def FnBinomialRowWrongFalsely : Prop := fnBinomialRowRow.holds Try.pinned (OpenSpec.ofChange fnBinomialRowWrong)

/-- 'laws.FnExactBinomialRow': WHATEVER THE INPUT: true; the input reads as it did. -/
def fnExactBinomialRowSpec : ChangeSpec := { name := "fnExactBinomialRow", fn := fun _ => fun
  | [d1, d2] => { results := [.lit (.bool true)], args := [d1, d2] }
  | _ => none }
def fnExactBinomialRowRow : OpenClaim := { program := "ytjphaphnmclbcaa", sum := "10f8f1d757edf2f83d9f4537c89ed7f9689773c0c18c99253749464de4ac6fc7", func := "loop.example/ordercounts/laws.FnExactBinomialRow", spec := "fnExactBinomialRow", unfollowed := true, recurses := true, leaving := true, apart := false }
def FnExactBinomialRowSaid : Prop := fnExactBinomialRowRow.holds Try.pinned (OpenSpec.ofChange fnExactBinomialRowSpec)

/-- ITS FALSE NEIGHBOUR: 'it returns false'. Refute it at one input. -/
def fnExactBinomialRowWrong : ChangeSpec := { name := "fnExactBinomialRow", fn := fun _ => fun
  | [d1, d2] => { results := [.lit (.bool false)], args := [d1, d2] }
  | _ => none }
def FnExactBinomialRowWrongFalsely : Prop := fnExactBinomialRowRow.holds Try.pinned (OpenSpec.ofChange fnExactBinomialRowWrong)

/-- 'laws.FnManyRow': WHATEVER THE INPUT: true; the input reads as it did. -/
def fnManyRowSpec : ChangeSpec := { name := "fnManyRow", fn := fun _ => fun
  | [d] => { results := [.lit (.bool true)], args := [d] }
  | _ => none }
def fnManyRowRow : OpenClaim := { program := "ytjphaphnmclbcaa", sum := "10f8f1d757edf2f83d9f4537c89ed7f9689773c0c18c99253749464de4ac6fc7", func := "loop.example/ordercounts/laws.FnManyRow", spec := "fnManyRow", unfollowed := true, recurses := true, leaving := true, apart := false }
def FnManyRowSaid : Prop := fnManyRowRow.holds Try.pinned (OpenSpec.ofChange fnManyRowSpec)

/-- ITS FALSE NEIGHBOUR: 'it returns false'. Refute it at one input. -/
def fnManyRowWrong : ChangeSpec := { name := "fnManyRow", fn := fun _ => fun
  | [d] => { results := [.lit (.bool false)], args := [d] }
  | _ => none }
def FnManyRowWrongFalsely : Prop := fnManyRowRow.holds Try.pinned (OpenSpec.ofChange fnManyRowWrong)

/-- 'laws.FnExactManyRow': WHATEVER THE INPUT: true; the input reads as it did. -/
def fnExactManyRowSpec : ChangeSpec := { name := "fnExactManyRow", fn := fun _ => fun
  | [d] => { results := [.lit (.bool true)], args := [d] }
  | _ => none }
def fnExactManyRowRow : OpenClaim := { program := "ytjphaphnmclbcaa", sum := "10f8f1d757edf2f83d9f4537c89ed7f9689773c0c18c99253749464de4ac6fc7", func := "loop.example/ordercounts/laws.FnExactManyRow", spec := "fnExactManyRow", unfollowed := true, recurses := true, leaving := true, apart := false }
def FnExactManyRowSaid : Prop := fnExactManyRowRow.holds Try.pinned (OpenSpec.ofChange fnExactManyRowSpec)

/-- ITS FALSE NEIGHBOUR: 'it returns false'. Refute it at one input. -/
def fnExactManyRowWrong : ChangeSpec := { name := "fnExactManyRow", fn := fun _ => fun
  | [d] => { results := [.lit (.bool false)], args := [d] }
  | _ => none }
def FnExactManyRowWrongFalsely : Prop := fnExactManyRowRow.holds Try.pinned (OpenSpec.ofChange fnExactManyRowWrong)

/-- 'laws.FnWordRow': WHATEVER THE INPUT: true; the input reads as it did. -/
def fnWordRowSpec : ChangeSpec := { name := "fnWordRow", fn := fun _ => fun
  | [d] => { results := [.lit (.bool true)], args := [d] }
  | _ => none }
def fnWordRowRow : OpenClaim := { program := "ytjphaphnmclbcaa", sum := "10f8f1d757edf2f83d9f4537c89ed7f9689773c0c18c99253749464de4ac6fc7", func := "loop.example/ordercounts/laws.FnWordRow", spec := "fnWordRow", unfollowed := true, recurses := true, leaving := true, apart := false }
def FnWordRowSaid : Prop := fnWordRowRow.holds Try.pinned (OpenSpec.ofChange fnWordRowSpec)

/-- ITS FALSE NEIGHBOUR: 'it returns false'. Refute it at one input. -/
def fnWordRowWrong : ChangeSpec := { name := "fnWordRow", fn := fun _ => fun
  | [d] => { results := [.lit (.bool false)], args := [d] }
  | _ => none }
def FnWordRowWrongFalsely : Prop := fnWordRowRow.holds Try.pinned (OpenSpec.ofChange fnWordRowWrong)

/-- 'laws.FnExactWordRow': WHATEVER THE INPUT: true; the input reads as it did. -/
def fnExactWordRowSpec : ChangeSpec := { name := "fnExactWordRow", fn := fun _ => fun
  | [d1, d2] => { results := [.lit (.bool true)], args := [d1, d2] }
  | _ => none }
def fnExactWordRowRow : OpenClaim := { program := "ytjphaphnmclbcaa", sum := "10f8f1d757edf2f83d9f4537c89ed7f9689773c0c18c99253749464de4ac6fc7", func := "loop.example/ordercounts/laws.FnExactWordRow", spec := "fnExactWordRow", unfollowed := true, recurses := true, leaving := true, apart := false }
def FnExactWordRowSaid : Prop := fnExactWordRowRow.holds Try.pinned (OpenSpec.ofChange fnExactWordRowSpec)

/-- ITS FALSE NEIGHBOUR: 'it returns false'. Refute it at one input. -/
def fnExactWordRowWrong : ChangeSpec := { name := "fnExactWordRow", fn := fun _ => fun
  | [d1, d2] => { results := [.lit (.bool false)], args := [d1, d2] }
  | _ => none }
def FnExactWordRowWrongFalsely : Prop := fnExactWordRowRow.holds Try.pinned (OpenSpec.ofChange fnExactWordRowWrong)

/-- 'laws.FnMixOrders': WHATEVER THE INPUT: true; the input reads as it did. -/
def fnMixOrdersSpec : ChangeSpec := { name := "fnMixOrders", fn := fun _ => fun
  | [d] => { results := [.lit (.bool true)], args := [d] }
  | _ => none }
def fnMixOrdersRow : OpenClaim := { program := "ytjphaphnmclbcaa", sum := "10f8f1d757edf2f83d9f4537c89ed7f9689773c0c18c99253749464de4ac6fc7", func := "loop.example/ordercounts/laws.FnMixOrders", spec := "fnMixOrders", unfollowed := true, recurses := true, leaving := true, apart := false }
def FnMixOrdersSaid : Prop := fnMixOrdersRow.holds Try.pinned (OpenSpec.ofChange fnMixOrdersSpec)

/-- ITS FALSE NEIGHBOUR: 'it returns false'. Refute it at one input. -/
def fnMixOrdersWrong : ChangeSpec := { name := "fnMixOrders", fn := fun _ => fun
  | [d] => { results := [.lit (.bool false)], args := [d] }
  | _ => none }
def FnMixOrdersWrongFalsely : Prop := fnMixOrdersRow.holds Try.pinned (OpenSpec.ofChange fnMixOrdersWrong)

/-- 'laws.FnExactMixOrders': WHATEVER THE INPUT: true; the input reads as it did. -/
def fnExactMixOrdersSpec : ChangeSpec := { name := "fnExactMixOrders", fn := fun _ => fun
  | [d1, d2] => { results := [.lit (.bool true)], args := [d1, d2] }
  | _ => none }
def fnExactMixOrdersRow : OpenClaim := { program := "ytjphaphnmclbcaa", sum := "10f8f1d757edf2f83d9f4537c89ed7f9689773c0c18c99253749464de4ac6fc7", func := "loop.example/ordercounts/laws.FnExactMixOrders", spec := "fnExactMixOrders", unfollowed := true, recurses := true, leaving := true, apart := false }
def FnExactMixOrdersSaid : Prop := fnExactMixOrdersRow.holds Try.pinned (OpenSpec.ofChange fnExactMixOrdersSpec)

/-- ITS FALSE NEIGHBOUR: 'it returns false'. Refute it at one input. -/
def fnExactMixOrdersWrong : ChangeSpec := { name := "fnExactMixOrders", fn := fun _ => fun
  | [d1, d2] => { results := [.lit (.bool false)], args := [d1, d2] }
  | _ => none }
def FnExactMixOrdersWrongFalsely : Prop := fnExactMixOrdersRow.holds Try.pinned (OpenSpec.ofChange fnExactMixOrdersWrong)

/- THE SECOND FORM. 'bulk': how many values and letters a reading holds, each counted each time it is reached (what is shared counts as often as it is met; a slice's spare places count too). A statement '..UptoSaid' is the law's where the arguments, and the package variables that the reading takes, are together of bulk at most 1048576: NARROWER than '..Said'. Prove '..Said' where nothing that the law and all that it calls make is longer than what came in: it says more and counts as full. Else prove '..UptoSaid'. A law counts once. -/
mutual
def uptoBulk {H : Type} : DataW H → Nat
  | .lit (.string bytes) => bytes.length + 1
  | .lit _ => 1
  | .nil => 1
  | .ptr d => uptoBulk d + 1
  | .slice elems spare => uptoBulkAll elems + uptoBulkAll spare + 1
  | .agg parts => uptoBulkAll parts + 1
  | .iface _ d => uptoBulk d + 1
  | .map entries => uptoBulkEntries entries + 1
  | .held _ => 1
def uptoBulkAll {H : Type} : List (DataW H) → Nat
  | [] => 0
  | d :: r => uptoBulk d + uptoBulkAll r
def uptoBulkEntries {H : Type} : List (Lit × DataW H) → Nat
  | [] => 0
  | x :: r => uptoBulkEntry x + uptoBulkEntries r
def uptoBulkEntry {H : Type} : Lit × DataW H → Nat
  | (.string bytes, d) => bytes.length + uptoBulk d + 1
  | (_, d) => uptoBulk d + 1
 end
def uptoSmall : (H : Type) → List (DataW H) → Bool := fun _ ds => decide (uptoBulkAll ds ≤ 1048576)
def OpenSpec.upto (s : _root_.Go.ChangeSpec) : _root_.Go.OpenSpec := { _root_.Go.OpenSpec.ofChange s with cond := some uptoSmall }

/-- 'laws.FnMixRow', WHERE WHAT IT READS IS OF BULK AT MOST 1048576: true; the input reads as it did. -/
def fnMixRowUptoRow : OpenClaim := { program := "ytjphaphnmclbcaa", sum := "10f8f1d757edf2f83d9f4537c89ed7f9689773c0c18c99253749464de4ac6fc7", func := "loop.example/ordercounts/laws.FnMixRow", spec := "fnMixRow", unfollowed := true, recurses := true, leaving := true, apart := false, narrowed := true }
def FnMixRowUptoSaid : Prop := fnMixRowUptoRow.holds Try.pinned (OpenSpec.upto fnMixRowSpec)

/-- 'laws.FnExactMixRow', WHERE WHAT IT READS IS OF BULK AT MOST 1048576: true; the input reads as it did. -/
def fnExactMixRowUptoRow : OpenClaim := { program := "ytjphaphnmclbcaa", sum := "10f8f1d757edf2f83d9f4537c89ed7f9689773c0c18c99253749464de4ac6fc7", func := "loop.example/ordercounts/laws.FnExactMixRow", spec := "fnExactMixRow", unfollowed := true, recurses := true, leaving := true, apart := false, narrowed := true }
def FnExactMixRowUptoSaid : Prop := fnExactMixRowUptoRow.holds Try.pinned (OpenSpec.upto fnExactMixRowSpec)

/-- 'laws.FnContentOf', WHERE WHAT IT READS IS OF BULK AT MOST 1048576: true; the input reads as it did. -/
def fnContentOfUptoRow : OpenClaim := { program := "ytjphaphnmclbcaa", sum := "10f8f1d757edf2f83d9f4537c89ed7f9689773c0c18c99253749464de4ac6fc7", func := "loop.example/ordercounts/laws.FnContentOf", spec := "fnContentOf", unfollowed := true, recurses := true, leaving := true, apart := false, narrowed := true }
def FnContentOfUptoSaid : Prop := fnContentOfUptoRow.holds Try.pinned (OpenSpec.upto fnContentOfSpec)

/-- 'laws.FnAllWords', WHERE WHAT IT READS IS OF BULK AT MOST 1048576: true; the input reads as it did. -/
def fnAllWordsUptoRow : OpenClaim := { program := "ytjphaphnmclbcaa", sum := "10f8f1d757edf2f83d9f4537c89ed7f9689773c0c18c99253749464de4ac6fc7", func := "loop.example/ordercounts/laws.FnAllWords", spec := "fnAllWords", unfollowed := true, recurses := true, leaving := true, apart := false, narrowed := true }
def FnAllWordsUptoSaid : Prop := fnAllWordsUptoRow.holds Try.pinned (OpenSpec.upto fnAllWordsSpec)

/-- 'laws.FnExactAllWords', WHERE WHAT IT READS IS OF BULK AT MOST 1048576: true; the input reads as it did. -/
def fnExactAllWordsUptoRow : OpenClaim := { program := "ytjphaphnmclbcaa", sum := "10f8f1d757edf2f83d9f4537c89ed7f9689773c0c18c99253749464de4ac6fc7", func := "loop.example/ordercounts/laws.FnExactAllWords", spec := "fnExactAllWords", unfollowed := true, recurses := true, leaving := true, apart := false, narrowed := true }
def FnExactAllWordsUptoSaid : Prop := fnExactAllWordsUptoRow.holds Try.pinned (OpenSpec.upto fnExactAllWordsSpec)

/-- 'laws.FnCountWords', WHERE WHAT IT READS IS OF BULK AT MOST 1048576: true; the input reads as it did. -/
def fnCountWordsUptoRow : OpenClaim := { program := "ytjphaphnmclbcaa", sum := "10f8f1d757edf2f83d9f4537c89ed7f9689773c0c18c99253749464de4ac6fc7", func := "loop.example/ordercounts/laws.FnCountWords", spec := "fnCountWords", unfollowed := true, recurses := true, leaving := true, apart := false, narrowed := true }
def FnCountWordsUptoSaid : Prop := fnCountWordsUptoRow.holds Try.pinned (OpenSpec.upto fnCountWordsSpec)

/-- 'laws.FnBinomialRow', WHERE WHAT IT READS IS OF BULK AT MOST 1048576: true; the input reads as it did. -/
def fnBinomialRowUptoRow : OpenClaim := { program := "ytjphaphnmclbcaa", sum := "10f8f1d757edf2f83d9f4537c89ed7f9689773c0c18c99253749464de4ac6fc7", func := "loop.example/ordercounts/laws.FnBinomialRow", spec := "fnBinomialRow", unfollowed := true, recurses := true, leaving := true, apart := false, narrowed := true }
def FnBinomialRowUptoSaid : Prop := fnBinomialRowUptoRow.holds Try.pinned (OpenSpec.upto fnBinomialRowSpec)

/-- 'laws.FnExactBinomialRow', WHERE WHAT IT READS IS OF BULK AT MOST 1048576: true; the input reads as it did. -/
def fnExactBinomialRowUptoRow : OpenClaim := { program := "ytjphaphnmclbcaa", sum := "10f8f1d757edf2f83d9f4537c89ed7f9689773c0c18c99253749464de4ac6fc7", func := "loop.example/ordercounts/laws.FnExactBinomialRow", spec := "fnExactBinomialRow", unfollowed := true, recurses := true, leaving := true, apart := false, narrowed := true }
def FnExactBinomialRowUptoSaid : Prop := fnExactBinomialRowUptoRow.holds Try.pinned (OpenSpec.upto fnExactBinomialRowSpec)

/-- 'laws.FnManyRow', WHERE WHAT IT READS IS OF BULK AT MOST 1048576: true; the input reads as it did. -/
def fnManyRowUptoRow : OpenClaim := { program := "ytjphaphnmclbcaa", sum := "10f8f1d757edf2f83d9f4537c89ed7f9689773c0c18c99253749464de4ac6fc7", func := "loop.example/ordercounts/laws.FnManyRow", spec := "fnManyRow", unfollowed := true, recurses := true, leaving := true, apart := false, narrowed := true }
def FnManyRowUptoSaid : Prop := fnManyRowUptoRow.holds Try.pinned (OpenSpec.upto fnManyRowSpec)

/-- 'laws.FnExactManyRow', WHERE WHAT IT READS IS OF BULK AT MOST 1048576: true; the input reads as it did. -/
def fnExactManyRowUptoRow : OpenClaim := { program := "ytjphaphnmclbcaa", sum := "10f8f1d757edf2f83d9f4537c89ed7f9689773c0c18c99253749464de4ac6fc7", func := "loop.example/ordercounts/laws.FnExactManyRow", spec := "fnExactManyRow", unfollowed := true, recurses := true, leaving := true, apart := false, narrowed := true }
def FnExactManyRowUptoSaid : Prop := fnExactManyRowUptoRow.holds Try.pinned (OpenSpec.upto fnExactManyRowSpec)

/-- 'laws.FnWordRow', WHERE WHAT IT READS IS OF BULK AT MOST 1048576: true; the input reads as it did. -/
def fnWordRowUptoRow : OpenClaim := { program := "ytjphaphnmclbcaa", sum := "10f8f1d757edf2f83d9f4537c89ed7f9689773c0c18c99253749464de4ac6fc7", func := "loop.example/ordercounts/laws.FnWordRow", spec := "fnWordRow", unfollowed := true, recurses := true, leaving := true, apart := false, narrowed := true }
def FnWordRowUptoSaid : Prop := fnWordRowUptoRow.holds Try.pinned (OpenSpec.upto fnWordRowSpec)

/-- 'laws.FnExactWordRow', WHERE WHAT IT READS IS OF BULK AT MOST 1048576: true; the input reads as it did. -/
def fnExactWordRowUptoRow : OpenClaim := { program := "ytjphaphnmclbcaa", sum := "10f8f1d757edf2f83d9f4537c89ed7f9689773c0c18c99253749464de4ac6fc7", func := "loop.example/ordercounts/laws.FnExactWordRow", spec := "fnExactWordRow", unfollowed := true, recurses := true, leaving := true, apart := false, narrowed := true }
def FnExactWordRowUptoSaid : Prop := fnExactWordRowUptoRow.holds Try.pinned (OpenSpec.upto fnExactWordRowSpec)

/-- 'laws.FnMixOrders', WHERE WHAT IT READS IS OF BULK AT MOST 1048576: true; the input reads as it did. -/
def fnMixOrdersUptoRow : OpenClaim := { program := "ytjphaphnmclbcaa", sum := "10f8f1d757edf2f83d9f4537c89ed7f9689773c0c18c99253749464de4ac6fc7", func := "loop.example/ordercounts/laws.FnMixOrders", spec := "fnMixOrders", unfollowed := true, recurses := true, leaving := true, apart := false, narrowed := true }
def FnMixOrdersUptoSaid : Prop := fnMixOrdersUptoRow.holds Try.pinned (OpenSpec.upto fnMixOrdersSpec)

/-- 'laws.FnExactMixOrders', WHERE WHAT IT READS IS OF BULK AT MOST 1048576: true; the input reads as it did. -/
def fnExactMixOrdersUptoRow : OpenClaim := { program := "ytjphaphnmclbcaa", sum := "10f8f1d757edf2f83d9f4537c89ed7f9689773c0c18c99253749464de4ac6fc7", func := "loop.example/ordercounts/laws.FnExactMixOrders", spec := "fnExactMixOrders", unfollowed := true, recurses := true, leaving := true, apart := false, narrowed := true }
def FnExactMixOrdersUptoSaid : Prop := fnExactMixOrdersUptoRow.holds Try.pinned (OpenSpec.upto fnExactMixOrdersSpec)

end Rows
end Go.Proofs.Ytjphaphnmclbcaa
