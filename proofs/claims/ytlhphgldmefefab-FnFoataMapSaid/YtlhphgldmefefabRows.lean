/-
  No cell of these rows narrows 'for every input' (looked for: loops, veiled, ifaces, maps, wideKeys, modest, calm, conditions, laid).
  DERIVED. THE GIVEN ROWS OF THIS SEAT. 12 by the template 'for every input the law returns true; each argument reads behind the call as it read before'; 0 by the template 'total and deterministic' (their statements: YtlhphgldmefefabTotals.lean).
  GIVEN WITH THE SEED: the statements are not yours to turn. If you find one false, say at which input.
  Laid BY PROGRAM, IN A SANDBOX (cutbox-rows.mjs): the forced cells as the released guide's own fill.sh prints them over the translation 511d8a04d22ee357… (all of the seat's roots in one cut). By AI agents, Wed Nov 11 2026. No macro, syntax, notation, axiom, sorry.
-/
import Derived.Test.YtlhphgldmefefabChecked
import GoSem.Claim
import GoSem.ClaimJoined
import GoSem.ClaimMapViews
import Derived.JoinedTies
import Derived.KernelRfl
namespace Go.Proofs.Ytlhphgldmefefab
/- THE CELL 'sum', in the pinned program and in every row, IS THE sha256 OF THE DUMP (.gsa) THAT YtlhphgldmefefabProg.lean LOADS. Nothing in Lean hashes anything: it is a label: what it is worth is what the hold of that sum in a sandbox is worth. -/
noncomputable def Try.pinned : Pinned := { name := "ytlhphgldmefefab", sum := "511d8a04d22ee357d1ef5ff9e0ebe8bdea534eaaffd2530d0d139d3cd5634a99", checked := Try.checked }
namespace Rows
def none {H : Type} : Left H := { results := [], args := [] }

/-- 'laws.FnFoataMap': WHATEVER THE INPUT: true; the input reads as it did. -/
def fnFoataMapSpec : ChangeSpec := { name := "fnFoataMap", fn := fun _ => fun
  | [d] => { results := [.lit (.bool true)], args := [d] }
  | _ => none }
def fnFoataMapRow : OpenClaim := { program := "ytlhphgldmefefab", sum := "511d8a04d22ee357d1ef5ff9e0ebe8bdea534eaaffd2530d0d139d3cd5634a99", func := "loop.example/ordercounts/laws.FnFoataMap", spec := "fnFoataMap", unfollowed := true, recurses := true, apart := false }
def FnFoataMapSaid : Prop := fnFoataMapRow.holds Try.pinned (OpenSpec.ofChange fnFoataMapSpec)

/-- ITS FALSE NEIGHBOUR: 'it returns false'. Refute it at one input. -/
def fnFoataMapWrong : ChangeSpec := { name := "fnFoataMap", fn := fun _ => fun
  | [d] => { results := [.lit (.bool false)], args := [d] }
  | _ => none }
def FnFoataMapWrongFalsely : Prop := fnFoataMapRow.holds Try.pinned (OpenSpec.ofChange fnFoataMapWrong)

/-- 'laws.FnFoataBack': WHATEVER THE INPUT: true; the input reads as it did. -/
def fnFoataBackSpec : ChangeSpec := { name := "fnFoataBack", fn := fun _ => fun
  | [d] => { results := [.lit (.bool true)], args := [d] }
  | _ => none }
def fnFoataBackRow : OpenClaim := { program := "ytlhphgldmefefab", sum := "511d8a04d22ee357d1ef5ff9e0ebe8bdea534eaaffd2530d0d139d3cd5634a99", func := "loop.example/ordercounts/laws.FnFoataBack", spec := "fnFoataBack", unfollowed := true, recurses := true, apart := false }
def FnFoataBackSaid : Prop := fnFoataBackRow.holds Try.pinned (OpenSpec.ofChange fnFoataBackSpec)

/-- ITS FALSE NEIGHBOUR: 'it returns false'. Refute it at one input. -/
def fnFoataBackWrong : ChangeSpec := { name := "fnFoataBack", fn := fun _ => fun
  | [d] => { results := [.lit (.bool false)], args := [d] }
  | _ => none }
def FnFoataBackWrongFalsely : Prop := fnFoataBackRow.holds Try.pinned (OpenSpec.ofChange fnFoataBackWrong)

/-- 'laws.FnInsertTop': WHATEVER THE INPUT: true; the input reads as it did. -/
def fnInsertTopSpec : ChangeSpec := { name := "fnInsertTop", fn := fun _ => fun
  | [d] => { results := [.lit (.bool true)], args := [d] }
  | _ => none }
def fnInsertTopRow : OpenClaim := { program := "ytlhphgldmefefab", sum := "511d8a04d22ee357d1ef5ff9e0ebe8bdea534eaaffd2530d0d139d3cd5634a99", func := "loop.example/ordercounts/laws.FnInsertTop", spec := "fnInsertTop", apart := false }
def FnInsertTopSaid : Prop := fnInsertTopRow.holds Try.pinned (OpenSpec.ofChange fnInsertTopSpec)

/-- ITS FALSE NEIGHBOUR: 'it returns false'. Refute it at one input. -/
def fnInsertTopWrong : ChangeSpec := { name := "fnInsertTop", fn := fun _ => fun
  | [d] => { results := [.lit (.bool false)], args := [d] }
  | _ => none }
def FnInsertTopWrongFalsely : Prop := fnInsertTopRow.holds Try.pinned (OpenSpec.ofChange fnInsertTopWrong)

/-- 'laws.FnMajorTable': WHATEVER THE INPUT: true; the input reads as it did. -/
def fnMajorTableSpec : ChangeSpec := { name := "fnMajorTable", fn := fun _ => fun
  | [d] => { results := [.lit (.bool true)], args := [d] }
  | _ => none }
def fnMajorTableRow : OpenClaim := { program := "ytlhphgldmefefab", sum := "511d8a04d22ee357d1ef5ff9e0ebe8bdea534eaaffd2530d0d139d3cd5634a99", func := "loop.example/ordercounts/laws.FnMajorTable", spec := "fnMajorTable", apart := false }
def FnMajorTableSaid : Prop := fnMajorTableRow.holds Try.pinned (OpenSpec.ofChange fnMajorTableSpec)

/-- ITS FALSE NEIGHBOUR: 'it returns false'. Refute it at one input. -/
def fnMajorTableWrong : ChangeSpec := { name := "fnMajorTable", fn := fun _ => fun
  | [d] => { results := [.lit (.bool false)], args := [d] }
  | _ => none }
def FnMajorTableWrongFalsely : Prop := fnMajorTableRow.holds Try.pinned (OpenSpec.ofChange fnMajorTableWrong)

/-- 'laws.FnOrderOfMajorTable': WHATEVER THE INPUT: true; the input reads as it did. -/
def fnOrderOfMajorTableSpec : ChangeSpec := { name := "fnOrderOfMajorTable", fn := fun _ => fun
  | [d] => { results := [.lit (.bool true)], args := [d] }
  | _ => none }
def fnOrderOfMajorTableRow : OpenClaim := { program := "ytlhphgldmefefab", sum := "511d8a04d22ee357d1ef5ff9e0ebe8bdea534eaaffd2530d0d139d3cd5634a99", func := "loop.example/ordercounts/laws.FnOrderOfMajorTable", spec := "fnOrderOfMajorTable", apart := false }
def FnOrderOfMajorTableSaid : Prop := fnOrderOfMajorTableRow.holds Try.pinned (OpenSpec.ofChange fnOrderOfMajorTableSpec)

/-- ITS FALSE NEIGHBOUR: 'it returns false'. Refute it at one input. -/
def fnOrderOfMajorTableWrong : ChangeSpec := { name := "fnOrderOfMajorTable", fn := fun _ => fun
  | [d] => { results := [.lit (.bool false)], args := [d] }
  | _ => none }
def FnOrderOfMajorTableWrongFalsely : Prop := fnOrderOfMajorTableRow.holds Try.pinned (OpenSpec.ofChange fnOrderOfMajorTableWrong)

/-- 'laws.FnRemoveAt': WHATEVER THE INPUT: true; the input reads as it did. -/
def fnRemoveAtSpec : ChangeSpec := { name := "fnRemoveAt", fn := fun _ => fun
  | [d] => { results := [.lit (.bool true)], args := [d] }
  | _ => none }
def fnRemoveAtRow : OpenClaim := { program := "ytlhphgldmefefab", sum := "511d8a04d22ee357d1ef5ff9e0ebe8bdea534eaaffd2530d0d139d3cd5634a99", func := "loop.example/ordercounts/laws.FnRemoveAt", spec := "fnRemoveAt", apart := false }
def FnRemoveAtSaid : Prop := fnRemoveAtRow.holds Try.pinned (OpenSpec.ofChange fnRemoveAtSpec)

/-- ITS FALSE NEIGHBOUR: 'it returns false'. Refute it at one input. -/
def fnRemoveAtWrong : ChangeSpec := { name := "fnRemoveAt", fn := fun _ => fun
  | [d] => { results := [.lit (.bool false)], args := [d] }
  | _ => none }
def FnRemoveAtWrongFalsely : Prop := fnRemoveAtRow.holds Try.pinned (OpenSpec.ofChange fnRemoveAtWrong)

/-- 'laws.FnExceedMap': WHATEVER THE INPUT: true; the input reads as it did. -/
def fnExceedMapSpec : ChangeSpec := { name := "fnExceedMap", fn := fun _ => fun
  | [d] => { results := [.lit (.bool true)], args := [d] }
  | _ => none }
def fnExceedMapRow : OpenClaim := { program := "ytlhphgldmefefab", sum := "511d8a04d22ee357d1ef5ff9e0ebe8bdea534eaaffd2530d0d139d3cd5634a99", func := "loop.example/ordercounts/laws.FnExceedMap", spec := "fnExceedMap", unfollowed := true, recurses := true, apart := false }
def FnExceedMapSaid : Prop := fnExceedMapRow.holds Try.pinned (OpenSpec.ofChange fnExceedMapSpec)

/-- ITS FALSE NEIGHBOUR: 'it returns false'. Refute it at one input. -/
def fnExceedMapWrong : ChangeSpec := { name := "fnExceedMap", fn := fun _ => fun
  | [d] => { results := [.lit (.bool false)], args := [d] }
  | _ => none }
def FnExceedMapWrongFalsely : Prop := fnExceedMapRow.holds Try.pinned (OpenSpec.ofChange fnExceedMapWrong)

/-- 'laws.FnExactToLine': WHATEVER THE INPUT: true; the input reads as it did. -/
def fnExactToLineSpec : ChangeSpec := { name := "fnExactToLine", fn := fun _ => fun
  | [d] => { results := [.lit (.bool true)], args := [d] }
  | _ => none }
def fnExactToLineRow : OpenClaim := { program := "ytlhphgldmefefab", sum := "511d8a04d22ee357d1ef5ff9e0ebe8bdea534eaaffd2530d0d139d3cd5634a99", func := "loop.example/ordercounts/laws.FnExactToLine", spec := "fnExactToLine", unfollowed := true, recurses := true, apart := false }
def FnExactToLineSaid : Prop := fnExactToLineRow.holds Try.pinned (OpenSpec.ofChange fnExactToLineSpec)

/-- ITS FALSE NEIGHBOUR: 'it returns false'. Refute it at one input. -/
def fnExactToLineWrong : ChangeSpec := { name := "fnExactToLine", fn := fun _ => fun
  | [d] => { results := [.lit (.bool false)], args := [d] }
  | _ => none }
def FnExactToLineWrongFalsely : Prop := fnExactToLineRow.holds Try.pinned (OpenSpec.ofChange fnExactToLineWrong)

/-- 'laws.FnExactFromLine': WHATEVER THE INPUT: true; the input reads as it did. -/
def fnExactFromLineSpec : ChangeSpec := { name := "fnExactFromLine", fn := fun _ => fun
  | [d] => { results := [.lit (.bool true)], args := [d] }
  | _ => none }
def fnExactFromLineRow : OpenClaim := { program := "ytlhphgldmefefab", sum := "511d8a04d22ee357d1ef5ff9e0ebe8bdea534eaaffd2530d0d139d3cd5634a99", func := "loop.example/ordercounts/laws.FnExactFromLine", spec := "fnExactFromLine", unfollowed := true, recurses := true, apart := false }
def FnExactFromLineSaid : Prop := fnExactFromLineRow.holds Try.pinned (OpenSpec.ofChange fnExactFromLineSpec)

/-- ITS FALSE NEIGHBOUR: 'it returns false'. Refute it at one input. -/
def fnExactFromLineWrong : ChangeSpec := { name := "fnExactFromLine", fn := fun _ => fun
  | [d] => { results := [.lit (.bool false)], args := [d] }
  | _ => none }
def FnExactFromLineWrongFalsely : Prop := fnExactFromLineRow.holds Try.pinned (OpenSpec.ofChange fnExactFromLineWrong)

/-- 'laws.FnExactFoataMap': WHATEVER THE INPUT: true; the input reads as it did. -/
def fnExactFoataMapSpec : ChangeSpec := { name := "fnExactFoataMap", fn := fun _ => fun
  | [d] => { results := [.lit (.bool true)], args := [d] }
  | _ => none }
def fnExactFoataMapRow : OpenClaim := { program := "ytlhphgldmefefab", sum := "511d8a04d22ee357d1ef5ff9e0ebe8bdea534eaaffd2530d0d139d3cd5634a99", func := "loop.example/ordercounts/laws.FnExactFoataMap", spec := "fnExactFoataMap", unfollowed := true, recurses := true, apart := false }
def FnExactFoataMapSaid : Prop := fnExactFoataMapRow.holds Try.pinned (OpenSpec.ofChange fnExactFoataMapSpec)

/-- ITS FALSE NEIGHBOUR: 'it returns false'. Refute it at one input. -/
def fnExactFoataMapWrong : ChangeSpec := { name := "fnExactFoataMap", fn := fun _ => fun
  | [d] => { results := [.lit (.bool false)], args := [d] }
  | _ => none }
def FnExactFoataMapWrongFalsely : Prop := fnExactFoataMapRow.holds Try.pinned (OpenSpec.ofChange fnExactFoataMapWrong)

/-- 'laws.FnExactFoataBack': WHATEVER THE INPUT: true; the input reads as it did. -/
def fnExactFoataBackSpec : ChangeSpec := { name := "fnExactFoataBack", fn := fun _ => fun
  | [d] => { results := [.lit (.bool true)], args := [d] }
  | _ => none }
def fnExactFoataBackRow : OpenClaim := { program := "ytlhphgldmefefab", sum := "511d8a04d22ee357d1ef5ff9e0ebe8bdea534eaaffd2530d0d139d3cd5634a99", func := "loop.example/ordercounts/laws.FnExactFoataBack", spec := "fnExactFoataBack", unfollowed := true, recurses := true, apart := false }
def FnExactFoataBackSaid : Prop := fnExactFoataBackRow.holds Try.pinned (OpenSpec.ofChange fnExactFoataBackSpec)

/-- ITS FALSE NEIGHBOUR: 'it returns false'. Refute it at one input. -/
def fnExactFoataBackWrong : ChangeSpec := { name := "fnExactFoataBack", fn := fun _ => fun
  | [d] => { results := [.lit (.bool false)], args := [d] }
  | _ => none }
def FnExactFoataBackWrongFalsely : Prop := fnExactFoataBackRow.holds Try.pinned (OpenSpec.ofChange fnExactFoataBackWrong)

/-- 'laws.FnExactInsertTop': WHATEVER THE INPUT: true; the input reads as it did. -/
def fnExactInsertTopSpec : ChangeSpec := { name := "fnExactInsertTop", fn := fun _ => fun
  | [d1, d2] => { results := [.lit (.bool true)], args := [d1, d2] }
  | _ => none }
def fnExactInsertTopRow : OpenClaim := { program := "ytlhphgldmefefab", sum := "511d8a04d22ee357d1ef5ff9e0ebe8bdea534eaaffd2530d0d139d3cd5634a99", func := "loop.example/ordercounts/laws.FnExactInsertTop", spec := "fnExactInsertTop", apart := false }
def FnExactInsertTopSaid : Prop := fnExactInsertTopRow.holds Try.pinned (OpenSpec.ofChange fnExactInsertTopSpec)

/-- ITS FALSE NEIGHBOUR: 'it returns false'. Refute it at one input. -/
def fnExactInsertTopWrong : ChangeSpec := { name := "fnExactInsertTop", fn := fun _ => fun
  | [d1, d2] => { results := [.lit (.bool false)], args := [d1, d2] }
  | _ => none }
def FnExactInsertTopWrongFalsely : Prop := fnExactInsertTopRow.holds Try.pinned (OpenSpec.ofChange fnExactInsertTopWrong)

/- THE SECOND FORM. 'bulk': how many values and letters a reading holds, each counted each time it is reached (what is shared counts as often as it is met; a slice's spare places count too). A statement '..UptoSaid' is the law's where the arguments, and the package variables that the reading takes, are together of bulk at most 1048576: NARROWER than '..Said'. Prove '..Said' where nothing that the law and all that it calls make is longer than what came in: it says more and counts as full. Else prove '..UptoSaid'. A law counts once. -/
mutual
def uptoBulk {H : Type} : DataW H → Nat
  | .lit (.string bytes) => bytes.length + 1
  | .lit _ => 1
  | .nil => 1
  | .ptr d => uptoBulk d + 1
  | .slice elems spare => uptoBulkAll elems + uptoBulkAll spare + 1
  | .agg parts => uptoBulkAll parts + 1
  | .iface _ d => uptoBulk d + 1
  | .map entries => uptoBulkEntries entries + 1
  | .held _ => 1
def uptoBulkAll {H : Type} : List (DataW H) → Nat
  | [] => 0
  | d :: r => uptoBulk d + uptoBulkAll r
def uptoBulkEntries {H : Type} : List (Lit × DataW H) → Nat
  | [] => 0
  | x :: r => uptoBulkEntry x + uptoBulkEntries r
def uptoBulkEntry {H : Type} : Lit × DataW H → Nat
  | (.string bytes, d) => bytes.length + uptoBulk d + 1
  | (_, d) => uptoBulk d + 1
 end
def uptoSmall : (H : Type) → List (DataW H) → Bool := fun _ ds => decide (uptoBulkAll ds ≤ 1048576)
def OpenSpec.upto (s : _root_.Go.ChangeSpec) : _root_.Go.OpenSpec := { _root_.Go.OpenSpec.ofChange s with cond := some uptoSmall }

/-- 'laws.FnFoataMap', WHERE WHAT IT READS IS OF BULK AT MOST 1048576: true; the input reads as it did. -/
def fnFoataMapUptoRow : OpenClaim := { program := "ytlhphgldmefefab", sum := "511d8a04d22ee357d1ef5ff9e0ebe8bdea534eaaffd2530d0d139d3cd5634a99", func := "loop.example/ordercounts/laws.FnFoataMap", spec := "fnFoataMap", unfollowed := true, recurses := true, apart := false, narrowed := true }
def FnFoataMapUptoSaid : Prop := fnFoataMapUptoRow.holds Try.pinned (OpenSpec.upto fnFoataMapSpec)

/-- 'laws.FnFoataBack', WHERE WHAT IT READS IS OF BULK AT MOST 1048576: true; the input reads as it did. -/
def fnFoataBackUptoRow : OpenClaim := { program := "ytlhphgldmefefab", sum := "511d8a04d22ee357d1ef5ff9e0ebe8bdea534eaaffd2530d0d139d3cd5634a99", func := "loop.example/ordercounts/laws.FnFoataBack", spec := "fnFoataBack", unfollowed := true, recurses := true, apart := false, narrowed := true }
def FnFoataBackUptoSaid : Prop := fnFoataBackUptoRow.holds Try.pinned (OpenSpec.upto fnFoataBackSpec)

/-- 'laws.FnInsertTop', WHERE WHAT IT READS IS OF BULK AT MOST 1048576: true; the input reads as it did. -/
def fnInsertTopUptoRow : OpenClaim := { program := "ytlhphgldmefefab", sum := "511d8a04d22ee357d1ef5ff9e0ebe8bdea534eaaffd2530d0d139d3cd5634a99", func := "loop.example/ordercounts/laws.FnInsertTop", spec := "fnInsertTop", apart := false, narrowed := true }
def FnInsertTopUptoSaid : Prop := fnInsertTopUptoRow.holds Try.pinned (OpenSpec.upto fnInsertTopSpec)

/-- 'laws.FnMajorTable', WHERE WHAT IT READS IS OF BULK AT MOST 1048576: true; the input reads as it did. -/
def fnMajorTableUptoRow : OpenClaim := { program := "ytlhphgldmefefab", sum := "511d8a04d22ee357d1ef5ff9e0ebe8bdea534eaaffd2530d0d139d3cd5634a99", func := "loop.example/ordercounts/laws.FnMajorTable", spec := "fnMajorTable", apart := false, narrowed := true }
def FnMajorTableUptoSaid : Prop := fnMajorTableUptoRow.holds Try.pinned (OpenSpec.upto fnMajorTableSpec)

/-- 'laws.FnOrderOfMajorTable', WHERE WHAT IT READS IS OF BULK AT MOST 1048576: true; the input reads as it did. -/
def fnOrderOfMajorTableUptoRow : OpenClaim := { program := "ytlhphgldmefefab", sum := "511d8a04d22ee357d1ef5ff9e0ebe8bdea534eaaffd2530d0d139d3cd5634a99", func := "loop.example/ordercounts/laws.FnOrderOfMajorTable", spec := "fnOrderOfMajorTable", apart := false, narrowed := true }
def FnOrderOfMajorTableUptoSaid : Prop := fnOrderOfMajorTableUptoRow.holds Try.pinned (OpenSpec.upto fnOrderOfMajorTableSpec)

/-- 'laws.FnRemoveAt', WHERE WHAT IT READS IS OF BULK AT MOST 1048576: true; the input reads as it did. -/
def fnRemoveAtUptoRow : OpenClaim := { program := "ytlhphgldmefefab", sum := "511d8a04d22ee357d1ef5ff9e0ebe8bdea534eaaffd2530d0d139d3cd5634a99", func := "loop.example/ordercounts/laws.FnRemoveAt", spec := "fnRemoveAt", apart := false, narrowed := true }
def FnRemoveAtUptoSaid : Prop := fnRemoveAtUptoRow.holds Try.pinned (OpenSpec.upto fnRemoveAtSpec)

/-- 'laws.FnExceedMap', WHERE WHAT IT READS IS OF BULK AT MOST 1048576: true; the input reads as it did. -/
def fnExceedMapUptoRow : OpenClaim := { program := "ytlhphgldmefefab", sum := "511d8a04d22ee357d1ef5ff9e0ebe8bdea534eaaffd2530d0d139d3cd5634a99", func := "loop.example/ordercounts/laws.FnExceedMap", spec := "fnExceedMap", unfollowed := true, recurses := true, apart := false, narrowed := true }
def FnExceedMapUptoSaid : Prop := fnExceedMapUptoRow.holds Try.pinned (OpenSpec.upto fnExceedMapSpec)

/-- 'laws.FnExactToLine', WHERE WHAT IT READS IS OF BULK AT MOST 1048576: true; the input reads as it did. -/
def fnExactToLineUptoRow : OpenClaim := { program := "ytlhphgldmefefab", sum := "511d8a04d22ee357d1ef5ff9e0ebe8bdea534eaaffd2530d0d139d3cd5634a99", func := "loop.example/ordercounts/laws.FnExactToLine", spec := "fnExactToLine", unfollowed := true, recurses := true, apart := false, narrowed := true }
def FnExactToLineUptoSaid : Prop := fnExactToLineUptoRow.holds Try.pinned (OpenSpec.upto fnExactToLineSpec)

/-- 'laws.FnExactFromLine', WHERE WHAT IT READS IS OF BULK AT MOST 1048576: true; the input reads as it did. -/
def fnExactFromLineUptoRow : OpenClaim := { program := "ytlhphgldmefefab", sum := "511d8a04d22ee357d1ef5ff9e0ebe8bdea534eaaffd2530d0d139d3cd5634a99", func := "loop.example/ordercounts/laws.FnExactFromLine", spec := "fnExactFromLine", unfollowed := true, recurses := true, apart := false, narrowed := true }
def FnExactFromLineUptoSaid : Prop := fnExactFromLineUptoRow.holds Try.pinned (OpenSpec.upto fnExactFromLineSpec)

/-- 'laws.FnExactFoataMap', WHERE WHAT IT READS IS OF BULK AT MOST 1048576: true; the input reads as it did. -/
def fnExactFoataMapUptoRow : OpenClaim := { program := "ytlhphgldmefefab", sum := "511d8a04d22ee357d1ef5ff9e0ebe8bdea534eaaffd2530d0d139d3cd5634a99", func := "loop.example/ordercounts/laws.FnExactFoataMap", spec := "fnExactFoataMap", unfollowed := true, recurses := true, apart := false, narrowed := true }
def FnExactFoataMapUptoSaid : Prop := fnExactFoataMapUptoRow.holds Try.pinned (OpenSpec.upto fnExactFoataMapSpec)

/-- 'laws.FnExactFoataBack', WHERE WHAT IT READS IS OF BULK AT MOST 1048576: true; the input reads as it did. -/
def fnExactFoataBackUptoRow : OpenClaim := { program := "ytlhphgldmefefab", sum := "511d8a04d22ee357d1ef5ff9e0ebe8bdea534eaaffd2530d0d139d3cd5634a99", func := "loop.example/ordercounts/laws.FnExactFoataBack", spec := "fnExactFoataBack", unfollowed := true, recurses := true, apart := false, narrowed := true }
def FnExactFoataBackUptoSaid : Prop := fnExactFoataBackUptoRow.holds Try.pinned (OpenSpec.upto fnExactFoataBackSpec)

/-- 'laws.FnExactInsertTop', WHERE WHAT IT READS IS OF BULK AT MOST 1048576: true; the input reads as it did. -/
def fnExactInsertTopUptoRow : OpenClaim := { program := "ytlhphgldmefefab", sum := "511d8a04d22ee357d1ef5ff9e0ebe8bdea534eaaffd2530d0d139d3cd5634a99", func := "loop.example/ordercounts/laws.FnExactInsertTop", spec := "fnExactInsertTop", apart := false, narrowed := true }
def FnExactInsertTopUptoSaid : Prop := fnExactInsertTopUptoRow.holds Try.pinned (OpenSpec.upto fnExactInsertTopSpec)

end Rows
end Go.Proofs.Ytlhphgldmefefab
