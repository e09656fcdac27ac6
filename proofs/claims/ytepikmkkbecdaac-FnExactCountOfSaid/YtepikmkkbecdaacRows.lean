/-
  No cell of these rows narrows 'for every input' (looked for: loops, veiled, ifaces, maps, wideKeys, modest, calm, conditions, laid).
  DERIVED. THE GIVEN ROWS OF THIS SEAT. 12 by the template 'for every input the law returns true; each argument reads behind the call as it read before'; 0 by the template 'total and deterministic' (their statements: YtepikmkkbecdaacTotals.lean).
  GIVEN WITH THE SEED: the statements are not yours to turn. If you find one false, say at which input.
  Laid BY PROGRAM, IN A SANDBOX (cutbox-rows.mjs): the forced cells as the released guide's own fill.sh prints them over the translation 1473c970cfdb4c5e… (all of the seat's roots in one cut). By AI agents, Wed Nov 11 2026. No macro, syntax, notation, axiom, sorry.
-/
import Derived.Test.YtepikmkkbecdaacChecked
import GoSem.Claim
import GoSem.ClaimJoined
import GoSem.ClaimMapViews
import Derived.JoinedTies
import Derived.KernelRfl
namespace Go.Proofs.Ytepikmkkbecdaac
/- THE CELL 'sum', in the pinned program and in every row, IS THE sha256 OF THE DUMP (.gsa) THAT YtepikmkkbecdaacProg.lean LOADS. Nothing in Lean hashes anything: it is a label: what it is worth is what the hold of that sum in a sandbox is worth. -/
noncomputable def Try.pinned : Pinned := { name := "ytepikmkkbecdaac", sum := "1473c970cfdb4c5e8d86b94345406364ba3a4cc12b17d4da7edd4c5d975c7e77", checked := Try.checked }
namespace Rows
def none {H : Type} : Left H := { results := [], args := [] }

/-- 'laws.FnInverseOrder': WHATEVER THE INPUT: true; the input reads as it did. -/
def fnInverseOrderSpec : ChangeSpec := { name := "fnInverseOrder", fn := fun _ => fun
  | [d] => { results := [.lit (.bool true)], args := [d] }
  | _ => none }
def fnInverseOrderRow : OpenClaim := { program := "ytepikmkkbecdaac", sum := "1473c970cfdb4c5e8d86b94345406364ba3a4cc12b17d4da7edd4c5d975c7e77", func := "loop.example/ordercounts/laws.FnInverseOrder", spec := "fnInverseOrder", plainKeys := false, apart := false }
def FnInverseOrderSaid : Prop := fnInverseOrderRow.holds Try.pinned (OpenSpec.ofChange fnInverseOrderSpec)

/-- ITS FALSE NEIGHBOUR: 'it returns false'. Refute it at one input. -/
def fnInverseOrderWrong : ChangeSpec := { name := "fnInverseOrder", fn := fun _ => fun
  | [d] => { results := [.lit (.bool false)], args := [d] }
  | _ => none }
def FnInverseOrderWrongFalsely : Prop := fnInverseOrderRow.holds Try.pinned (OpenSpec.ofChange fnInverseOrderWrong)

/-- 'laws.FnAboveOf': WHATEVER THE INPUT: true; the input reads as it did. -/
def fnAboveOfSpec : ChangeSpec := { name := "fnAboveOf", fn := fun _ => fun
  | [d] => { results := [.lit (.bool true)], args := [d] }
  | _ => none }
def fnAboveOfRow : OpenClaim := { program := "ytepikmkkbecdaac", sum := "1473c970cfdb4c5e8d86b94345406364ba3a4cc12b17d4da7edd4c5d975c7e77", func := "loop.example/ordercounts/laws.FnAboveOf", spec := "fnAboveOf", unfollowed := true, recurses := true, plainKeys := false, apart := false }
def FnAboveOfSaid : Prop := fnAboveOfRow.holds Try.pinned (OpenSpec.ofChange fnAboveOfSpec)

/-- ITS FALSE NEIGHBOUR: 'it returns false'. Refute it at one input. -/
def fnAboveOfWrong : ChangeSpec := { name := "fnAboveOf", fn := fun _ => fun
  | [d] => { results := [.lit (.bool false)], args := [d] }
  | _ => none }
def FnAboveOfWrongFalsely : Prop := fnAboveOfRow.holds Try.pinned (OpenSpec.ofChange fnAboveOfWrong)

/-- 'laws.FnFixedOf': WHATEVER THE INPUT: true; the input reads as it did. -/
def fnFixedOfSpec : ChangeSpec := { name := "fnFixedOf", fn := fun _ => fun
  | [d] => { results := [.lit (.bool true)], args := [d] }
  | _ => none }
def fnFixedOfRow : OpenClaim := { program := "ytepikmkkbecdaac", sum := "1473c970cfdb4c5e8d86b94345406364ba3a4cc12b17d4da7edd4c5d975c7e77", func := "loop.example/ordercounts/laws.FnFixedOf", spec := "fnFixedOf", unfollowed := true, recurses := true, plainKeys := false, apart := false }
def FnFixedOfSaid : Prop := fnFixedOfRow.holds Try.pinned (OpenSpec.ofChange fnFixedOfSpec)

/-- ITS FALSE NEIGHBOUR: 'it returns false'. Refute it at one input. -/
def fnFixedOfWrong : ChangeSpec := { name := "fnFixedOf", fn := fun _ => fun
  | [d] => { results := [.lit (.bool false)], args := [d] }
  | _ => none }
def FnFixedOfWrongFalsely : Prop := fnFixedOfRow.holds Try.pinned (OpenSpec.ofChange fnFixedOfWrong)

/-- 'laws.FnRecordsOf': WHATEVER THE INPUT: true; the input reads as it did. -/
def fnRecordsOfSpec : ChangeSpec := { name := "fnRecordsOf", fn := fun _ => fun
  | [d] => { results := [.lit (.bool true)], args := [d] }
  | _ => none }
def fnRecordsOfRow : OpenClaim := { program := "ytepikmkkbecdaac", sum := "1473c970cfdb4c5e8d86b94345406364ba3a4cc12b17d4da7edd4c5d975c7e77", func := "loop.example/ordercounts/laws.FnRecordsOf", spec := "fnRecordsOf", plainKeys := false, apart := false }
def FnRecordsOfSaid : Prop := fnRecordsOfRow.holds Try.pinned (OpenSpec.ofChange fnRecordsOfSpec)

/-- ITS FALSE NEIGHBOUR: 'it returns false'. Refute it at one input. -/
def fnRecordsOfWrong : ChangeSpec := { name := "fnRecordsOf", fn := fun _ => fun
  | [d] => { results := [.lit (.bool false)], args := [d] }
  | _ => none }
def FnRecordsOfWrongFalsely : Prop := fnRecordsOfRow.holds Try.pinned (OpenSpec.ofChange fnRecordsOfWrong)

/-- 'laws.FnDenertOf': WHATEVER THE INPUT: true; the input reads as it did. -/
def fnDenertOfSpec : ChangeSpec := { name := "fnDenertOf", fn := fun _ => fun
  | [d] => { results := [.lit (.bool true)], args := [d] }
  | _ => none }
def fnDenertOfRow : OpenClaim := { program := "ytepikmkkbecdaac", sum := "1473c970cfdb4c5e8d86b94345406364ba3a4cc12b17d4da7edd4c5d975c7e77", func := "loop.example/ordercounts/laws.FnDenertOf", spec := "fnDenertOf", unfollowed := true, recurses := true, plainKeys := false, apart := false }
def FnDenertOfSaid : Prop := fnDenertOfRow.holds Try.pinned (OpenSpec.ofChange fnDenertOfSpec)

/-- ITS FALSE NEIGHBOUR: 'it returns false'. Refute it at one input. -/
def fnDenertOfWrong : ChangeSpec := { name := "fnDenertOf", fn := fun _ => fun
  | [d] => { results := [.lit (.bool false)], args := [d] }
  | _ => none }
def FnDenertOfWrongFalsely : Prop := fnDenertOfRow.holds Try.pinned (OpenSpec.ofChange fnDenertOfWrong)

/-- 'laws.FnShiftOf': WHATEVER THE INPUT: true; the input reads as it did. -/
def fnShiftOfSpec : ChangeSpec := { name := "fnShiftOf", fn := fun _ => fun
  | [d] => { results := [.lit (.bool true)], args := [d] }
  | _ => none }
def fnShiftOfRow : OpenClaim := { program := "ytepikmkkbecdaac", sum := "1473c970cfdb4c5e8d86b94345406364ba3a4cc12b17d4da7edd4c5d975c7e77", func := "loop.example/ordercounts/laws.FnShiftOf", spec := "fnShiftOf", plainKeys := false, apart := false }
def FnShiftOfSaid : Prop := fnShiftOfRow.holds Try.pinned (OpenSpec.ofChange fnShiftOfSpec)

/-- ITS FALSE NEIGHBOUR: 'it returns false'. Refute it at one input. -/
def fnShiftOfWrong : ChangeSpec := { name := "fnShiftOf", fn := fun _ => fun
  | [d] => { results := [.lit (.bool false)], args := [d] }
  | _ => none }
def FnShiftOfWrongFalsely : Prop := fnShiftOfRow.holds Try.pinned (OpenSpec.ofChange fnShiftOfWrong)

/-- 'laws.FnCrossingsOf': WHATEVER THE INPUT: true; the input reads as it did. -/
def fnCrossingsOfSpec : ChangeSpec := { name := "fnCrossingsOf", fn := fun _ => fun
  | [d] => { results := [.lit (.bool true)], args := [d] }
  | _ => none }
def fnCrossingsOfRow : OpenClaim := { program := "ytepikmkkbecdaac", sum := "1473c970cfdb4c5e8d86b94345406364ba3a4cc12b17d4da7edd4c5d975c7e77", func := "loop.example/ordercounts/laws.FnCrossingsOf", spec := "fnCrossingsOf", unfollowed := true, recurses := true, plainKeys := false, apart := false }
def FnCrossingsOfSaid : Prop := fnCrossingsOfRow.holds Try.pinned (OpenSpec.ofChange fnCrossingsOfSpec)

/-- ITS FALSE NEIGHBOUR: 'it returns false'. Refute it at one input. -/
def fnCrossingsOfWrong : ChangeSpec := { name := "fnCrossingsOf", fn := fun _ => fun
  | [d] => { results := [.lit (.bool false)], args := [d] }
  | _ => none }
def FnCrossingsOfWrongFalsely : Prop := fnCrossingsOfRow.holds Try.pinned (OpenSpec.ofChange fnCrossingsOfWrong)

/-- 'laws.FnNestingsOf': WHATEVER THE INPUT: true; the input reads as it did. -/
def fnNestingsOfSpec : ChangeSpec := { name := "fnNestingsOf", fn := fun _ => fun
  | [d] => { results := [.lit (.bool true)], args := [d] }
  | _ => none }
def fnNestingsOfRow : OpenClaim := { program := "ytepikmkkbecdaac", sum := "1473c970cfdb4c5e8d86b94345406364ba3a4cc12b17d4da7edd4c5d975c7e77", func := "loop.example/ordercounts/laws.FnNestingsOf", spec := "fnNestingsOf", unfollowed := true, recurses := true, plainKeys := false, apart := false }
def FnNestingsOfSaid : Prop := fnNestingsOfRow.holds Try.pinned (OpenSpec.ofChange fnNestingsOfSpec)

/-- ITS FALSE NEIGHBOUR: 'it returns false'. Refute it at one input. -/
def fnNestingsOfWrong : ChangeSpec := { name := "fnNestingsOf", fn := fun _ => fun
  | [d] => { results := [.lit (.bool false)], args := [d] }
  | _ => none }
def FnNestingsOfWrongFalsely : Prop := fnNestingsOfRow.holds Try.pinned (OpenSpec.ofChange fnNestingsOfWrong)

/-- 'laws.FnCountOf': WHATEVER THE INPUT: true; the input reads as it did. -/
def fnCountOfSpec : ChangeSpec := { name := "fnCountOf", fn := fun _ => fun
  | [d] => { results := [.lit (.bool true)], args := [d] }
  | _ => none }
def fnCountOfRow : OpenClaim := { program := "ytepikmkkbecdaac", sum := "1473c970cfdb4c5e8d86b94345406364ba3a4cc12b17d4da7edd4c5d975c7e77", func := "loop.example/ordercounts/laws.FnCountOf", spec := "fnCountOf", unfollowed := true, recurses := true, plainKeys := false, apart := false }
def FnCountOfSaid : Prop := fnCountOfRow.holds Try.pinned (OpenSpec.ofChange fnCountOfSpec)

/-- ITS FALSE NEIGHBOUR: 'it returns false'. Refute it at one input. -/
def fnCountOfWrong : ChangeSpec := { name := "fnCountOf", fn := fun _ => fun
  | [d] => { results := [.lit (.bool false)], args := [d] }
  | _ => none }
def FnCountOfWrongFalsely : Prop := fnCountOfRow.holds Try.pinned (OpenSpec.ofChange fnCountOfWrong)

/-- 'laws.FnExactCountOf': WHATEVER THE INPUT: true; the input reads as it did. -/
def fnExactCountOfSpec : ChangeSpec := { name := "fnExactCountOf", fn := fun _ => fun
  | [d1, d2] => { results := [.lit (.bool true)], args := [d1, d2] }
  | _ => none }
def fnExactCountOfRow : OpenClaim := { program := "ytepikmkkbecdaac", sum := "1473c970cfdb4c5e8d86b94345406364ba3a4cc12b17d4da7edd4c5d975c7e77", func := "loop.example/ordercounts/laws.FnExactCountOf", spec := "fnExactCountOf", unfollowed := true, recurses := true, plainKeys := false, apart := false }
def FnExactCountOfSaid : Prop := fnExactCountOfRow.holds Try.pinned (OpenSpec.ofChange fnExactCountOfSpec)

/-- ITS FALSE NEIGHBOUR: 'it returns false'. Refute it at one input. -/
def fnExactCountOfWrong : ChangeSpec := { name := "fnExactCountOf", fn := fun _ => fun
  | [d1, d2] => { results := [.lit (.bool false)], args := [d1, d2] }
  | _ => none }
def FnExactCountOfWrongFalsely : Prop := fnExactCountOfRow.holds Try.pinned (OpenSpec.ofChange fnExactCountOfWrong)

/-- 'laws.FnExactRowOf': WHATEVER THE INPUT: true; the input reads as it did. -/
def fnExactRowOfSpec : ChangeSpec := { name := "fnExactRowOf", fn := fun _ => fun
  | [d1, d2] => { results := [.lit (.bool true)], args := [d1, d2] }
  | _ => none }
def fnExactRowOfRow : OpenClaim := { program := "ytepikmkkbecdaac", sum := "1473c970cfdb4c5e8d86b94345406364ba3a4cc12b17d4da7edd4c5d975c7e77", func := "loop.example/ordercounts/laws.FnExactRowOf", spec := "fnExactRowOf", unfollowed := true, recurses := true, plainKeys := false, apart := false }
def FnExactRowOfSaid : Prop := fnExactRowOfRow.holds Try.pinned (OpenSpec.ofChange fnExactRowOfSpec)

/-- ITS FALSE NEIGHBOUR: 'it returns false'. Refute it at one input. -/
def fnExactRowOfWrong : ChangeSpec := { name := "fnExactRowOf", fn := fun _ => fun
  | [d1, d2] => { results := [.lit (.bool false)], args := [d1, d2] }
  | _ => none }
def FnExactRowOfWrongFalsely : Prop := fnExactRowOfRow.holds Try.pinned (OpenSpec.ofChange fnExactRowOfWrong)

/-- 'laws.FnExactPairRows': WHATEVER THE INPUT: true; the input reads as it did. -/
def fnExactPairRowsSpec : ChangeSpec := { name := "fnExactPairRows", fn := fun _ => fun
  | [d1, d2, d3] => { results := [.lit (.bool true)], args := [d1, d2, d3] }
  | _ => none }
def fnExactPairRowsRow : OpenClaim := { program := "ytepikmkkbecdaac", sum := "1473c970cfdb4c5e8d86b94345406364ba3a4cc12b17d4da7edd4c5d975c7e77", func := "loop.example/ordercounts/laws.FnExactPairRows", spec := "fnExactPairRows", unfollowed := true, recurses := true, plainKeys := false, apart := false }
def FnExactPairRowsSaid : Prop := fnExactPairRowsRow.holds Try.pinned (OpenSpec.ofChange fnExactPairRowsSpec)

/-- ITS FALSE NEIGHBOUR: 'it returns false'. Refute it at one input. -/
def fnExactPairRowsWrong : ChangeSpec := { name := "fnExactPairRows", fn := fun _ => fun
  | [d1, d2, d3] => { results := [.lit (.bool false)], args := [d1, d2, d3] }
  | _ => none }
def FnExactPairRowsWrongFalsely : Prop := fnExactPairRowsRow.holds Try.pinned (OpenSpec.ofChange fnExactPairRowsWrong)

/- THE SECOND FORM. 'bulk': how many values and letters a reading holds, each counted each time it is reached (what is shared counts as often as it is met; a slice's spare places count too). A statement '..UptoSaid' is the law's where the arguments, and the package variables that the reading takes, are together of bulk at most 1048576: NARROWER than '..Said'. Prove '..Said' where nothing that the law and all that it calls make is longer than what came in: it says more and counts as full. Else prove '..UptoSaid'. A law counts once. -/
mutual
def uptoBulk {H : Type} : DataW H → Nat
  | .lit (.string bytes) => bytes.length + 1
  | .lit _ => 1
  | .nil => 1
  | .ptr d => uptoBulk d + 1
  | .slice elems spare => uptoBulkAll elems + uptoBulkAll spare + 1
  | .agg parts => uptoBulkAll parts + 1
  | .iface _ d => uptoBulk d + 1
  | .map entries => uptoBulkEntries entries + 1
  | .held _ => 1
def uptoBulkAll {H : Type} : List (DataW H) → Nat
  | [] => 0
  | d :: r => uptoBulk d + uptoBulkAll r
def uptoBulkEntries {H : Type} : List (Lit × DataW H) → Nat
  | [] => 0
  | x :: r => uptoBulkEntry x + uptoBulkEntries r
def uptoBulkEntry {H : Type} : Lit × DataW H → Nat
  | (.string bytes, d) => bytes.length + uptoBulk d + 1
  | (_, d) => uptoBulk d + 1
 end
def uptoSmall : (H : Type) → List (DataW H) → Bool := fun _ ds => decide (uptoBulkAll ds ≤ 1048576)
def OpenSpec.upto (s : _root_.Go.ChangeSpec) : _root_.Go.OpenSpec := { _root_.Go.OpenSpec.ofChange s with cond := some uptoSmall }

/-- 'laws.FnInverseOrder', WHERE WHAT IT READS IS OF BULK AT MOST 1048576: true; the input reads as it did. -/
def fnInverseOrderUptoRow : OpenClaim := { program := "ytepikmkkbecdaac", sum := "1473c970cfdb4c5e8d86b94345406364ba3a4cc12b17d4da7edd4c5d975c7e77", func := "loop.example/ordercounts/laws.FnInverseOrder", spec := "fnInverseOrder", plainKeys := false, apart := false, narrowed := true }
def FnInverseOrderUptoSaid : Prop := fnInverseOrderUptoRow.holds Try.pinned (OpenSpec.upto fnInverseOrderSpec)

/-- 'laws.FnAboveOf', WHERE WHAT IT READS IS OF BULK AT MOST 1048576: true; the input reads as it did. -/
def fnAboveOfUptoRow : OpenClaim := { program := "ytepikmkkbecdaac", sum := "1473c970cfdb4c5e8d86b94345406364ba3a4cc12b17d4da7edd4c5d975c7e77", func := "loop.example/ordercounts/laws.FnAboveOf", spec := "fnAboveOf", unfollowed := true, recurses := true, plainKeys := false, apart := false, narrowed := true }
def FnAboveOfUptoSaid : Prop := fnAboveOfUptoRow.holds Try.pinned (OpenSpec.upto fnAboveOfSpec)

/-- 'laws.FnFixedOf', WHERE WHAT IT READS IS OF BULK AT MOST 1048576: true; the input reads as it did. -/
def fnFixedOfUptoRow : OpenClaim := { program := "ytepikmkkbecdaac", sum := "1473c970cfdb4c5e8d86b94345406364ba3a4cc12b17d4da7edd4c5d975c7e77", func := "loop.example/ordercounts/laws.FnFixedOf", spec := "fnFixedOf", unfollowed := true, recurses := true, plainKeys := false, apart := false, narrowed := true }
def FnFixedOfUptoSaid : Prop := fnFixedOfUptoRow.holds Try.pinned (OpenSpec.upto fnFixedOfSpec)

/-- 'laws.FnRecordsOf', WHERE WHAT IT READS IS OF BULK AT MOST 1048576: true; the input reads as it did. -/
def fnRecordsOfUptoRow : OpenClaim := { program := "ytepikmkkbecdaac", sum := "1473c970cfdb4c5e8d86b94345406364ba3a4cc12b17d4da7edd4c5d975c7e77", func := "loop.example/ordercounts/laws.FnRecordsOf", spec := "fnRecordsOf", plainKeys := false, apart := false, narrowed := true }
def FnRecordsOfUptoSaid : Prop := fnRecordsOfUptoRow.holds Try.pinned (OpenSpec.upto fnRecordsOfSpec)

/-- 'laws.FnDenertOf', WHERE WHAT IT READS IS OF BULK AT MOST 1048576: true; the input reads as it did. -/
def fnDenertOfUptoRow : OpenClaim := { program := "ytepikmkkbecdaac", sum := "1473c970cfdb4c5e8d86b94345406364ba3a4cc12b17d4da7edd4c5d975c7e77", func := "loop.example/ordercounts/laws.FnDenertOf", spec := "fnDenertOf", unfollowed := true, recurses := true, plainKeys := false, apart := false, narrowed := true }
def FnDenertOfUptoSaid : Prop := fnDenertOfUptoRow.holds Try.pinned (OpenSpec.upto fnDenertOfSpec)

/-- 'laws.FnShiftOf', WHERE WHAT IT READS IS OF BULK AT MOST 1048576: true; the input reads as it did. -/
def fnShiftOfUptoRow : OpenClaim := { program := "ytepikmkkbecdaac", sum := "1473c970cfdb4c5e8d86b94345406364ba3a4cc12b17d4da7edd4c5d975c7e77", func := "loop.example/ordercounts/laws.FnShiftOf", spec := "fnShiftOf", plainKeys := false, apart := false, narrowed := true }
def FnShiftOfUptoSaid : Prop := fnShiftOfUptoRow.holds Try.pinned (OpenSpec.upto fnShiftOfSpec)

/-- 'laws.FnCrossingsOf', WHERE WHAT IT READS IS OF BULK AT MOST 1048576: true; the input reads as it did. -/
def fnCrossingsOfUptoRow : OpenClaim := { program := "ytepikmkkbecdaac", sum := "1473c970cfdb4c5e8d86b94345406364ba3a4cc12b17d4da7edd4c5d975c7e77", func := "loop.example/ordercounts/laws.FnCrossingsOf", spec := "fnCrossingsOf", unfollowed := true, recurses := true, plainKeys := false, apart := false, narrowed := true }
def FnCrossingsOfUptoSaid : Prop := fnCrossingsOfUptoRow.holds Try.pinned (OpenSpec.upto fnCrossingsOfSpec)

/-- 'laws.FnNestingsOf', WHERE WHAT IT READS IS OF BULK AT MOST 1048576: true; the input reads as it did. -/
def fnNestingsOfUptoRow : OpenClaim := { program := "ytepikmkkbecdaac", sum := "1473c970cfdb4c5e8d86b94345406364ba3a4cc12b17d4da7edd4c5d975c7e77", func := "loop.example/ordercounts/laws.FnNestingsOf", spec := "fnNestingsOf", unfollowed := true, recurses := true, plainKeys := false, apart := false, narrowed := true }
def FnNestingsOfUptoSaid : Prop := fnNestingsOfUptoRow.holds Try.pinned (OpenSpec.upto fnNestingsOfSpec)

/-- 'laws.FnCountOf', WHERE WHAT IT READS IS OF BULK AT MOST 1048576: true; the input reads as it did. -/
def fnCountOfUptoRow : OpenClaim := { program := "ytepikmkkbecdaac", sum := "1473c970cfdb4c5e8d86b94345406364ba3a4cc12b17d4da7edd4c5d975c7e77", func := "loop.example/ordercounts/laws.FnCountOf", spec := "fnCountOf", unfollowed := true, recurses := true, plainKeys := false, apart := false, narrowed := true }
def FnCountOfUptoSaid : Prop := fnCountOfUptoRow.holds Try.pinned (OpenSpec.upto fnCountOfSpec)

/-- 'laws.FnExactCountOf', WHERE WHAT IT READS IS OF BULK AT MOST 1048576: true; the input reads as it did. -/
def fnExactCountOfUptoRow : OpenClaim := { program := "ytepikmkkbecdaac", sum := "1473c970cfdb4c5e8d86b94345406364ba3a4cc12b17d4da7edd4c5d975c7e77", func := "loop.example/ordercounts/laws.FnExactCountOf", spec := "fnExactCountOf", unfollowed := true, recurses := true, plainKeys := false, apart := false, narrowed := true }
def FnExactCountOfUptoSaid : Prop := fnExactCountOfUptoRow.holds Try.pinned (OpenSpec.upto fnExactCountOfSpec)

/-- 'laws.FnExactRowOf', WHERE WHAT IT READS IS OF BULK AT MOST 1048576: true; the input reads as it did. -/
def fnExactRowOfUptoRow : OpenClaim := { program := "ytepikmkkbecdaac", sum := "1473c970cfdb4c5e8d86b94345406364ba3a4cc12b17d4da7edd4c5d975c7e77", func := "loop.example/ordercounts/laws.FnExactRowOf", spec := "fnExactRowOf", unfollowed := true, recurses := true, plainKeys := false, apart := false, narrowed := true }
def FnExactRowOfUptoSaid : Prop := fnExactRowOfUptoRow.holds Try.pinned (OpenSpec.upto fnExactRowOfSpec)

/-- 'laws.FnExactPairRows', WHERE WHAT IT READS IS OF BULK AT MOST 1048576: true; the input reads as it did. -/
def fnExactPairRowsUptoRow : OpenClaim := { program := "ytepikmkkbecdaac", sum := "1473c970cfdb4c5e8d86b94345406364ba3a4cc12b17d4da7edd4c5d975c7e77", func := "loop.example/ordercounts/laws.FnExactPairRows", spec := "fnExactPairRows", unfollowed := true, recurses := true, plainKeys := false, apart := false, narrowed := true }
def FnExactPairRowsUptoSaid : Prop := fnExactPairRowsUptoRow.holds Try.pinned (OpenSpec.upto fnExactPairRowsSpec)

end Rows
end Go.Proofs.Ytepikmkkbecdaac
