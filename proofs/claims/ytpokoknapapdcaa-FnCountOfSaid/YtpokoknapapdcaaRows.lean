/-
  No cell of these rows narrows 'for every input' (looked for: loops, veiled, ifaces, maps, wideKeys, modest, calm, conditions, laid).
  DERIVED. THE GIVEN ROWS OF THIS SEAT. 10 by the template 'for every input the law returns true; each argument reads behind the call as it read before'; 0 by the template 'total and deterministic' (their statements: YtpokoknapapdcaaTotals.lean).
  GIVEN WITH THE SEED: the statements are not yours to turn. If you find one false, say at which input.
  Laid BY PROGRAM, IN A SANDBOX (cutbox-rows.mjs): the forced cells as the released guide's own fill.sh prints them over the translation b9509026e4307c8e… (all of the seat's roots in one cut). By AI agents, Wed Nov 11 2026. No macro, syntax, notation, axiom, sorry.
-/
import Derived.Test.YtpokoknapapdcaaChecked
import GoSem.Claim
import GoSem.ClaimJoined
import GoSem.ClaimMapViews
import Derived.JoinedTies
import Derived.KernelRfl
namespace Go.Proofs.Ytpokoknapapdcaa
/- THE CELL 'sum', in the pinned program and in every row, IS THE sha256 OF THE DUMP (.gsa) THAT YtpokoknapapdcaaProg.lean LOADS. Nothing in Lean hashes anything: it is a label: what it is worth is what the hold of that sum in a sandbox is worth. -/
noncomputable def Try.pinned : Pinned := { name := "ytpokoknapapdcaa", sum := "b9509026e4307c8e070cee75f3f073d4e21cde832dce94a19aebe37125b75e46", checked := Try.checked }
namespace Rows
def none {H : Type} : Left H := { results := [], args := [] }

/-- 'laws.FnProductRow': WHATEVER THE INPUT: true; the input reads as it did. -/
def fnProductRowSpec : ChangeSpec := { name := "fnProductRow", fn := fun _ => fun
  | [d] => { results := [.lit (.bool true)], args := [d] }
  | _ => none }
def fnProductRowRow : OpenClaim := { program := "ytpokoknapapdcaa", sum := "b9509026e4307c8e070cee75f3f073d4e21cde832dce94a19aebe37125b75e46", func := "loop.example/ordercounts/laws.FnProductRow", spec := "fnProductRow", plainKeys := false, apart := false }
def FnProductRowSaid : Prop := fnProductRowRow.holds Try.pinned (OpenSpec.ofChange fnProductRowSpec)

/-- ITS FALSE NEIGHBOUR: 'it returns false'. Refute it at one input. -/
def fnProductRowWrong : ChangeSpec := { name := "fnProductRow", fn := fun _ => fun
  | [d] => { results := [.lit (.bool false)], args := [d] }
  | _ => none }
def FnProductRowWrongFalsely : Prop := fnProductRowRow.holds Try.pinned (OpenSpec.ofChange fnProductRowWrong)

/-- 'laws.FnCountOf': WHATEVER THE INPUT: true; the input reads as it did. -/
def fnCountOfSpec : ChangeSpec := { name := "fnCountOf", fn := fun _ => fun
  | [d] => { results := [.lit (.bool true)], args := [d] }
  | _ => none }
def fnCountOfRow : OpenClaim := { program := "ytpokoknapapdcaa", sum := "b9509026e4307c8e070cee75f3f073d4e21cde832dce94a19aebe37125b75e46", func := "loop.example/ordercounts/laws.FnCountOf", spec := "fnCountOf", unfollowed := true, recurses := true, plainKeys := false, apart := false }
def FnCountOfSaid : Prop := fnCountOfRow.holds Try.pinned (OpenSpec.ofChange fnCountOfSpec)

/-- ITS FALSE NEIGHBOUR: 'it returns false'. Refute it at one input. -/
def fnCountOfWrong : ChangeSpec := { name := "fnCountOf", fn := fun _ => fun
  | [d] => { results := [.lit (.bool false)], args := [d] }
  | _ => none }
def FnCountOfWrongFalsely : Prop := fnCountOfRow.holds Try.pinned (OpenSpec.ofChange fnCountOfWrong)

/-- 'laws.FnAllOrders': WHATEVER THE INPUT: true; the input reads as it did. -/
def fnAllOrdersSpec : ChangeSpec := { name := "fnAllOrders", fn := fun _ => fun
  | [d] => { results := [.lit (.bool true)], args := [d] }
  | _ => none }
def fnAllOrdersRow : OpenClaim := { program := "ytpokoknapapdcaa", sum := "b9509026e4307c8e070cee75f3f073d4e21cde832dce94a19aebe37125b75e46", func := "loop.example/ordercounts/laws.FnAllOrders", spec := "fnAllOrders", unfollowed := true, recurses := true, plainKeys := false, apart := false }
def FnAllOrdersSaid : Prop := fnAllOrdersRow.holds Try.pinned (OpenSpec.ofChange fnAllOrdersSpec)

/-- ITS FALSE NEIGHBOUR: 'it returns false'. Refute it at one input. -/
def fnAllOrdersWrong : ChangeSpec := { name := "fnAllOrders", fn := fun _ => fun
  | [d] => { results := [.lit (.bool false)], args := [d] }
  | _ => none }
def FnAllOrdersWrongFalsely : Prop := fnAllOrdersRow.holds Try.pinned (OpenSpec.ofChange fnAllOrdersWrong)

/-- 'laws.FnExactAllOrders': WHATEVER THE INPUT: true; the input reads as it did. -/
def fnExactAllOrdersSpec : ChangeSpec := { name := "fnExactAllOrders", fn := fun _ => fun
  | [d] => { results := [.lit (.bool true)], args := [d] }
  | _ => none }
def fnExactAllOrdersRow : OpenClaim := { program := "ytpokoknapapdcaa", sum := "b9509026e4307c8e070cee75f3f073d4e21cde832dce94a19aebe37125b75e46", func := "loop.example/ordercounts/laws.FnExactAllOrders", spec := "fnExactAllOrders", unfollowed := true, recurses := true, plainKeys := false, apart := false }
def FnExactAllOrdersSaid : Prop := fnExactAllOrdersRow.holds Try.pinned (OpenSpec.ofChange fnExactAllOrdersSpec)

/-- ITS FALSE NEIGHBOUR: 'it returns false'. Refute it at one input. -/
def fnExactAllOrdersWrong : ChangeSpec := { name := "fnExactAllOrders", fn := fun _ => fun
  | [d] => { results := [.lit (.bool false)], args := [d] }
  | _ => none }
def FnExactAllOrdersWrongFalsely : Prop := fnExactAllOrdersRow.holds Try.pinned (OpenSpec.ofChange fnExactAllOrdersWrong)

/-- 'laws.FnExactRowOf': WHATEVER THE INPUT: true; the input reads as it did. -/
def fnExactRowOfSpec : ChangeSpec := { name := "fnExactRowOf", fn := fun _ => fun
  | [d1, d2] => { results := [.lit (.bool true)], args := [d1, d2] }
  | _ => none }
def fnExactRowOfRow : OpenClaim := { program := "ytpokoknapapdcaa", sum := "b9509026e4307c8e070cee75f3f073d4e21cde832dce94a19aebe37125b75e46", func := "loop.example/ordercounts/laws.FnExactRowOf", spec := "fnExactRowOf", unfollowed := true, recurses := true, plainKeys := false, apart := false }
def FnExactRowOfSaid : Prop := fnExactRowOfRow.holds Try.pinned (OpenSpec.ofChange fnExactRowOfSpec)

/-- ITS FALSE NEIGHBOUR: 'it returns false'. Refute it at one input. -/
def fnExactRowOfWrong : ChangeSpec := { name := "fnExactRowOf", fn := fun _ => fun
  | [d1, d2] => { results := [.lit (.bool false)], args := [d1, d2] }
  | _ => none }
def FnExactRowOfWrongFalsely : Prop := fnExactRowOfRow.holds Try.pinned (OpenSpec.ofChange fnExactRowOfWrong)

/-- 'laws.FnExactPairRows': WHATEVER THE INPUT: true; the input reads as it did. -/
def fnExactPairRowsSpec : ChangeSpec := { name := "fnExactPairRows", fn := fun _ => fun
  | [d1, d2, d3] => { results := [.lit (.bool true)], args := [d1, d2, d3] }
  | _ => none }
def fnExactPairRowsRow : OpenClaim := { program := "ytpokoknapapdcaa", sum := "b9509026e4307c8e070cee75f3f073d4e21cde832dce94a19aebe37125b75e46", func := "loop.example/ordercounts/laws.FnExactPairRows", spec := "fnExactPairRows", unfollowed := true, recurses := true, plainKeys := false, apart := false }
def FnExactPairRowsSaid : Prop := fnExactPairRowsRow.holds Try.pinned (OpenSpec.ofChange fnExactPairRowsSpec)

/-- ITS FALSE NEIGHBOUR: 'it returns false'. Refute it at one input. -/
def fnExactPairRowsWrong : ChangeSpec := { name := "fnExactPairRows", fn := fun _ => fun
  | [d1, d2, d3] => { results := [.lit (.bool false)], args := [d1, d2, d3] }
  | _ => none }
def FnExactPairRowsWrongFalsely : Prop := fnExactPairRowsRow.holds Try.pinned (OpenSpec.ofChange fnExactPairRowsWrong)

/-- 'laws.FnRowOf': WHATEVER THE INPUT: true; the input reads as it did. -/
def fnRowOfSpec : ChangeSpec := { name := "fnRowOf", fn := fun _ => fun
  | [d] => { results := [.lit (.bool true)], args := [d] }
  | _ => none }
def fnRowOfRow : OpenClaim := { program := "ytpokoknapapdcaa", sum := "b9509026e4307c8e070cee75f3f073d4e21cde832dce94a19aebe37125b75e46", func := "loop.example/ordercounts/laws.FnRowOf", spec := "fnRowOf", unfollowed := true, recurses := true, plainKeys := false, apart := false }
def FnRowOfSaid : Prop := fnRowOfRow.holds Try.pinned (OpenSpec.ofChange fnRowOfSpec)

/-- ITS FALSE NEIGHBOUR: 'it returns false'. Refute it at one input. -/
def fnRowOfWrong : ChangeSpec := { name := "fnRowOf", fn := fun _ => fun
  | [d] => { results := [.lit (.bool false)], args := [d] }
  | _ => none }
def FnRowOfWrongFalsely : Prop := fnRowOfRow.holds Try.pinned (OpenSpec.ofChange fnRowOfWrong)

/-- 'laws.FnPairRows': WHATEVER THE INPUT: true; the input reads as it did. -/
def fnPairRowsSpec : ChangeSpec := { name := "fnPairRows", fn := fun _ => fun
  | [d] => { results := [.lit (.bool true)], args := [d] }
  | _ => none }
def fnPairRowsRow : OpenClaim := { program := "ytpokoknapapdcaa", sum := "b9509026e4307c8e070cee75f3f073d4e21cde832dce94a19aebe37125b75e46", func := "loop.example/ordercounts/laws.FnPairRows", spec := "fnPairRows", unfollowed := true, recurses := true, plainKeys := false, apart := false }
def FnPairRowsSaid : Prop := fnPairRowsRow.holds Try.pinned (OpenSpec.ofChange fnPairRowsSpec)

/-- ITS FALSE NEIGHBOUR: 'it returns false'. Refute it at one input. -/
def fnPairRowsWrong : ChangeSpec := { name := "fnPairRows", fn := fun _ => fun
  | [d] => { results := [.lit (.bool false)], args := [d] }
  | _ => none }
def FnPairRowsWrongFalsely : Prop := fnPairRowsRow.holds Try.pinned (OpenSpec.ofChange fnPairRowsWrong)

/-- 'laws.FnPairRowsDenert': WHATEVER THE INPUT: true; the input reads as it did. -/
def fnPairRowsDenertSpec : ChangeSpec := { name := "fnPairRowsDenert", fn := fun _ => fun
  | [d] => { results := [.lit (.bool true)], args := [d] }
  | _ => none }
def fnPairRowsDenertRow : OpenClaim := { program := "ytpokoknapapdcaa", sum := "b9509026e4307c8e070cee75f3f073d4e21cde832dce94a19aebe37125b75e46", func := "loop.example/ordercounts/laws.FnPairRowsDenert", spec := "fnPairRowsDenert", unfollowed := true, recurses := true, plainKeys := false, apart := false }
def FnPairRowsDenertSaid : Prop := fnPairRowsDenertRow.holds Try.pinned (OpenSpec.ofChange fnPairRowsDenertSpec)

/-- ITS FALSE NEIGHBOUR: 'it returns false'. Refute it at one input. -/
def fnPairRowsDenertWrong : ChangeSpec := { name := "fnPairRowsDenert", fn := fun _ => fun
  | [d] => { results := [.lit (.bool false)], args := [d] }
  | _ => none }
def FnPairRowsDenertWrongFalsely : Prop := fnPairRowsDenertRow.holds Try.pinned (OpenSpec.ofChange fnPairRowsDenertWrong)

/-- 'laws.FnPairRowsTurned': WHATEVER THE INPUT: true; the input reads as it did. -/
def fnPairRowsTurnedSpec : ChangeSpec := { name := "fnPairRowsTurned", fn := fun _ => fun
  | [d] => { results := [.lit (.bool true)], args := [d] }
  | _ => none }
def fnPairRowsTurnedRow : OpenClaim := { program := "ytpokoknapapdcaa", sum := "b9509026e4307c8e070cee75f3f073d4e21cde832dce94a19aebe37125b75e46", func := "loop.example/ordercounts/laws.FnPairRowsTurned", spec := "fnPairRowsTurned", unfollowed := true, recurses := true, plainKeys := false, apart := false }
def FnPairRowsTurnedSaid : Prop := fnPairRowsTurnedRow.holds Try.pinned (OpenSpec.ofChange fnPairRowsTurnedSpec)

/-- ITS FALSE NEIGHBOUR: 'it returns false'. Refute it at one input. -/
def fnPairRowsTurnedWrong : ChangeSpec := { name := "fnPairRowsTurned", fn := fun _ => fun
  | [d] => { results := [.lit (.bool false)], args := [d] }
  | _ => none }
def FnPairRowsTurnedWrongFalsely : Prop := fnPairRowsTurnedRow.holds Try.pinned (OpenSpec.ofChange fnPairRowsTurnedWrong)

/- THE SECOND FORM. 'bulk': how many values and letters a reading holds, each counted each time it is reached (what is shared counts as often as it is met; a slice's spare places count too). A statement '..UptoSaid' is the law's where the arguments, and the package variables that the reading takes, are together of bulk at most 1048576: NARROWER than '..Said'. Prove '..Said' where nothing that the law and all that it calls make is longer than what came in: it says more and counts as full. Else prove '..UptoSaid'. A law counts once. -/
mutual
def uptoBulk {H : Type} : DataW H → Nat
  | .lit (.string bytes) => bytes.length + 1
  | .lit _ => 1
  | .nil => 1
  | .ptr d => uptoBulk d + 1
  | .slice elems spare => uptoBulkAll elems + uptoBulkAll spare + 1
  | .agg parts => uptoBulkAll parts + 1
  | .iface _ d => uptoBulk d + 1
  | .map entries => uptoBulkEntries entries + 1
  | .held _ => 1
def uptoBulkAll {H : Type} : List (DataW H) → Nat
  | [] => 0
  | d :: r => uptoBulk d + uptoBulkAll r
def uptoBulkEntries {H : Type} : List (Lit × DataW H) → Nat
  | [] => 0
  | x :: r => uptoBulkEntry x + uptoBulkEntries r
def uptoBulkEntry {H : Type} : Lit × DataW H → Nat
  | (.string bytes, d) => bytes.length + uptoBulk d + 1
  | (_, d) => uptoBulk d + 1
 end
def uptoSmall : (H : Type) → List (DataW H) → Bool := fun _ ds => decide (uptoBulkAll ds ≤ 1048576)
def OpenSpec.upto (s : _root_.Go.ChangeSpec) : _root_.Go.OpenSpec := { _root_.Go.OpenSpec.ofChange s with cond := some uptoSmall }

/-- 'laws.FnProductRow', WHERE WHAT IT READS IS OF BULK AT MOST 1048576: true; the input reads as it did. -/
def fnProductRowUptoRow : OpenClaim := { program := "ytpokoknapapdcaa", sum := "b9509026e4307c8e070cee75f3f073d4e21cde832dce94a19aebe37125b75e46", func := "loop.example/ordercounts/laws.FnProductRow", spec := "fnProductRow", plainKeys := false, apart := false, narrowed := true }
def FnProductRowUptoSaid : Prop := fnProductRowUptoRow.holds Try.pinned (OpenSpec.upto fnProductRowSpec)

/-- 'laws.FnCountOf', WHERE WHAT IT READS IS OF BULK AT MOST 1048576: true; the input reads as it did. -/
def fnCountOfUptoRow : OpenClaim := { program := "ytpokoknapapdcaa", sum := "b9509026e4307c8e070cee75f3f073d4e21cde832dce94a19aebe37125b75e46", func := "loop.example/ordercounts/laws.FnCountOf", spec := "fnCountOf", unfollowed := true, recurses := true, plainKeys := false, apart := false, narrowed := true }
def FnCountOfUptoSaid : Prop := fnCountOfUptoRow.holds Try.pinned (OpenSpec.upto fnCountOfSpec)

/-- 'laws.FnAllOrders', WHERE WHAT IT READS IS OF BULK AT MOST 1048576: true; the input reads as it did. -/
def fnAllOrdersUptoRow : OpenClaim := { program := "ytpokoknapapdcaa", sum := "b9509026e4307c8e070cee75f3f073d4e21cde832dce94a19aebe37125b75e46", func := "loop.example/ordercounts/laws.FnAllOrders", spec := "fnAllOrders", unfollowed := true, recurses := true, plainKeys := false, apart := false, narrowed := true }
def FnAllOrdersUptoSaid : Prop := fnAllOrdersUptoRow.holds Try.pinned (OpenSpec.upto fnAllOrdersSpec)

/-- 'laws.FnExactAllOrders', WHERE WHAT IT READS IS OF BULK AT MOST 1048576: true; the input reads as it did. -/
def fnExactAllOrdersUptoRow : OpenClaim := { program := "ytpokoknapapdcaa", sum := "b9509026e4307c8e070cee75f3f073d4e21cde832dce94a19aebe37125b75e46", func := "loop.example/ordercounts/laws.FnExactAllOrders", spec := "fnExactAllOrders", unfollowed := true, recurses := true, plainKeys := false, apart := false, narrowed := true }
def FnExactAllOrdersUptoSaid : Prop := fnExactAllOrdersUptoRow.holds Try.pinned (OpenSpec.upto fnExactAllOrdersSpec)

/-- 'laws.FnExactRowOf', WHERE WHAT IT READS IS OF BULK AT MOST 1048576: true; the input reads as it did. -/
def fnExactRowOfUptoRow : OpenClaim := { program := "ytpokoknapapdcaa", sum := "b9509026e4307c8e070cee75f3f073d4e21cde832dce94a19aebe37125b75e46", func := "loop.example/ordercounts/laws.FnExactRowOf", spec := "fnExactRowOf", unfollowed := true, recurses := true, plainKeys := false, apart := false, narrowed := true }
def FnExactRowOfUptoSaid : Prop := fnExactRowOfUptoRow.holds Try.pinned (OpenSpec.upto fnExactRowOfSpec)

/-- 'laws.FnExactPairRows', WHERE WHAT IT READS IS OF BULK AT MOST 1048576: true; the input reads as it did. -/
def fnExactPairRowsUptoRow : OpenClaim := { program := "ytpokoknapapdcaa", sum := "b9509026e4307c8e070cee75f3f073d4e21cde832dce94a19aebe37125b75e46", func := "loop.example/ordercounts/laws.FnExactPairRows", spec := "fnExactPairRows", unfollowed := true, recurses := true, plainKeys := false, apart := false, narrowed := true }
def FnExactPairRowsUptoSaid : Prop := fnExactPairRowsUptoRow.holds Try.pinned (OpenSpec.upto fnExactPairRowsSpec)

/-- 'laws.FnRowOf', WHERE WHAT IT READS IS OF BULK AT MOST 1048576: true; the input reads as it did. -/
def fnRowOfUptoRow : OpenClaim := { program := "ytpokoknapapdcaa", sum := "b9509026e4307c8e070cee75f3f073d4e21cde832dce94a19aebe37125b75e46", func := "loop.example/ordercounts/laws.FnRowOf", spec := "fnRowOf", unfollowed := true, recurses := true, plainKeys := false, apart := false, narrowed := true }
def FnRowOfUptoSaid : Prop := fnRowOfUptoRow.holds Try.pinned (OpenSpec.upto fnRowOfSpec)

/-- 'laws.FnPairRows', WHERE WHAT IT READS IS OF BULK AT MOST 1048576: true; the input reads as it did. -/
def fnPairRowsUptoRow : OpenClaim := { program := "ytpokoknapapdcaa", sum := "b9509026e4307c8e070cee75f3f073d4e21cde832dce94a19aebe37125b75e46", func := "loop.example/ordercounts/laws.FnPairRows", spec := "fnPairRows", unfollowed := true, recurses := true, plainKeys := false, apart := false, narrowed := true }
def FnPairRowsUptoSaid : Prop := fnPairRowsUptoRow.holds Try.pinned (OpenSpec.upto fnPairRowsSpec)

/-- 'laws.FnPairRowsDenert', WHERE WHAT IT READS IS OF BULK AT MOST 1048576: true; the input reads as it did. -/
def fnPairRowsDenertUptoRow : OpenClaim := { program := "ytpokoknapapdcaa", sum := "b9509026e4307c8e070cee75f3f073d4e21cde832dce94a19aebe37125b75e46", func := "loop.example/ordercounts/laws.FnPairRowsDenert", spec := "fnPairRowsDenert", unfollowed := true, recurses := true, plainKeys := false, apart := false, narrowed := true }
def FnPairRowsDenertUptoSaid : Prop := fnPairRowsDenertUptoRow.holds Try.pinned (OpenSpec.upto fnPairRowsDenertSpec)

/-- 'laws.FnPairRowsTurned', WHERE WHAT IT READS IS OF BULK AT MOST 1048576: true; the input reads as it did. -/
def fnPairRowsTurnedUptoRow : OpenClaim := { program := "ytpokoknapapdcaa", sum := "b9509026e4307c8e070cee75f3f073d4e21cde832dce94a19aebe37125b75e46", func := "loop.example/ordercounts/laws.FnPairRowsTurned", spec := "fnPairRowsTurned", unfollowed := true, recurses := true, plainKeys := false, apart := false, narrowed := true }
def FnPairRowsTurnedUptoSaid : Prop := fnPairRowsTurnedUptoRow.holds Try.pinned (OpenSpec.upto fnPairRowsTurnedSpec)

end Rows
end Go.Proofs.Ytpokoknapapdcaa
