/-
  No cell of these rows narrows 'for every input' (looked for: loops, veiled, ifaces, maps, wideKeys, modest, calm, conditions, laid).
  DERIVED. THE GIVEN ROWS OF THIS SEAT. 4 by the template 'for every input the law returns true; each argument reads behind the call as it read before'; 0 by the template 'total and deterministic' (their statements: YtlhphgldmefefacTotals.lean).
  GIVEN WITH THE SEED: the statements are not yours to turn. If you find one false, say at which input.
  Laid BY PROGRAM, IN A SANDBOX (cutbox-rows.mjs): the forced cells as the released guide's own fill.sh prints them over the translation d2310452e48d2409… (all of the seat's roots in one cut). By AI agents, Wed Nov 11 2026. No macro, syntax, notation, axiom, sorry.
-/
import Derived.Test.YtlhphgldmefefacChecked
import GoSem.Claim
import GoSem.ClaimJoined
import GoSem.ClaimMapViews
import Derived.JoinedTies
import Derived.KernelRfl
namespace Go.Proofs.Ytlhphgldmefefac
/- THE CELL 'sum', in the pinned program and in every row, IS THE sha256 OF THE DUMP (.gsa) THAT YtlhphgldmefefacProg.lean LOADS. Nothing in Lean hashes anything: it is a label: what it is worth is what the hold of that sum in a sandbox is worth. -/
noncomputable def Try.pinned : Pinned := { name := "ytlhphgldmefefac", sum := "d2310452e48d2409bd9b4ba996e190e0f619c8b8706bf26e3725955b65096d0e", checked := Try.checked }
namespace Rows
def none {H : Type} : Left H := { results := [], args := [] }

/-- 'laws.FnExactMajorTable': WHATEVER THE INPUT: true; the input reads as it did. -/
def fnExactMajorTableSpec : ChangeSpec := { name := "fnExactMajorTable", fn := fun _ => fun
  | [d] => { results := [.lit (.bool true)], args := [d] }
  | _ => none }
def fnExactMajorTableRow : OpenClaim := { program := "ytlhphgldmefefac", sum := "d2310452e48d2409bd9b4ba996e190e0f619c8b8706bf26e3725955b65096d0e", func := "loop.example/ordercounts/laws.FnExactMajorTable", spec := "fnExactMajorTable", apart := false }
def FnExactMajorTableSaid : Prop := fnExactMajorTableRow.holds Try.pinned (OpenSpec.ofChange fnExactMajorTableSpec)

/-- ITS FALSE NEIGHBOUR: 'it returns false'. Refute it at one input. -/
def fnExactMajorTableWrong : ChangeSpec := { name := "fnExactMajorTable", fn := fun _ => fun
  | [d] => { results := [.lit (.bool false)], args := [d] }
  | _ => none }
def FnExactMajorTableWrongFalsely : Prop := fnExactMajorTableRow.holds Try.pinned (OpenSpec.ofChange fnExactMajorTableWrong)

/-- 'laws.FnExactOrderOfMajorTable': WHATEVER THE INPUT: true; the input reads as it did. -/
def fnExactOrderOfMajorTableSpec : ChangeSpec := { name := "fnExactOrderOfMajorTable", fn := fun _ => fun
  | [d] => { results := [.lit (.bool true)], args := [d] }
  | _ => none }
def fnExactOrderOfMajorTableRow : OpenClaim := { program := "ytlhphgldmefefac", sum := "d2310452e48d2409bd9b4ba996e190e0f619c8b8706bf26e3725955b65096d0e", func := "loop.example/ordercounts/laws.FnExactOrderOfMajorTable", spec := "fnExactOrderOfMajorTable", apart := false }
def FnExactOrderOfMajorTableSaid : Prop := fnExactOrderOfMajorTableRow.holds Try.pinned (OpenSpec.ofChange fnExactOrderOfMajorTableSpec)

/-- ITS FALSE NEIGHBOUR: 'it returns false'. Refute it at one input. -/
def fnExactOrderOfMajorTableWrong : ChangeSpec := { name := "fnExactOrderOfMajorTable", fn := fun _ => fun
  | [d] => { results := [.lit (.bool false)], args := [d] }
  | _ => none }
def FnExactOrderOfMajorTableWrongFalsely : Prop := fnExactOrderOfMajorTableRow.holds Try.pinned (OpenSpec.ofChange fnExactOrderOfMajorTableWrong)

/-- 'laws.FnExactRemoveAt': WHATEVER THE INPUT: true; the input reads as it did. -/
def fnExactRemoveAtSpec : ChangeSpec := { name := "fnExactRemoveAt", fn := fun _ => fun
  | [d1, d2] => { results := [.lit (.bool true)], args := [d1, d2] }
  | _ => none }
def fnExactRemoveAtRow : OpenClaim := { program := "ytlhphgldmefefac", sum := "d2310452e48d2409bd9b4ba996e190e0f619c8b8706bf26e3725955b65096d0e", func := "loop.example/ordercounts/laws.FnExactRemoveAt", spec := "fnExactRemoveAt", apart := false }
def FnExactRemoveAtSaid : Prop := fnExactRemoveAtRow.holds Try.pinned (OpenSpec.ofChange fnExactRemoveAtSpec)

/-- ITS FALSE NEIGHBOUR: 'it returns false'. Refute it at one input. -/
def fnExactRemoveAtWrong : ChangeSpec := { name := "fnExactRemoveAt", fn := fun _ => fun
  | [d1, d2] => { results := [.lit (.bool false)], args := [d1, d2] }
  | _ => none }
def FnExactRemoveAtWrongFalsely : Prop := fnExactRemoveAtRow.holds Try.pinned (OpenSpec.ofChange fnExactRemoveAtWrong)

/-- 'laws.FnExactExceedMap': WHATEVER THE INPUT: true; the input reads as it did. -/
def fnExactExceedMapSpec : ChangeSpec := { name := "fnExactExceedMap", fn := fun _ => fun
  | [d] => { results := [.lit (.bool true)], args := [d] }
  | _ => none }
def fnExactExceedMapRow : OpenClaim := { program := "ytlhphgldmefefac", sum := "d2310452e48d2409bd9b4ba996e190e0f619c8b8706bf26e3725955b65096d0e", func := "loop.example/ordercounts/laws.FnExactExceedMap", spec := "fnExactExceedMap", unfollowed := true, recurses := true, apart := false }
def FnExactExceedMapSaid : Prop := fnExactExceedMapRow.holds Try.pinned (OpenSpec.ofChange fnExactExceedMapSpec)

/-- ITS FALSE NEIGHBOUR: 'it returns false'. Refute it at one input. -/
def fnExactExceedMapWrong : ChangeSpec := { name := "fnExactExceedMap", fn := fun _ => fun
  | [d] => { results := [.lit (.bool false)], args := [d] }
  | _ => none }
def FnExactExceedMapWrongFalsely : Prop := fnExactExceedMapRow.holds Try.pinned (OpenSpec.ofChange fnExactExceedMapWrong)

/- THE SECOND FORM. 'bulk': how many values and letters a reading holds, each counted each time it is reached (what is shared counts as often as it is met; a slice's spare places count too). A statement '..UptoSaid' is the law's where the arguments, and the package variables that the reading takes, are together of bulk at most 1048576: NARROWER than '..Said'. Prove '..Said' where nothing that the law and all that it calls make is longer than what came in: it says more and counts as full. Else prove '..UptoSaid'. A law counts once. -/
mutual
def uptoBulk {H : Type} : DataW H → Nat
  | .lit (.string bytes) => bytes.length + 1
  | .lit _ => 1
  | .nil => 1
  | .ptr d => uptoBulk d + 1
  | .slice elems spare => uptoBulkAll elems + uptoBulkAll spare + 1
  | .agg parts => uptoBulkAll parts + 1
  | .iface _ d => uptoBulk d + 1
  | .map entries => uptoBulkEntries entries + 1
  | .held _ => 1
def uptoBulkAll {H : Type} : List (DataW H) → Nat
  | [] => 0
  | d :: r => uptoBulk d + uptoBulkAll r
def uptoBulkEntries {H : Type} : List (Lit × DataW H) → Nat
  | [] => 0
  | x :: r => uptoBulkEntry x + uptoBulkEntries r
def uptoBulkEntry {H : Type} : Lit × DataW H → Nat
  | (.string bytes, d) => bytes.length + uptoBulk d + 1
  | (_, d) => uptoBulk d + 1
 end
def uptoSmall : (H : Type) → List (DataW H) → Bool := fun _ ds => decide (uptoBulkAll ds ≤ 1048576)
def OpenSpec.upto (s : _root_.Go.ChangeSpec) : _root_.Go.OpenSpec := { _root_.Go.OpenSpec.ofChange s with cond := some uptoSmall }

/-- 'laws.FnExactMajorTable', WHERE WHAT IT READS IS OF BULK AT MOST 1048576: true; the input reads as it did. -/
def fnExactMajorTableUptoRow : OpenClaim := { program := "ytlhphgldmefefac", sum := "d2310452e48d2409bd9b4ba996e190e0f619c8b8706bf26e3725955b65096d0e", func := "loop.example/ordercounts/laws.FnExactMajorTable", spec := "fnExactMajorTable", apart := false, narrowed := true }
def FnExactMajorTableUptoSaid : Prop := fnExactMajorTableUptoRow.holds Try.pinned (OpenSpec.upto fnExactMajorTableSpec)

/-- 'laws.FnExactOrderOfMajorTable', WHERE WHAT IT READS IS OF BULK AT MOST 1048576: true; the input reads as it did. -/
def fnExactOrderOfMajorTableUptoRow : OpenClaim := { program := "ytlhphgldmefefac", sum := "d2310452e48d2409bd9b4ba996e190e0f619c8b8706bf26e3725955b65096d0e", func := "loop.example/ordercounts/laws.FnExactOrderOfMajorTable", spec := "fnExactOrderOfMajorTable", apart := false, narrowed := true }
def FnExactOrderOfMajorTableUptoSaid : Prop := fnExactOrderOfMajorTableUptoRow.holds Try.pinned (OpenSpec.upto fnExactOrderOfMajorTableSpec)

/-- 'laws.FnExactRemoveAt', WHERE WHAT IT READS IS OF BULK AT MOST 1048576: true; the input reads as it did. -/
def fnExactRemoveAtUptoRow : OpenClaim := { program := "ytlhphgldmefefac", sum := "d2310452e48d2409bd9b4ba996e190e0f619c8b8706bf26e3725955b65096d0e", func := "loop.example/ordercounts/laws.FnExactRemoveAt", spec := "fnExactRemoveAt", apart := false, narrowed := true }
def FnExactRemoveAtUptoSaid : Prop := fnExactRemoveAtUptoRow.holds Try.pinned (OpenSpec.upto fnExactRemoveAtSpec)

/-- 'laws.FnExactExceedMap', WHERE WHAT IT READS IS OF BULK AT MOST 1048576: true; the input reads as it did. -/
def fnExactExceedMapUptoRow : OpenClaim := { program := "ytlhphgldmefefac", sum := "d2310452e48d2409bd9b4ba996e190e0f619c8b8706bf26e3725955b65096d0e", func := "loop.example/ordercounts/laws.FnExactExceedMap", spec := "fnExactExceedMap", unfollowed := true, recurses := true, apart := false, narrowed := true }
def FnExactExceedMapUptoSaid : Prop := fnExactExceedMapUptoRow.holds Try.pinned (OpenSpec.upto fnExactExceedMapSpec)

end Rows
end Go.Proofs.Ytlhphgldmefefac
