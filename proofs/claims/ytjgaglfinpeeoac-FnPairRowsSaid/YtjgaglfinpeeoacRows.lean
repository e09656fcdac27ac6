/-
  No cell of these rows narrows 'for every input' (looked for: loops, veiled, ifaces, maps, wideKeys, modest, calm, conditions, laid).
  DERIVED. THE GIVEN ROWS OF THIS SEAT. 8 by the template 'for every input the law returns true; each argument reads behind the call as it read before'; 0 by the template 'total and deterministic' (their statements: YtjgaglfinpeeoacTotals.lean).
  GIVEN WITH THE SEED: the statements are not yours to turn. If you find one false, say at which input.
  Laid BY PROGRAM, IN A SANDBOX (cutbox-rows.mjs): the forced cells as the released guide's own fill.sh prints them over the translation fccb231d387ff0bf… (all of the seat's roots in one cut). By AI agents, Wed Nov 11 2026. No macro, syntax, notation, axiom, sorry.
-/
import Derived.Test.YtjgaglfinpeeoacChecked
import GoSem.Claim
import GoSem.ClaimJoined
import GoSem.ClaimMapViews
import Derived.JoinedTies
import Derived.KernelRfl
namespace Go.Proofs.Ytjgaglfinpeeoac
/- THE CELL 'sum', in the pinned program and in every row, IS THE sha256 OF THE DUMP (.gsa) THAT YtjgaglfinpeeoacProg.lean LOADS. Nothing in Lean hashes anything: it is a label: what it is worth is what the hold of that sum in a sandbox is worth. -/
noncomputable def Try.pinned : Pinned := { name := "ytjgaglfinpeeoac", sum := "fccb231d387ff0bffc41ed1a8d9a6acb6af81bf2894a9486d953e053bf3d7b04", checked := Try.checked }
namespace Rows
def none {H : Type} : Left H := { results := [], args := [] }

/-- 'laws.FnAllSigned': WHATEVER THE INPUT: true; the input reads as it did. -/
def fnAllSignedSpec : ChangeSpec := { name := "fnAllSigned", fn := fun _ => fun
  | [d] => { results := [.lit (.bool true)], args := [d] }
  | _ => none }
def fnAllSignedRow : OpenClaim := { program := "ytjgaglfinpeeoac", sum := "fccb231d387ff0bffc41ed1a8d9a6acb6af81bf2894a9486d953e053bf3d7b04", func := "loop.example/ordercounts/laws.FnAllSigned", spec := "fnAllSigned", unfollowed := true, recurses := true, plainKeys := false, apart := false }
def FnAllSignedSaid : Prop := fnAllSignedRow.holds Try.pinned (OpenSpec.ofChange fnAllSignedSpec)

/-- ITS FALSE NEIGHBOUR: 'it returns false'. Refute it at one input. -/
def fnAllSignedWrong : ChangeSpec := { name := "fnAllSigned", fn := fun _ => fun
  | [d] => { results := [.lit (.bool false)], args := [d] }
  | _ => none }
def FnAllSignedWrongFalsely : Prop := fnAllSignedRow.holds Try.pinned (OpenSpec.ofChange fnAllSignedWrong)

/-- 'laws.FnExactAllSigned': WHATEVER THE INPUT: true; the input reads as it did. -/
def fnExactAllSignedSpec : ChangeSpec := { name := "fnExactAllSigned", fn := fun _ => fun
  | [d] => { results := [.lit (.bool true)], args := [d] }
  | _ => none }
def fnExactAllSignedRow : OpenClaim := { program := "ytjgaglfinpeeoac", sum := "fccb231d387ff0bffc41ed1a8d9a6acb6af81bf2894a9486d953e053bf3d7b04", func := "loop.example/ordercounts/laws.FnExactAllSigned", spec := "fnExactAllSigned", unfollowed := true, recurses := true, plainKeys := false, apart := false }
def FnExactAllSignedSaid : Prop := fnExactAllSignedRow.holds Try.pinned (OpenSpec.ofChange fnExactAllSignedSpec)

/-- ITS FALSE NEIGHBOUR: 'it returns false'. Refute it at one input. -/
def fnExactAllSignedWrong : ChangeSpec := { name := "fnExactAllSigned", fn := fun _ => fun
  | [d] => { results := [.lit (.bool false)], args := [d] }
  | _ => none }
def FnExactAllSignedWrongFalsely : Prop := fnExactAllSignedRow.holds Try.pinned (OpenSpec.ofChange fnExactAllSignedWrong)

/-- 'laws.FnSignedRow': WHATEVER THE INPUT: true; the input reads as it did. -/
def fnSignedRowSpec : ChangeSpec := { name := "fnSignedRow", fn := fun _ => fun
  | [d] => { results := [.lit (.bool true)], args := [d] }
  | _ => none }
def fnSignedRowRow : OpenClaim := { program := "ytjgaglfinpeeoac", sum := "fccb231d387ff0bffc41ed1a8d9a6acb6af81bf2894a9486d953e053bf3d7b04", func := "loop.example/ordercounts/laws.FnSignedRow", spec := "fnSignedRow", unfollowed := true, recurses := true, plainKeys := false, apart := false }
def FnSignedRowSaid : Prop := fnSignedRowRow.holds Try.pinned (OpenSpec.ofChange fnSignedRowSpec)

/-- ITS FALSE NEIGHBOUR: 'it returns false'. Refute it at one input. -/
def fnSignedRowWrong : ChangeSpec := { name := "fnSignedRow", fn := fun _ => fun
  | [d] => { results := [.lit (.bool false)], args := [d] }
  | _ => none }
def FnSignedRowWrongFalsely : Prop := fnSignedRowRow.holds Try.pinned (OpenSpec.ofChange fnSignedRowWrong)

/-- 'laws.FnExactSignedRow': WHATEVER THE INPUT: true; the input reads as it did. -/
def fnExactSignedRowSpec : ChangeSpec := { name := "fnExactSignedRow", fn := fun _ => fun
  | [d1, d2] => { results := [.lit (.bool true)], args := [d1, d2] }
  | _ => none }
def fnExactSignedRowRow : OpenClaim := { program := "ytjgaglfinpeeoac", sum := "fccb231d387ff0bffc41ed1a8d9a6acb6af81bf2894a9486d953e053bf3d7b04", func := "loop.example/ordercounts/laws.FnExactSignedRow", spec := "fnExactSignedRow", unfollowed := true, recurses := true, plainKeys := false, apart := false }
def FnExactSignedRowSaid : Prop := fnExactSignedRowRow.holds Try.pinned (OpenSpec.ofChange fnExactSignedRowSpec)

/-- ITS FALSE NEIGHBOUR: 'it returns false'. Refute it at one input. -/
def fnExactSignedRowWrong : ChangeSpec := { name := "fnExactSignedRow", fn := fun _ => fun
  | [d1, d2] => { results := [.lit (.bool false)], args := [d1, d2] }
  | _ => none }
def FnExactSignedRowWrongFalsely : Prop := fnExactSignedRowRow.holds Try.pinned (OpenSpec.ofChange fnExactSignedRowWrong)

/-- 'laws.FnPairRows': WHATEVER THE INPUT: true; the input reads as it did. -/
def fnPairRowsSpec : ChangeSpec := { name := "fnPairRows", fn := fun _ => fun
  | [d] => { results := [.lit (.bool true)], args := [d] }
  | _ => none }
def fnPairRowsRow : OpenClaim := { program := "ytjgaglfinpeeoac", sum := "fccb231d387ff0bffc41ed1a8d9a6acb6af81bf2894a9486d953e053bf3d7b04", func := "loop.example/ordercounts/laws.FnPairRows", spec := "fnPairRows", unfollowed := true, recurses := true, plainKeys := false, apart := false }
def FnPairRowsSaid : Prop := fnPairRowsRow.holds Try.pinned (OpenSpec.ofChange fnPairRowsSpec)

/-- ITS FALSE NEIGHBOUR: 'it returns false'. Refute it at one input. -/
def fnPairRowsWrong : ChangeSpec := { name := "fnPairRows", fn := fun _ => fun
  | [d] => { results := [.lit (.bool false)], args := [d] }
  | _ => none }
def FnPairRowsWrongFalsely : Prop := fnPairRowsRow.holds Try.pinned (OpenSpec.ofChange fnPairRowsWrong)

/-- 'laws.FnExactPairRows': WHATEVER THE INPUT: true; the input reads as it did. -/
def fnExactPairRowsSpec : ChangeSpec := { name := "fnExactPairRows", fn := fun _ => fun
  | [d1, d2, d3] => { results := [.lit (.bool true)], args := [d1, d2, d3] }
  | _ => none }
def fnExactPairRowsRow : OpenClaim := { program := "ytjgaglfinpeeoac", sum := "fccb231d387ff0bffc41ed1a8d9a6acb6af81bf2894a9486d953e053bf3d7b04", func := "loop.example/ordercounts/laws.FnExactPairRows", spec := "fnExactPairRows", unfollowed := true, recurses := true, plainKeys := false, apart := false }
def FnExactPairRowsSaid : Prop := fnExactPairRowsRow.holds Try.pinned (OpenSpec.ofChange fnExactPairRowsSpec)

/-- ITS FALSE NEIGHBOUR: 'it returns false'. Refute it at one input. -/
def fnExactPairRowsWrong : ChangeSpec := { name := "fnExactPairRows", fn := fun _ => fun
  | [d1, d2, d3] => { results := [.lit (.bool false)], args := [d1, d2, d3] }
  | _ => none }
def FnExactPairRowsWrongFalsely : Prop := fnExactPairRowsRow.holds Try.pinned (OpenSpec.ofChange fnExactPairRowsWrong)

/-- 'laws.FnPairRowsDenert': WHATEVER THE INPUT: true; the input reads as it did. -/
def fnPairRowsDenertSpec : ChangeSpec := { name := "fnPairRowsDenert", fn := fun _ => fun
  | [d] => { results := [.lit (.bool true)], args := [d] }
  | _ => none }
def fnPairRowsDenertRow : OpenClaim := { program := "ytjgaglfinpeeoac", sum := "fccb231d387ff0bffc41ed1a8d9a6acb6af81bf2894a9486d953e053bf3d7b04", func := "loop.example/ordercounts/laws.FnPairRowsDenert", spec := "fnPairRowsDenert", unfollowed := true, recurses := true, plainKeys := false, apart := false }
def FnPairRowsDenertSaid : Prop := fnPairRowsDenertRow.holds Try.pinned (OpenSpec.ofChange fnPairRowsDenertSpec)

/-- ITS FALSE NEIGHBOUR: 'it returns false'. Refute it at one input. -/
def fnPairRowsDenertWrong : ChangeSpec := { name := "fnPairRowsDenert", fn := fun _ => fun
  | [d] => { results := [.lit (.bool false)], args := [d] }
  | _ => none }
def FnPairRowsDenertWrongFalsely : Prop := fnPairRowsDenertRow.holds Try.pinned (OpenSpec.ofChange fnPairRowsDenertWrong)

/-- 'laws.FnPairRowsTurned': WHATEVER THE INPUT: true; the input reads as it did. -/
def fnPairRowsTurnedSpec : ChangeSpec := { name := "fnPairRowsTurned", fn := fun _ => fun
  | [d] => { results := [.lit (.bool true)], args := [d] }
  | _ => none }
def fnPairRowsTurnedRow : OpenClaim := { program := "ytjgaglfinpeeoac", sum := "fccb231d387ff0bffc41ed1a8d9a6acb6af81bf2894a9486d953e053bf3d7b04", func := "loop.example/ordercounts/laws.FnPairRowsTurned", spec := "fnPairRowsTurned", unfollowed := true, recurses := true, plainKeys := false, apart := false }
def FnPairRowsTurnedSaid : Prop := fnPairRowsTurnedRow.holds Try.pinned (OpenSpec.ofChange fnPairRowsTurnedSpec)

/-- ITS FALSE NEIGHBOUR: 'it returns false'. Refute it at one input. -/
def fnPairRowsTurnedWrong : ChangeSpec := { name := "fnPairRowsTurned", fn := fun _ => fun
  | [d] => { results := [.lit (.bool false)], args := [d] }
  | _ => none }
def FnPairRowsTurnedWrongFalsely : Prop := fnPairRowsTurnedRow.holds Try.pinned (OpenSpec.ofChange fnPairRowsTurnedWrong)

/- THE SECOND FORM. 'bulk': how many values and letters a reading holds, each counted each time it is reached (what is shared counts as often as it is met; a slice's spare places count too). A statement '..UptoSaid' is the law's where the arguments, and the package variables that the reading takes, are together of bulk at most 1048576: NARROWER than '..Said'. Prove '..Said' where nothing that the law and all that it calls make is longer than what came in: it says more and counts as full. Else prove '..UptoSaid'. A law counts once. -/
mutual
def uptoBulk {H : Type} : DataW H → Nat
  | .lit (.string bytes) => bytes.length + 1
  | .lit _ => 1
  | .nil => 1
  | .ptr d => uptoBulk d + 1
  | .slice elems spare => uptoBulkAll elems + uptoBulkAll spare + 1
  | .agg parts => uptoBulkAll parts + 1
  | .iface _ d => uptoBulk d + 1
  | .map entries => uptoBulkEntries entries + 1
  | .held _ => 1
def uptoBulkAll {H : Type} : List (DataW H) → Nat
  | [] => 0
  | d :: r => uptoBulk d + uptoBulkAll r
def uptoBulkEntries {H : Type} : List (Lit × DataW H) → Nat
  | [] => 0
  | x :: r => uptoBulkEntry x + uptoBulkEntries r
def uptoBulkEntry {H : Type} : Lit × DataW H → Nat
  | (.string bytes, d) => bytes.length + uptoBulk d + 1
  | (_, d) => uptoBulk d + 1
 end
def uptoSmall : (H : Type) → List (DataW H) → Bool := fun _ ds => decide (uptoBulkAll ds ≤ 1048576)
def OpenSpec.upto (s : _root_.Go.ChangeSpec) : _root_.Go.OpenSpec := { _root_.Go.OpenSpec.ofChange s with cond := some uptoSmall }

/-- 'laws.FnAllSigned', WHERE WHAT IT READS IS OF BULK AT MOST 1048576: true; the input reads as it did. -/
def fnAllSignedUptoRow : OpenClaim := { program := "ytjgaglfinpeeoac", sum := "fccb231d387ff0bffc41ed1a8d9a6acb6af81bf2894a9486d953e053bf3d7b04", func := "loop.example/ordercounts/laws.FnAllSigned", spec := "fnAllSigned", unfollowed := true, recurses := true, plainKeys := false, apart := false, narrowed := true }
def FnAllSignedUptoSaid : Prop := fnAllSignedUptoRow.holds Try.pinned (OpenSpec.upto fnAllSignedSpec)

/-- 'laws.FnExactAllSigned', WHERE WHAT IT READS IS OF BULK AT MOST 1048576: true; the input reads as it did. -/
def fnExactAllSignedUptoRow : OpenClaim := { program := "ytjgaglfinpeeoac", sum := "fccb231d387ff0bffc41ed1a8d9a6acb6af81bf2894a9486d953e053bf3d7b04", func := "loop.example/ordercounts/laws.FnExactAllSigned", spec := "fnExactAllSigned", unfollowed := true, recurses := true, plainKeys := false, apart := false, narrowed := true }
def FnExactAllSignedUptoSaid : Prop := fnExactAllSignedUptoRow.holds Try.pinned (OpenSpec.upto fnExactAllSignedSpec)

/-- 'laws.FnSignedRow', WHERE WHAT IT READS IS OF BULK AT MOST 1048576: true; the input reads as it did. -/
def fnSignedRowUptoRow : OpenClaim := { program := "ytjgaglfinpeeoac", sum := "fccb231d387ff0bffc41ed1a8d9a6acb6af81bf2894a9486d953e053bf3d7b04", func := "loop.example/ordercounts/laws.FnSignedRow", spec := "fnSignedRow", unfollowed := true, recurses := true, plainKeys := false, apart := false, narrowed := true }
def FnSignedRowUptoSaid : Prop := fnSignedRowUptoRow.holds Try.pinned (OpenSpec.upto fnSignedRowSpec)

/-- 'laws.FnExactSignedRow', WHERE WHAT IT READS IS OF BULK AT MOST 1048576: true; the input reads as it did. -/
def fnExactSignedRowUptoRow : OpenClaim := { program := "ytjgaglfinpeeoac", sum := "fccb231d387ff0bffc41ed1a8d9a6acb6af81bf2894a9486d953e053bf3d7b04", func := "loop.example/ordercounts/laws.FnExactSignedRow", spec := "fnExactSignedRow", unfollowed := true, recurses := true, plainKeys := false, apart := false, narrowed := true }
def FnExactSignedRowUptoSaid : Prop := fnExactSignedRowUptoRow.holds Try.pinned (OpenSpec.upto fnExactSignedRowSpec)

/-- 'laws.FnPairRows', WHERE WHAT IT READS IS OF BULK AT MOST 1048576: true; the input reads as it did. -/
def fnPairRowsUptoRow : OpenClaim := { program := "ytjgaglfinpeeoac", sum := "fccb231d387ff0bffc41ed1a8d9a6acb6af81bf2894a9486d953e053bf3d7b04", func := "loop.example/ordercounts/laws.FnPairRows", spec := "fnPairRows", unfollowed := true, recurses := true, plainKeys := false, apart := false, narrowed := true }
def FnPairRowsUptoSaid : Prop := fnPairRowsUptoRow.holds Try.pinned (OpenSpec.upto fnPairRowsSpec)

/-- 'laws.FnExactPairRows', WHERE WHAT IT READS IS OF BULK AT MOST 1048576: true; the input reads as it did. -/
def fnExactPairRowsUptoRow : OpenClaim := { program := "ytjgaglfinpeeoac", sum := "fccb231d387ff0bffc41ed1a8d9a6acb6af81bf2894a9486d953e053bf3d7b04", func := "loop.example/ordercounts/laws.FnExactPairRows", spec := "fnExactPairRows", unfollowed := true, recurses := true, plainKeys := false, apart := false, narrowed := true }
def FnExactPairRowsUptoSaid : Prop := fnExactPairRowsUptoRow.holds Try.pinned (OpenSpec.upto fnExactPairRowsSpec)

/-- 'laws.FnPairRowsDenert', WHERE WHAT IT READS IS OF BULK AT MOST 1048576: true; the input reads as it did. -/
def fnPairRowsDenertUptoRow : OpenClaim := { program := "ytjgaglfinpeeoac", sum := "fccb231d387ff0bffc41ed1a8d9a6acb6af81bf2894a9486d953e053bf3d7b04", func := "loop.example/ordercounts/laws.FnPairRowsDenert", spec := "fnPairRowsDenert", unfollowed := true, recurses := true, plainKeys := false, apart := false, narrowed := true }
def FnPairRowsDenertUptoSaid : Prop := fnPairRowsDenertUptoRow.holds Try.pinned (OpenSpec.upto fnPairRowsDenertSpec)

/-- 'laws.FnPairRowsTurned', WHERE WHAT IT READS IS OF BULK AT MOST 1048576: true; the input reads as it did. -/
def fnPairRowsTurnedUptoRow : OpenClaim := { program := "ytjgaglfinpeeoac", sum := "fccb231d387ff0bffc41ed1a8d9a6acb6af81bf2894a9486d953e053bf3d7b04", func := "loop.example/ordercounts/laws.FnPairRowsTurned", spec := "fnPairRowsTurned", unfollowed := true, recurses := true, plainKeys := false, apart := false, narrowed := true }
def FnPairRowsTurnedUptoSaid : Prop := fnPairRowsTurnedUptoRow.holds Try.pinned (OpenSpec.upto fnPairRowsTurnedSpec)

end Rows
end Go.Proofs.Ytjgaglfinpeeoac
