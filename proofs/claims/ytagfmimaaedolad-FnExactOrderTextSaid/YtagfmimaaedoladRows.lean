/-
  No cell of these rows narrows 'for every input' (looked for: loops, veiled, ifaces, maps, wideKeys, modest, calm, conditions, laid).
  DERIVED. THE GIVEN ROWS OF THIS SEAT. 3 by the template 'for every input the law returns true; each argument reads behind the call as it read before'; 0 by the template 'total and deterministic' (their statements: YtagfmimaaedoladTotals.lean).
  GIVEN WITH THE SEED: the statements are not yours to turn. If you find one false, say at which input.
  Laid BY PROGRAM, IN A SANDBOX (cutbox-rows.mjs): the forced cells as the released guide's own fill.sh prints them over the translation 0399e4138179710a… (all of the seat's roots in one cut). By AI agents, Wed Nov 11 2026. No macro, syntax, notation, axiom, sorry.
-/
import Derived.Test.YtagfmimaaedoladChecked
import GoSem.Claim
import GoSem.ClaimJoined
import GoSem.ClaimMapViews
import Derived.JoinedTies
import Derived.KernelRfl
namespace Go.Proofs.Ytagfmimaaedolad
/- THE CELL 'sum', in the pinned program and in every row, IS THE sha256 OF THE DUMP (.gsa) THAT YtagfmimaaedoladProg.lean LOADS. Nothing in Lean hashes anything: it is a label: what it is worth is what the hold of that sum in a sandbox is worth. -/
noncomputable def Try.pinned : Pinned := { name := "ytagfmimaaedolad", sum := "0399e4138179710a38fa5970bd464420c6b8f39c3c3817fae24cae6c3bdea3c9", checked := Try.checked }
namespace Rows
def none {H : Type} : Left H := { results := [], args := [] }

/-- 'laws.FnExactSkewOrders': WHATEVER THE INPUT: true; the input reads as it did. -/
def fnExactSkewOrdersSpec : ChangeSpec := { name := "fnExactSkewOrders", fn := fun _ => fun
  | [d1, d2] => { results := [.lit (.bool true)], args := [d1, d2] }
  | _ => none }
def fnExactSkewOrdersRow : OpenClaim := { program := "ytagfmimaaedolad", sum := "0399e4138179710a38fa5970bd464420c6b8f39c3c3817fae24cae6c3bdea3c9", func := "loop.example/ordercounts/laws.FnExactSkewOrders", spec := "fnExactSkewOrders", apart := false }
def FnExactSkewOrdersSaid : Prop := fnExactSkewOrdersRow.holds Try.pinned (OpenSpec.ofChange fnExactSkewOrdersSpec)

/-- ITS FALSE NEIGHBOUR: 'it returns false'. Refute it at one input. -/
def fnExactSkewOrdersWrong : ChangeSpec := { name := "fnExactSkewOrders", fn := fun _ => fun
  | [d1, d2] => { results := [.lit (.bool false)], args := [d1, d2] }
  | _ => none }
def FnExactSkewOrdersWrongFalsely : Prop := fnExactSkewOrdersRow.holds Try.pinned (OpenSpec.ofChange fnExactSkewOrdersWrong)

/-- 'laws.FnExactOrderText': WHATEVER THE INPUT: true; the input reads as it did. -/
def fnExactOrderTextSpec : ChangeSpec := { name := "fnExactOrderText", fn := fun _ => fun
  | [d] => { results := [.lit (.bool true)], args := [d] }
  | _ => none }
def fnExactOrderTextRow : OpenClaim := { program := "ytagfmimaaedolad", sum := "0399e4138179710a38fa5970bd464420c6b8f39c3c3817fae24cae6c3bdea3c9", func := "loop.example/ordercounts/laws.FnExactOrderText", spec := "fnExactOrderText", apart := false }
def FnExactOrderTextSaid : Prop := fnExactOrderTextRow.holds Try.pinned (OpenSpec.ofChange fnExactOrderTextSpec)

/-- ITS FALSE NEIGHBOUR: 'it returns false'. Refute it at one input. -/
def fnExactOrderTextWrong : ChangeSpec := { name := "fnExactOrderText", fn := fun _ => fun
  | [d] => { results := [.lit (.bool false)], args := [d] }
  | _ => none }
def FnExactOrderTextWrongFalsely : Prop := fnExactOrderTextRow.holds Try.pinned (OpenSpec.ofChange fnExactOrderTextWrong)

/-- 'laws.FnExactParseOrder': WHATEVER THE INPUT: true; the input reads as it did. -/
def fnExactParseOrderSpec : ChangeSpec := { name := "fnExactParseOrder", fn := fun _ => fun
  | [d] => { results := [.lit (.bool true)], args := [d] }
  | _ => none }
def fnExactParseOrderRow : OpenClaim := { program := "ytagfmimaaedolad", sum := "0399e4138179710a38fa5970bd464420c6b8f39c3c3817fae24cae6c3bdea3c9", func := "loop.example/ordercounts/laws.FnExactParseOrder", spec := "fnExactParseOrder", apart := false }
def FnExactParseOrderSaid : Prop := fnExactParseOrderRow.holds Try.pinned (OpenSpec.ofChange fnExactParseOrderSpec)

/-- ITS FALSE NEIGHBOUR: 'it returns false'. Refute it at one input. -/
def fnExactParseOrderWrong : ChangeSpec := { name := "fnExactParseOrder", fn := fun _ => fun
  | [d] => { results := [.lit (.bool false)], args := [d] }
  | _ => none }
def FnExactParseOrderWrongFalsely : Prop := fnExactParseOrderRow.holds Try.pinned (OpenSpec.ofChange fnExactParseOrderWrong)

/- THE SECOND FORM. 'bulk': how many values and letters a reading holds, each counted each time it is reached (what is shared counts as often as it is met; a slice's spare places count too). A statement '..UptoSaid' is the law's where the arguments, and the package variables that the reading takes, are together of bulk at most 1048576: NARROWER than '..Said'. Prove '..Said' where nothing that the law and all that it calls make is longer than what came in: it says more and counts as full. Else prove '..UptoSaid'. A law counts once. -/
mutual
def uptoBulk {H : Type} : DataW H → Nat
  | .lit (.string bytes) => bytes.length + 1
  | .lit _ => 1
  | .nil => 1
  | .ptr d => uptoBulk d + 1
  | .slice elems spare => uptoBulkAll elems + uptoBulkAll spare + 1
  | .agg parts => uptoBulkAll parts + 1
  | .iface _ d => uptoBulk d + 1
  | .map entries => uptoBulkEntries entries + 1
  | .held _ => 1
def uptoBulkAll {H : Type} : List (DataW H) → Nat
  | [] => 0
  | d :: r => uptoBulk d + uptoBulkAll r
def uptoBulkEntries {H : Type} : List (Lit × DataW H) → Nat
  | [] => 0
  | x :: r => uptoBulkEntry x + uptoBulkEntries r
def uptoBulkEntry {H : Type} : Lit × DataW H → Nat
  | (.string bytes, d) => bytes.length + uptoBulk d + 1
  | (_, d) => uptoBulk d + 1
 end
def uptoSmall : (H : Type) → List (DataW H) → Bool := fun _ ds => decide (uptoBulkAll ds ≤ 1048576)
def OpenSpec.upto (s : _root_.Go.ChangeSpec) : _root_.Go.OpenSpec := { _root_.Go.OpenSpec.ofChange s with cond := some uptoSmall }

/-- 'laws.FnExactSkewOrders', WHERE WHAT IT READS IS OF BULK AT MOST 1048576: true; the input reads as it did. -/
def fnExactSkewOrdersUptoRow : OpenClaim := { program := "ytagfmimaaedolad", sum := "0399e4138179710a38fa5970bd464420c6b8f39c3c3817fae24cae6c3bdea3c9", func := "loop.example/ordercounts/laws.FnExactSkewOrders", spec := "fnExactSkewOrders", apart := false, narrowed := true }
def FnExactSkewOrdersUptoSaid : Prop := fnExactSkewOrdersUptoRow.holds Try.pinned (OpenSpec.upto fnExactSkewOrdersSpec)

/-- 'laws.FnExactOrderText', WHERE WHAT IT READS IS OF BULK AT MOST 1048576: true; the input reads as it did. -/
def fnExactOrderTextUptoRow : OpenClaim := { program := "ytagfmimaaedolad", sum := "0399e4138179710a38fa5970bd464420c6b8f39c3c3817fae24cae6c3bdea3c9", func := "loop.example/ordercounts/laws.FnExactOrderText", spec := "fnExactOrderText", apart := false, narrowed := true }
def FnExactOrderTextUptoSaid : Prop := fnExactOrderTextUptoRow.holds Try.pinned (OpenSpec.upto fnExactOrderTextSpec)

/-- 'laws.FnExactParseOrder', WHERE WHAT IT READS IS OF BULK AT MOST 1048576: true; the input reads as it did. -/
def fnExactParseOrderUptoRow : OpenClaim := { program := "ytagfmimaaedolad", sum := "0399e4138179710a38fa5970bd464420c6b8f39c3c3817fae24cae6c3bdea3c9", func := "loop.example/ordercounts/laws.FnExactParseOrder", spec := "fnExactParseOrder", apart := false, narrowed := true }
def FnExactParseOrderUptoSaid : Prop := fnExactParseOrderUptoRow.holds Try.pinned (OpenSpec.upto fnExactParseOrderSpec)

end Rows
end Go.Proofs.Ytagfmimaaedolad
