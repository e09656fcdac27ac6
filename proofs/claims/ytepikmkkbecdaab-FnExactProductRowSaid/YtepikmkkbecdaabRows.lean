/-
  No cell of these rows narrows 'for every input' (looked for: loops, veiled, ifaces, maps, wideKeys, modest, calm, conditions, laid).
  DERIVED. THE GIVEN ROWS OF THIS SEAT. 12 by the template 'for every input the law returns true; each argument reads behind the call as it read before'; 0 by the template 'total and deterministic' (their statements: YtepikmkkbecdaabTotals.lean).
  GIVEN WITH THE SEED: the statements are not yours to turn. If you find one false, say at which input.
  Laid BY PROGRAM, IN A SANDBOX (cutbox-rows.mjs): the forced cells as the released guide's own fill.sh prints them over the translation 751387b71f1f7d14… (all of the seat's roots in one cut). By AI agents, Wed Nov 11 2026. No macro, syntax, notation, axiom, sorry.
-/
import Derived.Test.YtepikmkkbecdaabChecked
import GoSem.Claim
import GoSem.ClaimJoined
import GoSem.ClaimMapViews
import Derived.JoinedTies
import Derived.KernelRfl
namespace Go.Proofs.Ytepikmkkbecdaab
/- THE CELL 'sum', in the pinned program and in every row, IS THE sha256 OF THE DUMP (.gsa) THAT YtepikmkkbecdaabProg.lean LOADS. Nothing in Lean hashes anything: it is a label: what it is worth is what the hold of that sum in a sandbox is worth. -/
noncomputable def Try.pinned : Pinned := { name := "ytepikmkkbecdaab", sum := "751387b71f1f7d1465d2598b86d609355849e13a603b9db0a796d54898ce99ca", checked := Try.checked }
namespace Rows
def none {H : Type} : Left H := { results := [], args := [] }

/-- 'laws.FnExactAboveOf': WHATEVER THE INPUT: true; the input reads as it did. -/
def fnExactAboveOfSpec : ChangeSpec := { name := "fnExactAboveOf", fn := fun _ => fun
  | [d] => { results := [.lit (.bool true)], args := [d] }
  | _ => none }
def fnExactAboveOfRow : OpenClaim := { program := "ytepikmkkbecdaab", sum := "751387b71f1f7d1465d2598b86d609355849e13a603b9db0a796d54898ce99ca", func := "loop.example/ordercounts/laws.FnExactAboveOf", spec := "fnExactAboveOf", unfollowed := true, recurses := true, apart := false }
def FnExactAboveOfSaid : Prop := fnExactAboveOfRow.holds Try.pinned (OpenSpec.ofChange fnExactAboveOfSpec)

/-- ITS FALSE NEIGHBOUR: 'it returns false'. Refute it at one input. -/
def fnExactAboveOfWrong : ChangeSpec := { name := "fnExactAboveOf", fn := fun _ => fun
  | [d] => { results := [.lit (.bool false)], args := [d] }
  | _ => none }
def FnExactAboveOfWrongFalsely : Prop := fnExactAboveOfRow.holds Try.pinned (OpenSpec.ofChange fnExactAboveOfWrong)

/-- 'laws.FnExactFixedOf': WHATEVER THE INPUT: true; the input reads as it did. -/
def fnExactFixedOfSpec : ChangeSpec := { name := "fnExactFixedOf", fn := fun _ => fun
  | [d] => { results := [.lit (.bool true)], args := [d] }
  | _ => none }
def fnExactFixedOfRow : OpenClaim := { program := "ytepikmkkbecdaab", sum := "751387b71f1f7d1465d2598b86d609355849e13a603b9db0a796d54898ce99ca", func := "loop.example/ordercounts/laws.FnExactFixedOf", spec := "fnExactFixedOf", unfollowed := true, recurses := true, apart := false }
def FnExactFixedOfSaid : Prop := fnExactFixedOfRow.holds Try.pinned (OpenSpec.ofChange fnExactFixedOfSpec)

/-- ITS FALSE NEIGHBOUR: 'it returns false'. Refute it at one input. -/
def fnExactFixedOfWrong : ChangeSpec := { name := "fnExactFixedOf", fn := fun _ => fun
  | [d] => { results := [.lit (.bool false)], args := [d] }
  | _ => none }
def FnExactFixedOfWrongFalsely : Prop := fnExactFixedOfRow.holds Try.pinned (OpenSpec.ofChange fnExactFixedOfWrong)

/-- 'laws.FnExactRecordsOf': WHATEVER THE INPUT: true; the input reads as it did. -/
def fnExactRecordsOfSpec : ChangeSpec := { name := "fnExactRecordsOf", fn := fun _ => fun
  | [d] => { results := [.lit (.bool true)], args := [d] }
  | _ => none }
def fnExactRecordsOfRow : OpenClaim := { program := "ytepikmkkbecdaab", sum := "751387b71f1f7d1465d2598b86d609355849e13a603b9db0a796d54898ce99ca", func := "loop.example/ordercounts/laws.FnExactRecordsOf", spec := "fnExactRecordsOf", apart := false }
def FnExactRecordsOfSaid : Prop := fnExactRecordsOfRow.holds Try.pinned (OpenSpec.ofChange fnExactRecordsOfSpec)

/-- ITS FALSE NEIGHBOUR: 'it returns false'. Refute it at one input. -/
def fnExactRecordsOfWrong : ChangeSpec := { name := "fnExactRecordsOf", fn := fun _ => fun
  | [d] => { results := [.lit (.bool false)], args := [d] }
  | _ => none }
def FnExactRecordsOfWrongFalsely : Prop := fnExactRecordsOfRow.holds Try.pinned (OpenSpec.ofChange fnExactRecordsOfWrong)

/-- 'laws.FnExactDenertOf': WHATEVER THE INPUT: true; the input reads as it did. -/
def fnExactDenertOfSpec : ChangeSpec := { name := "fnExactDenertOf", fn := fun _ => fun
  | [d] => { results := [.lit (.bool true)], args := [d] }
  | _ => none }
def fnExactDenertOfRow : OpenClaim := { program := "ytepikmkkbecdaab", sum := "751387b71f1f7d1465d2598b86d609355849e13a603b9db0a796d54898ce99ca", func := "loop.example/ordercounts/laws.FnExactDenertOf", spec := "fnExactDenertOf", unfollowed := true, recurses := true, apart := false }
def FnExactDenertOfSaid : Prop := fnExactDenertOfRow.holds Try.pinned (OpenSpec.ofChange fnExactDenertOfSpec)

/-- ITS FALSE NEIGHBOUR: 'it returns false'. Refute it at one input. -/
def fnExactDenertOfWrong : ChangeSpec := { name := "fnExactDenertOf", fn := fun _ => fun
  | [d] => { results := [.lit (.bool false)], args := [d] }
  | _ => none }
def FnExactDenertOfWrongFalsely : Prop := fnExactDenertOfRow.holds Try.pinned (OpenSpec.ofChange fnExactDenertOfWrong)

/-- 'laws.FnExactShiftOf': WHATEVER THE INPUT: true; the input reads as it did. -/
def fnExactShiftOfSpec : ChangeSpec := { name := "fnExactShiftOf", fn := fun _ => fun
  | [d] => { results := [.lit (.bool true)], args := [d] }
  | _ => none }
def fnExactShiftOfRow : OpenClaim := { program := "ytepikmkkbecdaab", sum := "751387b71f1f7d1465d2598b86d609355849e13a603b9db0a796d54898ce99ca", func := "loop.example/ordercounts/laws.FnExactShiftOf", spec := "fnExactShiftOf", apart := false }
def FnExactShiftOfSaid : Prop := fnExactShiftOfRow.holds Try.pinned (OpenSpec.ofChange fnExactShiftOfSpec)

/-- ITS FALSE NEIGHBOUR: 'it returns false'. Refute it at one input. -/
def fnExactShiftOfWrong : ChangeSpec := { name := "fnExactShiftOf", fn := fun _ => fun
  | [d] => { results := [.lit (.bool false)], args := [d] }
  | _ => none }
def FnExactShiftOfWrongFalsely : Prop := fnExactShiftOfRow.holds Try.pinned (OpenSpec.ofChange fnExactShiftOfWrong)

/-- 'laws.FnExactCrossingsOf': WHATEVER THE INPUT: true; the input reads as it did. -/
def fnExactCrossingsOfSpec : ChangeSpec := { name := "fnExactCrossingsOf", fn := fun _ => fun
  | [d] => { results := [.lit (.bool true)], args := [d] }
  | _ => none }
def fnExactCrossingsOfRow : OpenClaim := { program := "ytepikmkkbecdaab", sum := "751387b71f1f7d1465d2598b86d609355849e13a603b9db0a796d54898ce99ca", func := "loop.example/ordercounts/laws.FnExactCrossingsOf", spec := "fnExactCrossingsOf", unfollowed := true, recurses := true, apart := false }
def FnExactCrossingsOfSaid : Prop := fnExactCrossingsOfRow.holds Try.pinned (OpenSpec.ofChange fnExactCrossingsOfSpec)

/-- ITS FALSE NEIGHBOUR: 'it returns false'. Refute it at one input. -/
def fnExactCrossingsOfWrong : ChangeSpec := { name := "fnExactCrossingsOf", fn := fun _ => fun
  | [d] => { results := [.lit (.bool false)], args := [d] }
  | _ => none }
def FnExactCrossingsOfWrongFalsely : Prop := fnExactCrossingsOfRow.holds Try.pinned (OpenSpec.ofChange fnExactCrossingsOfWrong)

/-- 'laws.FnExactNestingsOf': WHATEVER THE INPUT: true; the input reads as it did. -/
def fnExactNestingsOfSpec : ChangeSpec := { name := "fnExactNestingsOf", fn := fun _ => fun
  | [d] => { results := [.lit (.bool true)], args := [d] }
  | _ => none }
def fnExactNestingsOfRow : OpenClaim := { program := "ytepikmkkbecdaab", sum := "751387b71f1f7d1465d2598b86d609355849e13a603b9db0a796d54898ce99ca", func := "loop.example/ordercounts/laws.FnExactNestingsOf", spec := "fnExactNestingsOf", unfollowed := true, recurses := true, apart := false }
def FnExactNestingsOfSaid : Prop := fnExactNestingsOfRow.holds Try.pinned (OpenSpec.ofChange fnExactNestingsOfSpec)

/-- ITS FALSE NEIGHBOUR: 'it returns false'. Refute it at one input. -/
def fnExactNestingsOfWrong : ChangeSpec := { name := "fnExactNestingsOf", fn := fun _ => fun
  | [d] => { results := [.lit (.bool false)], args := [d] }
  | _ => none }
def FnExactNestingsOfWrongFalsely : Prop := fnExactNestingsOfRow.holds Try.pinned (OpenSpec.ofChange fnExactNestingsOfWrong)

/-- 'laws.FnExactEulerRow': WHATEVER THE INPUT: true; the input reads as it did. -/
def fnExactEulerRowSpec : ChangeSpec := { name := "fnExactEulerRow", fn := fun _ => fun
  | [d] => { results := [.lit (.bool true)], args := [d] }
  | _ => none }
def fnExactEulerRowRow : OpenClaim := { program := "ytepikmkkbecdaab", sum := "751387b71f1f7d1465d2598b86d609355849e13a603b9db0a796d54898ce99ca", func := "loop.example/ordercounts/laws.FnExactEulerRow", spec := "fnExactEulerRow", apart := false }
def FnExactEulerRowSaid : Prop := fnExactEulerRowRow.holds Try.pinned (OpenSpec.ofChange fnExactEulerRowSpec)

/-- ITS FALSE NEIGHBOUR: 'it returns false'. Refute it at one input. -/
def fnExactEulerRowWrong : ChangeSpec := { name := "fnExactEulerRow", fn := fun _ => fun
  | [d] => { results := [.lit (.bool false)], args := [d] }
  | _ => none }
def FnExactEulerRowWrongFalsely : Prop := fnExactEulerRowRow.holds Try.pinned (OpenSpec.ofChange fnExactEulerRowWrong)

/-- 'laws.FnExactProductRow': WHATEVER THE INPUT: true; the input reads as it did. -/
def fnExactProductRowSpec : ChangeSpec := { name := "fnExactProductRow", fn := fun _ => fun
  | [d] => { results := [.lit (.bool true)], args := [d] }
  | _ => none }
def fnExactProductRowRow : OpenClaim := { program := "ytepikmkkbecdaab", sum := "751387b71f1f7d1465d2598b86d609355849e13a603b9db0a796d54898ce99ca", func := "loop.example/ordercounts/laws.FnExactProductRow", spec := "fnExactProductRow", apart := false }
def FnExactProductRowSaid : Prop := fnExactProductRowRow.holds Try.pinned (OpenSpec.ofChange fnExactProductRowSpec)

/-- ITS FALSE NEIGHBOUR: 'it returns false'. Refute it at one input. -/
def fnExactProductRowWrong : ChangeSpec := { name := "fnExactProductRow", fn := fun _ => fun
  | [d] => { results := [.lit (.bool false)], args := [d] }
  | _ => none }
def FnExactProductRowWrongFalsely : Prop := fnExactProductRowRow.holds Try.pinned (OpenSpec.ofChange fnExactProductRowWrong)

/-- 'laws.FnExactCircleRow': WHATEVER THE INPUT: true; the input reads as it did. -/
def fnExactCircleRowSpec : ChangeSpec := { name := "fnExactCircleRow", fn := fun _ => fun
  | [d] => { results := [.lit (.bool true)], args := [d] }
  | _ => none }
def fnExactCircleRowRow : OpenClaim := { program := "ytepikmkkbecdaab", sum := "751387b71f1f7d1465d2598b86d609355849e13a603b9db0a796d54898ce99ca", func := "loop.example/ordercounts/laws.FnExactCircleRow", spec := "fnExactCircleRow", apart := false }
def FnExactCircleRowSaid : Prop := fnExactCircleRowRow.holds Try.pinned (OpenSpec.ofChange fnExactCircleRowSpec)

/-- ITS FALSE NEIGHBOUR: 'it returns false'. Refute it at one input. -/
def fnExactCircleRowWrong : ChangeSpec := { name := "fnExactCircleRow", fn := fun _ => fun
  | [d] => { results := [.lit (.bool false)], args := [d] }
  | _ => none }
def FnExactCircleRowWrongFalsely : Prop := fnExactCircleRowRow.holds Try.pinned (OpenSpec.ofChange fnExactCircleRowWrong)

/-- 'laws.FnEulerRow': WHATEVER THE INPUT: true; the input reads as it did. -/
def fnEulerRowSpec : ChangeSpec := { name := "fnEulerRow", fn := fun _ => fun
  | [d] => { results := [.lit (.bool true)], args := [d] }
  | _ => none }
def fnEulerRowRow : OpenClaim := { program := "ytepikmkkbecdaab", sum := "751387b71f1f7d1465d2598b86d609355849e13a603b9db0a796d54898ce99ca", func := "loop.example/ordercounts/laws.FnEulerRow", spec := "fnEulerRow", apart := false }
def FnEulerRowSaid : Prop := fnEulerRowRow.holds Try.pinned (OpenSpec.ofChange fnEulerRowSpec)

/-- ITS FALSE NEIGHBOUR: 'it returns false'. Refute it at one input. -/
def fnEulerRowWrong : ChangeSpec := { name := "fnEulerRow", fn := fun _ => fun
  | [d] => { results := [.lit (.bool false)], args := [d] }
  | _ => none }
def FnEulerRowWrongFalsely : Prop := fnEulerRowRow.holds Try.pinned (OpenSpec.ofChange fnEulerRowWrong)

/-- 'laws.FnCircleRow': WHATEVER THE INPUT: true; the input reads as it did. -/
def fnCircleRowSpec : ChangeSpec := { name := "fnCircleRow", fn := fun _ => fun
  | [d] => { results := [.lit (.bool true)], args := [d] }
  | _ => none }
def fnCircleRowRow : OpenClaim := { program := "ytepikmkkbecdaab", sum := "751387b71f1f7d1465d2598b86d609355849e13a603b9db0a796d54898ce99ca", func := "loop.example/ordercounts/laws.FnCircleRow", spec := "fnCircleRow", apart := false }
def FnCircleRowSaid : Prop := fnCircleRowRow.holds Try.pinned (OpenSpec.ofChange fnCircleRowSpec)

/-- ITS FALSE NEIGHBOUR: 'it returns false'. Refute it at one input. -/
def fnCircleRowWrong : ChangeSpec := { name := "fnCircleRow", fn := fun _ => fun
  | [d] => { results := [.lit (.bool false)], args := [d] }
  | _ => none }
def FnCircleRowWrongFalsely : Prop := fnCircleRowRow.holds Try.pinned (OpenSpec.ofChange fnCircleRowWrong)

/- THE SECOND FORM. 'bulk': how many values and letters a reading holds, each counted each time it is reached (what is shared counts as often as it is met; a slice's spare places count too). A statement '..UptoSaid' is the law's where the arguments, and the package variables that the reading takes, are together of bulk at most 1048576: NARROWER than '..Said'. Prove '..Said' where nothing that the law and all that it calls make is longer than what came in: it says more and counts as full. Else prove '..UptoSaid'. A law counts once. -/
mutual
def uptoBulk {H : Type} : DataW H → Nat
  | .lit (.string bytes) => bytes.length + 1
  | .lit _ => 1
  | .nil => 1
  | .ptr d => uptoBulk d + 1
  | .slice elems spare => uptoBulkAll elems + uptoBulkAll spare + 1
  | .agg parts => uptoBulkAll parts + 1
  | .iface _ d => uptoBulk d + 1
  | .map entries => uptoBulkEntries entries + 1
  | .held _ => 1
def uptoBulkAll {H : Type} : List (DataW H) → Nat
  | [] => 0
  | d :: r => uptoBulk d + uptoBulkAll r
def uptoBulkEntries {H : Type} : List (Lit × DataW H) → Nat
  | [] => 0
  | x :: r => uptoBulkEntry x + uptoBulkEntries r
def uptoBulkEntry {H : Type} : Lit × DataW H → Nat
  | (.string bytes, d) => bytes.length + uptoBulk d + 1
  | (_, d) => uptoBulk d + 1
 end
def uptoSmall : (H : Type) → List (DataW H) → Bool := fun _ ds => decide (uptoBulkAll ds ≤ 1048576)
def OpenSpec.upto (s : _root_.Go.ChangeSpec) : _root_.Go.OpenSpec := { _root_.Go.OpenSpec.ofChange s with cond := some uptoSmall }

/-- 'laws.FnExactAboveOf', WHERE WHAT IT READS IS OF BULK AT MOST 1048576: true; the input reads as it did. -/
def fnExactAboveOfUptoRow : OpenClaim := { program := "ytepikmkkbecdaab", sum := "751387b71f1f7d1465d2598b86d609355849e13a603b9db0a796d54898ce99ca", func := "loop.example/ordercounts/laws.FnExactAboveOf", spec := "fnExactAboveOf", unfollowed := true, recurses := true, apart := false, narrowed := true }
def FnExactAboveOfUptoSaid : Prop := fnExactAboveOfUptoRow.holds Try.pinned (OpenSpec.upto fnExactAboveOfSpec)

/-- 'laws.FnExactFixedOf', WHERE WHAT IT READS IS OF BULK AT MOST 1048576: true; the input reads as it did. -/
def fnExactFixedOfUptoRow : OpenClaim := { program := "ytepikmkkbecdaab", sum := "751387b71f1f7d1465d2598b86d609355849e13a603b9db0a796d54898ce99ca", func := "loop.example/ordercounts/laws.FnExactFixedOf", spec := "fnExactFixedOf", unfollowed := true, recurses := true, apart := false, narrowed := true }
def FnExactFixedOfUptoSaid : Prop := fnExactFixedOfUptoRow.holds Try.pinned (OpenSpec.upto fnExactFixedOfSpec)

/-- 'laws.FnExactRecordsOf', WHERE WHAT IT READS IS OF BULK AT MOST 1048576: true; the input reads as it did. -/
def fnExactRecordsOfUptoRow : OpenClaim := { program := "ytepikmkkbecdaab", sum := "751387b71f1f7d1465d2598b86d609355849e13a603b9db0a796d54898ce99ca", func := "loop.example/ordercounts/laws.FnExactRecordsOf", spec := "fnExactRecordsOf", apart := false, narrowed := true }
def FnExactRecordsOfUptoSaid : Prop := fnExactRecordsOfUptoRow.holds Try.pinned (OpenSpec.upto fnExactRecordsOfSpec)

/-- 'laws.FnExactDenertOf', WHERE WHAT IT READS IS OF BULK AT MOST 1048576: true; the input reads as it did. -/
def fnExactDenertOfUptoRow : OpenClaim := { program := "ytepikmkkbecdaab", sum := "751387b71f1f7d1465d2598b86d609355849e13a603b9db0a796d54898ce99ca", func := "loop.example/ordercounts/laws.FnExactDenertOf", spec := "fnExactDenertOf", unfollowed := true, recurses := true, apart := false, narrowed := true }
def FnExactDenertOfUptoSaid : Prop := fnExactDenertOfUptoRow.holds Try.pinned (OpenSpec.upto fnExactDenertOfSpec)

/-- 'laws.FnExactShiftOf', WHERE WHAT IT READS IS OF BULK AT MOST 1048576: true; the input reads as it did. -/
def fnExactShiftOfUptoRow : OpenClaim := { program := "ytepikmkkbecdaab", sum := "751387b71f1f7d1465d2598b86d609355849e13a603b9db0a796d54898ce99ca", func := "loop.example/ordercounts/laws.FnExactShiftOf", spec := "fnExactShiftOf", apart := false, narrowed := true }
def FnExactShiftOfUptoSaid : Prop := fnExactShiftOfUptoRow.holds Try.pinned (OpenSpec.upto fnExactShiftOfSpec)

/-- 'laws.FnExactCrossingsOf', WHERE WHAT IT READS IS OF BULK AT MOST 1048576: true; the input reads as it did. -/
def fnExactCrossingsOfUptoRow : OpenClaim := { program := "ytepikmkkbecdaab", sum := "751387b71f1f7d1465d2598b86d609355849e13a603b9db0a796d54898ce99ca", func := "loop.example/ordercounts/laws.FnExactCrossingsOf", spec := "fnExactCrossingsOf", unfollowed := true, recurses := true, apart := false, narrowed := true }
def FnExactCrossingsOfUptoSaid : Prop := fnExactCrossingsOfUptoRow.holds Try.pinned (OpenSpec.upto fnExactCrossingsOfSpec)

/-- 'laws.FnExactNestingsOf', WHERE WHAT IT READS IS OF BULK AT MOST 1048576: true; the input reads as it did. -/
def fnExactNestingsOfUptoRow : OpenClaim := { program := "ytepikmkkbecdaab", sum := "751387b71f1f7d1465d2598b86d609355849e13a603b9db0a796d54898ce99ca", func := "loop.example/ordercounts/laws.FnExactNestingsOf", spec := "fnExactNestingsOf", unfollowed := true, recurses := true, apart := false, narrowed := true }
def FnExactNestingsOfUptoSaid : Prop := fnExactNestingsOfUptoRow.holds Try.pinned (OpenSpec.upto fnExactNestingsOfSpec)

/-- 'laws.FnExactEulerRow', WHERE WHAT IT READS IS OF BULK AT MOST 1048576: true; the input reads as it did. -/
def fnExactEulerRowUptoRow : OpenClaim := { program := "ytepikmkkbecdaab", sum := "751387b71f1f7d1465d2598b86d609355849e13a603b9db0a796d54898ce99ca", func := "loop.example/ordercounts/laws.FnExactEulerRow", spec := "fnExactEulerRow", apart := false, narrowed := true }
def FnExactEulerRowUptoSaid : Prop := fnExactEulerRowUptoRow.holds Try.pinned (OpenSpec.upto fnExactEulerRowSpec)

/-- 'laws.FnExactProductRow', WHERE WHAT IT READS IS OF BULK AT MOST 1048576: true; the input reads as it did. -/
def fnExactProductRowUptoRow : OpenClaim := { program := "ytepikmkkbecdaab", sum := "751387b71f1f7d1465d2598b86d609355849e13a603b9db0a796d54898ce99ca", func := "loop.example/ordercounts/laws.FnExactProductRow", spec := "fnExactProductRow", apart := false, narrowed := true }
def FnExactProductRowUptoSaid : Prop := fnExactProductRowUptoRow.holds Try.pinned (OpenSpec.upto fnExactProductRowSpec)

/-- 'laws.FnExactCircleRow', WHERE WHAT IT READS IS OF BULK AT MOST 1048576: true; the input reads as it did. -/
def fnExactCircleRowUptoRow : OpenClaim := { program := "ytepikmkkbecdaab", sum := "751387b71f1f7d1465d2598b86d609355849e13a603b9db0a796d54898ce99ca", func := "loop.example/ordercounts/laws.FnExactCircleRow", spec := "fnExactCircleRow", apart := false, narrowed := true }
def FnExactCircleRowUptoSaid : Prop := fnExactCircleRowUptoRow.holds Try.pinned (OpenSpec.upto fnExactCircleRowSpec)

/-- 'laws.FnEulerRow', WHERE WHAT IT READS IS OF BULK AT MOST 1048576: true; the input reads as it did. -/
def fnEulerRowUptoRow : OpenClaim := { program := "ytepikmkkbecdaab", sum := "751387b71f1f7d1465d2598b86d609355849e13a603b9db0a796d54898ce99ca", func := "loop.example/ordercounts/laws.FnEulerRow", spec := "fnEulerRow", apart := false, narrowed := true }
def FnEulerRowUptoSaid : Prop := fnEulerRowUptoRow.holds Try.pinned (OpenSpec.upto fnEulerRowSpec)

/-- 'laws.FnCircleRow', WHERE WHAT IT READS IS OF BULK AT MOST 1048576: true; the input reads as it did. -/
def fnCircleRowUptoRow : OpenClaim := { program := "ytepikmkkbecdaab", sum := "751387b71f1f7d1465d2598b86d609355849e13a603b9db0a796d54898ce99ca", func := "loop.example/ordercounts/laws.FnCircleRow", spec := "fnCircleRow", apart := false, narrowed := true }
def FnCircleRowUptoSaid : Prop := fnCircleRowUptoRow.holds Try.pinned (OpenSpec.upto fnCircleRowSpec)

end Rows
end Go.Proofs.Ytepikmkkbecdaab
