/-
  No cell of these rows narrows 'for every input' (looked for: loops, veiled, ifaces, maps, wideKeys, modest, calm, conditions, laid).
  DERIVED. THE GIVEN ROWS OF THIS SEAT. 12 by the template 'for every input the law returns true; each argument reads behind the call as it read before'; 0 by the template 'total and deterministic' (their statements: YthaiodjeamjjnaaTotals.lean).
  GIVEN WITH THE SEED: the statements are not yours to turn. If you find one false, say at which input.
  Laid BY PROGRAM, IN A SANDBOX (cutbox-rows.mjs): the forced cells as the released guide's own fill.sh prints them over the translation 726f1fbf13157b3b… (all of the seat's roots in one cut). By AI agents, Wed Nov 11 2026. No macro, syntax, notation, axiom, sorry.
-/
import Derived.Test.YthaiodjeamjjnaaChecked
import GoSem.Claim
import GoSem.ClaimJoined
import GoSem.ClaimMapViews
import Derived.JoinedTies
import Derived.KernelRfl
namespace Go.Proofs.Ythaiodjeamjjnaa
/- THE CELL 'sum', in the pinned program and in every row, IS THE sha256 OF THE DUMP (.gsa) THAT YthaiodjeamjjnaaProg.lean LOADS. Nothing in Lean hashes anything: it is a label: what it is worth is what the hold of that sum in a sandbox is worth. -/
noncomputable def Try.pinned : Pinned := { name := "ythaiodjeamjjnaa", sum := "726f1fbf13157b3bf0878b755edaa5152092e99580ffb7faf16855721dfbefeb", checked := Try.checked }
namespace Rows
def none {H : Type} : Left H := { results := [], args := [] }

/-- 'laws.FnExactValidWord': WHATEVER THE INPUT: true; the input reads as it did. -/
def fnExactValidWordSpec : ChangeSpec := { name := "fnExactValidWord", fn := fun _ => fun
  | [d] => { results := [.lit (.bool true)], args := [d] }
  | _ => none }
def fnExactValidWordRow : OpenClaim := { program := "ythaiodjeamjjnaa", sum := "726f1fbf13157b3bf0878b755edaa5152092e99580ffb7faf16855721dfbefeb", func := "loop.example/ordercounts/laws.FnExactValidWord", spec := "fnExactValidWord", apart := false }
def FnExactValidWordSaid : Prop := fnExactValidWordRow.holds Try.pinned (OpenSpec.ofChange fnExactValidWordSpec)

/-- ITS FALSE NEIGHBOUR: 'it returns false'. Refute it at one input. -/
def fnExactValidWordWrong : ChangeSpec := { name := "fnExactValidWord", fn := fun _ => fun
  | [d] => { results := [.lit (.bool false)], args := [d] }
  | _ => none }
def FnExactValidWordWrongFalsely : Prop := fnExactValidWordRow.holds Try.pinned (OpenSpec.ofChange fnExactValidWordWrong)

/-- 'laws.FnExactContentOf': WHATEVER THE INPUT: true; the input reads as it did. -/
def fnExactContentOfSpec : ChangeSpec := { name := "fnExactContentOf", fn := fun _ => fun
  | [d] => { results := [.lit (.bool true)], args := [d] }
  | _ => none }
def fnExactContentOfRow : OpenClaim := { program := "ythaiodjeamjjnaa", sum := "726f1fbf13157b3bf0878b755edaa5152092e99580ffb7faf16855721dfbefeb", func := "loop.example/ordercounts/laws.FnExactContentOf", spec := "fnExactContentOf", apart := false }
def FnExactContentOfSaid : Prop := fnExactContentOfRow.holds Try.pinned (OpenSpec.ofChange fnExactContentOfSpec)

/-- ITS FALSE NEIGHBOUR: 'it returns false'. Refute it at one input. -/
def fnExactContentOfWrong : ChangeSpec := { name := "fnExactContentOf", fn := fun _ => fun
  | [d] => { results := [.lit (.bool false)], args := [d] }
  | _ => none }
def FnExactContentOfWrongFalsely : Prop := fnExactContentOfRow.holds Try.pinned (OpenSpec.ofChange fnExactContentOfWrong)

/-- 'laws.FnExactWordInversions': WHATEVER THE INPUT: true; the input reads as it did. -/
def fnExactWordInversionsSpec : ChangeSpec := { name := "fnExactWordInversions", fn := fun _ => fun
  | [d] => { results := [.lit (.bool true)], args := [d] }
  | _ => none }
def fnExactWordInversionsRow : OpenClaim := { program := "ythaiodjeamjjnaa", sum := "726f1fbf13157b3bf0878b755edaa5152092e99580ffb7faf16855721dfbefeb", func := "loop.example/ordercounts/laws.FnExactWordInversions", spec := "fnExactWordInversions", apart := false }
def FnExactWordInversionsSaid : Prop := fnExactWordInversionsRow.holds Try.pinned (OpenSpec.ofChange fnExactWordInversionsSpec)

/-- ITS FALSE NEIGHBOUR: 'it returns false'. Refute it at one input. -/
def fnExactWordInversionsWrong : ChangeSpec := { name := "fnExactWordInversions", fn := fun _ => fun
  | [d] => { results := [.lit (.bool false)], args := [d] }
  | _ => none }
def FnExactWordInversionsWrongFalsely : Prop := fnExactWordInversionsRow.holds Try.pinned (OpenSpec.ofChange fnExactWordInversionsWrong)

/-- 'laws.FnExactWordMajor': WHATEVER THE INPUT: true; the input reads as it did. -/
def fnExactWordMajorSpec : ChangeSpec := { name := "fnExactWordMajor", fn := fun _ => fun
  | [d] => { results := [.lit (.bool true)], args := [d] }
  | _ => none }
def fnExactWordMajorRow : OpenClaim := { program := "ythaiodjeamjjnaa", sum := "726f1fbf13157b3bf0878b755edaa5152092e99580ffb7faf16855721dfbefeb", func := "loop.example/ordercounts/laws.FnExactWordMajor", spec := "fnExactWordMajor", apart := false }
def FnExactWordMajorSaid : Prop := fnExactWordMajorRow.holds Try.pinned (OpenSpec.ofChange fnExactWordMajorSpec)

/-- ITS FALSE NEIGHBOUR: 'it returns false'. Refute it at one input. -/
def fnExactWordMajorWrong : ChangeSpec := { name := "fnExactWordMajor", fn := fun _ => fun
  | [d] => { results := [.lit (.bool false)], args := [d] }
  | _ => none }
def FnExactWordMajorWrongFalsely : Prop := fnExactWordMajorRow.holds Try.pinned (OpenSpec.ofChange fnExactWordMajorWrong)

/-- 'laws.FnExactStandardOf': WHATEVER THE INPUT: true; the input reads as it did. -/
def fnExactStandardOfSpec : ChangeSpec := { name := "fnExactStandardOf", fn := fun _ => fun
  | [d] => { results := [.lit (.bool true)], args := [d] }
  | _ => none }
def fnExactStandardOfRow : OpenClaim := { program := "ythaiodjeamjjnaa", sum := "726f1fbf13157b3bf0878b755edaa5152092e99580ffb7faf16855721dfbefeb", func := "loop.example/ordercounts/laws.FnExactStandardOf", spec := "fnExactStandardOf", apart := false }
def FnExactStandardOfSaid : Prop := fnExactStandardOfRow.holds Try.pinned (OpenSpec.ofChange fnExactStandardOfSpec)

/-- ITS FALSE NEIGHBOUR: 'it returns false'. Refute it at one input. -/
def fnExactStandardOfWrong : ChangeSpec := { name := "fnExactStandardOf", fn := fun _ => fun
  | [d] => { results := [.lit (.bool false)], args := [d] }
  | _ => none }
def FnExactStandardOfWrongFalsely : Prop := fnExactStandardOfRow.holds Try.pinned (OpenSpec.ofChange fnExactStandardOfWrong)

/-- 'laws.FnExactCountWords': WHATEVER THE INPUT: true; the input reads as it did. -/
def fnExactCountWordsSpec : ChangeSpec := { name := "fnExactCountWords", fn := fun _ => fun
  | [d] => { results := [.lit (.bool true)], args := [d] }
  | _ => none }
def fnExactCountWordsRow : OpenClaim := { program := "ythaiodjeamjjnaa", sum := "726f1fbf13157b3bf0878b755edaa5152092e99580ffb7faf16855721dfbefeb", func := "loop.example/ordercounts/laws.FnExactCountWords", spec := "fnExactCountWords", apart := false }
def FnExactCountWordsSaid : Prop := fnExactCountWordsRow.holds Try.pinned (OpenSpec.ofChange fnExactCountWordsSpec)

/-- ITS FALSE NEIGHBOUR: 'it returns false'. Refute it at one input. -/
def fnExactCountWordsWrong : ChangeSpec := { name := "fnExactCountWords", fn := fun _ => fun
  | [d] => { results := [.lit (.bool false)], args := [d] }
  | _ => none }
def FnExactCountWordsWrongFalsely : Prop := fnExactCountWordsRow.holds Try.pinned (OpenSpec.ofChange fnExactCountWordsWrong)

/-- 'laws.FnExactMultiplyRows': WHATEVER THE INPUT: true; the input reads as it did. -/
def fnExactMultiplyRowsSpec : ChangeSpec := { name := "fnExactMultiplyRows", fn := fun _ => fun
  | [d1, d2] => { results := [.lit (.bool true)], args := [d1, d2] }
  | _ => none }
def fnExactMultiplyRowsRow : OpenClaim := { program := "ythaiodjeamjjnaa", sum := "726f1fbf13157b3bf0878b755edaa5152092e99580ffb7faf16855721dfbefeb", func := "loop.example/ordercounts/laws.FnExactMultiplyRows", spec := "fnExactMultiplyRows", apart := false }
def FnExactMultiplyRowsSaid : Prop := fnExactMultiplyRowsRow.holds Try.pinned (OpenSpec.ofChange fnExactMultiplyRowsSpec)

/-- ITS FALSE NEIGHBOUR: 'it returns false'. Refute it at one input. -/
def fnExactMultiplyRowsWrong : ChangeSpec := { name := "fnExactMultiplyRows", fn := fun _ => fun
  | [d1, d2] => { results := [.lit (.bool false)], args := [d1, d2] }
  | _ => none }
def FnExactMultiplyRowsWrongFalsely : Prop := fnExactMultiplyRowsRow.holds Try.pinned (OpenSpec.ofChange fnExactMultiplyRowsWrong)

/-- 'laws.FnValidWord': WHATEVER THE INPUT: true; the input reads as it did. -/
def fnValidWordSpec : ChangeSpec := { name := "fnValidWord", fn := fun _ => fun
  | [d] => { results := [.lit (.bool true)], args := [d] }
  | _ => none }
def fnValidWordRow : OpenClaim := { program := "ythaiodjeamjjnaa", sum := "726f1fbf13157b3bf0878b755edaa5152092e99580ffb7faf16855721dfbefeb", func := "loop.example/ordercounts/laws.FnValidWord", spec := "fnValidWord", apart := false }
def FnValidWordSaid : Prop := fnValidWordRow.holds Try.pinned (OpenSpec.ofChange fnValidWordSpec)

/-- ITS FALSE NEIGHBOUR: 'it returns false'. Refute it at one input. -/
def fnValidWordWrong : ChangeSpec := { name := "fnValidWord", fn := fun _ => fun
  | [d] => { results := [.lit (.bool false)], args := [d] }
  | _ => none }
def FnValidWordWrongFalsely : Prop := fnValidWordRow.holds Try.pinned (OpenSpec.ofChange fnValidWordWrong)

/-- 'laws.FnWordInversions': WHATEVER THE INPUT: true; the input reads as it did. -/
def fnWordInversionsSpec : ChangeSpec := { name := "fnWordInversions", fn := fun _ => fun
  | [d] => { results := [.lit (.bool true)], args := [d] }
  | _ => none }
def fnWordInversionsRow : OpenClaim := { program := "ythaiodjeamjjnaa", sum := "726f1fbf13157b3bf0878b755edaa5152092e99580ffb7faf16855721dfbefeb", func := "loop.example/ordercounts/laws.FnWordInversions", spec := "fnWordInversions", apart := false }
def FnWordInversionsSaid : Prop := fnWordInversionsRow.holds Try.pinned (OpenSpec.ofChange fnWordInversionsSpec)

/-- ITS FALSE NEIGHBOUR: 'it returns false'. Refute it at one input. -/
def fnWordInversionsWrong : ChangeSpec := { name := "fnWordInversions", fn := fun _ => fun
  | [d] => { results := [.lit (.bool false)], args := [d] }
  | _ => none }
def FnWordInversionsWrongFalsely : Prop := fnWordInversionsRow.holds Try.pinned (OpenSpec.ofChange fnWordInversionsWrong)

/-- 'laws.FnWordMajor': WHATEVER THE INPUT: true; the input reads as it did. -/
def fnWordMajorSpec : ChangeSpec := { name := "fnWordMajor", fn := fun _ => fun
  | [d] => { results := [.lit (.bool true)], args := [d] }
  | _ => none }
def fnWordMajorRow : OpenClaim := { program := "ythaiodjeamjjnaa", sum := "726f1fbf13157b3bf0878b755edaa5152092e99580ffb7faf16855721dfbefeb", func := "loop.example/ordercounts/laws.FnWordMajor", spec := "fnWordMajor", apart := false }
def FnWordMajorSaid : Prop := fnWordMajorRow.holds Try.pinned (OpenSpec.ofChange fnWordMajorSpec)

/-- ITS FALSE NEIGHBOUR: 'it returns false'. Refute it at one input. -/
def fnWordMajorWrong : ChangeSpec := { name := "fnWordMajor", fn := fun _ => fun
  | [d] => { results := [.lit (.bool false)], args := [d] }
  | _ => none }
def FnWordMajorWrongFalsely : Prop := fnWordMajorRow.holds Try.pinned (OpenSpec.ofChange fnWordMajorWrong)

/-- 'laws.FnStandardOf': WHATEVER THE INPUT: true; the input reads as it did. -/
def fnStandardOfSpec : ChangeSpec := { name := "fnStandardOf", fn := fun _ => fun
  | [d] => { results := [.lit (.bool true)], args := [d] }
  | _ => none }
def fnStandardOfRow : OpenClaim := { program := "ythaiodjeamjjnaa", sum := "726f1fbf13157b3bf0878b755edaa5152092e99580ffb7faf16855721dfbefeb", func := "loop.example/ordercounts/laws.FnStandardOf", spec := "fnStandardOf", apart := false }
def FnStandardOfSaid : Prop := fnStandardOfRow.holds Try.pinned (OpenSpec.ofChange fnStandardOfSpec)

/-- ITS FALSE NEIGHBOUR: 'it returns false'. Refute it at one input. -/
def fnStandardOfWrong : ChangeSpec := { name := "fnStandardOf", fn := fun _ => fun
  | [d] => { results := [.lit (.bool false)], args := [d] }
  | _ => none }
def FnStandardOfWrongFalsely : Prop := fnStandardOfRow.holds Try.pinned (OpenSpec.ofChange fnStandardOfWrong)

/-- 'laws.FnMultiplyRows': WHATEVER THE INPUT: true; the input reads as it did. -/
def fnMultiplyRowsSpec : ChangeSpec := { name := "fnMultiplyRows", fn := fun _ => fun
  | [d] => { results := [.lit (.bool true)], args := [d] }
  | _ => none }
def fnMultiplyRowsRow : OpenClaim := { program := "ythaiodjeamjjnaa", sum := "726f1fbf13157b3bf0878b755edaa5152092e99580ffb7faf16855721dfbefeb", func := "loop.example/ordercounts/laws.FnMultiplyRows", spec := "fnMultiplyRows", apart := false }
def FnMultiplyRowsSaid : Prop := fnMultiplyRowsRow.holds Try.pinned (OpenSpec.ofChange fnMultiplyRowsSpec)

/-- ITS FALSE NEIGHBOUR: 'it returns false'. Refute it at one input. -/
def fnMultiplyRowsWrong : ChangeSpec := { name := "fnMultiplyRows", fn := fun _ => fun
  | [d] => { results := [.lit (.bool false)], args := [d] }
  | _ => none }
def FnMultiplyRowsWrongFalsely : Prop := fnMultiplyRowsRow.holds Try.pinned (OpenSpec.ofChange fnMultiplyRowsWrong)

/- THE SECOND FORM. 'bulk': how many values and letters a reading holds, each counted each time it is reached (what is shared counts as often as it is met; a slice's spare places count too). A statement '..UptoSaid' is the law's where the arguments, and the package variables that the reading takes, are together of bulk at most 1048576: NARROWER than '..Said'. Prove '..Said' where nothing that the law and all that it calls make is longer than what came in: it says more and counts as full. Else prove '..UptoSaid'. A law counts once. -/
mutual
def uptoBulk {H : Type} : DataW H → Nat
  | .lit (.string bytes) => bytes.length + 1
  | .lit _ => 1
  | .nil => 1
  | .ptr d => uptoBulk d + 1
  | .slice elems spare => uptoBulkAll elems + uptoBulkAll spare + 1
  | .agg parts => uptoBulkAll parts + 1
  | .iface _ d => uptoBulk d + 1
  | .map entries => uptoBulkEntries entries + 1
  | .held _ => 1
def uptoBulkAll {H : Type} : List (DataW H) → Nat
  | [] => 0
  | d :: r => uptoBulk d + uptoBulkAll r
def uptoBulkEntries {H : Type} : List (Lit × DataW H) → Nat
  | [] => 0
  | x :: r => uptoBulkEntry x + uptoBulkEntries r
def uptoBulkEntry {H : Type} : Lit × DataW H → Nat
  | (.string bytes, d) => bytes.length + uptoBulk d + 1
  | (_, d) => uptoBulk d + 1
 end
def uptoSmall : (H : Type) → List (DataW H) → Bool := fun _ ds => decide (uptoBulkAll ds ≤ 1048576)
def OpenSpec.upto (s : _root_.Go.ChangeSpec) : _root_.Go.OpenSpec := { _root_.Go.OpenSpec.ofChange s with cond := some uptoSmall }

/-- 'laws.FnExactValidWord', WHERE WHAT IT READS IS OF BULK AT MOST 1048576: true; the input reads as it did. -/
def fnExactValidWordUptoRow : OpenClaim := { program := "ythaiodjeamjjnaa", sum := "726f1fbf13157b3bf0878b755edaa5152092e99580ffb7faf16855721dfbefeb", func := "loop.example/ordercounts/laws.FnExactValidWord", spec := "fnExactValidWord", apart := false, narrowed := true }
def FnExactValidWordUptoSaid : Prop := fnExactValidWordUptoRow.holds Try.pinned (OpenSpec.upto fnExactValidWordSpec)

/-- 'laws.FnExactContentOf', WHERE WHAT IT READS IS OF BULK AT MOST 1048576: true; the input reads as it did. -/
def fnExactContentOfUptoRow : OpenClaim := { program := "ythaiodjeamjjnaa", sum := "726f1fbf13157b3bf0878b755edaa5152092e99580ffb7faf16855721dfbefeb", func := "loop.example/ordercounts/laws.FnExactContentOf", spec := "fnExactContentOf", apart := false, narrowed := true }
def FnExactContentOfUptoSaid : Prop := fnExactContentOfUptoRow.holds Try.pinned (OpenSpec.upto fnExactContentOfSpec)

/-- 'laws.FnExactWordInversions', WHERE WHAT IT READS IS OF BULK AT MOST 1048576: true; the input reads as it did. -/
def fnExactWordInversionsUptoRow : OpenClaim := { program := "ythaiodjeamjjnaa", sum := "726f1fbf13157b3bf0878b755edaa5152092e99580ffb7faf16855721dfbefeb", func := "loop.example/ordercounts/laws.FnExactWordInversions", spec := "fnExactWordInversions", apart := false, narrowed := true }
def FnExactWordInversionsUptoSaid : Prop := fnExactWordInversionsUptoRow.holds Try.pinned (OpenSpec.upto fnExactWordInversionsSpec)

/-- 'laws.FnExactWordMajor', WHERE WHAT IT READS IS OF BULK AT MOST 1048576: true; the input reads as it did. -/
def fnExactWordMajorUptoRow : OpenClaim := { program := "ythaiodjeamjjnaa", sum := "726f1fbf13157b3bf0878b755edaa5152092e99580ffb7faf16855721dfbefeb", func := "loop.example/ordercounts/laws.FnExactWordMajor", spec := "fnExactWordMajor", apart := false, narrowed := true }
def FnExactWordMajorUptoSaid : Prop := fnExactWordMajorUptoRow.holds Try.pinned (OpenSpec.upto fnExactWordMajorSpec)

/-- 'laws.FnExactStandardOf', WHERE WHAT IT READS IS OF BULK AT MOST 1048576: true; the input reads as it did. -/
def fnExactStandardOfUptoRow : OpenClaim := { program := "ythaiodjeamjjnaa", sum := "726f1fbf13157b3bf0878b755edaa5152092e99580ffb7faf16855721dfbefeb", func := "loop.example/ordercounts/laws.FnExactStandardOf", spec := "fnExactStandardOf", apart := false, narrowed := true }
def FnExactStandardOfUptoSaid : Prop := fnExactStandardOfUptoRow.holds Try.pinned (OpenSpec.upto fnExactStandardOfSpec)

/-- 'laws.FnExactCountWords', WHERE WHAT IT READS IS OF BULK AT MOST 1048576: true; the input reads as it did. -/
def fnExactCountWordsUptoRow : OpenClaim := { program := "ythaiodjeamjjnaa", sum := "726f1fbf13157b3bf0878b755edaa5152092e99580ffb7faf16855721dfbefeb", func := "loop.example/ordercounts/laws.FnExactCountWords", spec := "fnExactCountWords", apart := false, narrowed := true }
def FnExactCountWordsUptoSaid : Prop := fnExactCountWordsUptoRow.holds Try.pinned (OpenSpec.upto fnExactCountWordsSpec)

/-- 'laws.FnExactMultiplyRows', WHERE WHAT IT READS IS OF BULK AT MOST 1048576: true; the input reads as it did. -/
def fnExactMultiplyRowsUptoRow : OpenClaim := { program := "ythaiodjeamjjnaa", sum := "726f1fbf13157b3bf0878b755edaa5152092e99580ffb7faf16855721dfbefeb", func := "loop.example/ordercounts/laws.FnExactMultiplyRows", spec := "fnExactMultiplyRows", apart := false, narrowed := true }
def FnExactMultiplyRowsUptoSaid : Prop := fnExactMultiplyRowsUptoRow.holds Try.pinned (OpenSpec.upto fnExactMultiplyRowsSpec)

/-- 'laws.FnValidWord', WHERE WHAT IT READS IS OF BULK AT MOST 1048576: true; the input reads as it did. -/
def fnValidWordUptoRow : OpenClaim := { program := "ythaiodjeamjjnaa", sum := "726f1fbf13157b3bf0878b755edaa5152092e99580ffb7faf16855721dfbefeb", func := "loop.example/ordercounts/laws.FnValidWord", spec := "fnValidWord", apart := false, narrowed := true }
def FnValidWordUptoSaid : Prop := fnValidWordUptoRow.holds Try.pinned (OpenSpec.upto fnValidWordSpec)

/-- 'laws.FnWordInversions', WHERE WHAT IT READS IS OF BULK AT MOST 1048576: true; the input reads as it did. -/
def fnWordInversionsUptoRow : OpenClaim := { program := "ythaiodjeamjjnaa", sum := "726f1fbf13157b3bf0878b755edaa5152092e99580ffb7faf16855721dfbefeb", func := "loop.example/ordercounts/laws.FnWordInversions", spec := "fnWordInversions", apart := false, narrowed := true }
def FnWordInversionsUptoSaid : Prop := fnWordInversionsUptoRow.holds Try.pinned (OpenSpec.upto fnWordInversionsSpec)

/-- 'laws.FnWordMajor', WHERE WHAT IT READS IS OF BULK AT MOST 1048576: true; the input reads as it did. -/
def fnWordMajorUptoRow : OpenClaim := { program := "ythaiodjeamjjnaa", sum := "726f1fbf13157b3bf0878b755edaa5152092e99580ffb7faf16855721dfbefeb", func := "loop.example/ordercounts/laws.FnWordMajor", spec := "fnWordMajor", apart := false, narrowed := true }
def FnWordMajorUptoSaid : Prop := fnWordMajorUptoRow.holds Try.pinned (OpenSpec.upto fnWordMajorSpec)

/-- 'laws.FnStandardOf', WHERE WHAT IT READS IS OF BULK AT MOST 1048576: true; the input reads as it did. -/
def fnStandardOfUptoRow : OpenClaim := { program := "ythaiodjeamjjnaa", sum := "726f1fbf13157b3bf0878b755edaa5152092e99580ffb7faf16855721dfbefeb", func := "loop.example/ordercounts/laws.FnStandardOf", spec := "fnStandardOf", apart := false, narrowed := true }
def FnStandardOfUptoSaid : Prop := fnStandardOfUptoRow.holds Try.pinned (OpenSpec.upto fnStandardOfSpec)

/-- 'laws.FnMultiplyRows', WHERE WHAT IT READS IS OF BULK AT MOST 1048576: true; the input reads as it did. -/
def fnMultiplyRowsUptoRow : OpenClaim := { program := "ythaiodjeamjjnaa", sum := "726f1fbf13157b3bf0878b755edaa5152092e99580ffb7faf16855721dfbefeb", func := "loop.example/ordercounts/laws.FnMultiplyRows", spec := "fnMultiplyRows", apart := false, narrowed := true }
def FnMultiplyRowsUptoSaid : Prop := fnMultiplyRowsUptoRow.holds Try.pinned (OpenSpec.upto fnMultiplyRowsSpec)

end Rows
end Go.Proofs.Ythaiodjeamjjnaa
