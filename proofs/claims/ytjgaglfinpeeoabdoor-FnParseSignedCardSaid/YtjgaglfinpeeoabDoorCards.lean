/-
  DERIVED. GIVEN WITH THE SEED: THE CARDS: each row of YtjgaglfinpeeoabDoorRows.lean that lists a variable, with what it lists TIED to the program's text (the seventh form; the later family's looks); each row that meets fmt, with fmt's text TOLD by the authors' own Lean function (tested against real Go, not proved from fmt's source: count such statements apart). THE CARD IS WHAT COUNTS. Prove the row's statement (the work); the ties are given (YtjgaglfinpeeoabDoorTie.lean); close each card by the builder's one call (the guide's Derived/Test/ToyasCard.lean, 'card_holds'). Laid BY PROGRAM, IN A SANDBOX (cutbox-door.mjs). By AI agents, Wed Nov 11 2026. No macro, syntax, notation, axiom, sorry.
-/
import Derived.Test.YtjgaglfinpeeoabDoorRows
import GoSem.ClaimSeven
namespace Go.Proofs.YtjgaglfinpeeoabDoor
namespace Rows

/-- THE TIED CARD OF 'laws.FnSignedText'. -/
def fnSignedTextCard : Claim7 := { stood := { row := fnSignedTextRow, standIns := [], harness := (true, "31fe924b3cc1114443bf99f8c4a3c0e860b4a2bf696a17f051e31247d61eff1c"), looks := false }, kinds := [], alts := [], laidByText := true, laidKinds := [.data, .data, .data], laidTests := true, laidLooks := .later }
def FnSignedTextCardSaid : Prop := Claim7.holds Tryd.pinned (.plain (OpenSpec.ofChange fnSignedTextSpec)) fnSignedTextCard

/-- THE TIED CARD OF 'laws.FnExactSignedText'. -/
def fnExactSignedTextCard : Claim7 := { stood := { row := fnExactSignedTextRow, standIns := [], harness := (true, "31fe924b3cc1114443bf99f8c4a3c0e860b4a2bf696a17f051e31247d61eff1c"), looks := false }, kinds := [], alts := [], laidByText := true, laidKinds := [.data, .data, .data], laidTests := true, laidLooks := .later }
def FnExactSignedTextCardSaid : Prop := Claim7.holds Tryd.pinned (.plain (OpenSpec.ofChange fnExactSignedTextSpec)) fnExactSignedTextCard

/-- THE TIED CARD OF 'laws.FnParseSigned'. -/
def fnParseSignedCard : Claim7 := { stood := { row := fnParseSignedRow, standIns := [], harness := (true, "31fe924b3cc1114443bf99f8c4a3c0e860b4a2bf696a17f051e31247d61eff1c"), looks := false }, kinds := [], alts := [], laidByText := true, laidKinds := [.data, .data, .data], laidTests := true, laidLooks := .later }
def FnParseSignedCardSaid : Prop := Claim7.holds Tryd.pinned (.plain (OpenSpec.ofChange fnParseSignedSpec)) fnParseSignedCard

/-- THE SECOND FORM's CARD OF 'laws.FnSignedText'. -/
def fnSignedTextUptoCard : Claim7 := { stood := { row := fnSignedTextUptoRow, standIns := [], harness := (true, "31fe924b3cc1114443bf99f8c4a3c0e860b4a2bf696a17f051e31247d61eff1c"), looks := false }, kinds := [], alts := [], laidByText := true, laidKinds := [.data, .data, .data], laidTests := true, laidLooks := .later }
def FnSignedTextUptoCardSaid : Prop := Claim7.holds Tryd.pinned (.plain (OpenSpec.upto fnSignedTextSpec)) fnSignedTextUptoCard

/-- THE SECOND FORM's CARD OF 'laws.FnExactSignedText'. -/
def fnExactSignedTextUptoCard : Claim7 := { stood := { row := fnExactSignedTextUptoRow, standIns := [], harness := (true, "31fe924b3cc1114443bf99f8c4a3c0e860b4a2bf696a17f051e31247d61eff1c"), looks := false }, kinds := [], alts := [], laidByText := true, laidKinds := [.data, .data, .data], laidTests := true, laidLooks := .later }
def FnExactSignedTextUptoCardSaid : Prop := Claim7.holds Tryd.pinned (.plain (OpenSpec.upto fnExactSignedTextSpec)) fnExactSignedTextUptoCard

/-- THE SECOND FORM's CARD OF 'laws.FnParseSigned'. -/
def fnParseSignedUptoCard : Claim7 := { stood := { row := fnParseSignedUptoRow, standIns := [], harness := (true, "31fe924b3cc1114443bf99f8c4a3c0e860b4a2bf696a17f051e31247d61eff1c"), looks := false }, kinds := [], alts := [], laidByText := true, laidKinds := [.data, .data, .data], laidTests := true, laidLooks := .later }
def FnParseSignedUptoCardSaid : Prop := Claim7.holds Tryd.pinned (.plain (OpenSpec.upto fnParseSignedSpec)) fnParseSignedUptoCard
end Rows
end Go.Proofs.YtjgaglfinpeeoabDoor
