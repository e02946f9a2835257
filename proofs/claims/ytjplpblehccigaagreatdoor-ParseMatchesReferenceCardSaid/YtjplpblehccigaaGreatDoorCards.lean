/-
  DERIVED. GIVEN WITH THE SEED: THE CARDS: each row of YtjplpblehccigaaGreatDoorRows.lean that lists a variable, with what it lists TIED to the program's text (the seventh form; the later family's looks); each row that meets fmt, with fmt's text TOLD by the authors' own Lean function (tested against real Go, not proved from fmt's source: count such statements apart). THE CARD IS WHAT COUNTS. Prove the row's statement (the work); the ties are given (YtjplpblehccigaaGreatDoorTie.lean); close each card by the builder's one call (the guide's Derived/Test/ToyasCard.lean, 'card_holds'). Laid BY PROGRAM, IN A SANDBOX (cutbox-door.mjs). By AI agents, Wed Nov 11 2026. No macro, syntax, notation, axiom, sorry.
-/
import Derived.Test.YtjplpblehccigaaGreatDoorRows
import GoSem.ClaimSeven
namespace Go.Proofs.YtjplpblehccigaaGreatDoor
namespace Rows

/-- THE TIED CARD OF 'castingslaw06.DeclClones'. -/
def declClonesCard : Claim7 := { stood := { row := declClonesRow, standIns := [], harness := (true, "8ffb825fb0c01b3abf3e21a082d8df64dcd9dd7205cff77b82fc7123839261bd"), looks := true }, kinds := [], alts := [], laidByText := true, laidKinds := [.data], laidTests := true, laidLooks := .later }
def DeclClonesCardSaid : Prop := Claim7.holds Tryz.pinned (.plain (OpenSpec.ofChange declClonesSpec)) declClonesCard

/-- THE TIED CARD OF 'castingslaw08.ParseMatchesReference'. -/
def parseMatchesReferenceCard : Claim7 := { stood := { row := parseMatchesReferenceRow, standIns := [], harness := (true, "8ffb825fb0c01b3abf3e21a082d8df64dcd9dd7205cff77b82fc7123839261bd"), looks := true }, kinds := [], alts := [], laidByText := true, laidKinds := [.handle, .data], laidTests := true, laidLooks := .later }
def ParseMatchesReferenceCardSaid : Prop := Claim7.holds Tryz.pinned (.plain (OpenSpec.ofChange parseMatchesReferenceSpec)) parseMatchesReferenceCard

/-- THE TIED CARD OF 'castingslaw08.ParseDecls'. -/
def parseDeclsCard : Claim7 := { stood := { row := parseDeclsRow, standIns := [], harness := (true, "8ffb825fb0c01b3abf3e21a082d8df64dcd9dd7205cff77b82fc7123839261bd"), looks := true }, kinds := [], alts := [], laidByText := true, laidKinds := [.handle, .data], laidTests := true, laidLooks := .later }
def ParseDeclsCardSaid : Prop := Claim7.holds Tryz.pinned (.plain (OpenSpec.ofChange parseDeclsSpec)) parseDeclsCard

/-- THE TIED CARD OF 'castingslaw08.ParseBlanks'. -/
def parseBlanksCard : Claim7 := { stood := { row := parseBlanksRow, standIns := [], harness := (true, "8ffb825fb0c01b3abf3e21a082d8df64dcd9dd7205cff77b82fc7123839261bd"), looks := true }, kinds := [], alts := [], laidByText := true, laidKinds := [.handle, .data], laidTests := true, laidLooks := .later }
def ParseBlanksCardSaid : Prop := Claim7.holds Tryz.pinned (.plain (OpenSpec.ofChange parseBlanksSpec)) parseBlanksCard

/-- THE TIED CARD OF 'castingslaw08.ParseTrees'. -/
def parseTreesCard : Claim7 := { stood := { row := parseTreesRow, standIns := [], harness := (true, "8ffb825fb0c01b3abf3e21a082d8df64dcd9dd7205cff77b82fc7123839261bd"), looks := true }, kinds := [], alts := [], laidByText := true, laidKinds := [.handle, .data], laidTests := true, laidLooks := .later }
def ParseTreesCardSaid : Prop := Claim7.holds Tryz.pinned (.plain (OpenSpec.ofChange parseTreesSpec)) parseTreesCard

/-- THE TIED CARD OF 'castingslaw08.ParseConcat'. -/
def parseConcatCard : Claim7 := { stood := { row := parseConcatRow, standIns := [], harness := (true, "8ffb825fb0c01b3abf3e21a082d8df64dcd9dd7205cff77b82fc7123839261bd"), looks := true }, kinds := [], alts := [], laidByText := true, laidKinds := [.handle, .data], laidTests := true, laidLooks := .later }
def ParseConcatCardSaid : Prop := Claim7.holds Tryz.pinned (.plain (OpenSpec.ofChange parseConcatSpec)) parseConcatCard

/-- THE TIED CARD OF 'castingslaw09.PrintFormats'. -/
def printFormatsCard : Claim7 := { stood := { row := printFormatsRow, standIns := [], harness := (true, "8ffb825fb0c01b3abf3e21a082d8df64dcd9dd7205cff77b82fc7123839261bd"), looks := true }, kinds := [], alts := [], laidByText := true, laidKinds := [.handle, .data], laidTests := true, laidLooks := .later }
def PrintFormatsCardSaid : Prop := Claim7.holds Tryz.pinned (.plain (OpenSpec.ofChange printFormatsSpec)) printFormatsCard

/-- THE TIED CARD OF 'castingslaw09.PrintApart'. -/
def printApartCard : Claim7 := { stood := { row := printApartRow, standIns := [], harness := (true, "8ffb825fb0c01b3abf3e21a082d8df64dcd9dd7205cff77b82fc7123839261bd"), looks := true }, kinds := [], alts := [], laidByText := true, laidKinds := [.data], laidTests := true, laidLooks := .later }
def PrintApartCardSaid : Prop := Claim7.holds Tryz.pinned (.plain (OpenSpec.ofChange printApartSpec)) printApartCard

/-- THE TIED CARD OF 'castingslaw09.PrintParts'. -/
def printPartsCard : Claim7 := { stood := { row := printPartsRow, standIns := [], harness := (true, "8ffb825fb0c01b3abf3e21a082d8df64dcd9dd7205cff77b82fc7123839261bd"), looks := true }, kinds := [], alts := [], laidByText := true, laidKinds := [.data], laidTests := true, laidLooks := .later }
def PrintPartsCardSaid : Prop := Claim7.holds Tryz.pinned (.plain (OpenSpec.ofChange printPartsSpec)) printPartsCard

/-- THE SECOND FORM's CARD OF 'castingslaw06.DeclClones'. -/
def declClonesUptoCard : Claim7 := { stood := { row := declClonesUptoRow, standIns := [], harness := (true, "8ffb825fb0c01b3abf3e21a082d8df64dcd9dd7205cff77b82fc7123839261bd"), looks := true }, kinds := [], alts := [], laidByText := true, laidKinds := [.data], laidTests := true, laidLooks := .later }
def DeclClonesUptoCardSaid : Prop := Claim7.holds Tryz.pinned (.plain (OpenSpec.upto declClonesSpec)) declClonesUptoCard

/-- THE SECOND FORM's CARD OF 'castingslaw08.ParseMatchesReference'. -/
def parseMatchesReferenceUptoCard : Claim7 := { stood := { row := parseMatchesReferenceUptoRow, standIns := [], harness := (true, "8ffb825fb0c01b3abf3e21a082d8df64dcd9dd7205cff77b82fc7123839261bd"), looks := true }, kinds := [], alts := [], laidByText := true, laidKinds := [.handle, .data], laidTests := true, laidLooks := .later }
def ParseMatchesReferenceUptoCardSaid : Prop := Claim7.holds Tryz.pinned (.plain (OpenSpec.upto parseMatchesReferenceSpec)) parseMatchesReferenceUptoCard

/-- THE SECOND FORM's CARD OF 'castingslaw08.ParseDecls'. -/
def parseDeclsUptoCard : Claim7 := { stood := { row := parseDeclsUptoRow, standIns := [], harness := (true, "8ffb825fb0c01b3abf3e21a082d8df64dcd9dd7205cff77b82fc7123839261bd"), looks := true }, kinds := [], alts := [], laidByText := true, laidKinds := [.handle, .data], laidTests := true, laidLooks := .later }
def ParseDeclsUptoCardSaid : Prop := Claim7.holds Tryz.pinned (.plain (OpenSpec.upto parseDeclsSpec)) parseDeclsUptoCard

/-- THE SECOND FORM's CARD OF 'castingslaw08.ParseBlanks'. -/
def parseBlanksUptoCard : Claim7 := { stood := { row := parseBlanksUptoRow, standIns := [], harness := (true, "8ffb825fb0c01b3abf3e21a082d8df64dcd9dd7205cff77b82fc7123839261bd"), looks := true }, kinds := [], alts := [], laidByText := true, laidKinds := [.handle, .data], laidTests := true, laidLooks := .later }
def ParseBlanksUptoCardSaid : Prop := Claim7.holds Tryz.pinned (.plain (OpenSpec.upto parseBlanksSpec)) parseBlanksUptoCard

/-- THE SECOND FORM's CARD OF 'castingslaw08.ParseTrees'. -/
def parseTreesUptoCard : Claim7 := { stood := { row := parseTreesUptoRow, standIns := [], harness := (true, "8ffb825fb0c01b3abf3e21a082d8df64dcd9dd7205cff77b82fc7123839261bd"), looks := true }, kinds := [], alts := [], laidByText := true, laidKinds := [.handle, .data], laidTests := true, laidLooks := .later }
def ParseTreesUptoCardSaid : Prop := Claim7.holds Tryz.pinned (.plain (OpenSpec.upto parseTreesSpec)) parseTreesUptoCard

/-- THE SECOND FORM's CARD OF 'castingslaw08.ParseConcat'. -/
def parseConcatUptoCard : Claim7 := { stood := { row := parseConcatUptoRow, standIns := [], harness := (true, "8ffb825fb0c01b3abf3e21a082d8df64dcd9dd7205cff77b82fc7123839261bd"), looks := true }, kinds := [], alts := [], laidByText := true, laidKinds := [.handle, .data], laidTests := true, laidLooks := .later }
def ParseConcatUptoCardSaid : Prop := Claim7.holds Tryz.pinned (.plain (OpenSpec.upto parseConcatSpec)) parseConcatUptoCard

/-- THE SECOND FORM's CARD OF 'castingslaw09.PrintFormats'. -/
def printFormatsUptoCard : Claim7 := { stood := { row := printFormatsUptoRow, standIns := [], harness := (true, "8ffb825fb0c01b3abf3e21a082d8df64dcd9dd7205cff77b82fc7123839261bd"), looks := true }, kinds := [], alts := [], laidByText := true, laidKinds := [.handle, .data], laidTests := true, laidLooks := .later }
def PrintFormatsUptoCardSaid : Prop := Claim7.holds Tryz.pinned (.plain (OpenSpec.upto printFormatsSpec)) printFormatsUptoCard

/-- THE SECOND FORM's CARD OF 'castingslaw09.PrintApart'. -/
def printApartUptoCard : Claim7 := { stood := { row := printApartUptoRow, standIns := [], harness := (true, "8ffb825fb0c01b3abf3e21a082d8df64dcd9dd7205cff77b82fc7123839261bd"), looks := true }, kinds := [], alts := [], laidByText := true, laidKinds := [.data], laidTests := true, laidLooks := .later }
def PrintApartUptoCardSaid : Prop := Claim7.holds Tryz.pinned (.plain (OpenSpec.upto printApartSpec)) printApartUptoCard

/-- THE SECOND FORM's CARD OF 'castingslaw09.PrintParts'. -/
def printPartsUptoCard : Claim7 := { stood := { row := printPartsUptoRow, standIns := [], harness := (true, "8ffb825fb0c01b3abf3e21a082d8df64dcd9dd7205cff77b82fc7123839261bd"), looks := true }, kinds := [], alts := [], laidByText := true, laidKinds := [.data], laidTests := true, laidLooks := .later }
def PrintPartsUptoCardSaid : Prop := Claim7.holds Tryz.pinned (.plain (OpenSpec.upto printPartsSpec)) printPartsUptoCard
end Rows
end Go.Proofs.YtjplpblehccigaaGreatDoor
