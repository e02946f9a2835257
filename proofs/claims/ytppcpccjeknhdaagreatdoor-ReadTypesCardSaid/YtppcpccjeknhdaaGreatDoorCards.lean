/-
  DERIVED. GIVEN WITH THE SEED: THE CARDS: each row of YtppcpccjeknhdaaGreatDoorRows.lean that lists a variable, with what it lists TIED to the program's text (the seventh form; the later family's looks); each row that meets fmt, with fmt's text TOLD by the authors' own Lean function (tested against real Go, not proved from fmt's source: count such statements apart). THE CARD IS WHAT COUNTS. Prove the row's statement (the work); the ties are given (YtppcpccjeknhdaaGreatDoorTie.lean); close each card by the builder's one call (the guide's Derived/Test/ToyasCard.lean, 'card_holds'). Laid BY PROGRAM, IN A SANDBOX (cutbox-door.mjs). By AI agents, Wed Nov 11 2026. No macro, syntax, notation, axiom, sorry.
-/
import Derived.Test.YtppcpccjeknhdaaGreatDoorRows
import GoSem.ClaimSeven
namespace Go.Proofs.YtppcpccjeknhdaaGreatDoor
namespace Rows

/-- THE TIED CARD OF 'castingslaw06.DeclClones'. -/
def declClonesCard : Claim7 := { stood := { row := declClonesRow, standIns := [], harness := (true, "c28403d623c280fa95964bcce4decc1b18a400ffd8f72726b7d1c024d1c69801"), looks := true }, kinds := [], alts := [], laidByText := true, laidKinds := [.data], laidTests := true, laidLooks := .later }
def DeclClonesCardSaid : Prop := Claim7.holds Tryz.pinned (.plain (OpenSpec.ofChange declClonesSpec)) declClonesCard

/-- THE TIED CARD OF 'castingslaw07.ReadMatchesReference'. -/
def readMatchesReferenceCard : Claim7 := { stood := { row := readMatchesReferenceRow, standIns := [], harness := (true, "c28403d623c280fa95964bcce4decc1b18a400ffd8f72726b7d1c024d1c69801"), looks := true }, kinds := [], alts := [], laidByText := true, laidKinds := [.handle, .data], laidTests := true, laidLooks := .later }
def ReadMatchesReferenceCardSaid : Prop := Claim7.holds Tryz.pinned (.plain (OpenSpec.ofChange readMatchesReferenceSpec)) readMatchesReferenceCard

/-- THE TIED CARD OF 'castingslaw07.ReadTypes'. -/
def readTypesCard : Claim7 := { stood := { row := readTypesRow, standIns := [], harness := (true, "c28403d623c280fa95964bcce4decc1b18a400ffd8f72726b7d1c024d1c69801"), looks := true }, kinds := [], alts := [], laidByText := true, laidKinds := [.handle, .data], laidTests := true, laidLooks := .later }
def ReadTypesCardSaid : Prop := Claim7.holds Tryz.pinned (.plain (OpenSpec.ofChange readTypesSpec)) readTypesCard

/-- THE TIED CARD OF 'castingslaw08.ParseMatchesReference'. -/
def parseMatchesReferenceCard : Claim7 := { stood := { row := parseMatchesReferenceRow, standIns := [], harness := (true, "c28403d623c280fa95964bcce4decc1b18a400ffd8f72726b7d1c024d1c69801"), looks := true }, kinds := [], alts := [], laidByText := true, laidKinds := [.handle, .data], laidTests := true, laidLooks := .later }
def ParseMatchesReferenceCardSaid : Prop := Claim7.holds Tryz.pinned (.plain (OpenSpec.ofChange parseMatchesReferenceSpec)) parseMatchesReferenceCard

/-- THE TIED CARD OF 'castingslaw08.ParseDecls'. -/
def parseDeclsCard : Claim7 := { stood := { row := parseDeclsRow, standIns := [], harness := (true, "c28403d623c280fa95964bcce4decc1b18a400ffd8f72726b7d1c024d1c69801"), looks := true }, kinds := [], alts := [], laidByText := true, laidKinds := [.handle, .data], laidTests := true, laidLooks := .later }
def ParseDeclsCardSaid : Prop := Claim7.holds Tryz.pinned (.plain (OpenSpec.ofChange parseDeclsSpec)) parseDeclsCard

/-- THE TIED CARD OF 'castingslaw08.ParseBlanks'. -/
def parseBlanksCard : Claim7 := { stood := { row := parseBlanksRow, standIns := [], harness := (true, "c28403d623c280fa95964bcce4decc1b18a400ffd8f72726b7d1c024d1c69801"), looks := true }, kinds := [], alts := [], laidByText := true, laidKinds := [.handle, .data], laidTests := true, laidLooks := .later }
def ParseBlanksCardSaid : Prop := Claim7.holds Tryz.pinned (.plain (OpenSpec.ofChange parseBlanksSpec)) parseBlanksCard

/-- THE TIED CARD OF 'castingslaw08.ParseTrees'. -/
def parseTreesCard : Claim7 := { stood := { row := parseTreesRow, standIns := [], harness := (true, "c28403d623c280fa95964bcce4decc1b18a400ffd8f72726b7d1c024d1c69801"), looks := true }, kinds := [], alts := [], laidByText := true, laidKinds := [.handle, .data], laidTests := true, laidLooks := .later }
def ParseTreesCardSaid : Prop := Claim7.holds Tryz.pinned (.plain (OpenSpec.ofChange parseTreesSpec)) parseTreesCard

/-- THE TIED CARD OF 'castingslaw08.ParseConcat'. -/
def parseConcatCard : Claim7 := { stood := { row := parseConcatRow, standIns := [], harness := (true, "c28403d623c280fa95964bcce4decc1b18a400ffd8f72726b7d1c024d1c69801"), looks := true }, kinds := [], alts := [], laidByText := true, laidKinds := [.handle, .data], laidTests := true, laidLooks := .later }
def ParseConcatCardSaid : Prop := Claim7.holds Tryz.pinned (.plain (OpenSpec.ofChange parseConcatSpec)) parseConcatCard

/-- THE SECOND FORM's CARD OF 'castingslaw06.DeclClones'. -/
def declClonesUptoCard : Claim7 := { stood := { row := declClonesUptoRow, standIns := [], harness := (true, "c28403d623c280fa95964bcce4decc1b18a400ffd8f72726b7d1c024d1c69801"), looks := true }, kinds := [], alts := [], laidByText := true, laidKinds := [.data], laidTests := true, laidLooks := .later }
def DeclClonesUptoCardSaid : Prop := Claim7.holds Tryz.pinned (.plain (OpenSpec.upto declClonesSpec)) declClonesUptoCard

/-- THE SECOND FORM's CARD OF 'castingslaw07.ReadMatchesReference'. -/
def readMatchesReferenceUptoCard : Claim7 := { stood := { row := readMatchesReferenceUptoRow, standIns := [], harness := (true, "c28403d623c280fa95964bcce4decc1b18a400ffd8f72726b7d1c024d1c69801"), looks := true }, kinds := [], alts := [], laidByText := true, laidKinds := [.handle, .data], laidTests := true, laidLooks := .later }
def ReadMatchesReferenceUptoCardSaid : Prop := Claim7.holds Tryz.pinned (.plain (OpenSpec.upto readMatchesReferenceSpec)) readMatchesReferenceUptoCard

/-- THE SECOND FORM's CARD OF 'castingslaw07.ReadTypes'. -/
def readTypesUptoCard : Claim7 := { stood := { row := readTypesUptoRow, standIns := [], harness := (true, "c28403d623c280fa95964bcce4decc1b18a400ffd8f72726b7d1c024d1c69801"), looks := true }, kinds := [], alts := [], laidByText := true, laidKinds := [.handle, .data], laidTests := true, laidLooks := .later }
def ReadTypesUptoCardSaid : Prop := Claim7.holds Tryz.pinned (.plain (OpenSpec.upto readTypesSpec)) readTypesUptoCard

/-- THE SECOND FORM's CARD OF 'castingslaw08.ParseMatchesReference'. -/
def parseMatchesReferenceUptoCard : Claim7 := { stood := { row := parseMatchesReferenceUptoRow, standIns := [], harness := (true, "c28403d623c280fa95964bcce4decc1b18a400ffd8f72726b7d1c024d1c69801"), looks := true }, kinds := [], alts := [], laidByText := true, laidKinds := [.handle, .data], laidTests := true, laidLooks := .later }
def ParseMatchesReferenceUptoCardSaid : Prop := Claim7.holds Tryz.pinned (.plain (OpenSpec.upto parseMatchesReferenceSpec)) parseMatchesReferenceUptoCard

/-- THE SECOND FORM's CARD OF 'castingslaw08.ParseDecls'. -/
def parseDeclsUptoCard : Claim7 := { stood := { row := parseDeclsUptoRow, standIns := [], harness := (true, "c28403d623c280fa95964bcce4decc1b18a400ffd8f72726b7d1c024d1c69801"), looks := true }, kinds := [], alts := [], laidByText := true, laidKinds := [.handle, .data], laidTests := true, laidLooks := .later }
def ParseDeclsUptoCardSaid : Prop := Claim7.holds Tryz.pinned (.plain (OpenSpec.upto parseDeclsSpec)) parseDeclsUptoCard

/-- THE SECOND FORM's CARD OF 'castingslaw08.ParseBlanks'. -/
def parseBlanksUptoCard : Claim7 := { stood := { row := parseBlanksUptoRow, standIns := [], harness := (true, "c28403d623c280fa95964bcce4decc1b18a400ffd8f72726b7d1c024d1c69801"), looks := true }, kinds := [], alts := [], laidByText := true, laidKinds := [.handle, .data], laidTests := true, laidLooks := .later }
def ParseBlanksUptoCardSaid : Prop := Claim7.holds Tryz.pinned (.plain (OpenSpec.upto parseBlanksSpec)) parseBlanksUptoCard

/-- THE SECOND FORM's CARD OF 'castingslaw08.ParseTrees'. -/
def parseTreesUptoCard : Claim7 := { stood := { row := parseTreesUptoRow, standIns := [], harness := (true, "c28403d623c280fa95964bcce4decc1b18a400ffd8f72726b7d1c024d1c69801"), looks := true }, kinds := [], alts := [], laidByText := true, laidKinds := [.handle, .data], laidTests := true, laidLooks := .later }
def ParseTreesUptoCardSaid : Prop := Claim7.holds Tryz.pinned (.plain (OpenSpec.upto parseTreesSpec)) parseTreesUptoCard

/-- THE SECOND FORM's CARD OF 'castingslaw08.ParseConcat'. -/
def parseConcatUptoCard : Claim7 := { stood := { row := parseConcatUptoRow, standIns := [], harness := (true, "c28403d623c280fa95964bcce4decc1b18a400ffd8f72726b7d1c024d1c69801"), looks := true }, kinds := [], alts := [], laidByText := true, laidKinds := [.handle, .data], laidTests := true, laidLooks := .later }
def ParseConcatUptoCardSaid : Prop := Claim7.holds Tryz.pinned (.plain (OpenSpec.upto parseConcatSpec)) parseConcatUptoCard
end Rows
end Go.Proofs.YtppcpccjeknhdaaGreatDoor
