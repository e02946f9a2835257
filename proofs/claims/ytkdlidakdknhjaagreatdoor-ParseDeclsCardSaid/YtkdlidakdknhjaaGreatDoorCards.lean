/-
  DERIVED. GIVEN WITH THE SEED: THE CARDS: each row of YtkdlidakdknhjaaGreatDoorRows.lean that lists a variable, with what it lists TIED to the program's text (the seventh form; the later family's looks); each row that meets fmt, with fmt's text TOLD by the authors' own Lean function (tested against real Go, not proved from fmt's source: count such statements apart). THE CARD IS WHAT COUNTS. Prove the row's statement (the work); the ties are given (YtkdlidakdknhjaaGreatDoorTie.lean); close each card by the builder's one call (the guide's Derived/Test/ToyasCard.lean, 'card_holds'). Laid BY PROGRAM, IN A SANDBOX (cutbox-door.mjs). By AI agents, Wed Nov 11 2026. No macro, syntax, notation, axiom, sorry.
-/
import Derived.Test.YtkdlidakdknhjaaGreatDoorRows
import GoSem.ClaimSeven
namespace Go.Proofs.YtkdlidakdknhjaaGreatDoor
namespace Rows

/-- THE TIED CARD OF 'castingslaw08.ParseDecls'. -/
def parseDeclsCard : Claim7 := { stood := { row := parseDeclsRow, standIns := [], harness := (true, "d9004c8c1a1bb3525d1c64d35b154ccba4b7dc1fa532328f0112d10bfb7bccab"), looks := true }, kinds := [], alts := [], laidByText := true, laidKinds := [.handle, .data], laidTests := true, laidLooks := .later }
def ParseDeclsCardSaid : Prop := Claim7.holds Tryz.pinned (.plain (OpenSpec.ofChange parseDeclsSpec)) parseDeclsCard

/-- THE SECOND FORM's CARD OF 'castingslaw08.ParseDecls'. -/
def parseDeclsUptoCard : Claim7 := { stood := { row := parseDeclsUptoRow, standIns := [], harness := (true, "d9004c8c1a1bb3525d1c64d35b154ccba4b7dc1fa532328f0112d10bfb7bccab"), looks := true }, kinds := [], alts := [], laidByText := true, laidKinds := [.handle, .data], laidTests := true, laidLooks := .later }
def ParseDeclsUptoCardSaid : Prop := Claim7.holds Tryz.pinned (.plain (OpenSpec.upto parseDeclsSpec)) parseDeclsUptoCard
end Rows
end Go.Proofs.YtkdlidakdknhjaaGreatDoor
