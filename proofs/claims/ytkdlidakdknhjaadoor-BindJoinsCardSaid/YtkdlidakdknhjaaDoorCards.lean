/-
  DERIVED. GIVEN WITH THE SEED: THE CARDS: each row of YtkdlidakdknhjaaDoorRows.lean that lists a variable, with what it lists TIED to the program's text (the seventh form; the later family's looks); each row that meets fmt, with fmt's text TOLD by the authors' own Lean function (tested against real Go, not proved from fmt's source: count such statements apart). THE CARD IS WHAT COUNTS. Prove the row's statement (the work); the ties are given (YtkdlidakdknhjaaDoorTie.lean); close each card by the builder's one call (the guide's Derived/Test/ToyasCard.lean, 'card_holds'). Laid BY PROGRAM, IN A SANDBOX (cutbox-door.mjs). By AI agents, Wed Nov 11 2026. No macro, syntax, notation, axiom, sorry.
-/
import Derived.Test.YtkdlidakdknhjaaDoorRows
import GoSem.ClaimSeven
namespace Go.Proofs.YtkdlidakdknhjaaDoor
namespace Rows

/-- THE TIED CARD OF 'castingslaw10.BindMatchesReference'. -/
def bindMatchesReferenceCard : Claim7 := { stood := { row := bindMatchesReferenceRow, standIns := [], harness := (true, "77a1b3696783a794086e67d7d57275e79712cf4b4016197512b4c72556008564"), looks := false }, kinds := [], alts := [], laidByText := true, laidKinds := [.data, .data, .data], laidTests := true, laidLooks := .later }
def BindMatchesReferenceCardSaid : Prop := Claim7.holds Tryd.pinned (.plain (OpenSpec.ofChange bindMatchesReferenceSpec)) bindMatchesReferenceCard

/-- THE TIED CARD OF 'castingslaw10.BindSubstitutes'. -/
def bindSubstitutesCard : Claim7 := { stood := { row := bindSubstitutesRow, standIns := [], harness := (true, "77a1b3696783a794086e67d7d57275e79712cf4b4016197512b4c72556008564"), looks := false }, kinds := [], alts := [], laidByText := true, laidKinds := [.data, .data, .data], laidTests := true, laidLooks := .later }
def BindSubstitutesCardSaid : Prop := Claim7.holds Tryd.pinned (.plain (OpenSpec.ofChange bindSubstitutesSpec)) bindSubstitutesCard

/-- THE TIED CARD OF 'castingslaw10.BindBounds'. -/
def bindBoundsCard : Claim7 := { stood := { row := bindBoundsRow, standIns := [], harness := (true, "77a1b3696783a794086e67d7d57275e79712cf4b4016197512b4c72556008564"), looks := false }, kinds := [], alts := [], laidByText := true, laidKinds := [.data, .data, .data], laidTests := true, laidLooks := .later }
def BindBoundsCardSaid : Prop := Claim7.holds Tryd.pinned (.plain (OpenSpec.ofChange bindBoundsSpec)) bindBoundsCard

/-- THE TIED CARD OF 'castingslaw10.BindJoins'. -/
def bindJoinsCard : Claim7 := { stood := { row := bindJoinsRow, standIns := [], harness := (true, "77a1b3696783a794086e67d7d57275e79712cf4b4016197512b4c72556008564"), looks := false }, kinds := [], alts := [], laidByText := true, laidKinds := [.data, .data, .data], laidTests := true, laidLooks := .later }
def BindJoinsCardSaid : Prop := Claim7.holds Tryd.pinned (.plain (OpenSpec.ofChange bindJoinsSpec)) bindJoinsCard

/-- THE TIED CARD OF 'castingslaw10.BindEquivalence'. -/
def bindEquivalenceCard : Claim7 := { stood := { row := bindEquivalenceRow, standIns := [], harness := (true, "77a1b3696783a794086e67d7d57275e79712cf4b4016197512b4c72556008564"), looks := false }, kinds := [], alts := [], laidByText := true, laidKinds := [.data, .data, .data], laidTests := true, laidLooks := .later }
def BindEquivalenceCardSaid : Prop := Claim7.holds Tryd.pinned (.plain (OpenSpec.ofChange bindEquivalenceSpec)) bindEquivalenceCard

/-- THE TIED CARD OF 'castingslaw11.TableMatchesReference'. -/
def tableMatchesReferenceCard : Claim7 := { stood := { row := tableMatchesReferenceRow, standIns := [], harness := (true, "77a1b3696783a794086e67d7d57275e79712cf4b4016197512b4c72556008564"), looks := false }, kinds := [], alts := [], laidByText := true, laidKinds := [.data, .data, .data], laidTests := true, laidLooks := .later }
def TableMatchesReferenceCardSaid : Prop := Claim7.holds Tryd.pinned (.plain (OpenSpec.ofChange tableMatchesReferenceSpec)) tableMatchesReferenceCard

/-- THE TIED CARD OF 'castingslaw11.TableMethods'. -/
def tableMethodsCard : Claim7 := { stood := { row := tableMethodsRow, standIns := [], harness := (true, "77a1b3696783a794086e67d7d57275e79712cf4b4016197512b4c72556008564"), looks := false }, kinds := [], alts := [], laidByText := true, laidKinds := [.data, .data, .data], laidTests := true, laidLooks := .later }
def TableMethodsCardSaid : Prop := Claim7.holds Tryd.pinned (.plain (OpenSpec.ofChange tableMethodsSpec)) tableMethodsCard

/-- THE TIED CARD OF 'castingslaw11.TableKeeps'. -/
def tableKeepsCard : Claim7 := { stood := { row := tableKeepsRow, standIns := [], harness := (true, "77a1b3696783a794086e67d7d57275e79712cf4b4016197512b4c72556008564"), looks := false }, kinds := [], alts := [], laidByText := true, laidKinds := [.data, .data, .data], laidTests := true, laidLooks := .later }
def TableKeepsCardSaid : Prop := Claim7.holds Tryd.pinned (.plain (OpenSpec.ofChange tableKeepsSpec)) tableKeepsCard

/-- THE TIED CARD OF 'castingslaw11.TableNil'. -/
def tableNilCard : Claim7 := { stood := { row := tableNilRow, standIns := [], harness := (true, "77a1b3696783a794086e67d7d57275e79712cf4b4016197512b4c72556008564"), looks := false }, kinds := [], alts := [], laidByText := true, laidKinds := [.data, .data, .data], laidTests := true, laidLooks := .later }
def TableNilCardSaid : Prop := Claim7.holds Tryd.pinned (.plain (OpenSpec.ofChange tableNilSpec)) tableNilCard

/-- THE TIED CARD OF 'castingslaw11.TableFirst'. -/
def tableFirstCard : Claim7 := { stood := { row := tableFirstRow, standIns := [], harness := (true, "77a1b3696783a794086e67d7d57275e79712cf4b4016197512b4c72556008564"), looks := false }, kinds := [], alts := [], laidByText := true, laidKinds := [.data, .data, .data], laidTests := true, laidLooks := .later }
def TableFirstCardSaid : Prop := Claim7.holds Tryd.pinned (.plain (OpenSpec.ofChange tableFirstSpec)) tableFirstCard

/-- THE SECOND FORM's CARD OF 'castingslaw10.BindMatchesReference'. -/
def bindMatchesReferenceUptoCard : Claim7 := { stood := { row := bindMatchesReferenceUptoRow, standIns := [], harness := (true, "77a1b3696783a794086e67d7d57275e79712cf4b4016197512b4c72556008564"), looks := false }, kinds := [], alts := [], laidByText := true, laidKinds := [.data, .data, .data], laidTests := true, laidLooks := .later }
def BindMatchesReferenceUptoCardSaid : Prop := Claim7.holds Tryd.pinned (.plain (OpenSpec.upto bindMatchesReferenceSpec)) bindMatchesReferenceUptoCard

/-- THE SECOND FORM's CARD OF 'castingslaw10.BindSubstitutes'. -/
def bindSubstitutesUptoCard : Claim7 := { stood := { row := bindSubstitutesUptoRow, standIns := [], harness := (true, "77a1b3696783a794086e67d7d57275e79712cf4b4016197512b4c72556008564"), looks := false }, kinds := [], alts := [], laidByText := true, laidKinds := [.data, .data, .data], laidTests := true, laidLooks := .later }
def BindSubstitutesUptoCardSaid : Prop := Claim7.holds Tryd.pinned (.plain (OpenSpec.upto bindSubstitutesSpec)) bindSubstitutesUptoCard

/-- THE SECOND FORM's CARD OF 'castingslaw10.BindBounds'. -/
def bindBoundsUptoCard : Claim7 := { stood := { row := bindBoundsUptoRow, standIns := [], harness := (true, "77a1b3696783a794086e67d7d57275e79712cf4b4016197512b4c72556008564"), looks := false }, kinds := [], alts := [], laidByText := true, laidKinds := [.data, .data, .data], laidTests := true, laidLooks := .later }
def BindBoundsUptoCardSaid : Prop := Claim7.holds Tryd.pinned (.plain (OpenSpec.upto bindBoundsSpec)) bindBoundsUptoCard

/-- THE SECOND FORM's CARD OF 'castingslaw10.BindJoins'. -/
def bindJoinsUptoCard : Claim7 := { stood := { row := bindJoinsUptoRow, standIns := [], harness := (true, "77a1b3696783a794086e67d7d57275e79712cf4b4016197512b4c72556008564"), looks := false }, kinds := [], alts := [], laidByText := true, laidKinds := [.data, .data, .data], laidTests := true, laidLooks := .later }
def BindJoinsUptoCardSaid : Prop := Claim7.holds Tryd.pinned (.plain (OpenSpec.upto bindJoinsSpec)) bindJoinsUptoCard

/-- THE SECOND FORM's CARD OF 'castingslaw10.BindEquivalence'. -/
def bindEquivalenceUptoCard : Claim7 := { stood := { row := bindEquivalenceUptoRow, standIns := [], harness := (true, "77a1b3696783a794086e67d7d57275e79712cf4b4016197512b4c72556008564"), looks := false }, kinds := [], alts := [], laidByText := true, laidKinds := [.data, .data, .data], laidTests := true, laidLooks := .later }
def BindEquivalenceUptoCardSaid : Prop := Claim7.holds Tryd.pinned (.plain (OpenSpec.upto bindEquivalenceSpec)) bindEquivalenceUptoCard

/-- THE SECOND FORM's CARD OF 'castingslaw11.TableMatchesReference'. -/
def tableMatchesReferenceUptoCard : Claim7 := { stood := { row := tableMatchesReferenceUptoRow, standIns := [], harness := (true, "77a1b3696783a794086e67d7d57275e79712cf4b4016197512b4c72556008564"), looks := false }, kinds := [], alts := [], laidByText := true, laidKinds := [.data, .data, .data], laidTests := true, laidLooks := .later }
def TableMatchesReferenceUptoCardSaid : Prop := Claim7.holds Tryd.pinned (.plain (OpenSpec.upto tableMatchesReferenceSpec)) tableMatchesReferenceUptoCard

/-- THE SECOND FORM's CARD OF 'castingslaw11.TableMethods'. -/
def tableMethodsUptoCard : Claim7 := { stood := { row := tableMethodsUptoRow, standIns := [], harness := (true, "77a1b3696783a794086e67d7d57275e79712cf4b4016197512b4c72556008564"), looks := false }, kinds := [], alts := [], laidByText := true, laidKinds := [.data, .data, .data], laidTests := true, laidLooks := .later }
def TableMethodsUptoCardSaid : Prop := Claim7.holds Tryd.pinned (.plain (OpenSpec.upto tableMethodsSpec)) tableMethodsUptoCard

/-- THE SECOND FORM's CARD OF 'castingslaw11.TableKeeps'. -/
def tableKeepsUptoCard : Claim7 := { stood := { row := tableKeepsUptoRow, standIns := [], harness := (true, "77a1b3696783a794086e67d7d57275e79712cf4b4016197512b4c72556008564"), looks := false }, kinds := [], alts := [], laidByText := true, laidKinds := [.data, .data, .data], laidTests := true, laidLooks := .later }
def TableKeepsUptoCardSaid : Prop := Claim7.holds Tryd.pinned (.plain (OpenSpec.upto tableKeepsSpec)) tableKeepsUptoCard

/-- THE SECOND FORM's CARD OF 'castingslaw11.TableNil'. -/
def tableNilUptoCard : Claim7 := { stood := { row := tableNilUptoRow, standIns := [], harness := (true, "77a1b3696783a794086e67d7d57275e79712cf4b4016197512b4c72556008564"), looks := false }, kinds := [], alts := [], laidByText := true, laidKinds := [.data, .data, .data], laidTests := true, laidLooks := .later }
def TableNilUptoCardSaid : Prop := Claim7.holds Tryd.pinned (.plain (OpenSpec.upto tableNilSpec)) tableNilUptoCard

/-- THE SECOND FORM's CARD OF 'castingslaw11.TableFirst'. -/
def tableFirstUptoCard : Claim7 := { stood := { row := tableFirstUptoRow, standIns := [], harness := (true, "77a1b3696783a794086e67d7d57275e79712cf4b4016197512b4c72556008564"), looks := false }, kinds := [], alts := [], laidByText := true, laidKinds := [.data, .data, .data], laidTests := true, laidLooks := .later }
def TableFirstUptoCardSaid : Prop := Claim7.holds Tryd.pinned (.plain (OpenSpec.upto tableFirstSpec)) tableFirstUptoCard
end Rows
end Go.Proofs.YtkdlidakdknhjaaDoor
