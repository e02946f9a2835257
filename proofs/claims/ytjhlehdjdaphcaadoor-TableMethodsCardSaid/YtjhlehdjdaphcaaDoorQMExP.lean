/- An expression that a call has made. No condition. -/
import Derived.Test.YtjhlehdjdaphcaaDoorQMExB
import Derived.Test.YtjhlehdjdaphcaaDoorShelf
import Derived.BigQuiet
import Derived.Deep.QuietTactic
import Derived.Deep.RegionHeld3
import Derived.Deep.RegionLaw
import Derived.Lib.LaidTab
import Derived.Lib.SmallJoins
import Derived.StillTailTactics
import Derived.WalkLawsBesides
import Derived.WalkSpells
namespace Go.Proofs.YtjhlehdjdaphcaaDoor
open Go.RowKit

/-- An expression that the call has made. -/
def XPost (w : World) (x : Ex) (e : Ending) (w' : World) : Prop := ∃ us, e = .returned (.agg us.toArray) ∧ x.dat.In w' False (Fresh w w') us ∧ Below w.heap.size w w'
end Go.Proofs.YtjhlehdjdaphcaaDoor
