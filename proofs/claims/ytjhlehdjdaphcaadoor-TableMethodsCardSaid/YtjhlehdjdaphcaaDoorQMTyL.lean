/- What the walks of the laws of layer 4 ask of package types: the contract of each of its functions, as one statement; the laws' look at fixed examples. No condition. -/
import Derived.Test.YtjhlehdjdaphcaaDoorRows
import Derived.Test.YtjhlehdjdaphcaaDoorShelf
import Derived.Below
import Derived.BigQuiet
import Derived.Deep.AppendLies
import Derived.Deep.QuietTactic
import Derived.Deep.RegionHeld3
import Derived.Deep.RegionLaw
import Derived.LaidEql
import Derived.Laws.AppendOwn
import Derived.Laws.NewBlocks
import Derived.Laws.OwnMore
import Derived.Laws.Rows
import Derived.Lib.Bytealg
import Derived.Lib.Hide
import Derived.Lib.LaidTab
import Derived.Lib.SmallJoins
import Derived.Lib.TrimUEq
import Derived.Outline
import Derived.OwnWalk
import Derived.RowKitTokens
import Derived.Shelf.GgClosure.StringsIndexFunc
import Derived.WalkKit
import Derived.WalkLawsBesides
import Derived.WalkSmall
import Derived.WalkSpells
namespace Go.Proofs.YtjhlehdjdaphcaaDoor
open Go.RowKit

/-- A function value that is not nil. -/
def FnPost (w : World) (e : Ending) (w' : World) : Prop := ∃ fn ts cb, e = .returned (.func fn ts cb) ∧ Below w.heap.size w w'

/-- Names that a slice may hold: it is no longer than its array, and a name's length is an int. -/
def Fits (ns : List ByteArray) (nl nc : Nat) : Prop := nl ≤ nc ∧ ∀ s ∈ ns, s.size ≤ 9223372036854775807
/-! ### the examples -/
end Go.Proofs.YtjhlehdjdaphcaaDoor
