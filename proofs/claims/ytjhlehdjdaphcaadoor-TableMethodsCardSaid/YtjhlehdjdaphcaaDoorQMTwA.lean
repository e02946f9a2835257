/- The walks of types.Compare, Same, Depth and Size. -/
import Derived.Test.YtjhlehdjdaphcaaDoorQMExA
import Derived.Test.YtjhlehdjdaphcaaDoorShelf
import Derived.BigQuiet
import Derived.Deep.QuietTactic
import Derived.Deep.RegionHeld3
import Derived.Deep.RegionLaw
import Derived.Lib.LaidTab
import Derived.Lib.SmallJoins
import Derived.WalkLawsBesides
import Derived.WalkSpells
namespace Go.Proofs.YtjhlehdjdaphcaaDoor
open Go.RowKit

/-- Two types boxed one behind the other. -/
theorem box_pair (w : World) (s r : ByteArray) (A B : Option Addr) (m l c d : Nat) (o p : Int) (T : TypeId) :
    Below w.heap.size w ((w.alloc (.cells #[.string s, .slice A m c, .int .i64 o] T)).alloc (.cells #[.string r, .slice B l d, .int .i64 p] T))
      ∧ Box ((w.alloc (.cells #[.string s, .slice A m c, .int .i64 o] T)).alloc (.cells #[.string r, .slice B l d, .int .i64 p] T)) w.heap.size s A m c o
      ∧ Box ((w.alloc (.cells #[.string s, .slice A m c, .int .i64 o] T)).alloc (.cells #[.string r, .slice B l d, .int .i64 p] T)) (w.heap.size + 1) r B l d p := by
  refine ⟨((Below.refl _ _).alloc (Nat.le_refl _) _).alloc (by simp) _, (Box.new w s A m c o T).later ((Below.refl _ _).alloc (Nat.le_refl _) _), ?_⟩
  have h := Box.new (w.alloc (.cells #[.string s, .slice A m c, .int .i64 o] T)) r B l d p T
  rwa [show (w.alloc (.cells #[.string s, .slice A m c, .int .i64 o] T)).heap.size = w.heap.size + 1 by simp] at h

/-- An element of a slice, as the next block leaves it. -/
theorem elem_later {w : World} {a : Addr} {u : Value} (h : w.cell? a = some u) (o : Obj) : (w.alloc o).cell? a = some u :=
  (((Below.refl _ _).alloc (Nat.le_refl _) o : Below w.heap.size w (w.alloc o)).cell (cell_lt h)).trans h

end Go.Proofs.YtjhlehdjdaphcaaDoor
namespace Go.Proofs.YtjhlehdjdaphcaaDoor
open Go.RowKit

end Go.Proofs.YtjhlehdjdaphcaaDoor
namespace Go.Proofs.YtjhlehdjdaphcaaDoor
open Go.RowKit

end Go.Proofs.YtjhlehdjdaphcaaDoor
