/- The walks of the reference's Value, Depth and Right of expressions.
The walk of the reference's Right of expressions. The condition: the expression has few parts. -/
import Derived.Test.YtjhlehdjdaphcaaDoorQMExE
namespace Go.Proofs.YtjhlehdjdaphcaaDoor
open Go.RowKit

/-- A boxed expression, and all that it leads to. -/
structure OneX (w0 W : World) (e : Ex) (us : List Value) : Prop where
  bel : Below w0.heap.size w0 W
  one : Boxd W w0.heap.size us
  da : e.dat.H W us
theorem OneX.new {w : World} {e : Ex} {us : List Value} (h : e.dat.H w us) (T : TypeId) : OneX w (w.alloc (.cells us.toArray T)) e us :=
  have hb : Below w.heap.size w (w.alloc (.cells us.toArray T)) := (Below.refl _ _).alloc (Nat.le_refl _) _
  ⟨hb, Boxd.new w us.toArray T, Dat.H.later h hb⟩
theorem OneX.later {w0 W W' : World} {e : Ex} {us : List Value} (h : OneX w0 W e us) (hb : Below W.heap.size W W') : OneX w0 W' e us :=
  ⟨h.bel.trans (hb.mono h.bel.size), h.one.later hb, Dat.H.later h.da hb⟩

end Go.Proofs.YtjhlehdjdaphcaaDoor
namespace Go.Proofs.YtjhlehdjdaphcaaDoor
open Go.RowKit

theorem ty_few {t : Ty} (h : Ty.wt t ≤ 1990) : t.Small := Ty.small_of_wt h
end Go.Proofs.YtjhlehdjdaphcaaDoor
