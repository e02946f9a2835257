/- An expression that a call has made. No condition. -/
import Derived.Test.YtkdlidakdknhjaaDoorExG
import Derived.Test.YtkdlidakdknhjaaDoorTyH
namespace Go.Proofs.YtkdlidakdknhjaaDoor
open Go.RowKit

/-- An expression that the call has made, in blocks that may be written. -/
def XNeat (w : World) (x : Ex) (e : Ending) (w' : World) : Prop := ∃ us, e = .returned (.agg us.toArray) ∧ x.dat.In w' True (Fresh w w') us ∧ Below w.heap.size w w'
/-- An expression that the call has made. -/
def XPost (w : World) (x : Ex) (e : Ending) (w' : World) : Prop := ∃ us, e = .returned (.agg us.toArray) ∧ x.dat.In w' False (Fresh w w') us ∧ Below w.heap.size w w'
theorem XNeat.post {w : World} {x : Ex} {e : Ending} {w' : World} (h : XNeat w x e w') : XPost w x e w' := let ⟨us, h1, h2, h3⟩ := h; ⟨us, h1, h2.plain, h3⟩
theorem XNeat.from {wr V : World} {x : Ex} {e : Ending} {w' : World} (hV : Below wr.heap.size wr V) (h : XNeat V x e w') : XNeat wr x e w' :=
  let ⟨us, h1, h2, h3⟩ := h; ⟨us, h1, h2.wide fun _ hb => ⟨Nat.le_trans hV.size hb.1, hb.2⟩, hV.trans (h3.mono hV.size)⟩
theorem XPost.from {wr V : World} {x : Ex} {e : Ending} {w' : World} (hV : Below wr.heap.size wr V) (h : XPost V x e w') : XPost wr x e w' :=
  let ⟨us, h1, h2, h3⟩ := h; ⟨us, h1, h2.wide fun _ hb => ⟨Nat.le_trans hV.size hb.1, hb.2⟩, hV.trans (h3.mono hV.size)⟩
end Go.Proofs.YtkdlidakdknhjaaDoor
