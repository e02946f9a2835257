/- The walks of expr.Same, expr.Depth and what they call. -/
import Derived.Test.YtkdlidakdknhjaaDoorExG
import Derived.Test.YtkdlidakdknhjaaDoorTwA
namespace Go.Proofs.YtkdlidakdknhjaaDoor
open Go.RowKit

theorem sameT_cmpL : ∀ (xs ys : List Ty), Ex.sameT xs ys = (Ty.cmpL xs ys == 0)
  | [], [] => by simp [Ex.sameT, Ty.cmpL]
  | _ :: _, [] => by simp [Ex.sameT, Ty.cmpL]
  | [], _ :: _ => by simp [Ex.sameT, Ty.cmpL]
  | x :: xs, y :: ys => by
    rw [Ex.sameT, Ty.cmpL, sameT_cmpL xs ys]
    by_cases h : Ty.cmp x y = 0
    · rw [if_pos h]; simp [h]
    · rw [if_neg h]
      have : (Ty.cmp x y == 0) = false := by simpa using h
      rw [this]; rfl

theorem CellsAt.later {w w' : World} {p : Addr} {us : List Value} (h : CellsAt w p us) (hb : Below w.heap.size w w') : CellsAt w' p us := fun j u hu => (hb.cell (cell_lt (h j u hu))).trans (h j u hu)
theorem CellsAt.alloc {w : World} {p : Addr} {us : List Value} (h : CellsAt w p us) (o : Obj) : CellsAt (w.alloc o) p us := h.later ((Below.refl _ _).alloc (Nat.le_refl _) o)

end Go.Proofs.YtkdlidakdknhjaaDoor
