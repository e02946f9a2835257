/- What the package-level variables that the row lists give a walk, and that it lasts in every later world. No condition. -/
import Derived.Test.YtioamnaknjhbpaaDoorBs
import Derived.Test.YtioamnaknjhbpaaDoorPure
import Derived.WalkKit
import Derived.WalkSmall
import Derived.Lib.LaidTab
import Derived.Lib.ItoaNum
namespace Go.Proofs.YtioamnaknjhbpaaDoor
open Go.RowKit

theorem gRes : Tryd.prog.globalNamed "castings/name.reserved" = some 0 := by kernel_rfl

def resCells : Array Value := (Nm.words.map fun l => Value.string ⟨l.toArray⟩).toArray

def ResVar (w : World) : Prop := w.var? Tryd.prog "castings/name.reserved" = some resCells

theorem var_lt {w : World} {n : String} {g : Nat} {cs : Array Value} (hg : Tryd.prog.globalNamed n = some g) (h : w.var? Tryd.prog n = some cs) : g < w.heap.size := by
  unfold World.var? at h
  rw [hg] at h
  simp only [Option.bind_some] at h
  rcases Nat.lt_or_ge g w.heap.size with h1 | h1
  · exact h1
  · rw [Array.getElem?_eq_none h1] at h
    cases h

theorem ResVar.later {w w' : World} (h : ResVar w) (hb : Below w.heap.size w w') : ResVar w' := var?_below hb gRes (var_lt gRes h) h

/-- The block of the table of words. -/
theorem ResVar.block {w : World} (h : ResVar w) : ∃ t fr, w.heap[0]? = some (.cells resCells t fr) := by
  have h0 := h
  unfold ResVar World.var? at h0
  rw [gRes] at h0
  simp only [Option.bind_some] at h0
  cases hh : w.heap[0]? with
  | none => rw [hh] at h0; cases h0
  | some o =>
    rw [hh] at h0
    cases o with
    | cells cs t fr => simp only [Option.some.injEq] at h0; exact ⟨t, fr, by rw [h0]⟩
    | _ => cases h0

end Go.Proofs.YtioamnaknjhbpaaDoor
