/- What the package-level variables that the row lists give a walk, and that it lasts in every later world. No condition. -/
import Derived.Test.YtekkecpdnlbkjaaDoorRows
import Derived.Test.YtekkecpdnlbkjaaDoorPure
import Derived.WalkKit
import Derived.WalkSmall
import Derived.Lib.LaidTab
import Derived.Lib.ItoaNum
namespace Go.Proofs.YtekkecpdnlbkjaaDoor
open Go.RowKit

theorem gRes : Tryd.prog.globalNamed "castings/name.reserved" = some 0 := by kernel_rfl
theorem gPow : Tryd.prog.globalNamed "internal/strconv.uint64pow10" = some 4 := by kernel_rfl
theorem gSyn : Tryd.prog.globalNamed "strconv.ErrSyntax" = some 2 := by kernel_rfl
theorem gRng : Tryd.prog.globalNamed "strconv.ErrRange" = some 3 := by kernel_rfl

def resCells : Array Value := (Nm.words.map fun l => Value.string ⟨l.toArray⟩).toArray

structure Env (w : World) : Prop where
  res : w.var? Tryd.prog "castings/name.reserved" = some resCells
  tab : Lib.TabIs Tryd.prog w "internal/strconv.uint64pow10" .u64 Lib.pow10Tab
  syn : ∃ tp p, w.var? Tryd.prog "strconv.ErrSyntax" = some #[.iface tp p]
  rng : ∃ tp p, w.var? Tryd.prog "strconv.ErrRange" = some #[.iface tp p]

theorem var_lt {w : World} {n : String} {g : Nat} {cs : Array Value} (hg : Tryd.prog.globalNamed n = some g) (h : w.var? Tryd.prog n = some cs) : g < w.heap.size := by
  unfold World.var? at h
  rw [hg] at h
  simp only [Option.bind_some] at h
  rcases Nat.lt_or_ge g w.heap.size with h1 | h1
  · exact h1
  · rw [Array.getElem?_eq_none h1] at h
    cases h

theorem Env.later {w w' : World} (h : Env w) (hb : Below w.heap.size w w') : Env w' := by
  obtain ⟨t1, p1, h1⟩ := h.syn
  obtain ⟨t2, p2, h2⟩ := h.rng
  exact ⟨var?_below hb gRes (var_lt gRes h.res) h.res, var?_below hb gPow (var_lt gPow h.tab) h.tab,
    ⟨t1, p1, var?_below hb gSyn (var_lt gSyn h1) h1⟩, ⟨t2, p2, var?_below hb gRng (var_lt gRng h2) h2⟩⟩

/-- The block of the table of words. -/
theorem Env.block {w : World} (h : Env w) : ∃ t fr, w.heap[0]? = some (.cells resCells t fr) := by
  have h0 := h.res
  unfold World.var? at h0
  rw [gRes] at h0
  simp only [Option.bind_some] at h0
  cases hh : w.heap[0]? with
  | none => rw [hh] at h0; cases h0
  | some o =>
    rw [hh] at h0
    cases o with
    | cells cs t fr => simp only [Option.some.injEq] at h0; exact ⟨t, fr, by rw [h0]⟩
    | _ => cases h0

end Go.Proofs.YtekkecpdnlbkjaaDoor
