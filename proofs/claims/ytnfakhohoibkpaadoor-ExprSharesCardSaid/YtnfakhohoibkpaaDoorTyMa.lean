/- Blocks that are known whole. No condition. -/
import Derived.Test.YtnfakhohoibkpaaDoorTyL
namespace Go.Proofs.YtnfakhohoibkpaaDoor
open Go.RowKit

theorem heap_old {w : World} {o x : Obj} {k : Nat} (h : w.heap[k]? = some x) : (w.alloc o).heap[k]? = some x := (Below.heap_alloc w o k (Array.getElem?_eq_some_iff.1 h).1).trans h
theorem heap_new_at {w : World} {o : Obj} {n : Nat} (h : w.heap.size = n) : (w.alloc o).heap[n]? = some o := by subst h; exact heap_alloc_new w o
/-- A block of types that is known whole. -/
theorem lies_of_row {w : World} {S : Nat → Prop} {g n : Nat} {cs : Array Value} {T : TypeId} {ts : List Ty} (hg : w.heap[g]? = some (.cells cs T)) (hS : S g) (hn : ts.length = n) (hn2 : n ≤ 9223372036854775807)
    (hr : RowsOf w False S cs.toList ts) : Lies w S (some ⟨g, 0, none⟩) n ts := by
  refine ⟨hn, hn2, ArgsIn.of fun k t hk => ?_⟩
  obtain ⟨B, d, c0, c1, c2, hsz, hl⟩ := hr.at hk
  have hcell : ∀ i u, cs.toList[i]? = some u → w.cell? ⟨g, i, none⟩ = some u := fun i u hu => by
    rw [cell_of_row w g i cs T (0, 0) hg]
    simpa using hu
  have ha : (⟨g, 0, none⟩ : Addr).add (k * 3) = ⟨g, k * 3, none⟩ := by unfold Addr.add; split <;> simp_all
  cases t with
  | mk s ys o =>
    rw [Nat.zero_add, TyCells]
    refine ⟨⟨g, 0, none⟩, B, d, rfl, hS, False.elim, ?_, ?_, ?_, hsz, hl.le, hl.args⟩
    · rw [ha]; exact hcell _ _ c0
    · rw [ha]; exact hcell _ _ c1
    · rw [ha]; exact hcell _ _ c2
end Go.Proofs.YtnfakhohoibkpaaDoor
