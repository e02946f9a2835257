/- What the laws and types.Right ask of types.Names: an iterator that yields the names, in whatever world behind its making. No condition. -/
import Derived.Test.YtkdlidakdknhjaaDoorTyL
import Derived.RangeFuncNested
import Derived.RangeFuncBound
import Derived.RangeFuncCalls
import Derived.RangeFuncLeaves
import Derived.RangeFuncFrom
import Derived.Shelf.Abstract
import Derived.Shelf.RegionOpen
import Derived.WalkKit
import Derived.OwnWalkIn
import Derived.TacticsInMore
import Derived.LoopNIn
import Derived.LoopIn
namespace Go.Proofs.YtkdlidakdknhjaaDoor
open Go.RowKit

/-- What a round keeps: every cell but those of the blocks from n to m. -/
def Keep (n m : Nat) (W W' : World) : Prop := W.heap.size ≤ W'.heap.size ∧ ∀ p v, (p.block < n ∨ m ≤ p.block) → W.cell? p = some v → W'.cell? p = some v ∧ W'.frozen? p = W.frozen? p
theorem Keep.refl (n m : Nat) (W : World) : Keep n m W W := ⟨Nat.le_refl _, fun _ _ _ h => ⟨h, rfl⟩⟩
theorem Keep.trans {n m : Nat} {A B C : World} (h : Keep n m A B) (k : Keep n m B C) : Keep n m A C :=
  ⟨Nat.le_trans h.1 k.1, fun p v hp hv => by obtain ⟨h1, h2⟩ := h.2 p v hp hv; obtain ⟨h3, h4⟩ := k.2 p v hp h1; exact ⟨h3, h4.trans h2⟩⟩
theorem Keep.put {n m : Nat} (W : World) (l : Nat) (o o' : Obj) (h : W.heap[l]? = some o) (hc : o.isCells = false) : Keep n m W (W.putObj l o') :=
  ⟨(grownBy_putObj' W l o').size, fun _ _ _ hv => ⟨cell_kept hv (grownBy_putObj' W l o') (fun r e => by cases e; exact ⟨o, h, hc⟩), frozen_kept hv (grownBy_putObj' W l o') (fun r e => by cases e; exact ⟨o, h, hc⟩)⟩⟩
theorem Keep.set {n m : Nat} (W : World) (b i : Nat) (u : Value) (h : n ≤ b) (h2 : b < m) : Keep n m W (W.setCell ⟨b, i, none⟩ u) :=
  ⟨by simp [World.setCell], fun p v hp hv => ⟨(World.cell?_setCell_other _ _ _ _ (by rintro rfl; simp only at hp; omega)).trans hv, World.frozen?_setCell _ _ _ _⟩⟩
theorem Keep.of_below {n m : Nat} {W W' : World} (h : Below W.heap.size W W') : Keep n m W W' :=
  ⟨h.size, fun _ _ _ hv => ⟨(h.cell (cell_lt hv)).trans hv, h.frozen (cell_lt hv)⟩⟩

/-- What Names gives: a function over which a range takes the names, in their order; a round may write what the caller has made since. -/
def NamesPost (w : World) (l : List ByteArray) (e : Ending) (w' : World) : Prop := ∃ g lb, e = .returned (.func (.func g) #[] lb) ∧ Below w.heap.size w w' ∧
  (∀ args W, (callFunc g args).run Tryd.prog W = .ok (.enter g args) W) ∧
  ∀ n w2, 1 ≤ n → Below w'.heap.size w' w2 → SeqStopsK Fence.wide n Tryd.prog g lb (fun s : ByteArray => #[.string s]) (Keep w'.heap.size w2.heap.size) (fun xs => xs = l) (fun pre => pre <+: l) l.length w2
theorem NamesPost.fn {w : World} {l : List ByteArray} {e : Ending} {w' : World} (h : NamesPost w l e w') : FnPost w e w' := let ⟨_, _, h1, h2, _⟩ := h; ⟨_, _, _, h1, h2⟩
end Go.Proofs.YtkdlidakdknhjaaDoor
