/- The walks of types.Names, gather and Right. -/
import Derived.Test.YtkdlidakdknhjaaDoorTwA
import Derived.Test.YtkdlidakdknhjaaDoorTyK
import Derived.RangeFuncKeeps
import Derived.Test.YtkdlidakdknhjaaDoorNmR
namespace Go.Proofs.YtkdlidakdknhjaaDoor
open Go.RowKit

/-- What gather gives: the slice that came, with the names behind it; blocks from base on may have turned. -/
def GatherPost (w : World) (base : Nat) (l : List ByteArray) (e : Ending) (w' : World) : Prop :=
  ∃ v, e = .returned v ∧ w'.ownsRow base 9 1 v l.length (l.map boxS) ∧ Below base w w'

theorem own_alloc {w : World} {base n size : Nat} {e : TypeId} {v : Value} {xs : List Value} (h : w.ownsRow base e size v n xs) (o : Obj) : (w.alloc o).ownsRow base e size v n xs :=
  own_below h ((Below.refl _ _).alloc (Nat.le_refl _) o)

end Go.Proofs.YtkdlidakdknhjaaDoor
namespace Go.Proofs.YtkdlidakdknhjaaDoor
open Go.RowKit
attribute [local go_sem] Oper.semAt_some

/-- A slice of strings in a block below n. -/
structure SlB (n : Nat) (w : World) (A : Option Addr) (k : Nat) (ps : List ByteArray) : Prop where
  len : ps.length = k
  at_ : ∀ j p, ps[j]? = some p → ∃ a, A = some a ∧ a.block < n ∧ w.cell? (a.add j) = some (.string p)
theorem SlB.of {w : World} {A : Option Addr} {k : Nat} {ps : List ByteArray} (h : Sl w A k ps) : SlB w.heap.size w A k ps := ⟨h.len, h.at_⟩
theorem SlB.wide {n n' : Nat} {w : World} {A : Option Addr} {k : Nat} {ps : List ByteArray} (h : SlB n w A k ps) (hn : n ≤ n') : SlB n' w A k ps :=
  ⟨h.len, fun j p hj => let ⟨a, e, h1, h2⟩ := h.at_ j p hj; ⟨a, e, Nat.lt_of_lt_of_le h1 hn, h2⟩⟩
theorem SlB.later {n : Nat} {w w' : World} {A : Option Addr} {k : Nat} {ps : List ByteArray} (h : SlB n w A k ps) (hb : Below n w w') : SlB n w' A k ps :=
  ⟨h.len, fun j p hj => let ⟨a, e, h1, h2⟩ := h.at_ j p hj; ⟨a, e, h1, (hb.cell (by rw [block_of_add]; exact h1)).trans h2⟩⟩
theorem SlB.kept {n m : Nat} {w w' : World} {A : Option Addr} {k : Nat} {ps : List ByteArray} (h : SlB n w A k ps) (hk : Keep n m w w') : SlB n w' A k ps :=
  ⟨h.len, fun j p hj => let ⟨a, e, h1, h2⟩ := h.at_ j p hj; ⟨a, e, h1, (hk.2 _ _ (.inl (by rw [block_of_add]; exact h1)) h2).1⟩⟩
theorem take_snoc {ps : List ByteArray} {j : Nat} {s : ByteArray} (h : ps[j]? = some s) : ps.take (j + 1) = ps.take j ++ [s] := by rw [List.take_add_one, h]; rfl

end Go.Proofs.YtkdlidakdknhjaaDoor
namespace Go.Proofs.YtkdlidakdknhjaaDoor
open Go.RowKit
attribute [local go_sem] Oper.semAt_some

theorem keepsOthers_below {W W' : World} (h : Below W.heap.size W W') : KeepsOthers W W' := ⟨h.size, fun k _ ho _ => (h.block k (Array.getElem?_eq_some_iff.1 ho).1).trans ho⟩

theorem isB_stop {l pre : List ByteArray} (hp : pre <+: l) (h : ¬ ∀ s ∈ pre, Nm.isB s.data.toList = true) : (l.all fun s => Nm.isB s.data.toList) = false := by
  rw [Bool.eq_false_iff]
  intro ha
  exact h fun s hs => List.all_eq_true.1 ha s (hp.subset hs)

end Go.Proofs.YtkdlidakdknhjaaDoor
