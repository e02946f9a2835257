/- The walks of the reference's Text, Depth, List and Right of types. -/
import Derived.Test.YtkdlidakdknhjaaDoorTyC
import Derived.Lib.SmallJoins
import Derived.Test.YtkdlidakdknhjaaDoorNmR
namespace Go.Proofs.YtkdlidakdknhjaaDoor
open Go.RowKit

theorem textL_snoc : ∀ (r : List Ty) (x : Ty), Ty.textL (r ++ [x]) = Ty.textL r ++ [44, 32] ++ Ty.text x
  | [], x => by simp [Ty.textL]
  | a :: r, x => by
    have := textL_snoc r x
    simp only [List.cons_append, Ty.textL, this, List.append_assoc]
/-- The text of a type whose last arguments are not yet there. -/
def pre (s : List UInt8) : List Ty → List UInt8
  | [] => s
  | a :: r => s ++ [91] ++ Ty.text a ++ Ty.textL r
theorem pre_step (s : List UInt8) {xs : List Ty} {k : Nat} {x : Ty} (hx : xs[k]? = some x) : pre s (xs.take (k + 1)) = pre s (xs.take k) ++ (if k = 0 then [91] else [44, 32]) ++ Ty.text x := by
  rw [List.take_add_one, hx]
  cases xs with
  | nil => simp at hx
  | cons a r =>
    cases k with
    | zero =>
      obtain rfl : a = x := by simpa using hx
      simp [pre, Ty.textL]
    | succ k =>
      simp only [List.take_succ_cons, Option.toList_some, List.cons_append, pre, textL_snoc, if_neg (Nat.succ_ne_zero k), List.append_assoc]
theorem pre_all (s : ByteArray) (xs : List Ty) (o : Int) : Ty.text (.mk s xs o) = if xs.length = 0 then pre s.data.toList xs else pre s.data.toList xs ++ [93] := by
  cases xs with
  | nil => simp only [Ty.text, pre, List.length_nil, if_true]
  | cons a r => simp [Ty.text, pre]
theorem textL_le : ∀ (r q : List Ty), (Ty.textL r).length ≤ (Ty.textL (r ++ q)).length
  | [], _ => by simp [Ty.textL]
  | a :: r, q => by
    have := textL_le r q
    simp only [List.cons_append, Ty.textL, List.length_append, List.length_cons]
    omega
theorem pre_le (s : List UInt8) (xs : List Ty) (k : Nat) : (pre s (xs.take k)).length ≤ (pre s xs).length := by
  cases xs with
  | nil => simp
  | cons a r =>
    cases k with
    | zero => simp [pre]
    | succ k =>
      have := textL_le (r.take k) (r.drop k)
      rw [List.take_append_drop] at this
      simp only [List.take_succ_cons, pre, List.length_append]
      omega
theorem text_pre (s : ByteArray) (xs : List Ty) (o : Int) : (pre s.data.toList xs).length ≤ (Ty.text (.mk s xs o)).length := by
  rw [pre_all]
  split <;> simp

def TxtPost (w : World) (l : List UInt8) (e : Ending) (w' : World) : Prop := e = .returned (.string ⟨l.toArray⟩) ∧ Below w.heap.size w w'

/-! ### the depth -/
theorem depthL_snoc : ∀ (r : List Ty) (x : Ty), Ty.depthL (r ++ [x]) = max (Ty.depthL r) (x.depth + 1)
  | [], x => by simp [Ty.depthL]
  | a :: r, x => by
    have := depthL_snoc r x
    simp only [List.cons_append, Ty.depthL, this]
    omega
theorem depthL_le : ∀ (r q : List Ty), Ty.depthL r ≤ Ty.depthL (r ++ q)
  | [], _ => by simp [Ty.depthL]
  | a :: r, q => by
    have := depthL_le r q
    simp only [List.cons_append, Ty.depthL]
    omega
theorem depthL_take (xs : List Ty) (k : Nat) : Ty.depthL (xs.take k) ≤ Ty.depthL xs := by
  have := depthL_le (xs.take k) (xs.drop k)
  rwa [List.take_append_drop] at this

def NatPost (w : World) (n : Nat) (e : Ending) (w' : World) : Prop := e = .returned (.int .i64 n) ∧ Below w.heap.size w w'

end Go.Proofs.YtkdlidakdknhjaaDoor
namespace Go.Proofs.YtkdlidakdknhjaaDoor
open Go.RowKit

theorem listL_snoc : ∀ (r : List Ty) (x : Ty), Ty.listL (r ++ [x]) = Ty.listL r ++ x.list
  | [], x => by simp [Ty.listL]
  | a :: r, x => by
    have := listL_snoc r x
    simp only [List.cons_append, Ty.listL, this, List.append_assoc]
theorem listL_step {xs : List Ty} {k : Nat} {x : Ty} (hx : xs[k]? = some x) : Ty.listL (xs.take (k + 1)) = Ty.listL (xs.take k) ++ x.list := by
  rw [List.take_add_one, hx]
  exact listL_snoc _ _
theorem listL_le : ∀ (r q : List Ty), (Ty.listL r).length ≤ (Ty.listL (r ++ q)).length
  | [], _ => by simp [Ty.listL]
  | a :: r, q => by
    have := listL_le r q
    simp only [List.cons_append, Ty.listL, List.length_append]
    omega
theorem listL_take (xs : List Ty) (k : Nat) : (Ty.listL (xs.take k)).length ≤ (Ty.listL xs).length := by
  have := listL_le (xs.take k) (xs.drop k)
  rwa [List.take_append_drop] at this

/-- A list of strings that the call has made. -/
def ListPost (w : World) (l : List ByteArray) (e : Ending) (w' : World) : Prop :=
  ∃ g cap, e = .returned (.slice (some ⟨g, 0, none⟩) l.length cap) ∧ w'.ownsRow w.heap.size 9 1 (.slice (some ⟨g, 0, none⟩) l.length cap) l.length (l.map boxS) ∧ Below w.heap.size w w'

theorem one_string (s : ByteArray) : ([s].map boxS) = (#[Value.string s] : Array Value).toList := rfl

/-! ### right types -/
theorem all_on {l : List ByteArray} {k : Nat} {s : ByteArray} (hs : l[k]? = some s) : (l.drop k).all (fun s => Nm.isB s.data.toList) = (Nm.isB s.data.toList && (l.drop (k + 1)).all fun s => Nm.isB s.data.toList) := by
  obtain ⟨h1, e1⟩ := List.getElem?_eq_some_iff.1 hs
  rw [List.drop_eq_getElem_cons h1, e1, List.all_cons]

end Go.Proofs.YtkdlidakdknhjaaDoor
