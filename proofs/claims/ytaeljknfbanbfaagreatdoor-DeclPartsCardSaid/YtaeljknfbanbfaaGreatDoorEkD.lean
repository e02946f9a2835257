/- The walk of expr.Value: a range over the parts. No condition. -/
import Derived.Test.YtaeljknfbanbfaaGreatDoorEkC
import Derived.RangeFuncNested
namespace Go.Proofs.YtaeljknfbanbfaaGreatDoor
open Go.RowKit
attribute [local go_sem] Oper.semAt_some

theorem xlistL_all (p : Ex → Bool) : ∀ xs : List Ex, (Ex.listL xs).all p = xs.all (fun x => x.list.all p)
  | [] => by simp [Ex.listL]
  | a :: xs => by rw [Ex.listL, List.all_append, xlistL_all p xs, List.all_cons]
def isLit (x : Ex) : Bool := x.kind == 3
theorem value_list : ∀ e : Ex, e.value = e.list.all isLit := by
  refine Ex.ind fun k s t ts xs o ih => ?_
  rw [Ex.value, Ex.list, List.all_cons, xlistL_all, Ex.valueL_all]
  have : xs.all Ex.value = xs.all (fun x => x.list.all isLit) := by
    clear o
    induction xs with
    | nil => rfl
    | cons a r ih2 => rw [List.all_cons, List.all_cons, ih a (by simp), ih2 (fun e he => ih e (by simp [he]))]
  rw [this, Bool.and_comm]
  rfl
/-- What a round of a loop over parts begins with: the part lies in a box of its own. -/
def BoxAx {w0 : World} {n : Nat} (mk : Addr → Part w0 n → Act) (x : Part w0 n) (a' : Act) (W : World) : Prop := ∃ B, a' = mk ⟨B, 0, none⟩ x ∧ Boxd W B x.1.2
theorem boxAx_own {w0 : World} {n B : Nat} (mk : Addr → Part w0 n → Act) (x : Part w0 n) (a' : Act) : OwnFrom B (fun (_ : Unit) W => BoxAx mk x a' W) := fun _ X Y row hs hg hr => by
  obtain ⟨b, e, h⟩ := hs
  exact ⟨b, e, fun j u hu => cell_kept (h j u hu) hg (fun r e => (hr r e).2)⟩
/-- All of these parts meet p. -/
def AllP {w0 : World} {n : Nat} (p : Ex → Bool) (q : List (Part w0 n)) : Prop := ∀ x ∈ q, p x.ex = true
theorem AllP.nil {w0 : World} {n : Nat} (p : Ex → Bool) : AllP p ([] : List (Part w0 n)) := fun _ h => by cases h
theorem AllP.snoc {w0 : World} {n : Nat} {p : Ex → Bool} {q : List (Part w0 n)} {x : Part w0 n} (h : AllP p q) (hx : p x.ex = true) : AllP p (q ++ [x]) := fun y hy => by
  rcases List.mem_append.1 hy with hy | hy
  · exact h y hy
  · rw [List.mem_singleton.1 hy]; exact hx
theorem AllP.last {w0 : World} {n : Nat} {p : Ex → Bool} {q : List (Part w0 n)} {x : Part w0 n} (h : AllP p (q ++ [x])) : p x.ex = true := h x (by simp)
theorem all_parts {w0 : World} {n : Nat} {p : Ex → Bool} {q : List (Part w0 n)} {l : List Ex} (hq : q.map Part.ex = l) (h : AllP p q) : l.all p = true := by
  rw [← hq, List.all_map]
  exact List.all_eq_true.2 h
theorem not_parts {w0 : World} {n : Nat} {p : Ex → Bool} {q : List (Part w0 n)} {l : List Ex} (hq : q.map Part.ex <+: l) (h : ¬ AllP p q) : l.all p = false := by
  rw [Bool.eq_false_iff]
  intro ha
  exact h fun s hs => List.all_eq_true.1 ha s.ex (hq.subset (List.mem_map_of_mem hs))

/-- The first two blocks of a function that takes an expression and gives a bool in a cell. -/
theorem box_bool {w : World} {e : Ex} {us : List Value} (h : e.dat.H w us) :
    OneX w ((w.alloc (.cells us.toArray 33)).alloc (.cells #[.bool false] 4)) e us ∧ ((w.alloc (.cells us.toArray 33)).alloc (.cells #[.bool false] 4)).heap[w.heap.size + 1]? = some (.cells #[.bool false] 4) :=
  ⟨(OneX.new h 33).later ((Below.refl _ _).alloc (Nat.le_refl _) _), heap_alloc_two _ _ _⟩

end Go.Proofs.YtaeljknfbanbfaaGreatDoor
