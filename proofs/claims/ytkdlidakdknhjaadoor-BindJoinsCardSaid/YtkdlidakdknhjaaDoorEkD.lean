/- The walks of expr.visit and expr.parts: an iterator over an expression and its kids, by a helper that calls itself and hands yield on. No condition.
The walk of expr.Value: a range over the parts. No condition. -/
import Derived.Test.YtkdlidakdknhjaaDoorExG
import Derived.Test.YtkdlidakdknhjaaDoorTyK
import Derived.Test.YtkdlidakdknhjaaDoorTwD
import Derived.RangeFuncKeeps
import Derived.RangeFuncNested
namespace Go.Proofs.YtkdlidakdknhjaaDoor
open Go.RowKit
attribute [local go_sem] Oper.semAt_some

theorem room_of_none {F : Fence} (hd : F.depth = none) (k : Nat) : F.room k := fun d h => by rw [hd] at h; cases h
theorem RoundIn.anyDepth {F : Fence} (hd : F.depth = none) {m m' : Nat} {P : Program} {l : Nat} {f : FuncId} {tmps : Array Value} {assign body : Code} {w : World} {R : Ending → World → Prop}
    (h : RoundIn F m P l f tmps assign body w R) : RoundIn F m' P l f tmps assign body w R := ⟨h.1, fun c cs _ => h.2 c cs (room_of_none hd _)⟩
theorem YieldAt.anyDepth {F : Fence} (hd : F.depth = none) {m : Nat} (m' : Nat) {P : Program} {l : Nat} {args : Array Value} {W : World} {R : Ending → World → Prop} (h : YieldAt F m P l args W R) : YieldAt F m' P l args W R := by
  obtain ⟨fn, tmps, assign, body, hy, hR⟩ := h
  exact ⟨fn, tmps, assign, body, hy, RoundIn.anyDepth hd hR⟩

/-! ### data last where the cells that are there last -/
def Lasts (w w' : World) (S : Nat → Prop) : Prop := ∀ (p : Addr) (v : Value), S p.block → w.cell? p = some v → w'.cell? p = some v
theorem Keep.lasts {n m : Nat} {w w' : World} (h : Keep n m w w') : Lasts w w' (· < n) := fun p v hp hv => (h.2 p v (.inl hp) hv).1
mutual
theorem Dat.In.last {w w' : World} {S : Nat → Prop} (hk : Lasts w w' S) : ∀ (d : Dat) (us : List Value), d.In w False S us → d.In w' False S us
  | .cell v, us, h => by rw [Dat.In] at h ⊢; exact h
  | .str s, us, h => by rw [Dat.In] at h ⊢; exact h
  | .tup fs, us, h => by rw [Dat.In] at h ⊢; exact Dat.Ins.last hk fs us h
  | .arr q z xs, us, h => by
    rw [Dat.In] at h ⊢
    obtain ⟨A, c, h1, h2, hq, h3⟩ := h
    exact ⟨A, c, h1, h2, hq, Dat.Elems.last hk z A xs 0 h3⟩
theorem Dat.Ins.last {w w' : World} {S : Nat → Prop} (hk : Lasts w w' S) : ∀ (ds : List Dat) (us : List Value), Dat.Ins w False S ds us → Dat.Ins w' False S ds us
  | [], us, h => by rw [Dat.Ins] at h ⊢; exact h
  | d :: r, us, h => by
    rw [Dat.Ins] at h ⊢
    obtain ⟨u1, u2, h1, h2, h3⟩ := h
    exact ⟨u1, u2, h1, Dat.In.last hk d u1 h2, Dat.Ins.last hk r u2 h3⟩
theorem Dat.Elems.last {w w' : World} {S : Nat → Prop} (hk : Lasts w w' S) (z : Nat) (A : Option Addr) : ∀ (ds : List Dat) (i : Nat), Dat.Elems w False S z A i ds → Dat.Elems w' False S z A i ds
  | [], i, h => by rw [Dat.Elems]; trivial
  | d :: r, i, h => by
    rw [Dat.Elems] at h ⊢
    obtain ⟨⟨a, us, e, h1, h2, h3, h4⟩, h5⟩ := h
    exact ⟨⟨a, us, e, h1, False.elim, Dat.In.last hk d us h3, fun j u hu => hk _ _ (by rw [block_of_add, block_of_add]; exact h1) (h4 j u hu)⟩, Dat.Elems.last hk z A r (i + 1) h5⟩
end
theorem CellsAt.last {w w' : World} {S : Nat → Prop} {p : Addr} {us : List Value} (h : CellsAt w p us) (hk : Lasts w w' S) (hp : S p.block) : CellsAt w' p us := fun j u hu => hk _ _ (by rw [block_of_add]; exact hp) (h j u hu)
theorem Boxd.kept {w w' : World} {n m b : Nat} {us : List Value} (h : Boxd w b us) (hk : Keep n m w w') (hb : m ≤ b) : Boxd w' b us := fun j u hu => (hk.2 ⟨b, j, none⟩ _ (.inr hb) (h j u hu)).1

/-- What a round keeps: the cells below n, and each boxed expression from m on. -/
structure KeepE (n m : Nat) (W W' : World) : Prop where
  size : W.heap.size ≤ W'.heap.size
  low : ∀ (p : Addr) (v : Value), p.block < n → W.cell? p = some v → W'.cell? p = some v ∧ W'.frozen? p = W.frozen? p
  box : ∀ (k : Nat) (cs : Array Value), m ≤ k → W.heap[k]? = some (.cells cs 56 (0, 0)) → W'.heap[k]? = some (.cells cs 56 (0, 0))
theorem KeepE.refl (n m : Nat) (W : World) : KeepE n m W W := ⟨Nat.le_refl _, fun _ _ _ h => ⟨h, rfl⟩, fun _ _ _ h => h⟩
theorem KeepE.trans {n m : Nat} {A B C : World} (h : KeepE n m A B) (k : KeepE n m B C) : KeepE n m A C :=
  ⟨Nat.le_trans h.size k.size, fun p v hp hv => by obtain ⟨h1, h2⟩ := h.low p v hp hv; obtain ⟨h3, h4⟩ := k.low p v hp h1; exact ⟨h3, h4.trans h2⟩, fun i cs hi hc => k.box i cs hi (h.box i cs hi hc)⟩
theorem KeepE.put {n m : Nat} (W : World) (l : Nat) (o o' : Obj) (h : W.heap[l]? = some o) (hc : o.isCells = false) : KeepE n m W (W.putObj l o') :=
  ⟨(grownBy_putObj' W l o').size, fun _ _ _ hv => ⟨cell_kept hv (grownBy_putObj' W l o') (fun r e => by cases e; exact ⟨o, h, hc⟩), frozen_kept hv (grownBy_putObj' W l o') (fun r e => by cases e; exact ⟨o, h, hc⟩)⟩,
    fun k cs _ hk => (World.putObj_heap_other (by rintro rfl; rw [hk] at h; cases h; cases hc)).trans hk⟩
theorem KeepE.set {n m : Nat} (W : World) (b i : Nat) (u : Value) (h : n ≤ b) (h2 : b < m) : KeepE n m W (W.setCell ⟨b, i, none⟩ u) :=
  ⟨by simp [World.setCell], fun p v hp hv => ⟨(World.cell?_setCell_other _ _ _ _ (by rintro rfl; simp only at hp; omega)).trans hv, World.frozen?_setCell _ _ _ _⟩,
    fun k cs hk hc => (Below.heap_setCell _ _ _ _ (by simp only; omega)).trans hc⟩
theorem KeepE.of_below {n m : Nat} {W W' : World} (h : Below W.heap.size W W') : KeepE n m W W' :=
  ⟨h.size, fun _ _ _ hv => ⟨(h.cell (cell_lt hv)).trans hv, h.frozen (cell_lt hv)⟩, fun k _ _ hk => (h.block k (Array.getElem?_eq_some_iff.1 hk).1).trans hk⟩
theorem KeepE.lasts {n m : Nat} {w w' : World} (h : KeepE n m w w') : Lasts w w' (· < n) := fun p v hp hv => (h.low p v hp hv).1
/-- A boxed expression, as a block. -/
def BoxE (W : World) (k : Nat) (us : Array Value) : Prop := W.heap[k]? = some (.cells us 56 (0, 0))
theorem BoxE.new (w : World) (us : Array Value) : BoxE (w.alloc (.cells us 56)) w.heap.size us := (MapKept.heap_alloc w _).1
theorem BoxE.boxd {W : World} {k : Nat} {us : Array Value} (h : BoxE W k us) : Boxd W k us.toList := fun j u hu => by
  rw [cell_of_row _ _ j _ _ (0, 0) h]
  simpa using hu
theorem BoxE.kept {W W' : World} {n m k : Nat} {us : Array Value} (h : BoxE W k us) (hk : KeepE n m W W') (hb : m ≤ k) : BoxE W' k us := hk.box k us hb h

/-- A part: an expression of few parts that lies in the blocks below n of a world. -/
abbrev Part (w0 : World) (n : Nat) : Type := {x : Ex × List Value // x.1.wt ≤ 1990 ∧ x.1.dat.In w0 False (· < n) x.2}
def Part.ex {w0 : World} {n : Nat} (x : Part w0 n) : Ex := x.1.1
def Part.enc {w0 : World} {n : Nat} (x : Part w0 n) : Array Value := #[.agg x.1.2.toArray]

theorem xlistL_app : ∀ (a b : List Ex), Ex.listL (a ++ b) = Ex.listL a ++ Ex.listL b
  | [], b => by simp [Ex.listL]
  | x :: a, b => by simp [Ex.listL, xlistL_app a b]
theorem xlistL_pre {xs : List Ex} {j : Nat} {x : Ex} {q : List Ex} (hx : xs[j]? = some x) (hq : q <+: x.list) : Ex.listL (xs.take j) ++ q <+: Ex.listL xs := by
  have h : Ex.listL xs = Ex.listL (xs.take j) ++ x.list ++ Ex.listL (xs.drop (j + 1)) := by rw [← Ex.listL_step hx, ← xlistL_app, List.take_append_drop]
  obtain ⟨r, hr⟩ := hq
  exact ⟨r ++ Ex.listL (xs.drop (j + 1)), by rw [h, ← hr]; simp⟩

/-- How a walk over parts ends. -/
def PartsDone {w0 : World} (n m : Nat) (J Jx : List (Part w0 n) → World → Prop) (pre : List (Part w0 n)) (l : List Ex) (W : World) (e : Ending) (W' : World) : Prop :=
  (e = .returned (.bool true) ∧ (∃ q : List (Part w0 n), q.map Part.ex = l ∧ J (pre ++ q) W') ∧ KeepE n m W W') ∨ (e = .returned (.bool false) ∧ ∃ q : List (Part w0 n), q.map Part.ex <+: l ∧ Jx (pre ++ q) W')

/-- What parts gives: a function over which a range takes the parts, in their order; a round may write what the caller has made since. -/
def PartsPost (n0 : Nat) (w : World) (x : Ex) (e : Ending) (w' : World) : Prop := ∃ g lb, e = .returned (.func (.func g) #[] lb) ∧ Below w.heap.size w w' ∧
  (∀ args W, (callFunc g args).run Tryd.prog W = .ok (.enter g args) W) ∧
  ∀ n w2, 1 ≤ n → Below w'.heap.size w' w2 → SeqStopsK Fence.wide n Tryd.prog g lb (Part.enc (w0 := w') (n := n0)) (KeepE n0 w2.heap.size) (fun q => q.map Part.ex = x.list) (fun q => q.map Part.ex <+: x.list) x.list.length w2

end Go.Proofs.YtkdlidakdknhjaaDoor
namespace Go.Proofs.YtkdlidakdknhjaaDoor
open Go.RowKit
attribute [local go_sem] Oper.semAt_some

theorem xlistL_all (p : Ex → Bool) : ∀ xs : List Ex, (Ex.listL xs).all p = xs.all (fun x => x.list.all p)
  | [] => by simp [Ex.listL]
  | a :: xs => by rw [Ex.listL, List.all_append, xlistL_all p xs, List.all_cons]
def isLit (x : Ex) : Bool := x.kind == 3
theorem value_list : ∀ e : Ex, e.value = e.list.all isLit := by
  refine Ex.ind fun k s t ts xs o ih => ?_
  rw [Ex.value, Ex.list, List.all_cons, xlistL_all, Ex.valueL_all]
  have : xs.all Ex.value = xs.all (fun x => x.list.all isLit) := by
    clear o
    induction xs with
    | nil => rfl
    | cons a r ih2 => rw [List.all_cons, List.all_cons, ih a (by simp), ih2 (fun e he => ih e (by simp [he]))]
  rw [this, Bool.and_comm]
  rfl
/-- What a round of a loop over parts begins with: the part lies in a box of its own. -/
def BoxAx {w0 : World} {n : Nat} (mk : Addr → Part w0 n → Act) (x : Part w0 n) (a' : Act) (W : World) : Prop := ∃ B, a' = mk ⟨B, 0, none⟩ x ∧ Boxd W B x.1.2
theorem boxAx_own {w0 : World} {n B : Nat} (mk : Addr → Part w0 n → Act) (x : Part w0 n) (a' : Act) : OwnFrom B (fun (_ : Unit) W => BoxAx mk x a' W) := fun _ X Y row hs hg hr => by
  obtain ⟨b, e, h⟩ := hs
  exact ⟨b, e, fun j u hu => cell_kept (h j u hu) hg (fun r e => (hr r e).2)⟩
/-- All of these parts meet p. -/
def AllP {w0 : World} {n : Nat} (p : Ex → Bool) (q : List (Part w0 n)) : Prop := ∀ x ∈ q, p x.ex = true
theorem AllP.nil {w0 : World} {n : Nat} (p : Ex → Bool) : AllP p ([] : List (Part w0 n)) := fun _ h => by cases h
theorem AllP.snoc {w0 : World} {n : Nat} {p : Ex → Bool} {q : List (Part w0 n)} {x : Part w0 n} (h : AllP p q) (hx : p x.ex = true) : AllP p (q ++ [x]) := fun y hy => by
  rcases List.mem_append.1 hy with hy | hy
  · exact h y hy
  · rw [List.mem_singleton.1 hy]; exact hx
theorem AllP.last {w0 : World} {n : Nat} {p : Ex → Bool} {q : List (Part w0 n)} {x : Part w0 n} (h : AllP p (q ++ [x])) : p x.ex = true := h x (by simp)
theorem all_parts {w0 : World} {n : Nat} {p : Ex → Bool} {q : List (Part w0 n)} {l : List Ex} (hq : q.map Part.ex = l) (h : AllP p q) : l.all p = true := by
  rw [← hq, List.all_map]
  exact List.all_eq_true.2 h
theorem not_parts {w0 : World} {n : Nat} {p : Ex → Bool} {q : List (Part w0 n)} {l : List Ex} (hq : q.map Part.ex <+: l) (h : ¬ AllP p q) : l.all p = false := by
  rw [Bool.eq_false_iff]
  intro ha
  exact h fun s hs => List.all_eq_true.1 ha s.ex (hq.subset (List.mem_map_of_mem hs))

/-- The first two blocks of a function that takes an expression and gives a bool in a cell. -/
theorem box_bool {w : World} {e : Ex} {us : List Value} (h : e.dat.H w us) :
    OneX w ((w.alloc (.cells us.toArray 56)).alloc (.cells #[.bool false] 4)) e us ∧ ((w.alloc (.cells us.toArray 56)).alloc (.cells #[.bool false] 4)).heap[w.heap.size + 1]? = some (.cells #[.bool false] 4) :=
  ⟨(OneX.new h 56).later ((Below.refl _ _).alloc (Nat.le_refl _) _), heap_alloc_two _ _ _⟩

end Go.Proofs.YtkdlidakdknhjaaDoor
