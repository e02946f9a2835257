/- Types in memory: what one is; it lasts wherever its blocks are kept. No condition. -/
import Derived.Test.YtioamnaknjhbpaaDoorBs
import Derived.Test.YtioamnaknjhbpaaDoorTyA
import Derived.OwnWalk
import Derived.Laws.AppendOwn
import Derived.Laws.OwnMore
import Derived.Laws.NewBlocks
namespace Go.Proofs.YtioamnaknjhbpaaDoor
open Go.RowKit

mutual
/-- A type at the i-th place of a slice whose elements begin at A; all its blocks are in S; under N each slice begins a block that may be written. -/
def TyCells (w : World) (N : Prop) (S : Nat → Prop) (A : Option Addr) (i : Nat) : Ty → Prop
  | .mk s xs o => ∃ a B c, A = some a ∧ S a.block ∧ (N → a.off = 0 ∧ a.spot = none ∧ ∀ k, w.frozen? ⟨a.block, k, none⟩ = false) ∧ w.cell? (a.add (i * 3)) = some (.string s)
      ∧ w.cell? ⟨(a.add (i * 3)).block, (a.add (i * 3)).off + 1, none⟩ = some (.slice B xs.length c) ∧ w.cell? ⟨(a.add (i * 3)).block, (a.add (i * 3)).off + 2, none⟩ = some (.int .i64 o)
      ∧ s.size ≤ 9223372036854775807 ∧ xs.length ≤ 9223372036854775807 ∧ ArgsIn w N S B 0 xs
/-- Types from the i-th place on. -/
def ArgsIn (w : World) (N : Prop) (S : Nat → Prop) (A : Option Addr) (i : Nat) : List Ty → Prop
  | [] => True
  | t :: r => TyCells w N S A i t ∧ ArgsIn w N S A (i + 1) r
end

/-- A slice of types. -/
structure LiesN (w : World) (N : Prop) (S : Nat → Prop) (A : Option Addr) (n : Nat) (xs : List Ty) : Prop where
  len : xs.length = n
  le : n ≤ 9223372036854775807
  args : ArgsIn w N S A 0 xs
abbrev Lies (w : World) (S : Nat → Prop) (A : Option Addr) (n : Nat) (xs : List Ty) : Prop := LiesN w False S A n xs

theorem ArgsIn.at {w : World} {N : Prop} {S : Nat → Prop} {A : Option Addr} : ∀ {xs : List Ty} {i k : Nat} {t : Ty}, ArgsIn w N S A i xs → xs[k]? = some t → TyCells w N S A (i + k) t
  | x :: r, i, 0, t, h, ht => by
    obtain rfl : x = t := by simpa using ht
    rw [ArgsIn] at h
    exact h.1
  | x :: r, i, k + 1, t, h, ht => by
    rw [ArgsIn] at h
    have := ArgsIn.at h.2 (k := k) (by simpa using ht)
    rwa [show i + (k + 1) = i + 1 + k by omega]
theorem ArgsIn.of {w : World} {N : Prop} {S : Nat → Prop} {A : Option Addr} : ∀ {xs : List Ty} {i : Nat}, (∀ k t, xs[k]? = some t → TyCells w N S A (i + k) t) → ArgsIn w N S A i xs
  | [], _, _ => by rw [ArgsIn]; trivial
  | x :: r, i, h => by
    rw [ArgsIn]
    refine ⟨h 0 x rfl, ArgsIn.of fun k t ht => ?_⟩
    have := h (k + 1) t (by simpa using ht)
    rwa [show i + 1 + k = i + (k + 1) by omega]

/-- The k-th type of a slice, with what N gives. -/
theorem LiesN.get {w : World} {N : Prop} {S : Nat → Prop} {A : Option Addr} {n : Nat} {xs : List Ty} (h : LiesN w N S A n xs) {k : Nat} (hk : k < n) :
    ∃ a s ys o B m c, A = some a ∧ xs[k]? = some (.mk s ys o) ∧ S a.block ∧ (N → a.off = 0 ∧ a.spot = none ∧ ∀ k, w.frozen? ⟨a.block, k, none⟩ = false) ∧ w.cell? (a.add (k * 3)) = some (.string s)
      ∧ w.cell? ⟨(a.add (k * 3)).block, (a.add (k * 3)).off + 1, none⟩ = some (.slice B m c) ∧ w.cell? ⟨(a.add (k * 3)).block, (a.add (k * 3)).off + 2, none⟩ = some (.int .i64 o)
      ∧ s.size ≤ 9223372036854775807 ∧ LiesN w N S B m ys := by
  have hl : k < xs.length := by rw [h.len]; exact hk
  have ht := h.args.at (List.getElem?_eq_getElem hl)
  rw [Nat.zero_add] at ht
  cases e : xs[k] with
  | mk s ys o =>
    rw [e, TyCells] at ht
    obtain ⟨a, B, c, h1, h2, h3, h4, h5, h6, h7, h8, h9⟩ := ht
    exact ⟨a, s, ys, o, B, _, c, h1, by rw [List.getElem?_eq_getElem hl, e], h2, h3, h4, h5, h6, h7, rfl, h8, h9⟩
/-- The k-th type of a slice. -/
theorem Lies.get {w : World} {S : Nat → Prop} {A : Option Addr} {n : Nat} {xs : List Ty} (h : Lies w S A n xs) {k : Nat} (hk : k < n) :
    ∃ a s ys o B m c, A = some a ∧ xs[k]? = some (.mk s ys o) ∧ S a.block ∧ w.cell? (a.add (k * 3)) = some (.string s)
      ∧ w.cell? ⟨(a.add (k * 3)).block, (a.add (k * 3)).off + 1, none⟩ = some (.slice B m c) ∧ w.cell? ⟨(a.add (k * 3)).block, (a.add (k * 3)).off + 2, none⟩ = some (.int .i64 o)
      ∧ s.size ≤ 9223372036854775807 ∧ Lies w S B m ys := by
  obtain ⟨a, s, ys, o, B, m, c, h1, h2, h3, _, h4⟩ := LiesN.get h hk
  exact ⟨a, s, ys, o, B, m, c, h1, h2, h3, h4⟩

/-- What lies in these blocks is as it was. -/
def Same (w w' : World) (S : Nat → Prop) : Prop := ∀ p : Addr, S p.block → w'.cell? p = w.cell? p ∧ w'.frozen? p = w.frozen? p

theorem ArgsIn.keep {w w' : World} {N N' : Prop} {S S' : Nat → Prop} (hN : N' → N) (hk : Same w w' S) (hS : ∀ b, S b → S' b) : ∀ (xs : List Ty) (A : Option Addr) (i : Nat), ArgsIn w N S A i xs → ArgsIn w' N' S' A i xs := by
  refine Ty.indL (fun A i _ => by rw [ArgsIn]; trivial) fun s ys o r ih1 ih2 A i h => ?_
  rw [ArgsIn, TyCells] at h ⊢
  obtain ⟨⟨a, B, c, e, hl, hn, c0, c1, c2, b1, b2, ha⟩, hr⟩ := h
  have hb : S (a.add (i * 3)).block := by rw [block_of_add]; exact hl
  refine ⟨⟨a, B, c, e, hS _ hl, fun h => ?_, ?_, ?_, ?_, b1, b2, ih1 B 0 ha⟩, ih2 A (i + 1) hr⟩
  · obtain ⟨h1, h2, h3⟩ := hn (hN h)
    exact ⟨h1, h2, fun k => (hk ⟨a.block, k, none⟩ hl).2.trans (h3 k)⟩
  · rw [(hk _ hb).1]; exact c0
  · rw [(hk ⟨(a.add (i * 3)).block, _, none⟩ hb).1]; exact c1
  · rw [(hk ⟨(a.add (i * 3)).block, _, none⟩ hb).1]; exact c2

theorem LiesN.keep {w w' : World} {N : Prop} {S S' : Nat → Prop} {A : Option Addr} {n : Nat} {xs : List Ty} (h : LiesN w N S A n xs) (hk : Same w w' S) (hS : ∀ b, S b → S' b) : LiesN w' N S' A n xs :=
  ⟨h.len, h.le, ArgsIn.keep id hk hS xs A 0 h.args⟩
theorem LiesN.lies {w : World} {N : Prop} {S : Nat → Prop} {A : Option Addr} {n : Nat} {xs : List Ty} (h : LiesN w N S A n xs) : Lies w S A n xs :=
  ⟨h.len, h.le, ArgsIn.keep False.elim (fun _ _ => ⟨rfl, rfl⟩) (fun _ h => h) xs A 0 h.args⟩
theorem LiesN.wide {w : World} {N : Prop} {S S' : Nat → Prop} {A : Option Addr} {n : Nat} {xs : List Ty} (h : LiesN w N S A n xs) (hS : ∀ b, S b → S' b) : LiesN w N S' A n xs :=
  h.keep (fun _ _ => ⟨rfl, rfl⟩) hS
theorem LiesN.later {w w' : World} {N : Prop} {S : Nat → Prop} {b : Nat} {A : Option Addr} {n : Nat} {xs : List Ty} (h : LiesN w N S A n xs) (hb : Below b w w') (hh : ∀ k, S k → k < b) : LiesN w' N S A n xs :=
  h.keep (fun _ h2 => ⟨hb.cell (hh _ h2), hb.frozen (hh _ h2)⟩) (fun _ h => h)
theorem LiesN.nil (w : World) (N : Prop) (S : Nat → Prop) (A : Option Addr) : LiesN w N S A 0 [] := ⟨rfl, by omega, by rw [ArgsIn]; trivial⟩
theorem Lies.nil (w : World) (S : Nat → Prop) (A : Option Addr) : Lies w S A 0 [] := LiesN.nil _ _ _ _
theorem LiesN.alloc {w : World} {N : Prop} {S : Nat → Prop} {A : Option Addr} {n : Nat} {xs : List Ty} (h : LiesN w N S A n xs) (hh : ∀ k, S k → k < w.heap.size) (o : Obj) : LiesN (w.alloc o) N S A n xs :=
  h.later (b := w.heap.size) ((Below.refl _ _).alloc (Nat.le_refl _) _) hh
theorem LiesN.setCell {w : World} {N : Prop} {S : Nat → Prop} {A : Option Addr} {n : Nat} {xs : List Ty} (h : LiesN w N S A n xs) (p : Addr) (u : Value) (hne : ¬ S p.block) : LiesN (w.setCell p u) N S A n xs :=
  h.keep (fun q h1 => ⟨World.cell?_setCell_other _ _ _ _ (by rintro rfl; exact hne h1), World.frozen?_setCell _ _ _ _⟩) (fun _ h => h)
theorem frozen_of_row {w : World} {g : Nat} {cs : Array Value} {T : TypeId} (h : w.heap[g]? = some (.cells cs T (0, 0))) (k : Nat) : w.frozen? ⟨g, k, none⟩ = false := by
  simp [World.frozen?, h]
/-- As the argument of a call in a world: its blocks lie there. -/
abbrev Here (w : World) (A : Option Addr) (n : Nat) (xs : List Ty) : Prop := Lies w (· < w.heap.size) A n xs
theorem Here.later {w w' : World} {A : Option Addr} {n : Nat} {xs : List Ty} (h : Here w A n xs) (hb : Below w.heap.size w w') : Here w' A n xs :=
  (LiesN.later h hb (fun _ h => h)).wide (fun _ h => Nat.lt_of_lt_of_le h hb.size)
/-- The blocks that were made between two worlds. -/
def Fresh (w w' : World) (b : Nat) : Prop := w.heap.size ≤ b ∧ b < w'.heap.size
theorem Lies.here {w w' : World} {A : Option Addr} {n : Nat} {xs : List Ty} (h : Lies w' (Fresh w w') A n xs) : Here w' A n xs := h.wide fun _ h => h.2

/-- A boxed type. -/
def Box (w : World) (b : Nat) (s : ByteArray) (A : Option Addr) (n c : Nat) (o : Int) : Prop :=
  w.cell? ⟨b, 0, none⟩ = some (.string s) ∧ w.cell? ⟨b, 1, none⟩ = some (.slice A n c) ∧ w.cell? ⟨b, 2, none⟩ = some (.int .i64 o)
theorem Box.new (w : World) (s : ByteArray) (A : Option Addr) (n c : Nat) (o : Int) (T : TypeId) : Box (w.alloc (.cells #[.string s, .slice A n c, .int .i64 o] T)) w.heap.size s A n c o := by
  refine ⟨?_, ?_, ?_⟩ <;> (rw [World.cell?_alloc_at _ _ _ _ rfl]; rfl)
theorem Box.later {w w' : World} {b s A n c o} (h : Box w b s A n c o) (hb : Below w.heap.size w w') : Box w' b s A n c o :=
  ⟨(hb.cell (cell_lt h.1)).trans h.1, (hb.cell (cell_lt h.2.1)).trans h.2.1, (hb.cell (cell_lt h.2.2)).trans h.2.2⟩
theorem Box.laterB {w w' : World} {b s A n c o} {B : Nat} (h : Box w b s A n c o) (hb : Below B w w') (hB : b < B) : Box w' b s A n c o :=
  ⟨(hb.cell hB).trans h.1, (hb.cell (p := ⟨b, 1, none⟩) hB).trans h.2.1, (hb.cell (p := ⟨b, 2, none⟩) hB).trans h.2.2⟩
end Go.Proofs.YtioamnaknjhbpaaDoor
