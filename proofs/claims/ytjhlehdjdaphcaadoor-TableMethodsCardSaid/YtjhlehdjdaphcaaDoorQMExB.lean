/- Data in memory: cells, strings, structs and slices of them, as trees; they last wherever their blocks are kept. No condition.
Expressions in memory. No condition. -/
import Derived.Test.YtjhlehdjdaphcaaDoorQMExA
import Derived.OwnWalk
import Derived.Laws.AppendOwn
import Derived.Laws.OwnMore
import Derived.Laws.NewBlocks
import Derived.Deep.MidRow
import Derived.Laws.MakeOwn
import Derived.Deep.AppendLies
namespace Go.Proofs.YtjhlehdjdaphcaaDoor
open Go.RowKit

/-- Data: a cell, which leads nowhere; a string; a struct; a slice whose elements have z cells each; with q, one that is no longer than its capacity. -/
inductive Dat where
  | cell (v : Value)
  | str (s : ByteArray)
  | tup (fs : List Dat)
  | arr (q : Bool) (z : Nat) (xs : List Dat)

/-- These values lie in the cells from p on. -/
def CellsAt (w : World) (p : Addr) (us : List Value) : Prop := ∀ j u, us[j]? = some u → w.cell? (p.add j) = some u

mutual
/-- These cells are these data; all blocks that they lead to are in S; under N each slice begins a block that may be written. -/
def Dat.In (w : World) (N : Prop) (S : Nat → Prop) : Dat → List Value → Prop
  | .cell v, us => us = [v]
  | .str s, us => us = [.string s] ∧ s.size ≤ 9223372036854775807
  | .tup fs, us => Dat.Ins w N S fs us
  | .arr q z xs, us => ∃ A c, us = [.slice A xs.length c] ∧ xs.length ≤ 9223372036854775807 ∧ (q = true → xs.length ≤ c) ∧ Dat.Elems w N S z A 0 xs
/-- The same for data one after the other. -/
def Dat.Ins (w : World) (N : Prop) (S : Nat → Prop) : List Dat → List Value → Prop
  | [], us => us = []
  | d :: r, us => ∃ u1 u2, us = u1 ++ u2 ∧ Dat.In w N S d u1 ∧ Dat.Ins w N S r u2
/-- The elements of a slice, from the i-th on. -/
def Dat.Elems (w : World) (N : Prop) (S : Nat → Prop) (z : Nat) (A : Option Addr) (i : Nat) : List Dat → Prop
  | [] => True
  | d :: r => (∃ a us, A = some a ∧ S a.block ∧ (N → a.off = 0 ∧ a.spot = none ∧ ∀ k, w.frozen? ⟨a.block, k, none⟩ = false) ∧ Dat.In w N S d us ∧ CellsAt w (a.add (i * z)) us) ∧ Dat.Elems w N S z A (i + 1) r
end

/-- What lies in these blocks is as it was. -/
def Kept (w w' : World) (S : Nat → Prop) : Prop := ∀ p : Addr, S p.block → w'.cell? p = w.cell? p ∧ w'.frozen? p = w.frozen? p

mutual
theorem Dat.In.keep {w w' : World} {N N' : Prop} {S S' : Nat → Prop} (hN : N' → N) (hk : Kept w w' S) (hS : ∀ b, S b → S' b) : ∀ (d : Dat) (us : List Value), d.In w N S us → d.In w' N' S' us
  | .cell v, us, h => by rw [Dat.In] at h ⊢; exact h
  | .str s, us, h => by rw [Dat.In] at h ⊢; exact h
  | .tup fs, us, h => by rw [Dat.In] at h ⊢; exact Dat.Ins.keep hN hk hS fs us h
  | .arr q z xs, us, h => by
    rw [Dat.In] at h ⊢
    obtain ⟨A, c, h1, h2, hq, h3⟩ := h
    exact ⟨A, c, h1, h2, hq, Dat.Elems.keep hN hk hS z A xs 0 h3⟩
theorem Dat.Ins.keep {w w' : World} {N N' : Prop} {S S' : Nat → Prop} (hN : N' → N) (hk : Kept w w' S) (hS : ∀ b, S b → S' b) : ∀ (ds : List Dat) (us : List Value), Dat.Ins w N S ds us → Dat.Ins w' N' S' ds us
  | [], us, h => by rw [Dat.Ins] at h ⊢; exact h
  | d :: r, us, h => by
    rw [Dat.Ins] at h ⊢
    obtain ⟨u1, u2, h1, h2, h3⟩ := h
    exact ⟨u1, u2, h1, Dat.In.keep hN hk hS d u1 h2, Dat.Ins.keep hN hk hS r u2 h3⟩
theorem Dat.Elems.keep {w w' : World} {N N' : Prop} {S S' : Nat → Prop} (hN : N' → N) (hk : Kept w w' S) (hS : ∀ b, S b → S' b) (z : Nat) (A : Option Addr) : ∀ (ds : List Dat) (i : Nat), Dat.Elems w N S z A i ds → Dat.Elems w' N' S' z A i ds
  | [], i, h => by rw [Dat.Elems]; trivial
  | d :: r, i, h => by
    rw [Dat.Elems] at h ⊢
    obtain ⟨⟨a, us, e, h1, h2, h3, h4⟩, h5⟩ := h
    refine ⟨⟨a, us, e, hS _ h1, fun h => ?_, Dat.In.keep hN hk hS d us h3, fun j u hu => ?_⟩, Dat.Elems.keep hN hk hS z A r (i + 1) h5⟩
    · obtain ⟨g1, g2, g3⟩ := h2 (hN h)
      exact ⟨g1, g2, fun k => (hk ⟨a.block, k, none⟩ h1).2.trans (g3 k)⟩
    · rw [(hk ((a.add (i * z)).add j) (by rw [block_of_add, block_of_add]; exact h1)).1]
      exact h4 j u hu
end
theorem Dat.In.wide {w : World} {N : Prop} {S S' : Nat → Prop} {d : Dat} {us : List Value} (h : d.In w N S us) (hS : ∀ b, S b → S' b) : d.In w N S' us := Dat.In.keep id (fun _ _ => ⟨rfl, rfl⟩) hS d us h
theorem Dat.In.later {w w' : World} {N : Prop} {S : Nat → Prop} {b : Nat} {d : Dat} {us : List Value} (h : d.In w N S us) (hb : Below b w w') (hh : ∀ k, S k → k < b) : d.In w' N S us :=
  Dat.In.keep id (fun _ h2 => ⟨hb.cell (hh _ h2), hb.frozen (hh _ h2)⟩) (fun _ h => h) d us h
theorem Dat.Elems.at {w : World} {N : Prop} {S : Nat → Prop} {z : Nat} {A : Option Addr} : ∀ {ds : List Dat} {i k : Nat} {d : Dat}, Dat.Elems w N S z A i ds → ds[k]? = some d →
    ∃ a us, A = some a ∧ S a.block ∧ (N → a.off = 0 ∧ a.spot = none ∧ ∀ k, w.frozen? ⟨a.block, k, none⟩ = false) ∧ d.In w N S us ∧ CellsAt w (a.add ((i + k) * z)) us
  | x :: r, i, 0, d, h, hd => by
    obtain rfl : x = d := by simpa using hd
    rw [Dat.Elems] at h
    exact h.1
  | x :: r, i, k + 1, d, h, hd => by
    rw [Dat.Elems] at h
    have := Dat.Elems.at h.2 (k := k) (by simpa using hd)
    rwa [show i + (k + 1) = i + 1 + k by omega]
theorem Dat.Elems.of {w : World} {N : Prop} {S : Nat → Prop} {z : Nat} {A : Option Addr} : ∀ {ds : List Dat} {i : Nat}, (∀ k d, ds[k]? = some d →
    ∃ a us, A = some a ∧ S a.block ∧ (N → a.off = 0 ∧ a.spot = none ∧ ∀ k, w.frozen? ⟨a.block, k, none⟩ = false) ∧ d.In w N S us ∧ CellsAt w (a.add ((i + k) * z)) us) → Dat.Elems w N S z A i ds
  | [], _, _ => by rw [Dat.Elems]; trivial
  | x :: r, i, h => by
    rw [Dat.Elems]
    refine ⟨h 0 x rfl, Dat.Elems.of fun k d hd => ?_⟩
    have := h (k + 1) d (by simpa using hd)
    rwa [show i + 1 + k = i + (k + 1) by omega]

/-- A slice of data. -/
structure Row (w : World) (N : Prop) (S : Nat → Prop) (z : Nat) (A : Option Addr) (n : Nat) (ds : List Dat) : Prop where
  len : ds.length = n
  le : n ≤ 9223372036854775807
  elems : Dat.Elems w N S z A 0 ds
theorem Row.at {w : World} {N : Prop} {S : Nat → Prop} {z n k : Nat} {A : Option Addr} {ds : List Dat} {d : Dat} (h : Row w N S z A n ds) (hd : ds[k]? = some d) :
    ∃ a us, A = some a ∧ S a.block ∧ (N → a.off = 0 ∧ a.spot = none ∧ ∀ k, w.frozen? ⟨a.block, k, none⟩ = false) ∧ d.In w N S us ∧ CellsAt w (a.add (k * z)) us := by
  have := h.elems.at hd
  rwa [Nat.zero_add] at this
theorem Row.nil (w : World) (N : Prop) (S : Nat → Prop) (z : Nat) (A : Option Addr) : Row w N S z A 0 [] := ⟨rfl, by omega, by rw [Dat.Elems]; trivial⟩
theorem Row.keep {w w' : World} {N N' : Prop} {S S' : Nat → Prop} {z n : Nat} {A : Option Addr} {ds : List Dat} (h : Row w N S z A n ds) (hN : N' → N) (hk : Kept w w' S) (hS : ∀ b, S b → S' b) : Row w' N' S' z A n ds :=
  ⟨h.len, h.le, Dat.Elems.keep hN hk hS z A ds 0 h.elems⟩
theorem Row.wide {w : World} {N : Prop} {S S' : Nat → Prop} {z n : Nat} {A : Option Addr} {ds : List Dat} (h : Row w N S z A n ds) (hS : ∀ b, S b → S' b) : Row w N S' z A n ds := h.keep id (fun _ _ => ⟨rfl, rfl⟩) hS
theorem Row.later {w w' : World} {N : Prop} {S : Nat → Prop} {b z n : Nat} {A : Option Addr} {ds : List Dat} (h : Row w N S z A n ds) (hb : Below b w w') (hh : ∀ k, S k → k < b) : Row w' N S z A n ds :=
  h.keep id (fun _ h2 => ⟨hb.cell (hh _ h2), hb.frozen (hh _ h2)⟩) fun _ h => h
/-- As the argument of a call in a world: all blocks lie there. -/
abbrev RowH (w : World) (z : Nat) (A : Option Addr) (n : Nat) (ds : List Dat) : Prop := Row w False (· < w.heap.size) z A n ds
abbrev Dat.H (w : World) (d : Dat) (us : List Value) : Prop := d.In w False (· < w.heap.size) us
theorem RowH.later {w w' : World} {z n : Nat} {A : Option Addr} {ds : List Dat} (h : RowH w z A n ds) (hb : Below w.heap.size w w') : RowH w' z A n ds :=
  (Row.later h hb (fun _ h => h)).wide (fun _ h => Nat.lt_of_lt_of_le h hb.size)
theorem Dat.H.later {w w' : World} {d : Dat} {us : List Value} (h : d.H w us) (hb : Below w.heap.size w w') : d.H w' us :=
  (Dat.In.later h hb (fun _ h => h)).wide (fun _ h => Nat.lt_of_lt_of_le h hb.size)

/-! ### how many cells -/
mutual
def Dat.size : Dat → Nat
  | .tup fs => Dat.sizes fs
  | _ => 1
def Dat.sizes : List Dat → Nat
  | [] => 0
  | d :: r => d.size + Dat.sizes r
end
mutual
theorem Dat.In.len {w : World} {N : Prop} {S : Nat → Prop} : ∀ (d : Dat) (us : List Value), d.In w N S us → us.length = d.size
  | .cell v, us, h => by rw [Dat.In] at h; subst h; rfl
  | .str s, us, h => by rw [Dat.In] at h; obtain ⟨rfl, _⟩ := h; rfl
  | .tup fs, us, h => by rw [Dat.In] at h; rw [Dat.size]; exact Dat.Ins.len fs us h
  | .arr q z xs, us, h => by rw [Dat.In] at h; obtain ⟨A, c, rfl, _⟩ := h; rfl
theorem Dat.Ins.len {w : World} {N : Prop} {S : Nat → Prop} : ∀ (ds : List Dat) (us : List Value), Dat.Ins w N S ds us → us.length = Dat.sizes ds
  | [], us, h => by rw [Dat.Ins] at h; subst h; rfl
  | d :: r, us, h => by
    rw [Dat.Ins] at h
    obtain ⟨u1, u2, rfl, h1, h2⟩ := h
    rw [List.length_append, Dat.sizes, Dat.In.len d u1 h1, Dat.Ins.len r u2 h2]
end

/-! ### a row of cells that a call builds -/
theorem Dat.Ins.snoc {w : World} {N : Prop} {S : Nat → Prop} {d : Dat} {u : List Value} (hd : d.In w N S u) : ∀ {ds : List Dat} {us : List Value}, Dat.Ins w N S ds us → Dat.Ins w N S (ds ++ [d]) (us ++ u)
  | [], us, h => by
    rw [Dat.Ins] at h
    subst h
    simp only [List.nil_append]
    rw [Dat.Ins]
    exact ⟨u, [], by simp, hd, by rw [Dat.Ins]⟩
  | x :: r, us, h => by
    rw [Dat.Ins] at h
    obtain ⟨u1, u2, rfl, h1, h2⟩ := h
    rw [List.cons_append, Dat.Ins]
    exact ⟨u1, u2 ++ u, by rw [List.append_assoc], h1, Dat.Ins.snoc hd h2⟩
/-- The j-th of data of z cells each. -/
theorem Dat.Ins.at {w : World} {N : Prop} {S : Nat → Prop} {z : Nat} : ∀ {ds : List Dat} {us : List Value} {j : Nat} {d : Dat}, Dat.Ins w N S ds us → (∀ x ∈ ds, x.size = z) → ds[j]? = some d →
    ∃ u, d.In w N S u ∧ ∀ i v, u[i]? = some v → us[j * z + i]? = some v
  | x :: r, us, 0, d, h, hz, hd => by
    obtain rfl : x = d := by simpa using hd
    rw [Dat.Ins] at h
    obtain ⟨u1, u2, rfl, h1, h2⟩ := h
    refine ⟨u1, h1, fun i v hv => ?_⟩
    rw [Nat.zero_mul, Nat.zero_add, List.getElem?_append_left (List.getElem?_eq_some_iff.1 hv).1]
    exact hv
  | x :: r, us, j + 1, d, h, hz, hd => by
    rw [Dat.Ins] at h
    obtain ⟨u1, u2, rfl, h1, h2⟩ := h
    obtain ⟨u, h3, h4⟩ := Dat.Ins.at h2 (fun y hy => hz y (List.mem_cons_of_mem _ hy)) (j := j) (by simpa using hd)
    refine ⟨u, h3, fun i v hv => ?_⟩
    have hl : u1.length = z := (Dat.In.len x u1 h1).trans (hz x List.mem_cons_self)
    rw [List.getElem?_append_right (by rw [hl, Nat.add_mul, Nat.one_mul]; omega), hl]
    rw [show (j + 1) * z + i - z = j * z + i by rw [Nat.add_mul, Nat.one_mul]; omega]
    exact h4 i v hv
theorem add_add (a : Addr) (i j : Nat) : (a.add i).add j = a.add (i + j) := by
  unfold Addr.add
  by_cases hi : i = 0
  · subst hi; simp
  · by_cases hj : j = 0
    · subst hj; simp
    · rw [if_neg hi, if_neg hj, if_neg (by omega)]
      simp [Nat.add_assoc]
theorem add_zero_addr (g i : Nat) : (⟨g, 0, none⟩ : Addr).add i = ⟨g, i, none⟩ := by unfold Addr.add; split <;> simp_all

/-- What the call has built is a slice of these data. -/
theorem row_of_own {w : World} {N : Prop} {base n z : Nat} {e : TypeId} {v : Value} {cs : List Value} {ds : List Dat} {S S' : Nat → Prop} (h : w.ownsRow base e z v n cs) (hr : Dat.Ins w N S ds cs) (hz : ∀ x ∈ ds, x.size = z) (hz0 : 0 < z) (hS : ∀ b, S b → S' b)
    (hv : ∀ g, v.ownBlock = some g → S' g) (hn : n ≤ 9223372036854775807) : ∃ A c, v = .slice A n c ∧ Row w N S' z A n ds ∧ n ≤ c := by
  have hsz : Dat.sizes ds = ds.length * z := by
    clear hr
    induction ds with
    | nil => simp [Dat.sizes]
    | cons d r ih => rw [Dat.sizes, hz d List.mem_cons_self, ih (fun x hx => hz x (List.mem_cons_of_mem _ hx)), List.length_cons, Nat.add_mul, Nat.one_mul]; omega
  have hlen : ds.length = n := by
    have h1 := Dat.Ins.len ds cs hr
    have h2 := h.1
    rw [h2, hsz] at h1
    exact (Nat.eq_of_mul_eq_mul_right hz0 h1).symm
  rcases h.2 with ⟨rfl, rfl⟩ | ⟨g, cap, cur, rfl, hb, hg, hnc, hc, hs, ht⟩
  · obtain rfl := List.eq_nil_of_length_eq_zero hlen
    exact ⟨none, 0, rfl, Row.nil _ _ _ _ _, Nat.le_refl _⟩
  · refine ⟨some ⟨g, 0, none⟩, cap, rfl, ⟨hlen, hn, Dat.Elems.of fun k d hk => ?_⟩, hnc⟩
    obtain ⟨u, hu, hat⟩ := hr.at hz hk
    refine ⟨⟨g, 0, none⟩, u, rfl, hv g rfl, fun _ => ⟨rfl, rfl, fun k => by simp [World.frozen?, hg]⟩, hu.wide hS, fun j x hx => ?_⟩
    rw [Nat.zero_add, add_add]
    exact h.cells (g := g) rfl _ _ (hat j x hx)

/-- A row of data that is being built, in blocks from lo on. -/
def Built (V : World) (N : Prop) (e : TypeId) (z lo : Nat) (v : Value) (k : Nat) (ds : List Dat) : Prop :=
  ∃ cs S, V.ownsRow lo e z v k cs ∧ Dat.Ins V N S ds cs ∧ (∀ x ∈ ds, x.size = z) ∧ ∀ b, S b → lo ≤ b ∧ b < V.heap.size ∧ v.ownBlock ≠ some b
theorem Built.nil (V : World) (N : Prop) (e : TypeId) (z lo : Nat) : Built V N e z lo (.slice none 0 0) 0 [] := ⟨[], fun _ => False, World.ownsRow_nil _ _ _ _, by rw [Dat.Ins], by simp, fun _ h => h.elim⟩
/-- The row as a slice that the call has made. -/
theorem Built.row {V : World} {N : Prop} {e : TypeId} {z lo : Nat} {v : Value} {k : Nat} {ds : List Dat} (h : Built V N e z lo v k ds) (hz : 0 < z) (hk : k ≤ 9223372036854775807) : ∃ A c, v = .slice A k c ∧ Row V N (fun b => lo ≤ b ∧ b < V.heap.size) z A k ds ∧ k ≤ c := by
  obtain ⟨cs, S, h1, h2, h3, h4⟩ := h
  exact row_of_own h1 h2 h3 hz (fun b hb => ⟨(h4 b hb).1, (h4 b hb).2.1⟩) (fun g hg => ⟨own_base h1 g hg, (h1.lt g hg).2⟩) hk
/-- The same row in a later world: what changed is above, or neither the row's block nor a block that the data lead to. -/
theorem Built.later {V V' : World} {N : Prop} {e : TypeId} {z lo : Nat} {v : Value} {k : Nat} {ds : List Dat} (h : Built V N e z lo v k ds) (hb : Below V.heap.size V V') : Built V' N e z lo v k ds := by
  obtain ⟨cs, S, h1, h2, h3, h4⟩ := h
  exact ⟨cs, S, own_below h1 hb, Dat.Ins.keep id (fun p hp => ⟨hb.cell (h4 _ hp).2.1, hb.frozen (h4 _ hp).2.1⟩) (fun _ h => h) ds cs h2, h3, fun b hS => ⟨(h4 b hS).1, Nat.lt_of_lt_of_le (h4 b hS).2.1 hb.size, (h4 b hS).2.2⟩⟩
/-- One more: made in the blocks from lo on (between wr and w1), laid in a new block (of w1), appended (to w2). -/
theorem Built.step {lo : Nat} {wr w1 w2 : World} {N : Prop} {e T : TypeId} {z k : Nat} {ds : List Dat} {v : Value} {cs us : List Value} {S S1 : Nat → Prop} {d : Dat} {gg cap : Nat}
    (hown : wr.ownsRow lo e z v k cs) (hrows : Dat.Ins wr N S ds cs) (hzs : ∀ x ∈ ds, x.size = z) (hS : ∀ b, S b → lo ≤ b ∧ b < wr.heap.size ∧ v.ownBlock ≠ some b)
    (hb1 : Below wr.heap.size wr w1) (hd : d.In w1 N S1 us) (hS1 : ∀ b, S1 b → lo ≤ b ∧ b < w1.heap.size ∧ v.ownBlock ≠ some b) (hz : d.size = z)
    (hown2 : w2.ownsRow lo e z (.slice (some ⟨gg, 0, none⟩) (k + 1) cap) (k + 1) (cs ++ us))
    (hgrow : (w1.alloc (.cells us.toArray T)).grownBy w2 v.ownBlock) (hat : v.ownBlock = some gg ∨ gg = w1.heap.size + 1) :
    Built w2 N e z lo (.slice (some ⟨gg, 0, none⟩) (k + 1) cap) (k + 1) (ds ++ [d]) := by
  have s1 := hb1.size
  have s2 : w1.heap.size + 1 ≤ w2.heap.size := by have := hgrow.size; simpa using this
  have ol : ∀ k, v.ownBlock = some k → k < wr.heap.size := fun k hk => (hown.lt k hk).2
  have far : ∀ p : Addr, p.block < w1.heap.size → v.ownBlock ≠ some p.block → w2.cell? p = w1.cell? p ∧ w2.frozen? p = w1.frozen? p := fun p h1 h2 => by
    rw [hgrow.cell_far p (by simp; omega) (fun h => h2 h.symm), hgrow.frozen_far p (by simp; omega) (fun h => h2 h.symm)]
    exact ⟨((Below.refl w1.heap.size w1).alloc (Nat.le_refl _) _).cell h1, ((Below.refl w1.heap.size w1).alloc (Nat.le_refl _) _).frozen h1⟩
  refine ⟨_, fun b => S b ∨ S1 b, hown2, Dat.Ins.snoc ?_ ?_, ?_, ?_⟩
  · exact Dat.In.keep id (fun p hp => far p (hS1 _ hp).2.1 (hS1 _ hp).2.2) (fun b hb => .inr hb) d us hd
  · refine Dat.Ins.keep id (fun p hp => ?_) (fun b hb => .inl hb) ds cs hrows
    obtain ⟨h1, h2, h3⟩ := hS _ hp
    obtain ⟨e1, e2⟩ := far p (by omega) h3
    exact ⟨e1.trans (hb1.cell h2), e2.trans (hb1.frozen h2)⟩
  · intro x hx
    rcases List.mem_append.1 hx with hx | hx
    · exact hzs x hx
    · obtain rfl := List.mem_singleton.1 hx
      exact hz
  · intro b hb
    have key : b < w1.heap.size ∧ v.ownBlock ≠ some b := hb.elim (fun h => ⟨by have := (hS b h).2.1; omega, (hS b h).2.2⟩) (fun h => (hS1 b h).2)
    refine ⟨hb.elim (fun h => (hS b h).1) (fun h => (hS1 b h).1), by omega, fun h => ?_⟩
    simp only [Value.ownBlock, Option.some.injEq] at h
    rcases hat with h4 | h4
    · exact key.2 (by rw [h4, h])
    · have := key.1; omega
end Go.Proofs.YtjhlehdjdaphcaaDoor

namespace Go.Proofs.YtjhlehdjdaphcaaDoor
open Go.RowKit

/-! ### types as data -/
mutual
def Ty.dat : Ty → Dat
  | .mk s xs o => .tup [.str s, .arr false 3 (Ty.dats xs), .cell (.int .i64 o)]
def Ty.dats : List Ty → List Dat
  | [] => []
  | a :: r => a.dat :: Ty.dats r
end
theorem Ty.dats_len : ∀ xs : List Ty, (Ty.dats xs).length = xs.length
  | [] => rfl
  | a :: r => by simp only [Ty.dats, List.length_cons, Ty.dats_len r]
theorem Ty.dat_size (t : Ty) : t.dat.size = 3 := by cases t; simp only [Ty.dat, Dat.size, Dat.sizes]
theorem Ty.dats_map : ∀ xs : List Ty, Ty.dats xs = xs.map Ty.dat
  | [] => rfl
  | a :: r => by rw [Ty.dats, Ty.dats_map r, List.map_cons]

theorem cells3_at {w : World} {p : Addr} {u0 u1 u2 : Value} : CellsAt w p [u0, u1, u2] ↔ w.cell? p = some u0 ∧ w.cell? ⟨p.block, p.off + 1, none⟩ = some u1 ∧ w.cell? ⟨p.block, p.off + 2, none⟩ = some u2 := by
  constructor
  · exact fun h => ⟨h 0 _ rfl, h 1 _ rfl, h 2 _ rfl⟩
  · rintro ⟨h0, h1, h2⟩ j u hu
    match j, hu with
    | 0, hu => obtain rfl : u0 = u := by simpa using hu
               exact h0
    | 1, hu => obtain rfl : u1 = u := by simpa using hu
               exact h1
    | 2, hu => obtain rfl : u2 = u := by simpa using hu
               exact h2
    | j + 3, hu => simp at hu
theorem ty_in {w : World} {N : Prop} {S : Nat → Prop} {s : ByteArray} {xs : List Ty} {o : Int} {us : List Value} : (Ty.dat (.mk s xs o)).In w N S us ↔
    ∃ B c, us = [.string s, .slice B xs.length c, .int .i64 o] ∧ s.size ≤ 9223372036854775807 ∧ xs.length ≤ 9223372036854775807 ∧ Dat.Elems w N S 3 B 0 (Ty.dats xs) := by
  simp only [Ty.dat, Dat.In, Dat.Ins, Ty.dats_len]
  constructor
  · rintro ⟨u1, u2, rfl, ⟨rfl, h1⟩, u3, u4, rfl, ⟨B, c, rfl, h2, _, h3⟩, u5, u6, rfl, rfl, rfl⟩
    exact ⟨B, c, rfl, h1, h2, h3⟩
  · rintro ⟨B, c, rfl, h1, h2, h3⟩
    exact ⟨[.string s], [.slice B xs.length c, .int .i64 o], rfl, ⟨rfl, h1⟩, [.slice B xs.length c], [.int .i64 o], rfl, ⟨B, c, rfl, h2, (fun h => by cases h), h3⟩, [.int .i64 o], [], rfl, rfl, rfl⟩
/-- A slice of types, in either way of saying. -/
theorem args_elems {w : World} {N : Prop} {S : Nat → Prop} : ∀ (xs : List Ty) (A : Option Addr) (i : Nat), ArgsIn w N S A i xs ↔ Dat.Elems w N S 3 A i (Ty.dats xs) := by
  refine Ty.indL (fun A i => ?_) fun s xs o r ih1 ih2 A i => ?_
  · rw [ArgsIn, Ty.dats, Dat.Elems]
  · rw [ArgsIn, Ty.dats, Dat.Elems, TyCells, ih2]
    refine and_congr_left' ?_
    constructor
    · rintro ⟨a, B, c, e, h1, h2, c0, c1, c2, h3, h4, h5⟩
      exact ⟨a, _, e, h1, h2, ty_in.2 ⟨B, c, rfl, h3, h4, (ih1 _ _).1 h5⟩, cells3_at.2 ⟨c0, c1, c2⟩⟩
    · rintro ⟨a, us, e, h1, h2, h3, h4⟩
      obtain ⟨B, c, rfl, h5, h6, h7⟩ := ty_in.1 h3
      obtain ⟨c0, c1, c2⟩ := cells3_at.1 h4
      exact ⟨a, B, c, e, h1, h2, c0, c1, c2, h5, h6, (ih1 _ _).2 h7⟩
theorem lies_row {w : World} {N : Prop} {S : Nat → Prop} {A : Option Addr} {n : Nat} {xs : List Ty} : LiesN w N S A n xs ↔ Row w N S 3 A n (Ty.dats xs) :=
  ⟨fun h => ⟨(Ty.dats_len xs).trans h.len, h.le, (args_elems xs A 0).1 h.args⟩, fun h => ⟨(Ty.dats_len xs).symm.trans h.len, h.le, (args_elems xs A 0).2 h.elems⟩⟩
theorem ty_open {w : World} {N : Prop} {S : Nat → Prop} {t : Ty} {us : List Value} (h : t.dat.In w N S us) : ∃ B m c, us = [.string t.name, .slice B m c, .int .i64 t.off] ∧ t.name.size ≤ 9223372036854775807 ∧ LiesN w N S B m t.args := by
  obtain ⟨s, xs, o⟩ := t
  obtain ⟨B, c, rfl, h1, h2, h3⟩ := ty_in.1 h
  exact ⟨B, _, c, rfl, h1, rfl, h2, (args_elems xs B 0).2 h3⟩
theorem ty_shut {w : World} {N : Prop} {S : Nat → Prop} {t : Ty} {B : Option Addr} {m c : Nat} (hs : t.name.size ≤ 9223372036854775807) (h : LiesN w N S B m t.args) : t.dat.In w N S [.string t.name, .slice B m c, .int .i64 t.off] := by
  obtain ⟨s, xs, o⟩ := t
  have hl := h.len
  simp only [Ty.args] at h hl
  subst hl
  exact ty_in.2 ⟨B, c, rfl, hs, h.le, (args_elems xs B 0).1 h.args⟩

/-! ### expressions as data -/
mutual
def Ex.dat : Ex → Dat
  | .mk k s t ts xs o => .tup [.cell (.int .i64 k), .str s, t.dat, .arr false 3 (Ty.dats ts), .arr true 8 (Ex.dats xs), .cell (.int .i64 o)]
def Ex.dats : List Ex → List Dat
  | [] => []
  | a :: r => a.dat :: Ex.dats r
end
theorem Ex.dats_len : ∀ xs : List Ex, (Ex.dats xs).length = xs.length
  | [] => rfl
  | a :: r => by simp only [Ex.dats, List.length_cons, Ex.dats_len r]
theorem Ex.dats_map : ∀ xs : List Ex, Ex.dats xs = xs.map Ex.dat
  | [] => rfl
  | a :: r => by rw [Ex.dats, Ex.dats_map r, List.map_cons]
theorem Ex.dats_snoc (xs : List Ex) (e : Ex) : Ex.dats (xs ++ [e]) = Ex.dats xs ++ [e.dat] := by simp [Ex.dats_map]
theorem Ex.dat_size (e : Ex) : e.dat.size = 8 := by cases e; simp only [Ex.dat, Dat.size, Dat.sizes, Ty.dat_size]
theorem ex_open {w : World} {N : Prop} {S : Nat → Prop} {e : Ex} {us : List Value} (h : e.dat.In w N S us) : ∃ A m a B l b C n c,
    us = [.int .i64 e.kind, .string e.name, .string e.ty.name, .slice A m a, .int .i64 e.ty.off, .slice B l b, .slice C n c, .int .i64 e.off] ∧ e.name.size ≤ 9223372036854775807 ∧ e.ty.name.size ≤ 9223372036854775807
      ∧ LiesN w N S A m e.ty.args ∧ LiesN w N S B l e.targs ∧ Row w N S 8 C n (Ex.dats e.kids) := by
  obtain ⟨k, s, t, ts, xs, o⟩ := e
  rw [Ex.dat] at h
  simp only [Dat.In, Dat.Ins] at h
  obtain ⟨u1, u2, rfl, rfl, u3, u4, rfl, ⟨rfl, h1⟩, u5, u6, rfl, h2, u7, u8, rfl, ⟨B, b, rfl, h3, _, h4⟩, u9, u10, rfl, ⟨C, c, rfl, h5, _, h6⟩, u11, u12, rfl, rfl, rfl⟩ := h
  obtain ⟨A, m, a, rfl, h7, h8⟩ := ty_open h2
  exact ⟨A, m, a, B, _, b, C, _, c, rfl, h1, h7, h8, lies_row.2 ⟨rfl, h3, h4⟩, rfl, h5, h6⟩
theorem ex_shut {w : World} {N : Prop} {S : Nat → Prop} {e : Ex} {A B C : Option Addr} {m a l b n c : Nat} (h1 : e.name.size ≤ 9223372036854775807) (h2 : e.ty.name.size ≤ 9223372036854775807)
    (h3 : LiesN w N S A m e.ty.args) (h4 : LiesN w N S B l e.targs) (h5 : Row w N S 8 C n (Ex.dats e.kids)) (h6 : n ≤ c) :
    e.dat.In w N S [.int .i64 e.kind, .string e.name, .string e.ty.name, .slice A m a, .int .i64 e.ty.off, .slice B l b, .slice C n c, .int .i64 e.off] := by
  obtain ⟨k, s, t, ts, xs, o⟩ := e
  simp only [Ex.kind, Ex.name, Ex.ty, Ex.targs, Ex.kids, Ex.off] at h1 h2 h3 h4 h5 h6 ⊢
  have h4' := lies_row.1 h4
  obtain rfl := h4'.len
  obtain rfl := h5.len
  rw [Ex.dat]
  simp only [Dat.In, Dat.Ins]
  exact ⟨[_], _, rfl, rfl, [_], _, rfl, ⟨rfl, h1⟩, [_, _, _], _, rfl, ty_shut h2 h3, [_], _, rfl, ⟨B, b, rfl, h4'.le, (fun h => by cases h), h4'.elems⟩, [_], _, rfl, ⟨C, c, rfl, h5.le, (fun _ => h6), h5.elems⟩, [_], [], rfl, rfl, rfl⟩

theorem cells8_at {w : World} {p : Addr} {u0 u1 u2 u3 u4 u5 u6 u7 : Value} (h : CellsAt w p [u0, u1, u2, u3, u4, u5, u6, u7]) : w.cell? p = some u0 ∧ w.cell? ⟨p.block, p.off + 1, none⟩ = some u1 ∧ w.cell? ⟨p.block, p.off + 2, none⟩ = some u2
    ∧ w.cell? ⟨p.block, p.off + 3, none⟩ = some u3 ∧ w.cell? ⟨p.block, p.off + 4, none⟩ = some u4 ∧ w.cell? ⟨p.block, p.off + 5, none⟩ = some u5 ∧ w.cell? ⟨p.block, p.off + 6, none⟩ = some u6 ∧ w.cell? ⟨p.block, p.off + 7, none⟩ = some u7 :=
  ⟨h 0 _ rfl, h 1 _ rfl, h 2 _ rfl, h 3 _ rfl, h 4 _ rfl, h 5 _ rfl, h 6 _ rfl, h 7 _ rfl⟩
/-- The k-th kid. -/
theorem kid_at {w : World} {N : Prop} {S : Nat → Prop} {A : Option Addr} {n k : Nat} {xs : List Ex} (h : Row w N S 8 A n (Ex.dats xs)) (hk : k < n) :
    ∃ p e us, A = some p ∧ xs[k]? = some e ∧ S p.block ∧ (N → p.off = 0 ∧ p.spot = none ∧ ∀ k, w.frozen? ⟨p.block, k, none⟩ = false) ∧ e.dat.In w N S us ∧ CellsAt w (p.add (k * 8)) us := by
  have hl : k < xs.length := by rw [← Ex.dats_len, h.len]; exact hk
  obtain ⟨p, us, h1, h2, h3, h4, h5⟩ := h.at (k := k) (d := (xs[k]).dat) (by rw [Ex.dats_map, List.getElem?_map, List.getElem?_eq_getElem hl]; rfl)
  exact ⟨p, xs[k], us, h1, List.getElem?_eq_getElem hl, h2, h3, h4, h5⟩

/-! ### a boxed struct -/
def Boxd (w : World) (b : Nat) (us : List Value) : Prop := ∀ j u, us[j]? = some u → w.cell? ⟨b, j, none⟩ = some u
theorem Boxd.later {w w' : World} {b : Nat} {us : List Value} (h : Boxd w b us) (hb : Below w.heap.size w w') : Boxd w' b us := fun j u hu => (hb.cell (cell_lt (h j u hu))).trans (h j u hu)
theorem Boxd.laterB {w w' : World} {b B : Nat} {us : List Value} (h : Boxd w b us) (hb : Below B w w') (hB : b < B) : Boxd w' b us := fun j u hu => (hb.cell (p := ⟨b, j, none⟩) hB).trans (h j u hu)
theorem Boxd.new (w : World) (us : Array Value) (T : TypeId) : Boxd (w.alloc (.cells us T)) w.heap.size us.toList := fun j u hu => by
  rw [World.cell?_alloc_at _ _ _ _ rfl]
  simpa using hu
theorem Boxd.pair (w : World) (us vs : Array Value) (T : TypeId) : Below w.heap.size w ((w.alloc (.cells us T)).alloc (.cells vs T)) ∧ Boxd ((w.alloc (.cells us T)).alloc (.cells vs T)) w.heap.size us.toList ∧ Boxd ((w.alloc (.cells us T)).alloc (.cells vs T)) (w.heap.size + 1) vs.toList := by
  refine ⟨((Below.refl _ _).alloc (Nat.le_refl _) _).alloc (by simp) _, (Boxd.new w us T).later ((Below.refl _ _).alloc (Nat.le_refl _) _), ?_⟩
  have h := Boxd.new (w.alloc (.cells us T)) vs T
  rwa [show (w.alloc (.cells us T)).heap.size = w.heap.size + 1 by simp] at h
theorem Boxd.lt {w : World} {b : Nat} {u : Value} {us : List Value} (h : Boxd w b (u :: us)) : b < w.heap.size := cell_lt (h 0 u rfl)
theorem Boxd.c8 {w : World} {b : Nat} {u0 u1 u2 u3 u4 u5 u6 u7 : Value} (h : Boxd w b [u0, u1, u2, u3, u4, u5, u6, u7]) : w.cell? ⟨b, 0, none⟩ = some u0 ∧ w.cell? ⟨b, 1, none⟩ = some u1 ∧ w.cell? ⟨b, 2, none⟩ = some u2 ∧ w.cell? ⟨b, 3, none⟩ = some u3
    ∧ w.cell? ⟨b, 4, none⟩ = some u4 ∧ w.cell? ⟨b, 5, none⟩ = some u5 ∧ w.cell? ⟨b, 6, none⟩ = some u6 ∧ w.cell? ⟨b, 7, none⟩ = some u7 :=
  ⟨h 0 _ rfl, h 1 _ rfl, h 2 _ rfl, h 3 _ rfl, h 4 _ rfl, h 5 _ rfl, h 6 _ rfl, h 7 _ rfl⟩
theorem Boxd.c3 {w : World} {b : Nat} {u0 u1 u2 : Value} (h : Boxd w b [u0, u1, u2]) : w.cell? ⟨b, 0, none⟩ = some u0 ∧ w.cell? ⟨b, 1, none⟩ = some u1 ∧ w.cell? ⟨b, 2, none⟩ = some u2 := ⟨h 0 _ rfl, h 1 _ rfl, h 2 _ rfl⟩

/-! ### appending a row of data, which may be empty, to a row of one's own -/
/-- The cells of a row, one after the other. -/
theorem elems_flat {w : World} {N : Prop} {S : Nat → Prop} {z : Nat} {A : Option Addr} : ∀ (ds : List Dat) (i : Nat), Dat.Elems w N S z A i ds → (∀ d ∈ ds, d.size = z) → ∃ us, Dat.Ins w N S ds us ∧ us.length = ds.length * z ∧ ∀ a, A = some a → ∀ j u, us[j]? = some u → w.cell? (a.add (i * z + j)) = some u
  | [], i, _, _ => ⟨[], by rw [Dat.Ins], by simp, fun _ _ j u h => by simp at h⟩
  | d :: r, i, h, hz => by
    rw [Dat.Elems] at h
    obtain ⟨⟨a, u1, e, _, _, h3, h4⟩, hr⟩ := h
    obtain ⟨us, h5, h6, h7⟩ := elems_flat r (i + 1) hr fun x hx => hz x (List.mem_cons_of_mem _ hx)
    have hl : u1.length = z := (Dat.In.len d u1 h3).trans (hz d List.mem_cons_self)
    refine ⟨u1 ++ us, by rw [Dat.Ins]; exact ⟨u1, us, rfl, h3, h5⟩, by rw [List.length_append, hl, h6, List.length_cons, Nat.add_mul, Nat.one_mul]; omega, fun a' e' j u hu => ?_⟩
    obtain rfl : a = a' := Option.some.inj (e.symm.trans e')
    by_cases hj : j < z
    · rw [List.getElem?_append_left (by omega)] at hu
      have := h4 j u hu
      rwa [add_add] at this
    · rw [List.getElem?_append_right (by omega), hl] at hu
      have := h7 a e' (j - z) u hu
      rwa [show (i + 1) * z + (j - z) = i * z + j by rw [Nat.add_mul, Nat.one_mul]; omega] at this
theorem row_flat {w : World} {N : Prop} {S : Nat → Prop} {z n : Nat} {A : Option Addr} {ds : List Dat} (h : Row w N S z A n ds) (hz : ∀ d ∈ ds, d.size = z) : ∃ us, Dat.Ins w N S ds us ∧ us.length = n * z ∧ ∀ a, A = some a → ∀ j u, us[j]? = some u → w.cell? (a.add j) = some u := by
  obtain ⟨us, h1, h2, h3⟩ := elems_flat ds 0 h.elems hz
  exact ⟨us, h1, by rw [h2, h.len], fun a e j u hu => by have := h3 a e j u hu; rwa [Nat.zero_mul, Nat.zero_add] at this⟩
theorem ins_cells {w : World} {N : Prop} {S : Nat → Prop} : ∀ {ds : List Dat} {us : List Value}, (∀ d ∈ ds, ∀ u, d.In w N S u → ∀ x ∈ u, x.oneCell' = true) → Dat.Ins w N S ds us → ∀ x ∈ us, x.oneCell' = true
  | [], us, _, h => by
    rw [Dat.Ins] at h
    subst h
    intro x hx
    cases hx
  | d :: r, us, hd, h => by
    rw [Dat.Ins] at h
    obtain ⟨u1, u2, rfl, h1, h2⟩ := h
    intro x hx
    rcases List.mem_append.1 hx with hx | hx
    · exact hd d List.mem_cons_self u1 h1 x hx
    · exact ins_cells (fun d hd' => hd d (List.mem_cons_of_mem _ hd')) h2 x hx
theorem run_append_zero (P : Program) (w : World) (base : Nat) (t ty e : TypeId) (i : TypeInfo) (size : Nat) (ht : P.underlying t = some (.slice e)) (hi : P.info? e = some i) (v : Value) (n : Nat) (xs : List Value) (hown : w.ownsRow base e size v n xs) (A : Option Addr) (b : Nat) :
    (Builtin.append_ #[t, t] ty #[v, .slice A 0 b]).run P w = .ok v w := by
  have hl0 : ∀ p : Addr, (loadCells p 0).run P w = .ok #[] w := fun p => run_loadCells_list (P := P) w p [] (fun j v h => by simp at h)
  rcases hown.2 with ⟨rfl, rfl⟩ | ⟨g, cap, cur, rfl, _, _, hnc, _⟩
  · cases A <;> simp [Builtin.append_, run_underlying ht, sizeOf, typeInfo, hi, Builtin.lenOf, Builtin.firstCells, hl0, Result.andThen]
  · cases A <;> simp [Builtin.append_, run_underlying ht, sizeOf, typeInfo, hi, Builtin.lenOf, Builtin.firstCells, hnc, storeCells, hl0, Result.andThen]

/-- What a slice type is. -/
structure SlOf (t e : TypeId) (size bytes : Nat) : Prop where
  und : Tryd.prog.underlying t = some (.slice e)
  info : ∃ i z, Tryd.prog.info? e = some i ∧ i.zero = some z ∧ i.size = size ∧ i.bytes = bytes ∧ z.cells.size = size
  pos : 0 < size
/-- Appending, done. -/
structure Appd (w w' : World) (base : Nat) (e : TypeId) (size n m : Nat) (v v' : Value) (xs us : List Value) : Prop where
  own : w'.ownsRow base e size v' (n + m) (xs ++ us)
  grow : w.grownBy w' v.ownBlock
  at_ : v'.ownBlock = v.ownBlock ∨ v'.ownBlock = some w.heap.size
theorem run_append_row {t e : TypeId} {size bytes : Nat} (hs : SlOf t e size bytes) (ty : TypeId) {w : World} {base n m c : Nat} {v : Value} {xs : List Value} {A : Option Addr} {us : List Value} (hown : w.ownsRow base e size v n xs) (hbase : base ≤ w.heap.size)
    (hl : us.length = m * size) (hc : ∀ a, A = some a → ∀ j u, us[j]? = some u → w.cell? (a.add j) = some u) (h1 : ∀ u ∈ us, u.oneCell' = true) (hA : 0 < m → ∃ a, A = some a) (h63 : n + m ≤ 1000000) (hby : bytes ≤ 1000) :
    ∃ v' w', (Builtin.append_ #[t, t] ty #[v, .slice A m c]).run Tryd.prog w = .ok v' w' ∧ Appd w w' base e size n m v v' xs us := by
  obtain ⟨i, z, hi, hz, hsz, hb, hzs⟩ := hs.info
  by_cases hm : m = 0
  · subst hm
    have : us = [] := List.eq_nil_of_length_eq_zero (by rw [hl]; simp)
    subst this
    exact ⟨v, w, run_append_zero _ w base t ty e i size hs.und hi v n xs hown A c, by rw [List.append_nil]; exact hown, ⟨rfl, rfl, rfl, Nat.le_refl _, fun _ _ _ => rfl⟩, .inl rfl⟩
  · obtain ⟨a, rfl⟩ := hA (by omega)
    have hmul : (n + m) * bytes ≤ 1000000 * 1000 := Nat.mul_le_mul h63 hby
    obtain ⟨g, cap, w', h2, h3, h4, h5, h6⟩ := run_append_lies (P := Tryd.prog) w t ty base e i z size bytes hs.und hi hz hsz hb hzs hs.pos v n xs hown a m c us hl (hc a rfl) h1 (by omega) (by unfold maxLen; omega) (by omega) hbase w.heap.size rfl
    refine ⟨_, w', h2, h3, h4, ?_⟩
    rcases h5 with h5 | h5
    · exact .inl (by rw [h5]; rfl)
    · exact .inr (by rw [h5]; rfl)
theorem wp_append_row {t e : TypeId} {size bytes : Nat} (hs : SlOf t e size bytes) {o : Oper} {a : Act} {K : Act → World → Prop} {Q : Exit → Act → World → Prop} (s x : Operand) (ho : o.op = .call { callee := .builtin .append, args := #[s, x], argTypes := #[t, t] })
    {w : World} {base n m c : Nat} {v : Value} {xs : List Value} {A : Option Addr} {us : List Value} (hv : a.eval s = v) (hx : a.eval x = .slice A m c) (hown : w.ownsRow base e size v n xs) (hbase : base ≤ w.heap.size)
    (hl : us.length = m * size) (hc : ∀ a, A = some a → ∀ j u, us[j]? = some u → w.cell? (a.add j) = some u) (h1 : ∀ u ∈ us, u.oneCell' = true) (hA : 0 < m → ∃ a, A = some a) (h63 : n + m ≤ 1000000) (hby : bytes ≤ 1000)
    (h : ∀ v' w', Appd w w' base e size n m v v' xs us → K (a.put o.dst v') w') : o.wp Tryd.prog a w K Q := by
  obtain ⟨v', w', hr, h2⟩ := run_append_row hs o.type hown hbase hl hc h1 hA h63 hby (c := c)
  unfold Oper.wp execOp
  simp only [ho, resolve, invoke, builtin, Sem.run_bind, Sem.run_pure, Result.andThen_ok, List.map_toArray, List.map_cons, List.map_nil, hv, hx, hr]
  exact h v' w' h2
theorem wpList_append_row {t e : TypeId} {size bytes : Nat} (hs : SlOf t e size bytes) {ops : Array Oper} {rest : List Oper} {o : Oper} {a : Act} {Q : Exit → Act → World → Prop} (hgd : o.guard = none) (s x : Operand) (ho : o.op = .call { callee := .builtin .append, args := #[s, x], argTypes := #[t, t] })
    {w : World} {base n m c : Nat} {v : Value} {xs : List Value} {A : Option Addr} {us : List Value} (hv : a.eval s = v) (hx : a.eval x = .slice A m c) (hown : w.ownsRow base e size v n xs) (hbase : base ≤ w.heap.size)
    (hl : us.length = m * size) (hc : ∀ a, A = some a → ∀ j u, us[j]? = some u → w.cell? (a.add j) = some u) (h1 : ∀ u ∈ us, u.oneCell' = true) (hA : 0 < m → ∃ a, A = some a) (h63 : n + m ≤ 1000000) (hby : bytes ≤ 1000)
    (h : ∀ v' w', Appd w w' base e size n m v v' xs us → wpList Tryd.prog ops Q rest (a.put o.dst v') w') : wpList Tryd.prog ops Q (o :: rest) a w :=
  wpList_plain hgd fun _ hK => wp_append_row hs s x ho hv hx hown hbase hl hc h1 hA h63 hby fun v' w' h2 => hK _ _ (h v' w' h2)
theorem ready_append_row {t e : TypeId} {size bytes : Nat} (hs : SlOf t e size bytes) {ops : Array Oper} {o : Oper} {a : Act} {K : Act → World → Prop} {Q : Exit → Act → World → Prop} {E : Prop} (hgd : o.guard = none) (s x : Operand) (ho : o.op = .call { callee := .builtin .append, args := #[s, x], argTypes := #[t, t] })
    {w : World} {base n m c : Nat} {v : Value} {xs : List Value} {A : Option Addr} {us : List Value} (hv : a.eval s = v) (hx : a.eval x = .slice A m c) (hown : w.ownsRow base e size v n xs) (hbase : base ≤ w.heap.size)
    (hl : us.length = m * size) (hc : ∀ a, A = some a → ∀ j u, us[j]? = some u → w.cell? (a.add j) = some u) (h1 : ∀ u ∈ us, u.oneCell' = true) (hA : 0 < m → ∃ a, A = some a) (h63 : n + m ≤ 1000000) (hby : bytes ≤ 1000)
    (h : ∀ v' w', Appd w w' base e size n m v v' xs us → K (a.put o.dst v') w') : if Region.wanted o (yielded ops a.tmps) = true then Oper.wp Tryd.prog o a w K Q else E := by
  have hw : Region.wanted o (yielded ops a.tmps) = true := by simp [Region.wanted, hgd]
  rw [if_pos hw]
  exact wp_append_row hs s x ho hv hx hown hbase hl hc h1 hA h63 hby h
theorem slStr : SlOf 48 9 1 16 := by
  obtain ⟨i, hi, hz, hs, hb⟩ := info_parts (show (Tryd.prog.info? 9).map (fun i => (i.zero, i.size, i.bytes)) = some (some (.string ⟨#[]⟩), 1, 16) by kernel_rfl)
  exact ⟨Tryd.underlying48, ⟨i, _, hi, hz, hs, hb, rfl⟩, by omega⟩
theorem slTy : SlOf 23 25 3 48 := by
  obtain ⟨i, hi, hz, hs, hb⟩ := info_parts (show (Tryd.prog.info? 25).map (fun i => (i.zero, i.size, i.bytes)) = some (some (.agg #[.string ⟨#[]⟩, .slice none 0 0, .int .i64 0]), 3, 48) by kernel_rfl)
  exact ⟨Tryd.underlying23, ⟨i, _, hi, hz, hs, hb, rfl⟩, by omega⟩
theorem row_some {w : World} {N : Prop} {S : Nat → Prop} {z n : Nat} {A : Option Addr} {ds : List Dat} (h : Row w N S z A n ds) : 0 < n → ∃ a, A = some a := fun hn => by
  obtain ⟨d, hd⟩ : ∃ d, ds[0]? = some d := ⟨_, List.getElem?_eq_getElem (by rw [h.len]; exact hn)⟩
  obtain ⟨a, _, e, _⟩ := h.at hd
  exact ⟨a, e⟩
end Go.Proofs.YtjhlehdjdaphcaaDoor
