/- Data in memory: cells, strings, structs and slices of them, as trees; they last wherever their blocks are kept. No condition. -/
import Derived.Test.YtkdlidakdknhjaaDoorBs
import Derived.OwnWalk
import Derived.Laws.AppendOwn
import Derived.Laws.OwnMore
import Derived.Laws.NewBlocks
import Derived.Deep.MidRow
import Derived.Laws.MakeOwn
namespace Go.Proofs.YtkdlidakdknhjaaDoor
open Go.RowKit

/-- Data: a cell, which leads nowhere; a string; a struct; a slice whose elements have z cells each; with q, one that is no longer than its capacity. -/
inductive Dat where
  | cell (v : Value)
  | str (s : ByteArray)
  | tup (fs : List Dat)
  | arr (q : Bool) (z : Nat) (xs : List Dat)

/-- These values lie in the cells from p on. -/
def CellsAt (w : World) (p : Addr) (us : List Value) : Prop := ∀ j u, us[j]? = some u → w.cell? (p.add j) = some u

mutual
/-- These cells are these data; all blocks that they lead to are in S; under N each slice begins a block that may be written. -/
def Dat.In (w : World) (N : Prop) (S : Nat → Prop) : Dat → List Value → Prop
  | .cell v, us => us = [v]
  | .str s, us => us = [.string s] ∧ s.size ≤ 9223372036854775807
  | .tup fs, us => Dat.Ins w N S fs us
  | .arr q z xs, us => ∃ A c, us = [.slice A xs.length c] ∧ xs.length ≤ 9223372036854775807 ∧ (q = true → xs.length ≤ c) ∧ Dat.Elems w N S z A 0 xs
/-- The same for data one after the other. -/
def Dat.Ins (w : World) (N : Prop) (S : Nat → Prop) : List Dat → List Value → Prop
  | [], us => us = []
  | d :: r, us => ∃ u1 u2, us = u1 ++ u2 ∧ Dat.In w N S d u1 ∧ Dat.Ins w N S r u2
/-- The elements of a slice, from the i-th on. -/
def Dat.Elems (w : World) (N : Prop) (S : Nat → Prop) (z : Nat) (A : Option Addr) (i : Nat) : List Dat → Prop
  | [] => True
  | d :: r => (∃ a us, A = some a ∧ S a.block ∧ (N → a.off = 0 ∧ a.spot = none ∧ ∀ k, w.frozen? ⟨a.block, k, none⟩ = false) ∧ Dat.In w N S d us ∧ CellsAt w (a.add (i * z)) us) ∧ Dat.Elems w N S z A (i + 1) r
end

/-- What lies in these blocks is as it was. -/
def Kept (w w' : World) (S : Nat → Prop) : Prop := ∀ p : Addr, S p.block → w'.cell? p = w.cell? p ∧ w'.frozen? p = w.frozen? p

mutual
theorem Dat.In.keep {w w' : World} {N N' : Prop} {S S' : Nat → Prop} (hN : N' → N) (hk : Kept w w' S) (hS : ∀ b, S b → S' b) : ∀ (d : Dat) (us : List Value), d.In w N S us → d.In w' N' S' us
  | .cell v, us, h => by rw [Dat.In] at h ⊢; exact h
  | .str s, us, h => by rw [Dat.In] at h ⊢; exact h
  | .tup fs, us, h => by rw [Dat.In] at h ⊢; exact Dat.Ins.keep hN hk hS fs us h
  | .arr q z xs, us, h => by
    rw [Dat.In] at h ⊢
    obtain ⟨A, c, h1, h2, hq, h3⟩ := h
    exact ⟨A, c, h1, h2, hq, Dat.Elems.keep hN hk hS z A xs 0 h3⟩
theorem Dat.Ins.keep {w w' : World} {N N' : Prop} {S S' : Nat → Prop} (hN : N' → N) (hk : Kept w w' S) (hS : ∀ b, S b → S' b) : ∀ (ds : List Dat) (us : List Value), Dat.Ins w N S ds us → Dat.Ins w' N' S' ds us
  | [], us, h => by rw [Dat.Ins] at h ⊢; exact h
  | d :: r, us, h => by
    rw [Dat.Ins] at h ⊢
    obtain ⟨u1, u2, h1, h2, h3⟩ := h
    exact ⟨u1, u2, h1, Dat.In.keep hN hk hS d u1 h2, Dat.Ins.keep hN hk hS r u2 h3⟩
theorem Dat.Elems.keep {w w' : World} {N N' : Prop} {S S' : Nat → Prop} (hN : N' → N) (hk : Kept w w' S) (hS : ∀ b, S b → S' b) (z : Nat) (A : Option Addr) : ∀ (ds : List Dat) (i : Nat), Dat.Elems w N S z A i ds → Dat.Elems w' N' S' z A i ds
  | [], i, h => by rw [Dat.Elems]; trivial
  | d :: r, i, h => by
    rw [Dat.Elems] at h ⊢
    obtain ⟨⟨a, us, e, h1, h2, h3, h4⟩, h5⟩ := h
    refine ⟨⟨a, us, e, hS _ h1, fun h => ?_, Dat.In.keep hN hk hS d us h3, fun j u hu => ?_⟩, Dat.Elems.keep hN hk hS z A r (i + 1) h5⟩
    · obtain ⟨g1, g2, g3⟩ := h2 (hN h)
      exact ⟨g1, g2, fun k => (hk ⟨a.block, k, none⟩ h1).2.trans (g3 k)⟩
    · rw [(hk ((a.add (i * z)).add j) (by rw [block_of_add, block_of_add]; exact h1)).1]
      exact h4 j u hu
end
theorem Dat.In.wide {w : World} {N : Prop} {S S' : Nat → Prop} {d : Dat} {us : List Value} (h : d.In w N S us) (hS : ∀ b, S b → S' b) : d.In w N S' us := Dat.In.keep id (fun _ _ => ⟨rfl, rfl⟩) hS d us h
theorem Dat.In.plain {w : World} {N : Prop} {S : Nat → Prop} {d : Dat} {us : List Value} (h : d.In w N S us) : d.In w False S us := Dat.In.keep False.elim (fun _ _ => ⟨rfl, rfl⟩) (fun _ h => h) d us h
theorem Dat.In.later {w w' : World} {N : Prop} {S : Nat → Prop} {b : Nat} {d : Dat} {us : List Value} (h : d.In w N S us) (hb : Below b w w') (hh : ∀ k, S k → k < b) : d.In w' N S us :=
  Dat.In.keep id (fun _ h2 => ⟨hb.cell (hh _ h2), hb.frozen (hh _ h2)⟩) (fun _ h => h) d us h
theorem Dat.In.alloc {w : World} {N : Prop} {S : Nat → Prop} {d : Dat} {us : List Value} (h : d.In w N S us) (hh : ∀ k, S k → k < w.heap.size) (o : Obj) : d.In (w.alloc o) N S us :=
  h.later (b := w.heap.size) ((Below.refl _ _).alloc (Nat.le_refl _) _) hh
theorem Dat.In.setCell {w : World} {N : Prop} {S : Nat → Prop} {d : Dat} {us : List Value} (h : d.In w N S us) (p : Addr) (u : Value) (hne : ¬ S p.block) : d.In (w.setCell p u) N S us :=
  Dat.In.keep id (fun q h1 => ⟨World.cell?_setCell_other _ _ _ _ (by rintro rfl; exact hne h1), World.frozen?_setCell _ _ _ _⟩) (fun _ h => h) d us h

theorem Dat.Elems.at {w : World} {N : Prop} {S : Nat → Prop} {z : Nat} {A : Option Addr} : ∀ {ds : List Dat} {i k : Nat} {d : Dat}, Dat.Elems w N S z A i ds → ds[k]? = some d →
    ∃ a us, A = some a ∧ S a.block ∧ (N → a.off = 0 ∧ a.spot = none ∧ ∀ k, w.frozen? ⟨a.block, k, none⟩ = false) ∧ d.In w N S us ∧ CellsAt w (a.add ((i + k) * z)) us
  | x :: r, i, 0, d, h, hd => by
    obtain rfl : x = d := by simpa using hd
    rw [Dat.Elems] at h
    exact h.1
  | x :: r, i, k + 1, d, h, hd => by
    rw [Dat.Elems] at h
    have := Dat.Elems.at h.2 (k := k) (by simpa using hd)
    rwa [show i + (k + 1) = i + 1 + k by omega]
theorem Dat.Elems.of {w : World} {N : Prop} {S : Nat → Prop} {z : Nat} {A : Option Addr} : ∀ {ds : List Dat} {i : Nat}, (∀ k d, ds[k]? = some d →
    ∃ a us, A = some a ∧ S a.block ∧ (N → a.off = 0 ∧ a.spot = none ∧ ∀ k, w.frozen? ⟨a.block, k, none⟩ = false) ∧ d.In w N S us ∧ CellsAt w (a.add ((i + k) * z)) us) → Dat.Elems w N S z A i ds
  | [], _, _ => by rw [Dat.Elems]; trivial
  | x :: r, i, h => by
    rw [Dat.Elems]
    refine ⟨h 0 x rfl, Dat.Elems.of fun k d hd => ?_⟩
    have := h (k + 1) d (by simpa using hd)
    rwa [show i + 1 + k = i + (k + 1) by omega]

/-- A slice of data. -/
structure Row (w : World) (N : Prop) (S : Nat → Prop) (z : Nat) (A : Option Addr) (n : Nat) (ds : List Dat) : Prop where
  len : ds.length = n
  le : n ≤ 9223372036854775807
  elems : Dat.Elems w N S z A 0 ds
theorem Row.at {w : World} {N : Prop} {S : Nat → Prop} {z n k : Nat} {A : Option Addr} {ds : List Dat} {d : Dat} (h : Row w N S z A n ds) (hd : ds[k]? = some d) :
    ∃ a us, A = some a ∧ S a.block ∧ (N → a.off = 0 ∧ a.spot = none ∧ ∀ k, w.frozen? ⟨a.block, k, none⟩ = false) ∧ d.In w N S us ∧ CellsAt w (a.add (k * z)) us := by
  have := h.elems.at hd
  rwa [Nat.zero_add] at this
theorem Row.nil (w : World) (N : Prop) (S : Nat → Prop) (z : Nat) (A : Option Addr) : Row w N S z A 0 [] := ⟨rfl, by omega, by rw [Dat.Elems]; trivial⟩
theorem Row.keep {w w' : World} {N N' : Prop} {S S' : Nat → Prop} {z n : Nat} {A : Option Addr} {ds : List Dat} (h : Row w N S z A n ds) (hN : N' → N) (hk : Kept w w' S) (hS : ∀ b, S b → S' b) : Row w' N' S' z A n ds :=
  ⟨h.len, h.le, Dat.Elems.keep hN hk hS z A ds 0 h.elems⟩
theorem Row.wide {w : World} {N : Prop} {S S' : Nat → Prop} {z n : Nat} {A : Option Addr} {ds : List Dat} (h : Row w N S z A n ds) (hS : ∀ b, S b → S' b) : Row w N S' z A n ds := h.keep id (fun _ _ => ⟨rfl, rfl⟩) hS
theorem Row.plain {w : World} {N : Prop} {S : Nat → Prop} {z n : Nat} {A : Option Addr} {ds : List Dat} (h : Row w N S z A n ds) : Row w False S z A n ds := h.keep False.elim (fun _ _ => ⟨rfl, rfl⟩) fun _ h => h
theorem Row.later {w w' : World} {N : Prop} {S : Nat → Prop} {b z n : Nat} {A : Option Addr} {ds : List Dat} (h : Row w N S z A n ds) (hb : Below b w w') (hh : ∀ k, S k → k < b) : Row w' N S z A n ds :=
  h.keep id (fun _ h2 => ⟨hb.cell (hh _ h2), hb.frozen (hh _ h2)⟩) fun _ h => h
theorem Row.alloc {w : World} {N : Prop} {S : Nat → Prop} {z n : Nat} {A : Option Addr} {ds : List Dat} (h : Row w N S z A n ds) (hh : ∀ k, S k → k < w.heap.size) (o : Obj) : Row (w.alloc o) N S z A n ds :=
  h.later (b := w.heap.size) ((Below.refl _ _).alloc (Nat.le_refl _) _) hh
theorem Row.setCell {w : World} {N : Prop} {S : Nat → Prop} {z n : Nat} {A : Option Addr} {ds : List Dat} (h : Row w N S z A n ds) (p : Addr) (u : Value) (hne : ¬ S p.block) : Row (w.setCell p u) N S z A n ds :=
  h.keep id (fun q h1 => ⟨World.cell?_setCell_other _ _ _ _ (by rintro rfl; exact hne h1), World.frozen?_setCell _ _ _ _⟩) fun _ h => h
/-- As the argument of a call in a world: all blocks lie there. -/
abbrev RowH (w : World) (z : Nat) (A : Option Addr) (n : Nat) (ds : List Dat) : Prop := Row w False (· < w.heap.size) z A n ds
abbrev Dat.H (w : World) (d : Dat) (us : List Value) : Prop := d.In w False (· < w.heap.size) us
theorem RowH.later {w w' : World} {z n : Nat} {A : Option Addr} {ds : List Dat} (h : RowH w z A n ds) (hb : Below w.heap.size w w') : RowH w' z A n ds :=
  (Row.later h hb (fun _ h => h)).wide (fun _ h => Nat.lt_of_lt_of_le h hb.size)
theorem Dat.H.later {w w' : World} {d : Dat} {us : List Value} (h : d.H w us) (hb : Below w.heap.size w w') : d.H w' us :=
  (Dat.In.later h hb (fun _ h => h)).wide (fun _ h => Nat.lt_of_lt_of_le h hb.size)

/-! ### how many cells -/
mutual
def Dat.size : Dat → Nat
  | .tup fs => Dat.sizes fs
  | _ => 1
def Dat.sizes : List Dat → Nat
  | [] => 0
  | d :: r => d.size + Dat.sizes r
end
mutual
theorem Dat.In.len {w : World} {N : Prop} {S : Nat → Prop} : ∀ (d : Dat) (us : List Value), d.In w N S us → us.length = d.size
  | .cell v, us, h => by rw [Dat.In] at h; subst h; rfl
  | .str s, us, h => by rw [Dat.In] at h; obtain ⟨rfl, _⟩ := h; rfl
  | .tup fs, us, h => by rw [Dat.In] at h; rw [Dat.size]; exact Dat.Ins.len fs us h
  | .arr q z xs, us, h => by rw [Dat.In] at h; obtain ⟨A, c, rfl, _⟩ := h; rfl
theorem Dat.Ins.len {w : World} {N : Prop} {S : Nat → Prop} : ∀ (ds : List Dat) (us : List Value), Dat.Ins w N S ds us → us.length = Dat.sizes ds
  | [], us, h => by rw [Dat.Ins] at h; subst h; rfl
  | d :: r, us, h => by
    rw [Dat.Ins] at h
    obtain ⟨u1, u2, rfl, h1, h2⟩ := h
    rw [List.length_append, Dat.sizes, Dat.In.len d u1 h1, Dat.Ins.len r u2 h2]
end

/-! ### a row of cells that a call builds -/
theorem Dat.Ins.snoc {w : World} {N : Prop} {S : Nat → Prop} {d : Dat} {u : List Value} (hd : d.In w N S u) : ∀ {ds : List Dat} {us : List Value}, Dat.Ins w N S ds us → Dat.Ins w N S (ds ++ [d]) (us ++ u)
  | [], us, h => by
    rw [Dat.Ins] at h
    subst h
    simp only [List.nil_append]
    rw [Dat.Ins]
    exact ⟨u, [], by simp, hd, by rw [Dat.Ins]⟩
  | x :: r, us, h => by
    rw [Dat.Ins] at h
    obtain ⟨u1, u2, rfl, h1, h2⟩ := h
    rw [List.cons_append, Dat.Ins]
    exact ⟨u1, u2 ++ u, by rw [List.append_assoc], h1, Dat.Ins.snoc hd h2⟩
/-- The j-th of data of z cells each. -/
theorem Dat.Ins.at {w : World} {N : Prop} {S : Nat → Prop} {z : Nat} : ∀ {ds : List Dat} {us : List Value} {j : Nat} {d : Dat}, Dat.Ins w N S ds us → (∀ x ∈ ds, x.size = z) → ds[j]? = some d →
    ∃ u, d.In w N S u ∧ ∀ i v, u[i]? = some v → us[j * z + i]? = some v
  | x :: r, us, 0, d, h, hz, hd => by
    obtain rfl : x = d := by simpa using hd
    rw [Dat.Ins] at h
    obtain ⟨u1, u2, rfl, h1, h2⟩ := h
    refine ⟨u1, h1, fun i v hv => ?_⟩
    rw [Nat.zero_mul, Nat.zero_add, List.getElem?_append_left (List.getElem?_eq_some_iff.1 hv).1]
    exact hv
  | x :: r, us, j + 1, d, h, hz, hd => by
    rw [Dat.Ins] at h
    obtain ⟨u1, u2, rfl, h1, h2⟩ := h
    obtain ⟨u, h3, h4⟩ := Dat.Ins.at h2 (fun y hy => hz y (List.mem_cons_of_mem _ hy)) (j := j) (by simpa using hd)
    refine ⟨u, h3, fun i v hv => ?_⟩
    have hl : u1.length = z := (Dat.In.len x u1 h1).trans (hz x List.mem_cons_self)
    rw [List.getElem?_append_right (by rw [hl, Nat.add_mul, Nat.one_mul]; omega), hl]
    rw [show (j + 1) * z + i - z = j * z + i by rw [Nat.add_mul, Nat.one_mul]; omega]
    exact h4 i v hv
theorem add_add (a : Addr) (i j : Nat) : (a.add i).add j = a.add (i + j) := by
  unfold Addr.add
  by_cases hi : i = 0
  · subst hi; simp
  · by_cases hj : j = 0
    · subst hj; simp
    · rw [if_neg hi, if_neg hj, if_neg (by omega)]
      simp [Nat.add_assoc]
theorem add_zero_addr (g i : Nat) : (⟨g, 0, none⟩ : Addr).add i = ⟨g, i, none⟩ := by unfold Addr.add; split <;> simp_all

/-- What the call has built is a slice of these data. -/
theorem row_of_own {w : World} {N : Prop} {base n z : Nat} {e : TypeId} {v : Value} {cs : List Value} {ds : List Dat} {S S' : Nat → Prop} (h : w.ownsRow base e z v n cs) (hr : Dat.Ins w N S ds cs) (hz : ∀ x ∈ ds, x.size = z) (hz0 : 0 < z) (hS : ∀ b, S b → S' b)
    (hv : ∀ g, v.ownBlock = some g → S' g) (hn : n ≤ 9223372036854775807) : ∃ A c, v = .slice A n c ∧ Row w N S' z A n ds ∧ n ≤ c := by
  have hsz : Dat.sizes ds = ds.length * z := by
    clear hr
    induction ds with
    | nil => simp [Dat.sizes]
    | cons d r ih => rw [Dat.sizes, hz d List.mem_cons_self, ih (fun x hx => hz x (List.mem_cons_of_mem _ hx)), List.length_cons, Nat.add_mul, Nat.one_mul]; omega
  have hlen : ds.length = n := by
    have h1 := Dat.Ins.len ds cs hr
    have h2 := h.1
    rw [h2, hsz] at h1
    exact (Nat.eq_of_mul_eq_mul_right hz0 h1).symm
  rcases h.2 with ⟨rfl, rfl⟩ | ⟨g, cap, cur, rfl, hb, hg, hnc, hc, hs, ht⟩
  · obtain rfl := List.eq_nil_of_length_eq_zero hlen
    exact ⟨none, 0, rfl, Row.nil _ _ _ _ _, Nat.le_refl _⟩
  · refine ⟨some ⟨g, 0, none⟩, cap, rfl, ⟨hlen, hn, Dat.Elems.of fun k d hk => ?_⟩, hnc⟩
    obtain ⟨u, hu, hat⟩ := hr.at hz hk
    refine ⟨⟨g, 0, none⟩, u, rfl, hv g rfl, fun _ => ⟨rfl, rfl, fun k => by simp [World.frozen?, hg]⟩, hu.wide hS, fun j x hx => ?_⟩
    rw [Nat.zero_add, add_add]
    exact h.cells (g := g) rfl _ _ (hat j x hx)

/-- A row of data that is being built, in blocks from lo on. -/
def Built (V : World) (N : Prop) (e : TypeId) (z lo : Nat) (v : Value) (k : Nat) (ds : List Dat) : Prop :=
  ∃ cs S, V.ownsRow lo e z v k cs ∧ Dat.Ins V N S ds cs ∧ (∀ x ∈ ds, x.size = z) ∧ ∀ b, S b → lo ≤ b ∧ b < V.heap.size ∧ v.ownBlock ≠ some b
theorem Built.nil (V : World) (N : Prop) (e : TypeId) (z lo : Nat) : Built V N e z lo (.slice none 0 0) 0 [] := ⟨[], fun _ => False, World.ownsRow_nil _ _ _ _, by rw [Dat.Ins], by simp, fun _ h => h.elim⟩
/-- The row as a slice that the call has made. -/
theorem Built.row {V : World} {N : Prop} {e : TypeId} {z lo : Nat} {v : Value} {k : Nat} {ds : List Dat} (h : Built V N e z lo v k ds) (hz : 0 < z) (hk : k ≤ 9223372036854775807) : ∃ A c, v = .slice A k c ∧ Row V N (fun b => lo ≤ b ∧ b < V.heap.size) z A k ds ∧ k ≤ c := by
  obtain ⟨cs, S, h1, h2, h3, h4⟩ := h
  exact row_of_own h1 h2 h3 hz (fun b hb => ⟨(h4 b hb).1, (h4 b hb).2.1⟩) (fun g hg => ⟨own_base h1 g hg, (h1.lt g hg).2⟩) hk
/-- The same row in a later world: what changed is above, or neither the row's block nor a block that the data lead to. -/
theorem Built.later {V V' : World} {N : Prop} {e : TypeId} {z lo : Nat} {v : Value} {k : Nat} {ds : List Dat} (h : Built V N e z lo v k ds) (hb : Below V.heap.size V V') : Built V' N e z lo v k ds := by
  obtain ⟨cs, S, h1, h2, h3, h4⟩ := h
  exact ⟨cs, S, own_below h1 hb, Dat.Ins.keep id (fun p hp => ⟨hb.cell (h4 _ hp).2.1, hb.frozen (h4 _ hp).2.1⟩) (fun _ h => h) ds cs h2, h3, fun b hS => ⟨(h4 b hS).1, Nat.lt_of_lt_of_le (h4 b hS).2.1 hb.size, (h4 b hS).2.2⟩⟩
/-- One more: made in the blocks from lo on (between wr and w1), laid in a new block (of w1), appended (to w2). -/
theorem Built.step {lo : Nat} {wr w1 w2 : World} {N : Prop} {e T : TypeId} {z k : Nat} {ds : List Dat} {v : Value} {cs us : List Value} {S S1 : Nat → Prop} {d : Dat} {gg cap : Nat}
    (hown : wr.ownsRow lo e z v k cs) (hrows : Dat.Ins wr N S ds cs) (hzs : ∀ x ∈ ds, x.size = z) (hS : ∀ b, S b → lo ≤ b ∧ b < wr.heap.size ∧ v.ownBlock ≠ some b)
    (hb1 : Below wr.heap.size wr w1) (hd : d.In w1 N S1 us) (hS1 : ∀ b, S1 b → lo ≤ b ∧ b < w1.heap.size ∧ v.ownBlock ≠ some b) (hz : d.size = z)
    (hown2 : w2.ownsRow lo e z (.slice (some ⟨gg, 0, none⟩) (k + 1) cap) (k + 1) (cs ++ us))
    (hgrow : (w1.alloc (.cells us.toArray T)).grownBy w2 v.ownBlock) (hat : v.ownBlock = some gg ∨ gg = w1.heap.size + 1) :
    Built w2 N e z lo (.slice (some ⟨gg, 0, none⟩) (k + 1) cap) (k + 1) (ds ++ [d]) := by
  have s1 := hb1.size
  have s2 : w1.heap.size + 1 ≤ w2.heap.size := by have := hgrow.size; simpa using this
  have ol : ∀ k, v.ownBlock = some k → k < wr.heap.size := fun k hk => (hown.lt k hk).2
  have far : ∀ p : Addr, p.block < w1.heap.size → v.ownBlock ≠ some p.block → w2.cell? p = w1.cell? p ∧ w2.frozen? p = w1.frozen? p := fun p h1 h2 => by
    rw [hgrow.cell_far p (by simp; omega) (fun h => h2 h.symm), hgrow.frozen_far p (by simp; omega) (fun h => h2 h.symm)]
    exact ⟨((Below.refl w1.heap.size w1).alloc (Nat.le_refl _) _).cell h1, ((Below.refl w1.heap.size w1).alloc (Nat.le_refl _) _).frozen h1⟩
  refine ⟨_, fun b => S b ∨ S1 b, hown2, Dat.Ins.snoc ?_ ?_, ?_, ?_⟩
  · exact Dat.In.keep id (fun p hp => far p (hS1 _ hp).2.1 (hS1 _ hp).2.2) (fun b hb => .inr hb) d us hd
  · refine Dat.Ins.keep id (fun p hp => ?_) (fun b hb => .inl hb) ds cs hrows
    obtain ⟨h1, h2, h3⟩ := hS _ hp
    obtain ⟨e1, e2⟩ := far p (by omega) h3
    exact ⟨e1.trans (hb1.cell h2), e2.trans (hb1.frozen h2)⟩
  · intro x hx
    rcases List.mem_append.1 hx with hx | hx
    · exact hzs x hx
    · obtain rfl := List.mem_singleton.1 hx
      exact hz
  · intro b hb
    have key : b < w1.heap.size ∧ v.ownBlock ≠ some b := hb.elim (fun h => ⟨by have := (hS b h).2.1; omega, (hS b h).2.2⟩) (fun h => (hS1 b h).2)
    refine ⟨hb.elim (fun h => (hS b h).1) (fun h => (hS1 b h).1), by omega, fun h => ?_⟩
    simp only [Value.ownBlock, Option.some.injEq] at h
    rcases hat with h4 | h4
    · exact key.2 (by rw [h4, h])
    · have := key.1; omega
end Go.Proofs.YtkdlidakdknhjaaDoor
