/- Types in memory, and rows of types that a call builds. No condition. -/
import Derived.Test.YtaaemebghkobkaaDoorBs
import Derived.Test.YtaaemebghkobkaaDoorTyA
import Derived.OwnWalk
import Derived.Laws.AppendOwn
import Derived.Laws.OwnMore
import Derived.Laws.NewBlocks
namespace Go.Proofs.YtaaemebghkobkaaDoor
open Go.RowKit

mutual
/-- A type at the i-th place of a slice whose elements begin at A; all its blocks are in S; under N each slice begins a block that may be written. -/
def TyCells (w : World) (N : Prop) (S : Nat → Prop) (A : Option Addr) (i : Nat) : Ty → Prop
  | .mk s xs o => ∃ a B c, A = some a ∧ S a.block ∧ (N → a.off = 0 ∧ a.spot = none ∧ ∀ k, w.frozen? ⟨a.block, k, none⟩ = false) ∧ w.cell? (a.add (i * 3)) = some (.string s)
      ∧ w.cell? ⟨(a.add (i * 3)).block, (a.add (i * 3)).off + 1, none⟩ = some (.slice B xs.length c) ∧ w.cell? ⟨(a.add (i * 3)).block, (a.add (i * 3)).off + 2, none⟩ = some (.int .i64 o)
      ∧ s.size ≤ 9223372036854775807 ∧ xs.length ≤ 9223372036854775807 ∧ ArgsIn w N S B 0 xs
/-- Types from the i-th place on. -/
def ArgsIn (w : World) (N : Prop) (S : Nat → Prop) (A : Option Addr) (i : Nat) : List Ty → Prop
  | [] => True
  | t :: r => TyCells w N S A i t ∧ ArgsIn w N S A (i + 1) r
end

/-- A slice of types. -/
structure LiesN (w : World) (N : Prop) (S : Nat → Prop) (A : Option Addr) (n : Nat) (xs : List Ty) : Prop where
  len : xs.length = n
  le : n ≤ 9223372036854775807
  args : ArgsIn w N S A 0 xs
abbrev Lies (w : World) (S : Nat → Prop) (A : Option Addr) (n : Nat) (xs : List Ty) : Prop := LiesN w False S A n xs

theorem ArgsIn.at {w : World} {N : Prop} {S : Nat → Prop} {A : Option Addr} : ∀ {xs : List Ty} {i k : Nat} {t : Ty}, ArgsIn w N S A i xs → xs[k]? = some t → TyCells w N S A (i + k) t
  | x :: r, i, 0, t, h, ht => by
    obtain rfl : x = t := by simpa using ht
    rw [ArgsIn] at h
    exact h.1
  | x :: r, i, k + 1, t, h, ht => by
    rw [ArgsIn] at h
    have := ArgsIn.at h.2 (k := k) (by simpa using ht)
    rwa [show i + (k + 1) = i + 1 + k by omega]
theorem ArgsIn.of {w : World} {N : Prop} {S : Nat → Prop} {A : Option Addr} : ∀ {xs : List Ty} {i : Nat}, (∀ k t, xs[k]? = some t → TyCells w N S A (i + k) t) → ArgsIn w N S A i xs
  | [], _, _ => by rw [ArgsIn]; trivial
  | x :: r, i, h => by
    rw [ArgsIn]
    refine ⟨h 0 x rfl, ArgsIn.of fun k t ht => ?_⟩
    have := h (k + 1) t (by simpa using ht)
    rwa [show i + 1 + k = i + (k + 1) by omega]

/-- The k-th type of a slice, with what N gives. -/
theorem LiesN.get {w : World} {N : Prop} {S : Nat → Prop} {A : Option Addr} {n : Nat} {xs : List Ty} (h : LiesN w N S A n xs) {k : Nat} (hk : k < n) :
    ∃ a s ys o B m c, A = some a ∧ xs[k]? = some (.mk s ys o) ∧ S a.block ∧ (N → a.off = 0 ∧ a.spot = none ∧ ∀ k, w.frozen? ⟨a.block, k, none⟩ = false) ∧ w.cell? (a.add (k * 3)) = some (.string s)
      ∧ w.cell? ⟨(a.add (k * 3)).block, (a.add (k * 3)).off + 1, none⟩ = some (.slice B m c) ∧ w.cell? ⟨(a.add (k * 3)).block, (a.add (k * 3)).off + 2, none⟩ = some (.int .i64 o)
      ∧ s.size ≤ 9223372036854775807 ∧ LiesN w N S B m ys := by
  have hl : k < xs.length := by rw [h.len]; exact hk
  have ht := h.args.at (List.getElem?_eq_getElem hl)
  rw [Nat.zero_add] at ht
  cases e : xs[k] with
  | mk s ys o =>
    rw [e, TyCells] at ht
    obtain ⟨a, B, c, h1, h2, h3, h4, h5, h6, h7, h8, h9⟩ := ht
    exact ⟨a, s, ys, o, B, _, c, h1, by rw [List.getElem?_eq_getElem hl, e], h2, h3, h4, h5, h6, h7, rfl, h8, h9⟩
/-- The k-th type of a slice. -/
theorem Lies.get {w : World} {S : Nat → Prop} {A : Option Addr} {n : Nat} {xs : List Ty} (h : Lies w S A n xs) {k : Nat} (hk : k < n) :
    ∃ a s ys o B m c, A = some a ∧ xs[k]? = some (.mk s ys o) ∧ S a.block ∧ w.cell? (a.add (k * 3)) = some (.string s)
      ∧ w.cell? ⟨(a.add (k * 3)).block, (a.add (k * 3)).off + 1, none⟩ = some (.slice B m c) ∧ w.cell? ⟨(a.add (k * 3)).block, (a.add (k * 3)).off + 2, none⟩ = some (.int .i64 o)
      ∧ s.size ≤ 9223372036854775807 ∧ Lies w S B m ys := by
  obtain ⟨a, s, ys, o, B, m, c, h1, h2, h3, _, h4⟩ := LiesN.get h hk
  exact ⟨a, s, ys, o, B, m, c, h1, h2, h3, h4⟩

/-- What lies in these blocks is as it was. -/
def Same (w w' : World) (S : Nat → Prop) : Prop := ∀ p : Addr, S p.block → w'.cell? p = w.cell? p ∧ w'.frozen? p = w.frozen? p

theorem ArgsIn.keep {w w' : World} {N N' : Prop} {S S' : Nat → Prop} (hN : N' → N) (hk : Same w w' S) (hS : ∀ b, S b → S' b) : ∀ (xs : List Ty) (A : Option Addr) (i : Nat), ArgsIn w N S A i xs → ArgsIn w' N' S' A i xs := by
  refine Ty.indL (fun A i _ => by rw [ArgsIn]; trivial) fun s ys o r ih1 ih2 A i h => ?_
  rw [ArgsIn, TyCells] at h ⊢
  obtain ⟨⟨a, B, c, e, hl, hn, c0, c1, c2, b1, b2, ha⟩, hr⟩ := h
  have hb : S (a.add (i * 3)).block := by rw [block_of_add]; exact hl
  refine ⟨⟨a, B, c, e, hS _ hl, fun h => ?_, ?_, ?_, ?_, b1, b2, ih1 B 0 ha⟩, ih2 A (i + 1) hr⟩
  · obtain ⟨h1, h2, h3⟩ := hn (hN h)
    exact ⟨h1, h2, fun k => (hk ⟨a.block, k, none⟩ hl).2.trans (h3 k)⟩
  · rw [(hk _ hb).1]; exact c0
  · rw [(hk ⟨(a.add (i * 3)).block, _, none⟩ hb).1]; exact c1
  · rw [(hk ⟨(a.add (i * 3)).block, _, none⟩ hb).1]; exact c2

theorem LiesN.keep {w w' : World} {N : Prop} {S S' : Nat → Prop} {A : Option Addr} {n : Nat} {xs : List Ty} (h : LiesN w N S A n xs) (hk : Same w w' S) (hS : ∀ b, S b → S' b) : LiesN w' N S' A n xs :=
  ⟨h.len, h.le, ArgsIn.keep id hk hS xs A 0 h.args⟩
theorem LiesN.lies {w : World} {N : Prop} {S : Nat → Prop} {A : Option Addr} {n : Nat} {xs : List Ty} (h : LiesN w N S A n xs) : Lies w S A n xs :=
  ⟨h.len, h.le, ArgsIn.keep False.elim (fun _ _ => ⟨rfl, rfl⟩) (fun _ h => h) xs A 0 h.args⟩
theorem LiesN.wide {w : World} {N : Prop} {S S' : Nat → Prop} {A : Option Addr} {n : Nat} {xs : List Ty} (h : LiesN w N S A n xs) (hS : ∀ b, S b → S' b) : LiesN w N S' A n xs :=
  h.keep (fun _ _ => ⟨rfl, rfl⟩) hS
theorem LiesN.later {w w' : World} {N : Prop} {S : Nat → Prop} {b : Nat} {A : Option Addr} {n : Nat} {xs : List Ty} (h : LiesN w N S A n xs) (hb : Below b w w') (hh : ∀ k, S k → k < b) : LiesN w' N S A n xs :=
  h.keep (fun _ h2 => ⟨hb.cell (hh _ h2), hb.frozen (hh _ h2)⟩) (fun _ h => h)
theorem LiesN.nil (w : World) (N : Prop) (S : Nat → Prop) (A : Option Addr) : LiesN w N S A 0 [] := ⟨rfl, by omega, by rw [ArgsIn]; trivial⟩
theorem Lies.nil (w : World) (S : Nat → Prop) (A : Option Addr) : Lies w S A 0 [] := LiesN.nil _ _ _ _
theorem LiesN.alloc {w : World} {N : Prop} {S : Nat → Prop} {A : Option Addr} {n : Nat} {xs : List Ty} (h : LiesN w N S A n xs) (hh : ∀ k, S k → k < w.heap.size) (o : Obj) : LiesN (w.alloc o) N S A n xs :=
  h.later (b := w.heap.size) ((Below.refl _ _).alloc (Nat.le_refl _) _) hh
theorem LiesN.setCell {w : World} {N : Prop} {S : Nat → Prop} {A : Option Addr} {n : Nat} {xs : List Ty} (h : LiesN w N S A n xs) (p : Addr) (u : Value) (hne : ¬ S p.block) : LiesN (w.setCell p u) N S A n xs :=
  h.keep (fun q h1 => ⟨World.cell?_setCell_other _ _ _ _ (by rintro rfl; exact hne h1), World.frozen?_setCell _ _ _ _⟩) (fun _ h => h)
theorem frozen_of_row {w : World} {g : Nat} {cs : Array Value} {T : TypeId} (h : w.heap[g]? = some (.cells cs T (0, 0))) (k : Nat) : w.frozen? ⟨g, k, none⟩ = false := by
  simp [World.frozen?, h]
/-- As the argument of a call in a world: its blocks lie there. -/
abbrev Here (w : World) (A : Option Addr) (n : Nat) (xs : List Ty) : Prop := Lies w (· < w.heap.size) A n xs
theorem Here.later {w w' : World} {A : Option Addr} {n : Nat} {xs : List Ty} (h : Here w A n xs) (hb : Below w.heap.size w w') : Here w' A n xs :=
  (LiesN.later h hb (fun _ h => h)).wide (fun _ h => Nat.lt_of_lt_of_le h hb.size)
/-- The blocks that were made between two worlds. -/
def Fresh (w w' : World) (b : Nat) : Prop := w.heap.size ≤ b ∧ b < w'.heap.size
theorem Lies.here {w w' : World} {A : Option Addr} {n : Nat} {xs : List Ty} (h : Lies w' (Fresh w w') A n xs) : Here w' A n xs := h.wide fun _ h => h.2

/-- A boxed type. -/
def Box (w : World) (b : Nat) (s : ByteArray) (A : Option Addr) (n c : Nat) (o : Int) : Prop :=
  w.cell? ⟨b, 0, none⟩ = some (.string s) ∧ w.cell? ⟨b, 1, none⟩ = some (.slice A n c) ∧ w.cell? ⟨b, 2, none⟩ = some (.int .i64 o)
theorem Box.new (w : World) (s : ByteArray) (A : Option Addr) (n c : Nat) (o : Int) (T : TypeId) : Box (w.alloc (.cells #[.string s, .slice A n c, .int .i64 o] T)) w.heap.size s A n c o := by
  refine ⟨?_, ?_, ?_⟩ <;> (rw [World.cell?_alloc_at _ _ _ _ rfl]; rfl)
theorem Box.later {w w' : World} {b s A n c o} (h : Box w b s A n c o) (hb : Below w.heap.size w w') : Box w' b s A n c o :=
  ⟨(hb.cell (cell_lt h.1)).trans h.1, (hb.cell (cell_lt h.2.1)).trans h.2.1, (hb.cell (cell_lt h.2.2)).trans h.2.2⟩
theorem Box.laterB {w w' : World} {b s A n c o} {B : Nat} (h : Box w b s A n c o) (hb : Below B w w') (hB : b < B) : Box w' b s A n c o :=
  ⟨(hb.cell hB).trans h.1, (hb.cell (p := ⟨b, 1, none⟩) hB).trans h.2.1, (hb.cell (p := ⟨b, 2, none⟩) hB).trans h.2.2⟩
end Go.Proofs.YtaaemebghkobkaaDoor
namespace Go.Proofs.YtaaemebghkobkaaDoor
open Go.RowKit

/-- These cells are these types, one after the other. -/
def RowsOf (w : World) (N : Prop) (S : Nat → Prop) : List Value → List Ty → Prop
  | cs, [] => cs = []
  | cs, t :: r => ∃ A c rest, cs = .string t.name :: .slice A t.args.length c :: .int .i64 t.off :: rest ∧ t.name.size ≤ 9223372036854775807 ∧ LiesN w N S A t.args.length t.args ∧ RowsOf w N S rest r

theorem RowsOf.len {w : World} {N : Prop} {S : Nat → Prop} : ∀ {ts : List Ty} {cs : List Value}, RowsOf w N S cs ts → cs.length = ts.length * 3
  | [], cs, h => by
    obtain rfl : cs = [] := h
    rfl
  | t :: r, cs, h => by
    obtain ⟨A, c, rest, rfl, _, _, hr⟩ := h
    have := RowsOf.len hr
    simp only [List.length_cons]
    omega
theorem RowsOf.keep {w w' : World} {N : Prop} {S S' : Nat → Prop} (hk : Same w w' S) (hS : ∀ b, S b → S' b) : ∀ {ts : List Ty} {cs : List Value}, RowsOf w N S cs ts → RowsOf w' N S' cs ts
  | [], cs, h => h
  | t :: r, cs, h => by
    obtain ⟨A, c, rest, rfl, hn, hl, hr⟩ := h
    exact ⟨A, c, rest, rfl, hn, hl.keep hk hS, RowsOf.keep hk hS hr⟩
theorem RowsOf.snoc {w : World} {N : Prop} {S : Nat → Prop} {t : Ty} {A : Option Addr} {m c : Nat} (hn : t.name.size ≤ 9223372036854775807) (hl : LiesN w N S A m t.args) :
    ∀ {ts : List Ty} {cs : List Value}, RowsOf w N S cs ts → RowsOf w N S (cs ++ [.string t.name, .slice A m c, .int .i64 t.off]) (ts ++ [t])
  | [], cs, h => by
    obtain rfl : cs = [] := h
    have e := hl.len
    subst e
    exact ⟨A, c, [], rfl, hn, hl, rfl⟩
  | x :: r, cs, h => by
    obtain ⟨B, d, rest, rfl, hn2, hl2, hr⟩ := h
    exact ⟨B, d, _, rfl, hn2, hl2, RowsOf.snoc hn hl hr⟩
theorem RowsOf.at {w : World} {N : Prop} {S : Nat → Prop} : ∀ {ts : List Ty} {cs : List Value} {j : Nat} {t : Ty}, RowsOf w N S cs ts → ts[j]? = some t →
    ∃ A c, cs[j * 3]? = some (.string t.name) ∧ cs[j * 3 + 1]? = some (.slice A t.args.length c) ∧ cs[j * 3 + 2]? = some (.int .i64 t.off) ∧ t.name.size ≤ 9223372036854775807 ∧ LiesN w N S A t.args.length t.args
  | x :: r, cs, 0, t, h, ht => by
    obtain rfl : x = t := by simpa using ht
    obtain ⟨A, c, rest, rfl, hn, hl, _⟩ := h
    exact ⟨A, c, rfl, rfl, rfl, hn, hl⟩
  | x :: r, cs, j + 1, t, h, ht => by
    obtain ⟨A, c, rest, rfl, hn, hl, hr⟩ := h
    obtain ⟨B, d, h1, h2, h3, h4⟩ := RowsOf.at hr (j := j) (by simpa using ht)
    refine ⟨B, d, ?_, ?_, ?_, h4⟩
    · rw [show (j + 1) * 3 = j * 3 + 3 by omega]; exact h1
    · rw [show (j + 1) * 3 + 1 = j * 3 + 1 + 3 by omega]; exact h2
    · rw [show (j + 1) * 3 + 2 = j * 3 + 2 + 3 by omega]; exact h3

/-- What the call has built is a slice of these types. -/
theorem lies_of_own {w : World} {N : Prop} {base n : Nat} {e : TypeId} {v : Value} {cs : List Value} {ts : List Ty} {S S' : Nat → Prop} (h : w.ownsRow base e 3 v n cs) (hr : RowsOf w N S cs ts) (hS : ∀ b, S b → S' b)
    (hv : ∀ g, v.ownBlock = some g → S' g) (hn : n ≤ 9223372036854775807) : ∃ A c, v = .slice A n c ∧ LiesN w N S' A n ts := by
  have hlen : ts.length = n := by
    have h1 := hr.len
    have h2 := h.1
    omega
  rcases h.2 with ⟨rfl, rfl⟩ | ⟨g, cap, cur, rfl, hb, hg, hnc, hc, hs, ht⟩
  · obtain rfl := List.eq_nil_of_length_eq_zero hlen
    exact ⟨none, 0, rfl, LiesN.nil _ _ _ _⟩
  · refine ⟨some ⟨g, 0, none⟩, cap, rfl, hlen, hn, ArgsIn.of fun k t hk => ?_⟩
    obtain ⟨B, d, c0, c1, c2, hsz, hl⟩ := hr.at hk
    have hcell : ∀ i u, cs[i]? = some u → w.cell? ⟨g, i, none⟩ = some u := fun i u hu => by
      have h2 := h.cells (g := g) rfl i u hu
      rwa [show (⟨g, 0, none⟩ : Addr).add i = ⟨g, i, none⟩ by unfold Addr.add; split <;> simp_all] at h2
    have ha : (⟨g, 0, none⟩ : Addr).add (k * 3) = ⟨g, k * 3, none⟩ := by unfold Addr.add; split <;> simp_all
    cases t with
    | mk s ys o =>
      rw [Nat.zero_add, TyCells]
      refine ⟨⟨g, 0, none⟩, B, d, rfl, hv g rfl, fun _ => ⟨rfl, rfl, frozen_of_row hg⟩, ?_, ?_, ?_, hsz, hl.le, hl.wide hS |>.args⟩
      · rw [ha]; exact hcell _ _ c0
      · rw [ha]; exact hcell _ _ c1
      · rw [ha]; exact hcell _ _ c2

/-- A row of types that is being built, in blocks from lo on. -/
def RowRelN (V : World) (N : Prop) (lo : Nat) (v : Value) (k : Nat) (ts : List Ty) : Prop :=
  ∃ cs S, V.ownsRow lo 24 3 v k cs ∧ RowsOf V N S cs ts ∧ ∀ b, S b → lo ≤ b ∧ b < V.heap.size ∧ v.ownBlock ≠ some b
abbrev RowRel (V : World) (lo : Nat) (v : Value) (k : Nat) (ts : List Ty) : Prop := RowRelN V False lo v k ts
theorem RowRelN.nil (V : World) (N : Prop) (lo : Nat) : RowRelN V N lo (.slice none 0 0) 0 [] := ⟨[], fun _ => False, World.ownsRow_nil _ _ _ _, rfl, fun _ h => h.elim⟩
theorem RowRel.nil (V : World) (lo : Nat) : RowRel V lo (.slice none 0 0) 0 [] := ⟨[], fun _ => False, World.ownsRow_nil _ _ _ _, rfl, fun _ h => h.elim⟩
/-- One more type: made by a call (wr to w1), laid in a new block, appended (to w2). -/
theorem row_step {N : Prop} {lo : Nat} {wr w1 w2 : World} {k : Nat} {ts : List Ty} {v : Value} {cs : List Value} {S : Nat → Prop} {t : Ty} {A1 : Option Addr} {m1 cc1 gg cap : Nat} (hlo : lo ≤ wr.heap.size)
    (hown : wr.ownsRow lo 24 3 v k cs) (hrows : RowsOf wr N S cs ts) (hS : ∀ b, S b → lo ≤ b ∧ b < wr.heap.size ∧ v.ownBlock ≠ some b)
    (hb1 : Below wr.heap.size wr w1) (hns : t.name.size ≤ 9223372036854775807) (hl1 : LiesN w1 N (Fresh wr w1) A1 m1 t.args)
    (hown2 : w2.ownsRow lo 24 3 (.slice (some ⟨gg, 0, none⟩) (k + 1) cap) (k + 1) (cs ++ [.string t.name, .slice A1 m1 cc1, .int .i64 t.off]))
    (hgrow : (w1.alloc (.cells #[.string t.name, .slice A1 m1 cc1, .int .i64 t.off] 24)).grownBy w2 v.ownBlock) (hat : v.ownBlock = some gg ∨ gg = w1.heap.size + 1) :
    RowRelN w2 N lo (.slice (some ⟨gg, 0, none⟩) (k + 1) cap) (k + 1) (ts ++ [t]) := by
  have s1 := hb1.size
  have s2 : w1.heap.size + 1 ≤ w2.heap.size := by have := hgrow.size; simpa using this
  have ol : ∀ k, v.ownBlock = some k → k < wr.heap.size := fun k hk => (hown.lt k hk).2
  have far : ∀ p : Addr, p.block < w1.heap.size → v.ownBlock ≠ some p.block → w2.cell? p = w1.cell? p ∧ w2.frozen? p = w1.frozen? p := fun p h1 h2 => by
    rw [hgrow.cell_far p (by simp; omega) (fun h => h2 h.symm), hgrow.frozen_far p (by simp; omega) (fun h => h2 h.symm)]
    exact ⟨((Below.refl w1.heap.size w1).alloc (Nat.le_refl _) _).cell h1, ((Below.refl w1.heap.size w1).alloc (Nat.le_refl _) _).frozen h1⟩
  refine ⟨_, fun b => S b ∨ Fresh wr w1 b, hown2, ?_, ?_⟩
  · refine RowsOf.snoc hns (hl1.keep (fun p hp => ?_) (fun b hb => .inr hb)) (hrows.keep (fun p hp => ?_) (fun b hb => .inl hb))
    · have h1 : wr.heap.size ≤ p.block := hp.1
      exact far p hp.2 (fun h => by have := ol _ h; omega)
    · obtain ⟨h1, h2, h3⟩ := hS _ hp
      obtain ⟨e1, e2⟩ := far p (by omega) h3
      exact ⟨e1.trans (hb1.cell h2), e2.trans (hb1.frozen h2)⟩
  · intro b hb
    rcases hb with hb | hb
    · obtain ⟨h1, h2, h3⟩ := hS _ hb
      refine ⟨h1, by omega, fun h => ?_⟩
      simp only [Value.ownBlock, Option.some.injEq] at h
      rcases hat with h4 | h4
      · exact h3 (by rw [h4, h])
      · omega
    · have h1 : wr.heap.size ≤ b := hb.1
      have h2 : b < w1.heap.size := hb.2
      refine ⟨by omega, by omega, fun h => ?_⟩
      simp only [Value.ownBlock, Option.some.injEq] at h
      rcases hat with h4 | h4
      · have := ol _ h4; omega
      · omega
/-- The row as a slice of types that the call has made. -/
theorem RowRelN.lies {w V : World} {N : Prop} {v : Value} {k : Nat} {ts : List Ty} (h : RowRelN V N w.heap.size v k ts) (hk : k ≤ 9223372036854775807) : ∃ A c, v = .slice A k c ∧ LiesN V N (Fresh w V) A k ts := by
  obtain ⟨cs, S, h1, h2, h3⟩ := h
  exact lies_of_own h1 h2 (fun b hb => ⟨(h3 b hb).1, (h3 b hb).2.1⟩) (fun g hg => ⟨own_base h1 g hg, (h1.lt g hg).2⟩) hk
theorem RowRel.lies {w V : World} {v : Value} {k : Nat} {ts : List Ty} (h : RowRel V w.heap.size v k ts) (hk : k ≤ 9223372036854775807) : ∃ A c, v = .slice A k c ∧ Lies V (Fresh w V) A k ts := RowRelN.lies h hk
end Go.Proofs.YtaaemebghkobkaaDoor
