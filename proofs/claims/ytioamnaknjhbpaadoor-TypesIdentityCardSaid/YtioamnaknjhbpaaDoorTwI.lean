/- The walks of types.allReplaced and types.replaced, over a map from names to types. The conditions: the types are small. -/
import Derived.Test.YtioamnaknjhbpaaDoorTwH
import Derived.Deep.MidRow
import Derived.Laws.MakeOwn
namespace Go.Proofs.YtioamnaknjhbpaaDoor
open Go.RowKit

/-- The map that a call is given: nil, or one that gives f. -/
def Gives (w : World) (mv : Value) (f : ByteArray → Option Ty) : Prop := (mv = .map none ∧ ∀ s, f s = none) ∨ ∃ g n, mv = .map (some g) ∧ GivenAt w w g n f
theorem Gives.later {w w' : World} {mv : Value} {f : ByteArray → Option Ty} (h : Gives w mv f) (hb : Below w.heap.size w w') : Gives w' mv f :=
  h.imp id fun ⟨g, n, e, h⟩ => ⟨g, n, e, (h.later hb).base hb⟩
theorem Gives.miss {w : World} {mv : Value} {f : ByteArray → Option Ty} (h : Gives w mv f) {s : ByteArray} (hs : s.size ≤ 9223372036854775807) (hf : f s = none) :
    (Instr.lookup 61 mv (.string s) true).run Tryd.prog w = .ok (.tuple #[.agg #[.string ⟨#[]⟩, .slice none 0 0, .int .i64 0], .bool false]) w := by
  rcases h with ⟨rfl, _⟩ | ⟨g, n, rfl, h⟩
  · exact Go.Maps.look_nil true strKeyed Tryd.underlying61 (zeroTy w) (keyS hs)
  · exact h.miss hs hf
theorem Gives.hit {w : World} {mv : Value} {f : ByteArray → Option Ty} (h : Gives w mv f) {s : ByteArray} (hs : s.size ≤ 9223372036854775807) {t : Ty} (hf : f s = some t) :
    ∃ A c, t.name.size ≤ 9223372036854775807 ∧ Here w A t.args.length t.args ∧ (Instr.lookup 61 mv (.string s) true).run Tryd.prog w = .ok (.tuple #[.agg #[.string t.name, .slice A t.args.length c, .int .i64 t.off], .bool true]) w := by
  rcases h with ⟨rfl, h⟩ | ⟨g, n, rfl, h⟩
  · rw [h] at hf; cases hf
  · obtain ⟨A, c, h1, h2, h3⟩ := h.hit hs hf
    exact ⟨A, c, h1, h2, h3 w (Below.refl _ _)⟩

/-- A row of m types, the first of which are written. -/
structure Filled (w : World) (g m : Nat) (ts : List Ty) : Prop where
  there : w.there g 0 (m * 3)
  lt : g < w.heap.size
  rows : ∃ cs S, RowsOf w False S cs ts ∧ w.rangeAt g 0 cs ∧ ∀ b, S b → g < b ∧ b < w.heap.size
theorem Filled.later {w w' : World} {g m : Nat} {ts : List Ty} (h : Filled w g m ts) (hb : Below w.heap.size w w') : Filled w' g m ts := by
  obtain ⟨cs, S, h1, h2, h3⟩ := h.rows
  refine ⟨fun j hj => ?_, Nat.lt_of_lt_of_le h.lt hb.size, cs, S, h1.keep (fun p hp => ⟨hb.cell (h3 _ hp).2, hb.frozen (h3 _ hp).2⟩) (fun _ h => h), fun j v hv => (hb.cell (p := ⟨g, 0 + j, none⟩) h.lt).trans (h2 j v hv), fun b hS => ⟨(h3 b hS).1, Nat.lt_of_lt_of_le (h3 b hS).2 hb.size⟩⟩
  rw [hb.cell (p := ⟨g, 0 + j, none⟩) h.lt, hb.frozen (p := ⟨g, 0 + j, none⟩) h.lt]
  exact h.there j hj
theorem size_setCells_w (b : Nat) : ∀ (vs : List Value) (o : Nat) (w : World), (w.setCells b o vs).heap.size = w.heap.size
  | [], _, _ => rfl
  | v :: r, o, w => by rw [World.setCells, size_setCells_w b r (o + 1)]; simp [World.setCell]
theorem below_cells {B g : Nat} (hg : B ≤ g) : ∀ (vs : List Value) (o : Nat) (w : World), Below B w (w.setCells g o vs)
  | [], _, _ => Below.refl _ _
  | v :: r, o, w => ((Below.refl B w).setCell (p := ⟨g, o, none⟩) hg v).trans (below_cells hg r (o + 1) _)
/-- One more type is written. -/
theorem Filled.step {w : World} {g m : Nat} {ts : List Ty} {t : Ty} {A : Option Addr} {n c : Nat} {S' : Nat → Prop} (h : Filled w g m ts) (hlt : ts.length < m) (hns : t.name.size ≤ 9223372036854775807) (hl : Lies w S' A n t.args) (hS' : ∀ b, S' b → g < b ∧ b < w.heap.size) :
    Filled (w.setCells g (ts.length * 3) [.string t.name, .slice A n c, .int .i64 t.off]) g m (ts ++ [t]) := by
  obtain ⟨cs, S, h1, h2, h3⟩ := h.rows
  have hcl := h1.len
  have far : ∀ p : Addr, g < p.block → (w.setCells g (ts.length * 3) [.string t.name, .slice A n c, .int .i64 t.off]).cell? p = w.cell? p ∧ (w.setCells g (ts.length * 3) [.string t.name, .slice A n c, .int .i64 t.off]).frozen? p = w.frozen? p := fun p hp =>
    ⟨World.cell?_setCells_out _ _ _ _ _ (fun e => by omega), World.frozen?_setCells _ _ _ _ _⟩
  refine ⟨World.there_setCells h.there _ _ _, by rw [size_setCells_w]; exact h.lt, cs ++ [.string t.name, .slice A n c, .int .i64 t.off], fun b => S b ∨ S' b, ?_, ?_, fun b hb => by rw [size_setCells_w]; exact hb.elim (h3 b) (hS' b)⟩
  · exact RowsOf.snoc hns (hl.keep (fun p hp => far p (hS' _ hp).1) (fun _ h => .inr h)) (h1.keep (fun p hp => far p (h3 _ hp).1) (fun _ h => .inl h))
  · intro j v hv
    by_cases hj : j < cs.length
    · rw [List.getElem?_append_left hj] at hv
      exact World.rangeAt_setCells_apart h2 _ _ _ (.inr (.inl (by omega))) j v hv
    · rw [List.getElem?_append_right (by omega)] at hv
      have ht : w.there g (ts.length * 3) 3 := fun i hi => by
        have := h.there (ts.length * 3 + i) (by omega)
        rwa [Nat.zero_add] at this
      have := World.rangeAt_setCells_same w g (ts.length * 3) [.string t.name, .slice A n c, .int .i64 t.off] ht (j - cs.length) v hv
      rwa [show ts.length * 3 + (j - cs.length) = 0 + j by omega] at this
/-- All are written: a slice of types. -/
theorem Filled.lies {w : World} {g m base : Nat} {ts : List Ty} (h : Filled w g m ts) (hm : ts.length = m) (hm2 : m ≤ 9223372036854775807) (hb : base ≤ g) : Lies w (fun b => base ≤ b ∧ b < w.heap.size) (some ⟨g, 0, none⟩) m ts := by
  obtain ⟨cs, S, h1, h2, h3⟩ := h.rows
  refine ⟨hm, hm2, ArgsIn.of fun k t hk => ?_⟩
  obtain ⟨B, d, c0, c1, c2, hsz, hl⟩ := h1.at hk
  have hcell : ∀ i u, cs[i]? = some u → w.cell? ⟨g, i, none⟩ = some u := fun i u hu => by
    have := h2 i u hu
    rwa [Nat.zero_add] at this
  have ha : (⟨g, 0, none⟩ : Addr).add (k * 3) = ⟨g, k * 3, none⟩ := by unfold Addr.add; split <;> simp_all
  cases t with
  | mk s ys o =>
    rw [Nat.zero_add, TyCells]
    refine ⟨⟨g, 0, none⟩, B, d, rfl, ⟨hb, h.lt⟩, False.elim, ?_, ?_, ?_, hsz, hl.le, (LiesN.wide hl (fun b hS => ⟨Nat.le_trans hb (Nat.le_of_lt (h3 b hS).1), (h3 b hS).2⟩)).args⟩
    · rw [ha]; exact hcell _ _ c0
    · rw [ha]; exact hcell _ _ c1
    · rw [ha]; exact hcell _ _ c2

/-- The row that make gives. -/
theorem run_make_ty (m : Nat) (hm : m ≤ 1000000) (W : World) : (Instr.makeSlice 22 (.int .i64 (m : Int)) (.int .i64 (m : Int))).run Tryd.prog W =
    .ok (.slice (some ⟨W.heap.size, 0, none⟩) m m) (W.alloc (.cells (madeCells #[.string ⟨#[]⟩, .slice none 0 0, .int .i64 0] (m * 3)) 24)) := by
  obtain ⟨i0, hi0, hz0, hz1, hz2⟩ := info_parts infoTy
  have hr := run_make (P := Tryd.prog) W 22 24 i0 _ Tryd.underlying22 hi0 hz0 .i64 .i64 m m (by omega) (Int.le_refl _) (by rw [hz2]; omega) (by omega)
  simp only [Int.toNat_natCast, hz1] at hr
  exact hr
theorem filled_make (W : World) (m : Nat) : Filled (W.alloc (.cells (madeCells #[.string ⟨#[]⟩, .slice none 0 0, .int .i64 0] (m * 3)) 24)) W.heap.size m [] := by
  refine ⟨fun j hj => ⟨?_, ?_⟩, by simp, [], fun _ => False, rfl, fun j v hv => by simp at hv, fun _ h => h.elim⟩
  · rw [cell_of_row _ _ (0 + j) _ _ (0, 0) (MapKept.heap_alloc W _).1]
    rw [Array.getElem?_eq_getElem (by rw [size_madeCells]; omega)]; rfl
  · exact frozen_of_row (MapKept.heap_alloc W _).1 _
end Go.Proofs.YtioamnaknjhbpaaDoor
