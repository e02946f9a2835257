/- Slices of tokens: what one is in memory; the walks of plain, and of the reference's Same, Alike and Join. -/
import Derived.Test.YtppcpccjeknhdaaGreatDoorLxA
import Derived.OwnWalk
import Derived.Laws.AppendOwn
import Derived.Laws.OwnMore
import Derived.Laws.NewBlocks
import Derived.Outline
import Derived.Deep.AppendLies
import Derived.Laws.Rows
namespace Go.Proofs.YtppcpccjeknhdaaGreatDoor
open Go.RowKit

/-- A token in memory. -/
structure Tk where
  k : Int
  s : ByteArray
  o : Int

/-- A slice of tokens, of whatever package, that reads as this list. -/
structure TS (w : World) (A : Option Addr) (n : Nat) (ts : List Tk) : Prop where
  len : ts.length = n
  at_ : ∀ j t, ts[j]? = some t → ∃ a, A = some a ∧ a.block < w.heap.size ∧ w.cell? (a.add (j * 3)) = some (.int .i64 t.k) ∧ w.cell? ⟨(a.add (j * 3)).block, (a.add (j * 3)).off + 1, none⟩ = some (.string t.s) ∧ w.cell? ⟨(a.add (j * 3)).block, (a.add (j * 3)).off + 2, none⟩ = some (.int .i64 t.o)
theorem TS.later {w w' : World} {A : Option Addr} {n : Nat} {ts : List Tk} (h : TS w A n ts) (hb : Below w.heap.size w w') : TS w' A n ts :=
  ⟨h.len, fun j t hj => by
    obtain ⟨a, e, h1, h2, h3, h4⟩ := h.at_ j t hj
    exact ⟨a, e, Nat.lt_of_lt_of_le h1 hb.size, (hb.cell (by rw [block_of_add]; exact h1)).trans h2, (hb.cell (by show (a.add (j * 3)).block < _; rw [block_of_add]; exact h1)).trans h3, (hb.cell (by show (a.add (j * 3)).block < _; rw [block_of_add]; exact h1)).trans h4⟩⟩
theorem TS.get {w : World} {A : Option Addr} {n : Nat} {ts : List Tk} (h : TS w A n ts) {k : Nat} (hk : k < n) :
    ∃ a t, A = some a ∧ ts[k]? = some t ∧ w.cell? (a.add (k * 3)) = some (.int .i64 t.k) ∧ w.cell? ⟨(a.add (k * 3)).block, (a.add (k * 3)).off + 1, none⟩ = some (.string t.s) ∧ w.cell? ⟨(a.add (k * 3)).block, (a.add (k * 3)).off + 2, none⟩ = some (.int .i64 t.o) := by
  have hl : k < ts.length := by rw [h.len]; exact hk
  obtain ⟨a, e, _, h2⟩ := h.at_ k _ (List.getElem?_eq_getElem hl)
  exact ⟨a, _, e, List.getElem?_eq_getElem hl, h2⟩

def cells3 (t : Tk) : List Value := [.int .i64 t.k, .string t.s, .int .i64 t.o]
theorem lx_cells3_at : ∀ (ts : List Tk) (j : Nat) (t : Tk), ts[j]? = some t → (ts.flatMap cells3)[j * 3]? = some (.int .i64 t.k) ∧ (ts.flatMap cells3)[j * 3 + 1]? = some (.string t.s) ∧ (ts.flatMap cells3)[j * 3 + 2]? = some (.int .i64 t.o)
  | [], j, t, h => by simp at h
  | x :: ts, 0, t, h => by
    obtain rfl : x = t := by simpa using h
    simp [cells3]
  | x :: ts, j + 1, t, h => by
    have := lx_cells3_at ts j t (by simpa using h)
    rw [List.flatMap_cons]
    have e : (cells3 x).length = 3 := rfl
    rw [show (j + 1) * 3 = 3 + j * 3 by omega, show 3 + j * 3 + 1 = 3 + (j * 3 + 1) by omega, show 3 + j * 3 + 2 = 3 + (j * 3 + 2) by omega]
    rw [List.getElem?_append_right (by omega), List.getElem?_append_right (by omega), List.getElem?_append_right (by omega), e]
    simpa using this
theorem cells3_snoc (ts : List Tk) (k : Nat) (t : Tk) (h : ts[k]? = some t) : (ts.take k).flatMap cells3 ++ cells3 t = (ts.take (k + 1)).flatMap cells3 := by
  rw [List.take_add_one, h]
  simp

/-- What the call has built reads as these tokens. -/
theorem ts_of_own {w : World} {base n : Nat} {e : TypeId} {v : Value} {ts : List Tk} (hl : ts.length = n) (h : w.ownsRow base e 3 v n (ts.flatMap cells3)) : ∃ A c, v = .slice A n c ∧ TS w A n ts := by
  rcases h.2 with ⟨rfl, h0⟩ | ⟨g, cap, cur, hv, hb, hg, hn, hc, hs, ht⟩
  · subst h0
    exact ⟨none, 0, rfl, hl, fun j t hj => by
      have : j < ts.length := (List.getElem?_eq_some_iff.1 hj).1
      omega⟩
  · refine ⟨some ⟨g, 0, none⟩, cap, hv, hl, fun j t hj => ⟨_, rfl, ?_, ?_⟩⟩
    · rcases Nat.lt_or_ge g w.heap.size with h1 | h1
      · exact h1
      · rw [Array.getElem?_eq_none h1] at hg; cases hg
    · have hcell : ∀ i u, (ts.flatMap cells3)[i]? = some u → w.cell? ⟨g, i, none⟩ = some u := fun i u hu => by
        rw [cell_of_row w g i cur e (0, 0) hg]
        rw [← ht, List.getElem?_take] at hu
        split at hu
        · simpa using hu
        · cases hu
      obtain ⟨h1, h2, h3⟩ := lx_cells3_at ts j t hj
      have ha : (⟨g, 0, none⟩ : Addr).add (j * 3) = ⟨g, j * 3, none⟩ := by unfold Addr.add; split <;> simp_all
      rw [ha]
      exact ⟨hcell _ _ h1, hcell _ _ h2, hcell _ _ h3⟩

theorem infoTok : (Tryz.prog.info? 152).map (fun i => (i.zero, i.size, i.bytes)) = some (some (.agg #[.int .i64 0, .string ⟨#[]⟩, .int .i64 0]), 3, 32) := by kernel_rfl

end Go.Proofs.YtppcpccjeknhdaaGreatDoor
