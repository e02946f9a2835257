/- A row of types that a call builds: its cells read as these types. No condition. -/
import Derived.Test.YtioamnaknjhbpaaDoorTyB
namespace Go.Proofs.YtioamnaknjhbpaaDoor
open Go.RowKit

/-- These cells are these types, one after the other. -/
def RowsOf (w : World) (N : Prop) (S : Nat → Prop) : List Value → List Ty → Prop
  | cs, [] => cs = []
  | cs, t :: r => ∃ A c rest, cs = .string t.name :: .slice A t.args.length c :: .int .i64 t.off :: rest ∧ t.name.size ≤ 9223372036854775807 ∧ LiesN w N S A t.args.length t.args ∧ RowsOf w N S rest r

theorem RowsOf.len {w : World} {N : Prop} {S : Nat → Prop} : ∀ {ts : List Ty} {cs : List Value}, RowsOf w N S cs ts → cs.length = ts.length * 3
  | [], cs, h => by
    obtain rfl : cs = [] := h
    rfl
  | t :: r, cs, h => by
    obtain ⟨A, c, rest, rfl, _, _, hr⟩ := h
    have := RowsOf.len hr
    simp only [List.length_cons]
    omega
theorem RowsOf.keep {w w' : World} {N : Prop} {S S' : Nat → Prop} (hk : Same w w' S) (hS : ∀ b, S b → S' b) : ∀ {ts : List Ty} {cs : List Value}, RowsOf w N S cs ts → RowsOf w' N S' cs ts
  | [], cs, h => h
  | t :: r, cs, h => by
    obtain ⟨A, c, rest, rfl, hn, hl, hr⟩ := h
    exact ⟨A, c, rest, rfl, hn, hl.keep hk hS, RowsOf.keep hk hS hr⟩
theorem RowsOf.snoc {w : World} {N : Prop} {S : Nat → Prop} {t : Ty} {A : Option Addr} {m c : Nat} (hn : t.name.size ≤ 9223372036854775807) (hl : LiesN w N S A m t.args) :
    ∀ {ts : List Ty} {cs : List Value}, RowsOf w N S cs ts → RowsOf w N S (cs ++ [.string t.name, .slice A m c, .int .i64 t.off]) (ts ++ [t])
  | [], cs, h => by
    obtain rfl : cs = [] := h
    have e := hl.len
    subst e
    exact ⟨A, c, [], rfl, hn, hl, rfl⟩
  | x :: r, cs, h => by
    obtain ⟨B, d, rest, rfl, hn2, hl2, hr⟩ := h
    exact ⟨B, d, _, rfl, hn2, hl2, RowsOf.snoc hn hl hr⟩
theorem RowsOf.at {w : World} {N : Prop} {S : Nat → Prop} : ∀ {ts : List Ty} {cs : List Value} {j : Nat} {t : Ty}, RowsOf w N S cs ts → ts[j]? = some t →
    ∃ A c, cs[j * 3]? = some (.string t.name) ∧ cs[j * 3 + 1]? = some (.slice A t.args.length c) ∧ cs[j * 3 + 2]? = some (.int .i64 t.off) ∧ t.name.size ≤ 9223372036854775807 ∧ LiesN w N S A t.args.length t.args
  | x :: r, cs, 0, t, h, ht => by
    obtain rfl : x = t := by simpa using ht
    obtain ⟨A, c, rest, rfl, hn, hl, _⟩ := h
    exact ⟨A, c, rfl, rfl, rfl, hn, hl⟩
  | x :: r, cs, j + 1, t, h, ht => by
    obtain ⟨A, c, rest, rfl, hn, hl, hr⟩ := h
    obtain ⟨B, d, h1, h2, h3, h4⟩ := RowsOf.at hr (j := j) (by simpa using ht)
    refine ⟨B, d, ?_, ?_, ?_, h4⟩
    · rw [show (j + 1) * 3 = j * 3 + 3 by omega]; exact h1
    · rw [show (j + 1) * 3 + 1 = j * 3 + 1 + 3 by omega]; exact h2
    · rw [show (j + 1) * 3 + 2 = j * 3 + 2 + 3 by omega]; exact h3

/-- What the call has built is a slice of these types. -/
theorem lies_of_own {w : World} {N : Prop} {base n : Nat} {e : TypeId} {v : Value} {cs : List Value} {ts : List Ty} {S S' : Nat → Prop} (h : w.ownsRow base e 3 v n cs) (hr : RowsOf w N S cs ts) (hS : ∀ b, S b → S' b)
    (hv : ∀ g, v.ownBlock = some g → S' g) (hn : n ≤ 9223372036854775807) : ∃ A c, v = .slice A n c ∧ LiesN w N S' A n ts := by
  have hlen : ts.length = n := by
    have h1 := hr.len
    have h2 := h.1
    omega
  rcases h.2 with ⟨rfl, rfl⟩ | ⟨g, cap, cur, rfl, hb, hg, hnc, hc, hs, ht⟩
  · obtain rfl := List.eq_nil_of_length_eq_zero hlen
    exact ⟨none, 0, rfl, LiesN.nil _ _ _ _⟩
  · refine ⟨some ⟨g, 0, none⟩, cap, rfl, hlen, hn, ArgsIn.of fun k t hk => ?_⟩
    obtain ⟨B, d, c0, c1, c2, hsz, hl⟩ := hr.at hk
    have hcell : ∀ i u, cs[i]? = some u → w.cell? ⟨g, i, none⟩ = some u := fun i u hu => by
      have h2 := h.cells (g := g) rfl i u hu
      rwa [show (⟨g, 0, none⟩ : Addr).add i = ⟨g, i, none⟩ by unfold Addr.add; split <;> simp_all] at h2
    have ha : (⟨g, 0, none⟩ : Addr).add (k * 3) = ⟨g, k * 3, none⟩ := by unfold Addr.add; split <;> simp_all
    cases t with
    | mk s ys o =>
      rw [Nat.zero_add, TyCells]
      refine ⟨⟨g, 0, none⟩, B, d, rfl, hv g rfl, fun _ => ⟨rfl, rfl, frozen_of_row hg⟩, ?_, ?_, ?_, hsz, hl.le, hl.wide hS |>.args⟩
      · rw [ha]; exact hcell _ _ c0
      · rw [ha]; exact hcell _ _ c1
      · rw [ha]; exact hcell _ _ c2

/-- A row of types that is being built, in blocks from lo on. -/
def RowRel (V : World) (lo : Nat) (v : Value) (k : Nat) (ts : List Ty) : Prop :=
  ∃ cs S, V.ownsRow lo 24 3 v k cs ∧ RowsOf V False S cs ts ∧ ∀ b, S b → lo ≤ b ∧ b < V.heap.size ∧ v.ownBlock ≠ some b
theorem RowRel.nil (V : World) (lo : Nat) : RowRel V lo (.slice none 0 0) 0 [] := ⟨[], fun _ => False, World.ownsRow_nil _ _ _ _, rfl, fun _ h => h.elim⟩
/-- One more type: made by a call (wr to w1), laid in a new block, appended (to w2). -/
theorem row_step {lo : Nat} {wr w1 w2 : World} {k : Nat} {ts : List Ty} {v : Value} {cs : List Value} {S : Nat → Prop} {t : Ty} {A1 : Option Addr} {m1 cc1 gg cap : Nat} (hlo : lo ≤ wr.heap.size)
    (hown : wr.ownsRow lo 24 3 v k cs) (hrows : RowsOf wr False S cs ts) (hS : ∀ b, S b → lo ≤ b ∧ b < wr.heap.size ∧ v.ownBlock ≠ some b)
    (hb1 : Below wr.heap.size wr w1) (hns : t.name.size ≤ 9223372036854775807) (hl1 : Lies w1 (Fresh wr w1) A1 m1 t.args)
    (hown2 : w2.ownsRow lo 24 3 (.slice (some ⟨gg, 0, none⟩) (k + 1) cap) (k + 1) (cs ++ [.string t.name, .slice A1 m1 cc1, .int .i64 t.off]))
    (hgrow : (w1.alloc (.cells #[.string t.name, .slice A1 m1 cc1, .int .i64 t.off] 24)).grownBy w2 v.ownBlock) (hat : v.ownBlock = some gg ∨ gg = w1.heap.size + 1) :
    RowRel w2 lo (.slice (some ⟨gg, 0, none⟩) (k + 1) cap) (k + 1) (ts ++ [t]) := by
  have s1 := hb1.size
  have s2 : w1.heap.size + 1 ≤ w2.heap.size := by have := hgrow.size; simpa using this
  have ol : ∀ k, v.ownBlock = some k → k < wr.heap.size := fun k hk => (hown.lt k hk).2
  have far : ∀ p : Addr, p.block < w1.heap.size → v.ownBlock ≠ some p.block → w2.cell? p = w1.cell? p ∧ w2.frozen? p = w1.frozen? p := fun p h1 h2 => by
    rw [hgrow.cell_far p (by simp; omega) (fun h => h2 h.symm), hgrow.frozen_far p (by simp; omega) (fun h => h2 h.symm)]
    exact ⟨((Below.refl w1.heap.size w1).alloc (Nat.le_refl _) _).cell h1, ((Below.refl w1.heap.size w1).alloc (Nat.le_refl _) _).frozen h1⟩
  refine ⟨_, fun b => S b ∨ Fresh wr w1 b, hown2, ?_, ?_⟩
  · refine RowsOf.snoc hns (hl1.keep (fun p hp => ?_) (fun b hb => .inr hb)) (hrows.keep (fun p hp => ?_) (fun b hb => .inl hb))
    · have h1 : wr.heap.size ≤ p.block := hp.1
      exact far p hp.2 (fun h => by have := ol _ h; omega)
    · obtain ⟨h1, h2, h3⟩ := hS _ hp
      obtain ⟨e1, e2⟩ := far p (by omega) h3
      exact ⟨e1.trans (hb1.cell h2), e2.trans (hb1.frozen h2)⟩
  · intro b hb
    rcases hb with hb | hb
    · obtain ⟨h1, h2, h3⟩ := hS _ hb
      refine ⟨h1, by omega, fun h => ?_⟩
      simp only [Value.ownBlock, Option.some.injEq] at h
      rcases hat with h4 | h4
      · exact h3 (by rw [h4, h])
      · omega
    · have h1 : wr.heap.size ≤ b := hb.1
      have h2 : b < w1.heap.size := hb.2
      refine ⟨by omega, by omega, fun h => ?_⟩
      simp only [Value.ownBlock, Option.some.injEq] at h
      rcases hat with h4 | h4
      · have := ol _ h4; omega
      · omega
/-- The row as a slice of types that the call has made. -/
theorem RowRel.lies {w V : World} {v : Value} {k : Nat} {ts : List Ty} (h : RowRel V w.heap.size v k ts) (hk : k ≤ 9223372036854775807) : ∃ A c, v = .slice A k c ∧ Lies V (Fresh w V) A k ts := by
  obtain ⟨cs, S, h1, h2, h3⟩ := h
  exact lies_of_own h1 h2 (fun b hb => ⟨(h3 b hb).1, (h3 b hb).2.1⟩) (fun g hg => ⟨own_base h1 g hg, (h1.lt g hg).2⟩) hk
end Go.Proofs.YtioamnaknjhbpaaDoor
