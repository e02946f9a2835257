/- Appending a row of data, which may be empty, to a row of one's own. No condition.
The walks of decl.inFormal, decl.inParam and decl.inEach at them: rows of types that a call builds. The condition: few parts.
The walk of slices.Grow of nothing, at types. The condition: few types.
The walk of slices.Concat at types. The condition: few types. -/
import Derived.Test.YtjhlehdjdaphcaaDoorQMDcM
import Derived.Deep.AppendLies
import Derived.Lib.AppendZerosOnto
namespace Go.Proofs.YtjhlehdjdaphcaaDoor
open Go.RowKit

theorem ty_ones {w : World} {N : Prop} {S : Nat → Prop} {ts : List Ty} : ∀ d ∈ Ty.dats ts, ∀ u, d.In w N S u → ∀ x ∈ u, x.oneCell' = true := fun d hd u hu => by
  rw [Ty.dats_map, List.mem_map] at hd
  obtain ⟨t, _, rfl⟩ := hd
  exact ty_cells hu
theorem Dat.Ins.app' {w : World} {N : Prop} {S : Nat → Prop} : ∀ {ds es : List Dat} {us vs : List Value}, Dat.Ins w N S ds us → Dat.Ins w N S es vs → Dat.Ins w N S (ds ++ es) (us ++ vs)
  | [], es, us, vs, h, h2 => by
    rw [Dat.Ins] at h
    subst h
    exact h2
  | d :: r, es, us, vs, h, h2 => by
    rw [Dat.Ins] at h
    obtain ⟨u1, u2, rfl, h3, h4⟩ := h
    rw [List.cons_append, Dat.Ins]
    exact ⟨u1, u2 ++ vs, by rw [List.append_assoc], h3, Dat.Ins.app' h4 h2⟩
/-- A row of types, flat: what a slice of types must give to be appended. -/
structure Flat3 (S : Nat → Prop) (W : World) (A : Option Addr) (n : Nat) (ts : List Ty) (us : List Value) : Prop where
  ins : Dat.Ins W False S (Ty.dats ts) us
  len : us.length = n * 3
  cells : ∀ a, A = some a → ∀ j u, us[j]? = some u → W.cell? (a.add j) = some u
  some_ : 0 < n → ∃ a, A = some a
  num : n = ts.length
  lt : ∀ b, S b → b < W.heap.size
theorem Flat3.ones {S : Nat → Prop} {W : World} {A : Option Addr} {n : Nat} {ts : List Ty} {us : List Value} (h : Flat3 S W A n ts us) : ∀ x ∈ us, x.oneCell' = true := ins_cells ty_ones h.ins
end Go.Proofs.YtjhlehdjdaphcaaDoor

namespace Go.Proofs.YtjhlehdjdaphcaaDoor
open Go.RowKit

end Go.Proofs.YtjhlehdjdaphcaaDoor
namespace Go.Proofs.YtjhlehdjdaphcaaDoor
open Go.RowKit

theorem take_flatten_le {α : Type} (tss : List (List α)) (k : Nat) : (tss.take k).flatten.length ≤ tss.flatten.length := by
  conv => rhs; rw [← List.take_append_drop k tss, List.flatten_append, List.length_append]
  omega
theorem take_flatten_step {α : Type} {tss : List (List α)} {k : Nat} {x : List α} (h : tss[k]? = some x) : (tss.take (k + 1)).flatten = (tss.take k).flatten ++ x := by
  rw [Ex.take_at h, List.flatten_append]; simp
/-- One type laid anew. -/
theorem flat_new {lo : Nat} {V : World} {t : Ty} {us : List Value} (T : TypeId) (h : t.dat.In V False (· < lo) us) (hl : lo ≤ V.heap.size) : Flat3 (· < lo) (V.alloc (.cells us.toArray T)) (some ⟨V.heap.size, 0, none⟩) 1 [t] us :=
  ⟨by
    rw [Ty.dats, Ty.dats, Dat.Ins]
    exact ⟨us, [], by simp, h.later ((Below.refl _ _).alloc (Nat.le_refl _) _) (fun k hk => Nat.lt_of_lt_of_le hk hl), by rw [Dat.Ins]⟩,
   (Dat.In.len _ _ h).trans (Ty.dat_size t), fun a e j u hu => by cases e; rw [add_zero_addr]; exact Boxd.new V us.toArray T j u (by simpa using hu), fun _ => ⟨_, rfl⟩, rfl, fun b hb => by rw [World.size_alloc]; omega⟩
end Go.Proofs.YtjhlehdjdaphcaaDoor
