/- The walks of the reference's Subst and All of types. -/
import Derived.Test.YtjhlehdjdaphcaaDoorQNExA
import Derived.Test.YtjhlehdjdaphcaaDoorShelf
import Derived.Deep.RegionLaw
import Derived.Deep.AppendLies
import Derived.BigQuiet
import Derived.Deep.QuietTactic
import Derived.Deep.RegionHeld3
import Derived.Lib.LaidTab
import Derived.Lib.SmallJoins
import Derived.WalkLawsBesides
import Derived.WalkSpells
namespace Go.Proofs.YtjhlehdjdaphcaaDoor
open Go.RowKit

/-- A type that the call has made. -/
def TyPost (w : World) (t : Ty) (e : Ending) (w' : World) : Prop :=
  ∃ A m c, e = .returned (.agg #[.string t.name, .slice A m c, .int .i64 t.off]) ∧ t.name.size ≤ 9223372036854775807 ∧ Lies w' (Fresh w w') A m t.args ∧ Below w.heap.size w w'

theorem infoTy : (Tryd.prog.info? 25).map (fun i => (i.zero, i.size, i.bytes)) = some (some (.agg #[.string ⟨#[]⟩, .slice none 0 0, .int .i64 0]), 3, 48) := by kernel_rfl

theorem listL_len : ∀ xs : List Ty, xs.length ≤ (Ty.listL xs).length
  | [] => Nat.zero_le _
  | .mk s ys o :: r => by
    have := listL_len r
    simp only [List.length_cons, Ty.listL, Ty.list, List.length_append]
    omega
theorem listL_mem : ∀ {xs : List Ty} {x : Ty}, x ∈ xs → x.list.length ≤ (Ty.listL xs).length
  | y :: r, x, h => by
    simp only [Ty.listL, List.length_append]
    rcases List.mem_cons.1 h with rfl | h
    · omega
    · have := listL_mem h
      omega
theorem subst_nil_none {ns : List ByteArray} {us : List Ty} {s : ByteArray} {o : Int} (h : Ty.pick s ns us = none) : Ty.subst ns us (.mk s [] o) = .mk s (Ty.substL ns us []) o := by
  rw [Ty.subst, h]; simp only [Ty.substL]
theorem subst_nil_some {ns : List ByteArray} {us : List Ty} {s r : ByteArray} {ys : List Ty} {o p : Int} (h : Ty.pick s ns us = some (.mk r ys p)) : Ty.subst ns us (.mk s [] o) = .mk r ys o := by
  rw [Ty.subst, h]

/-- Substituting nothing is cloning. -/
theorem subst_none : ∀ t : Ty, t.subst [] [] = t := by
  refine Ty.ind fun s xs o ih => ?_
  have hl : Ty.substL [] [] xs = xs := by
    rw [Ty.substL_map]
    conv => rhs; rw [← List.map_id xs]
    exact List.map_congr_left fun x hx => ih x hx
  cases xs with
  | nil => simp only [Ty.subst, Ty.pick]
  | cons x r => rw [Ty.substL_eq _ _ _ _ _ (by simp), hl]

end Go.Proofs.YtjhlehdjdaphcaaDoor
namespace Go.Proofs.YtjhlehdjdaphcaaDoor
open Go.RowKit

/-- Types that the call has made. -/
def AllPost (w : World) (ts : List Ty) (e : Ending) (w' : World) : Prop :=
  ∃ A c, e = .returned (.slice A ts.length c) ∧ Lies w' (Fresh w w') A ts.length ts ∧ Below w.heap.size w w'

end Go.Proofs.YtjhlehdjdaphcaaDoor
