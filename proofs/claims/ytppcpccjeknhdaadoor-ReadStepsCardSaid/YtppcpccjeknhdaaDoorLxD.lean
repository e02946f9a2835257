/- The walks of the reference's Same, at two slices that read alike, and Join. -/
import Derived.Test.YtppcpccjeknhdaaDoorLxC
import Derived.Laws.StructEq
namespace Go.Proofs.YtppcpccjeknhdaaDoor
open Go.RowKit

theorem neqTok (k o : Int) (s : ByteArray) (w : World) : (binOp .neq 66 (.agg #[.int .i64 k, .string s, .int .i64 o]) (.agg #[.int .i64 k, .string s, .int .i64 o])).run Tryd.prog w = .ok (.bool false) w := by
  have u1 := Tryd.underlying3
  have u2 := Tryd.underlying9
  have a1 := Tryd.isAgg3
  have z1 := Tryd.sizeOf3
  have a2 := Tryd.isAgg9
  have z2 := Tryd.sizeOf9
  have hS : Tryd.prog.underlying 66 = some (.struct (Tryd.prog.fieldsOf 66)) := by kernel_rfl
  have hp : Tryd.prog.stoodInHeld 66 = false := by kernel_rfl
  rw [run_neq_struct, show (10000 : Nat) = 9999 + 1 from rfl, run_equalIn_agg w 9999 66 _ _ hS hp]
  simp only [Program.fieldsOf, Tryd.underlying66]
  go_simp
theorem guardTok : Tryd.prog.eqGuardType Tryd.prog.depth 66 = false := by kernel_rfl

/-- The joined texts of all but the tokens of kind 3. -/
def joinT : List UInt8 → List Tk → List UInt8
  | s, [] => s
  | s, t :: r => if t.k = 3 then joinT s r else if s = [] then joinT t.s.data.toList r else joinT (s ++ [32] ++ t.s.data.toList) r
theorem joinT_snoc : ∀ (l : List Tk) (s : List UInt8) (t : Tk), joinT s (l ++ [t]) = if t.k = 3 then joinT s l else if joinT s l = [] then t.s.data.toList else joinT s l ++ [32] ++ t.s.data.toList
  | [], s, t => by by_cases h1 : t.k = 3 <;> by_cases h2 : s = [] <;> simp [joinT, h1, h2]
  | x :: r, s, t => by
    simp only [List.cons_append, joinT]
    split
    · exact joinT_snoc r _ _
    · split
      · exact joinT_snoc r _ _
      · exact joinT_snoc r _ _
/-- Its length, at most. -/
def wideT : List Tk → Nat
  | [] => 0
  | t :: r => t.s.size + 1 + wideT r
theorem wideT_take : ∀ (l : List Tk) (k : Nat), wideT (l.take k) ≤ wideT l
  | [], _ => by simp [wideT]
  | _ :: _, 0 => by simp [wideT]
  | t :: l, k + 1 => by
    have := wideT_take l k
    simp only [List.take_succ_cons, wideT]
    omega
theorem joinT_le : ∀ (l : List Tk) (s : List UInt8), (joinT s l).length ≤ s.length + wideT l
  | [], s => by simp [joinT, wideT]
  | t :: r, s => by
    have hs : t.s.data.toList.length = t.s.size := (Lib.size_eq t.s).symm
    simp only [joinT, wideT]
    split
    · have := joinT_le r s; omega
    · split
      · have := joinT_le r t.s.data.toList; omega
      · have := joinT_le r (s ++ [32] ++ t.s.data.toList)
        simp only [List.length_append, List.length_cons, List.length_nil] at this
        omega
theorem wideT_at {l : List Tk} {k : Nat} {t : Tk} (h : l[k]? = some t) : t.s.size + 1 ≤ wideT l := by
  induction l generalizing k with
  | nil => simp at h
  | cons x r ih =>
    cases k with
    | zero =>
      obtain rfl : x = t := by simpa using h
      simp only [wideT]; omega
    | succ k =>
      have := ih (k := k) (by simpa using h)
      simp only [wideT]; omega

end Go.Proofs.YtppcpccjeknhdaaDoor
