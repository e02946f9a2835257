/- What an error of layer 2 is in memory: a code, a fault, or a part around one of these; it lasts in every later world. No condition. -/
import Derived.Test.YtihmdhephcpgmaaDoorRows
import Derived.WalkKit
import Derived.WalkSmall
import Derived.Lib.LaidTab
import Derived.Lib.ItoaNum
import Derived.Below
namespace Go.Proofs.YtihmdhephcpgmaaDoor
open Go.RowKit

theorem gNam : Tryd.prog.globalNamed "castings/fault.names" = some 0 := by kernel_rfl
theorem gPow : Tryd.prog.globalNamed "internal/strconv.uint64pow10" = some 2 := by kernel_rfl
theorem gTyp : Tryd.prog.globalNamed "errors.errorType" = some 1 := by kernel_rfl

namespace Ft
def names : List (List UInt8) := [[], [108, 101, 120], [112, 97, 114, 115, 101], [100, 101, 101, 112], [116, 121, 112, 101], [110, 111, 109, 111, 110, 111], [98, 117, 100, 103, 101, 116]]
end Ft
def namCells : Array Value := (Ft.names.map fun l => Value.string ⟨l.toArray⟩).toArray

structure Env (w : World) : Prop where
  nam : w.var? Tryd.prog "castings/fault.names" = some namCells
  tab : Lib.TabIs Tryd.prog w "internal/strconv.uint64pow10" .u64 Lib.pow10Tab
  typ : w.cell? ⟨1, 0, none⟩ = some (.iface 79 (.agg #[.pointer (some ⟨5, 28, none⟩)]))

theorem var_lt {w : World} {n : String} {g : Nat} {cs : Array Value} (hg : Tryd.prog.globalNamed n = some g) (h : w.var? Tryd.prog n = some cs) : g < w.heap.size := by
  unfold World.var? at h
  rw [hg] at h
  simp only [Option.bind_some] at h
  rcases Nat.lt_or_ge g w.heap.size with h1 | h1
  · exact h1
  · rw [Array.getElem?_eq_none h1] at h
    cases h

theorem cell_lt {w : World} {p : Addr} {v : Value} (h : w.cell? p = some v) : p.block < w.heap.size := by
  rcases Nat.lt_or_ge p.block w.heap.size with h1 | h1
  · exact h1
  · simp [World.cell?, Array.getElem?_eq_none h1] at h

theorem Env.later {w w' : World} (h : Env w) (hb : Below w.heap.size w w') : Env w' :=
  ⟨var?_below hb gNam (var_lt gNam h.nam) h.nam, var?_below hb gPow (var_lt gPow h.tab) h.tab, (hb.cell (cell_lt h.typ)).trans h.typ⟩

/-- The innermost error: a code, or a fault with an offset. -/
structure Base where
  code : Int
  off : Option Int

def Base.val : Base → Value
  | ⟨c, none⟩ => .iface 30 (.int .i64 c)
  | ⟨c, some a⟩ => .iface 50 (.agg #[.int .i64 c, .int .i64 a])

/-- How deep an error may lie: what a loop along its chain counts down. -/
def rank : Value → Nat
  | .iface t (.pointer (some a)) => if t = 54 then a.block + 2 else 0
  | .iface t _ => if t = 50 then 1 else 0
  | _ => 0

/-- The parts from the outside to the inside. -/
def IsErr (w : World) (b : Base) : List ByteArray → Value → Prop
  | [], v => v = b.val
  | p :: r, v => ∃ g u, v = .iface 54 (.pointer (some ⟨g, 0, none⟩)) ∧ w.cell? ⟨g, 0, none⟩ = some (.string p) ∧ w.cell? ⟨g, 1, none⟩ = some u ∧ rank u < g + 2 ∧ IsErr w b r u

theorem IsErr.later {w w' : World} {b : Base} (hb : Below w.heap.size w w') : ∀ {ps : List ByteArray} {v : Value}, IsErr w b ps v → IsErr w' b ps v
  | [], _, h => h
  | _ :: _, _, ⟨g, u, h1, h2, h3, h4, h5⟩ => ⟨g, u, h1, (hb.cell (cell_lt h2)).trans h2, (hb.cell (cell_lt h3)).trans h3, h4, h5.later hb⟩

theorem IsErr.lt {w : World} {b : Base} : ∀ {ps : List ByteArray} {v : Value}, IsErr w b ps v → rank v < w.heap.size + 2
  | [], _, h => by
    obtain rfl := h
    obtain ⟨c, o⟩ := b
    cases o <;> simp [Base.val, rank] <;> omega
  | _ :: _, _, ⟨g, u, h1, h2, _⟩ => by
    obtain rfl := h1
    have := cell_lt h2
    simp [rank]
    exact this

/-- No error is nil. -/
theorem IsErr.iface {w : World} {b : Base} {ps : List ByteArray} {v : Value} (h : IsErr w b ps v) : ∃ t u, v = .iface t u := by
  cases ps with
  | nil =>
    obtain rfl := h
    obtain ⟨c, o⟩ := b
    cases o <;> exact ⟨_, _, rfl⟩
  | cons p r =>
    obtain ⟨g, u, rfl, _⟩ := h
    exact ⟨_, _, rfl⟩

/-- A new part around an error. -/
theorem IsErr.wrap {w : World} {b : Base} {ps : List ByteArray} {v : Value} (h : IsErr w b ps v) (p : ByteArray) :
    IsErr (w.alloc (.cells #[.string p, v] 56)) b (p :: ps) (.iface 54 (.pointer (some ⟨w.heap.size, 0, none⟩))) :=
  ⟨w.heap.size, v, rfl, by rw [World.cell?_alloc_at _ _ _ _ rfl]; rfl, by rw [World.cell?_alloc_at _ _ _ _ rfl]; rfl, h.lt, h.later ((Below.refl _ _).alloc (Nat.le_refl _) _)⟩

theorem bcell {W w1 : World} (hb : Below W.heap.size W w1) : ∀ b o, b < W.heap.size → w1.cell? ⟨b, o, none⟩ = W.cell? ⟨b, o, none⟩ :=
  fun b o h => hb.cell (p := ⟨b, o, none⟩) h

theorem ret_int {k : IntKind} {a b : Int} (h : a = b) : Ending.returned (.int k a) = .returned (.int k b) := by rw [h]
theorem ret_bool {a b : Bool} (h : a = b) : Ending.returned (.bool a) = .returned (.bool b) := by rw [h]
theorem ret_str {a b : ByteArray} (h : a.data.toList = b.data.toList) : Ending.returned (.string a) = .returned (.string b) := by
  have : a = b := by
    obtain ⟨⟨l⟩⟩ := a
    obtain ⟨⟨m⟩⟩ := b
    simp at h
    rw [h]
  rw [this]
theorem below_drewN {B : Nat} {a w : World} (h : Below B a w) (n : Nat) : Below B a (w.drewN n) := ⟨h.os, h.tape, h.output, h.size, h.block⟩
end Go.Proofs.YtihmdhephcpgmaaDoor
