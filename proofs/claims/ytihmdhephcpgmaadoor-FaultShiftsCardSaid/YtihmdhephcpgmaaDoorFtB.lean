/- errors.As by its contracts, at a pointer to an api.Code and at a pointer to an api.Fault: closed facts on the model's entries for internal/reflectlite, then the walks. No condition but those in each statement. -/
import Derived.Test.YtihmdhephcpgmaaDoorFtA
import Derived.LaidEql
import Derived.Stop.Asserts
import Derived.RowKitTokens
namespace Go.Proofs.YtihmdhephcpgmaaDoor
open Go.RowKit Go.Extern.Stop Go.Stop Go.Extern

abbrev hdl (t : Nat) : Value := .pointer (some ⟨5, t, none⟩)
abbrev rty (t : Nat) : Value := .iface 79 (.agg #[.pointer (some ⟨5, t, none⟩)])

theorem typeOfC (v : Value) (w : World) : (ReflectliteType.typeOf #[.iface 30 v]).run Tryd.prog w = .ok (.iface 79 (.agg #[.pointer (some ⟨5, 30, none⟩)])) w := by kernel_rfl
theorem typeOfF (v : Value) (w : World) : (ReflectliteType.typeOf #[.iface 50 v]).run Tryd.prog w = .ok (.iface 79 (.agg #[.pointer (some ⟨5, 50, none⟩)])) w := by kernel_rfl
theorem typeOfP (v : Value) (w : World) : (ReflectliteType.typeOf #[.iface 54 v]).run Tryd.prog w = .ok (.iface 79 (.agg #[.pointer (some ⟨5, 54, none⟩)])) w := by kernel_rfl
theorem typeOfS (v : Value) (w : World) : (ReflectliteType.typeOf #[.iface 65 v]).run Tryd.prog w = .ok (.iface 79 (.agg #[.pointer (some ⟨5, 65, none⟩)])) w := by kernel_rfl
theorem methodAss (h : Value) (w : World) : (Go.method 239 79 (.agg #[h]) "AssignableTo").run Tryd.prog w = .ok (76, .agg #[h]) w := by kernel_rfl
theorem assCC (w : World) : (ReflectliteType.relation "AssignableTo" ReflectliteType.assignableTo #[.agg #[.pointer (some ⟨5, 30, none⟩)], .iface 79 (.agg #[.pointer (some ⟨5, 30, none⟩)])]).run Tryd.prog w = .ok (.bool true) w := by kernel_rfl
theorem assFC (w : World) : (ReflectliteType.relation "AssignableTo" ReflectliteType.assignableTo #[.agg #[.pointer (some ⟨5, 50, none⟩)], .iface 79 (.agg #[.pointer (some ⟨5, 30, none⟩)])]).run Tryd.prog w = .ok (.bool false) w := by kernel_rfl
theorem assPC (w : World) : (ReflectliteType.relation "AssignableTo" ReflectliteType.assignableTo #[.agg #[.pointer (some ⟨5, 54, none⟩)], .iface 79 (.agg #[.pointer (some ⟨5, 30, none⟩)])]).run Tryd.prog w = .ok (.bool false) w := by kernel_rfl
theorem assSC (w : World) : (ReflectliteType.relation "AssignableTo" ReflectliteType.assignableTo #[.agg #[.pointer (some ⟨5, 65, none⟩)], .iface 79 (.agg #[.pointer (some ⟨5, 30, none⟩)])]).run Tryd.prog w = .ok (.bool false) w := by kernel_rfl
theorem assCF (w : World) : (ReflectliteType.relation "AssignableTo" ReflectliteType.assignableTo #[.agg #[.pointer (some ⟨5, 30, none⟩)], .iface 79 (.agg #[.pointer (some ⟨5, 50, none⟩)])]).run Tryd.prog w = .ok (.bool false) w := by kernel_rfl
theorem assFF (w : World) : (ReflectliteType.relation "AssignableTo" ReflectliteType.assignableTo #[.agg #[.pointer (some ⟨5, 50, none⟩)], .iface 79 (.agg #[.pointer (some ⟨5, 50, none⟩)])]).run Tryd.prog w = .ok (.bool true) w := by kernel_rfl
theorem assPF (w : World) : (ReflectliteType.relation "AssignableTo" ReflectliteType.assignableTo #[.agg #[.pointer (some ⟨5, 54, none⟩)], .iface 79 (.agg #[.pointer (some ⟨5, 50, none⟩)])]).run Tryd.prog w = .ok (.bool false) w := by kernel_rfl

/-! method sets: what the assertions of errors.as find -/
theorem noAs (t : Nat) (h : (Tryd.prog.info? t).map (fun i => (lacking #[("As", 91)] i.methods).isEmpty) = some false) (v : Value) (xT : TypeId) (w : World) :
    (Instr.typeAssert (.iface t v) xT 89 true).run Tryd.prog w = .ok (.tuple #[.nilIface, .bool false]) w := run_typeAssert_lacksB Tryd.underlying89 h (by kernel_rfl) v xT w
theorem noAsF (v : Value) (xT : TypeId) (w : World) : (Instr.typeAssert (.iface 50 v) xT 89 true).run Tryd.prog w = .ok (.tuple #[.nilIface, .bool false]) w := noAs _ (by kernel_rfl) v xT w
theorem noAsC (v : Value) (xT : TypeId) (w : World) : (Instr.typeAssert (.iface 30 v) xT 89 true).run Tryd.prog w = .ok (.tuple #[.nilIface, .bool false]) w := noAs _ (by kernel_rfl) v xT w
theorem noAsP (v : Value) (xT : TypeId) (w : World) : (Instr.typeAssert (.iface 54 v) xT 89 true).run Tryd.prog w = .ok (.tuple #[.nilIface, .bool false]) w := noAs _ (by kernel_rfl) v xT w
theorem noAsS (v : Value) (xT : TypeId) (w : World) : (Instr.typeAssert (.iface 65 v) xT 89 true).run Tryd.prog w = .ok (.tuple #[.nilIface, .bool false]) w := noAs _ (by kernel_rfl) v xT w
theorem unF (v : Value) (xT : TypeId) (w : World) : (Instr.typeAssert (.iface 50 v) xT 57 true).run Tryd.prog w = .ok (.tuple #[.iface 50 v, .bool true]) w := run_typeAssert_hasB Tryd.underlying57 (by kernel_rfl) v xT w
theorem unP (v : Value) (xT : TypeId) (w : World) : (Instr.typeAssert (.iface 54 v) xT 57 true).run Tryd.prog w = .ok (.tuple #[.iface 54 v, .bool true]) w := run_typeAssert_hasB Tryd.underlying57 (by kernel_rfl) v xT w
theorem unC (v : Value) (xT : TypeId) (w : World) : (Instr.typeAssert (.iface 30 v) xT 57 true).run Tryd.prog w = .ok (.tuple #[.nilIface, .bool false]) w := run_typeAssert_lacksB Tryd.underlying57 (by kernel_rfl) (by kernel_rfl) v xT w
theorem unS (v : Value) (xT : TypeId) (w : World) : (Instr.typeAssert (.iface 65 v) xT 57 true).run Tryd.prog w = .ok (.tuple #[.nilIface, .bool false]) w := run_typeAssert_lacksB Tryd.underlying57 (by kernel_rfl) (by kernel_rfl) v xT w
theorem unsC (v : Value) (xT : TypeId) (w : World) : (Instr.typeAssert (.iface 30 v) xT 84 true).run Tryd.prog w = .ok (.tuple #[.nilIface, .bool false]) w := run_typeAssert_lacksB Tryd.underlying84 (by kernel_rfl) (by kernel_rfl) v xT w
theorem unsS (v : Value) (xT : TypeId) (w : World) : (Instr.typeAssert (.iface 65 v) xT 84 true).run Tryd.prog w = .ok (.tuple #[.nilIface, .bool false]) w := run_typeAssert_lacksB Tryd.underlying84 (by kernel_rfl) (by kernel_rfl) v xT w
theorem mUnF (v : Value) (w : World) : (Go.method 239 50 v "Unwrap").run Tryd.prog w = .ok (68, v) w := by kernel_rfl
theorem mUnP (v : Value) (w : World) : (Go.method 239 54 v "Unwrap").run Tryd.prog w = .ok (70, v) w := by kernel_rfl

/-! the two methods Unwrap -/
theorem unwrapF (c a : Int) (w : World) :
    Calls Tryd.prog 68 #[.agg #[.int .i64 c, .int .i64 a]] w fun e w' => e = .returned (.iface 30 (.int .i64 c)) ∧ Below w.heap.size w w' := by
  go_enter Tryd.func68, Tryd.ntmps68
  go_wp2_with fail
  go_ret
  exact ⟨rfl, (Below.refl _ _).alloc (Nat.le_refl _) _⟩
theorem unwrapP (g : Nat) (u : Value) (w : World) (h : w.cell? ⟨g, 1, none⟩ = some u) :
    Calls Tryd.prog 70 #[.pointer (some ⟨g, 0, none⟩)] w fun e w' => e = .returned u ∧ w = w' := by
  go_enter Tryd.func70, Tryd.ntmps70
  go_wp2_with fail
  go_ret
  exact ⟨rfl, rfl⟩
end Go.Proofs.YtihmdhephcpgmaaDoor
