/- The walks of fault.New, fault.In and of errors.As at nil. -/
import Derived.Test.YtihmdhephcpgmaaDoorFtErr
namespace Go.Proofs.YtihmdhephcpgmaaDoor
open Go.RowKit

theorem new_any (c a : Int) (w : World) :
    Calls Tryd.prog 22 #[.int .i64 c, .int .i64 a] w fun e w' => e = .returned (Base.val ⟨c, some a⟩) ∧ w = w' := by
  go_enter Tryd.func22, Tryd.ntmps22
  go_wp2_with fail
  go_ret
  exact ⟨rfl, rfl⟩

theorem in_nil (s : ByteArray) (w : World) :
    Calls Tryd.prog 14 #[.string s, .nilIface] w fun e w' => e = .returned .nilIface ∧ w = w' := by
  go_enter Tryd.func14, Tryd.ntmps14
  go_wp2_with fail
  go_ret
  exact ⟨rfl, rfl⟩

theorem in_some (s : ByteArray) (t : TypeId) (u : Value) (w : World) :
    Calls Tryd.prog 14 #[.string s, .iface t u] w fun e w' => e = .returned (.iface 54 (.pointer (some ⟨w.heap.size, 0, none⟩))) ∧ w' = w.alloc (.cells #[.string s, .iface t u] 56) := by
  go_enter Tryd.func14, Tryd.ntmps14
  go_wp2_with fail
  go_ret
  exact ⟨rfl, rfl⟩

theorem in_err {w : World} {b : Base} {ps : List ByteArray} {v : Value} (h : IsErr w b ps v) (s : ByteArray) :
    Calls Tryd.prog 14 #[.string s, v] w fun e w' => ∃ v', e = .returned v' ∧ IsErr w' b (s :: ps) v' ∧ Below w.heap.size w w' := by
  obtain ⟨t, u, rfl⟩ := h.iface
  exact (in_some s t u w).mono fun e w' ⟨he, hw⟩ => ⟨_, he, by rw [hw]; exact h.wrap s, by rw [hw]; exact (Below.refl _ _).alloc (Nat.le_refl _) _⟩

/-- errors.As(nil, target). -/
theorem as_nil (t : Value) (w : World) :
    Calls Tryd.prog 24 #[.nilIface, t] w fun e w' => e = .returned (.bool false) ∧ w = w' := by
  go_enter Tryd.func24, Tryd.ntmps24
  go_wp2
  go_ret
  exact ⟨rfl, rfl⟩
end Go.Proofs.YtihmdhephcpgmaaDoor
