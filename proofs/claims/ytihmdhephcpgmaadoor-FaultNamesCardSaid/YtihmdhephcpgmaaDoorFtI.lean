/- errors.Unwrap and errors.Is at the errors of layer 2: the walks. -/
import Derived.Test.YtihmdhephcpgmaaDoorFtB
import Derived.Lib.Hide
namespace Go.Proofs.YtihmdhephcpgmaaDoor
open Go.RowKit Go.Extern.Stop Go.Stop Go.Extern

theorem compC : (Tryd.prog.info? 30).map (·.comparable) = some true := by kernel_rfl
/-- Two codes as errors are equal as their numbers are. -/
theorem eqlCC (a b : Int) (w : World) : (binOp .eql 28 (.iface 30 (.int .i64 a)) (.iface 30 (.int .i64 b))).run Tryd.prog w = .ok (.bool (a == b)) w := by
  obtain ⟨row, hrow, hcmp⟩ := Option.map_eq_some_iff.1 compC
  have deep : ∀ d : Nat, (Op.equalIn (d + 2) 28 (.iface 30 (.int .i64 a)) (.iface 30 (.int .i64 b))).run Tryd.prog w = .ok (a == b) w := fun d => by
    simp [Op.equalIn, typeInfo, hrow, hcmp, run_underlying Tryd.underlying28, run_underlying Tryd.underlying30]
  simp only [binOp]
  simp [Op.equal, Op.maxDepth, deep 9998]
theorem eqlFC (a b : Value) (w : World) : (binOp .eql 28 (.iface 50 a) (.iface 30 b)).run Tryd.prog w = .ok (.bool false) w := run_eql_iface_types _ _ _ _ Tryd.underlying28 (by decide) w
theorem eqlPC (a b : Value) (w : World) : (binOp .eql 28 (.iface 54 a) (.iface 30 b)).run Tryd.prog w = .ok (.bool false) w := run_eql_iface_types _ _ _ _ Tryd.underlying28 (by decide) w
theorem comparable (w : World) : ((ReflectliteType.method fun t => do Rtype.noPackHeld "Comparable" t; pure (.bool (← typeInfo t).comparable)) #[.agg #[.pointer (some ⟨5, 30, none⟩)]]).run Tryd.prog w = .ok (.bool true) w := by kernel_rfl
theorem callComparable (w : World) : (callFunc 77 #[.agg #[.pointer (some ⟨5, 30, none⟩)]]).run Tryd.prog w = .ok (.value (.bool true)) w := by
  rw [@run_callFunc_extern Tryd.prog 77 _ (ReflectliteType.method fun t => do Rtype.noPackHeld "Comparable" t; pure (.bool (← typeInfo t).comparable)) Tryd.func77 (by kernel_rfl) (by kernel_rfl) (by kernel_rfl) (by kernel_rfl), comparable]
  rfl
theorem methodComp (h : Value) (w : World) : (Go.method 239 79 (.agg #[h]) "Comparable").run Tryd.prog w = .ok (77, .agg #[h]) w := by kernel_rfl
theorem noIs (t : Nat) (h : (Tryd.prog.info? t).map (fun i => (lacking #[("Is", 83)] i.methods).isEmpty) = some false) (v : Value) (xT : TypeId) (w : World) :
    (Instr.typeAssert (.iface t v) xT 81 true).run Tryd.prog w = .ok (.tuple #[.nilIface, .bool false]) w := run_typeAssert_lacksB Tryd.underlying81 h (by kernel_rfl) v xT w
theorem noIsC (v : Value) (xT : TypeId) (w : World) : (Instr.typeAssert (.iface 30 v) xT 81 true).run Tryd.prog w = .ok (.tuple #[.nilIface, .bool false]) w := noIs _ (by kernel_rfl) v xT w
theorem noIsF (v : Value) (xT : TypeId) (w : World) : (Instr.typeAssert (.iface 50 v) xT 81 true).run Tryd.prog w = .ok (.tuple #[.nilIface, .bool false]) w := noIs _ (by kernel_rfl) v xT w
theorem noIsP (v : Value) (xT : TypeId) (w : World) : (Instr.typeAssert (.iface 54 v) xT 81 true).run Tryd.prog w = .ok (.tuple #[.nilIface, .bool false]) w := noIs _ (by kernel_rfl) v xT w

/-- errors.Unwrap at a part. -/
theorem unwrap_part (g : Nat) (u : Value) (w : World) (h : w.cell? ⟨g, 1, none⟩ = some u) :
    Calls Tryd.prog 15 #[.iface 54 (.pointer (some ⟨g, 0, none⟩))] w fun e w' => e = .returned u ∧ w = w' := by
  have f4 := unP
  have f5 := mUnP
  have HU := Lib.hid h
  clear h
  go_enter Tryd.func15, Tryd.ntmps15
  go_wp2_with (go_at_call 70; refine (unwrapP g _ _ HU.out).mono ?_; rintro e w1 ⟨rfl, rfl⟩)
  go_ret
  exact ⟨rfl, rfl⟩

def RestI (w wr : World) (c : Int) (v : Value) : Prop := Below w.heap.size w wr ∧ ∃ ps b, b.code = c ∧ IsErr wr b ps v
theorem rankI_wrap {g : Nat} : rank (.iface 54 (.pointer (some ⟨g, 0, none⟩))) = g + 2 := by simp [rank]
theorem rankI_fault {c o : Int} : rank (.iface 50 (.agg #[.int .i64 c, .int .i64 o])) = 1 := by simp [rank]
theorem rankI_code {c : Int} : rank (.iface 30 (.int .i64 c)) = 0 := by simp [rank]

set_option maxHeartbeats 1000000 in
theorem is_loop (r : Bool) (w : World) (c k : Int) (hck : (c == k) = r) (ps : List ByteArray) (b : Base) (v : Value) (hc : b.code = c) (hv : IsErr w b ps v) :
    Calls Tryd.prog 28 #[v, .iface 30 (.int .i64 k), .bool true] w fun e w' => e = .returned (.bool r) ∧ Below w.heap.size w w' := by
  have hR : RestI w w c v := ⟨Below.refl _ _, ps, b, hc, hv⟩
  have HR := Lib.hid hR
  have eC := fun w => (eqlCC c k w).trans (by rw [hck])
  have eF := eqlFC
  have eP := eqlPC
  have n1 := noIsC
  have n2 := noIsF
  have n3 := noIsP
  have u1 := unC
  have u2 := unF
  have u3 := unP
  have u4 := unsC
  have m1 := mUnF
  have m2 := mUnP
  clear hR hv hc hck
  cases r
  all_goals
    go_enter Tryd.func28, Tryd.ntmps28
    go_wp2
    go_loopw [0] (fun v wr => RestI w wr c v) (fun v _ => rank v)
    case atStart => exact HR.out
    case round =>
      obtain ⟨hbel, ps', b', hc', hv'⟩ := hrel
      have HB := Lib.hid hbel
      clear hbel
      rcases ps' with _ | ⟨p, ps'⟩
      · obtain rfl := hv'
        obtain ⟨c', o⟩ := b'
        obtain rfl : c' = c := hc'
        cases o with
        | none =>
          simp only [Base.val]
          go_wp2
          go_ret
          exact ⟨rfl, HB.out⟩
        | some o =>
          simp only [Base.val]
          go_wp2_with (go_at_call 68; refine (unwrapF c' o _).mono ?_; rintro e w1 ⟨rfl, hb1⟩)
          go_roundw
          case rel => exact ⟨HB.out.trans (hb1.mono HB.out.size), [], ⟨c', none⟩, rfl, rfl⟩
          case measure => rw [rankI_code, rankI_fault]; omega
      · obtain ⟨g, u, rfl, hp, hu, hr, hv2⟩ := hv'
        have HU := Lib.hid hu
        have HV := Lib.hid hv2
        have HC := Lib.hid hc'
        obtain ⟨tu, u', rfl⟩ := hv2.iface
        clear hp hu hv2 hc'
        go_wp2_with (go_at_call 70; refine (unwrapP g _ _ HU.out).mono ?_; rintro e w1 ⟨rfl, rfl⟩)
        go_roundw
        case rel => exact ⟨HB.out, ps', b', HC.out, HV.out⟩
        case measure => rw [rankI_wrap]; exact hr

set_option maxHeartbeats 1000000 in
theorem is_any (r : Bool) (w : World) (c k : Int) (hck : (c == k) = r) (ps : List ByteArray) (b : Base) (v : Value) (hc : b.code = c) (hv : IsErr w b ps v) :
    Calls Tryd.prog 16 #[v, .iface 30 (.int .i64 k)] w fun e w' => e = .returned (.bool r) ∧ Below w.heap.size w w' := by
  have hTO := @run_callFunc_extern Tryd.prog 27 _ ReflectliteType.typeOf Tryd.func27 (by kernel_rfl) (by kernel_rfl) (by kernel_rfl) (by kernel_rfl)
  have f1 := typeOfC
  have f2 := callComparable
  have f3 := methodComp
  have H := Lib.hid (is_loop r w c k hck ps b v hc hv)
  obtain ⟨tv, uv, rfl⟩ := hv.iface
  clear hc hv hck
  go_enter Tryd.func16, Tryd.ntmps16
  go_wp2_with (go_at_call 28; refine H.out.mono ?_; rintro e w1 ⟨rfl, hb1⟩)
  go_ret
  exact ⟨rfl, hb1⟩
end Go.Proofs.YtihmdhephcpgmaaDoor
