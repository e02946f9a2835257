/- errors.as and errors.As at a pointer to an api.Code: the walks. -/
import Derived.Test.YtihmdhephcpgmaaDoorFtB
import Derived.Lib.Hide
namespace Go.Proofs.YtihmdhephcpgmaaDoor
open Go.RowKit Go.Extern.Stop Go.Stop Go.Extern

theorem rlm (z : Sem Value) (f : TypeId → Addr → Nat → Nat → Sem Value) (v : Value) :
    ReflectliteValue.method z f #[v] = (do match ← ReflectliteValue.parts v with | none => z | some (t, a, fl) => f t a fl (fl % 32)) := rfl
theorem rls (v x : Value) : ReflectliteValue.set #[v, x] = (do
    let (some (dst, a, fl), some (src, b, _)) := (← ReflectliteValue.parts v, ← ReflectliteValue.parts x)
      | unsupported (.noEntry "extern/(internal/reflectlite.Value).Set.zeroValue")
    if fl / ReflectliteValue.flagAddr % 2 == 0 then unsupported (.noEntry "extern/(internal/reflectlite.Value).Set.unaddressable")
    let val ← loadVar src b
    if ← Rtype.directlyAssignable dst src then storeVar dst a val
    else if ← Rtype.implements dst src then
      if (← Rtype.kind src) == 20 then
        match val with
        | .nilIface => unsupported (.noEntry "extern/reflectlite: a nil value of one interface type handed on as a value of another")
        | _ => storeVar dst a val
      else storeVar dst a (.iface src val)
    else panicString ("reflectlite.Set: value of type " ++ (← Rtype.spelt src) ++ " is not assignable to type " ++ (← Rtype.spelt dst))
    pure (.tuple #[])) := rfl

theorem elemOfPC (w : World) : (Rtype.elem? 52).run Tryd.prog w = .ok (some 30) w := by kernel_rfl
theorem mkC (p : Addr) (w : World) : (ReflectliteValue.mk 30 p ReflectliteValue.flagAddr).run Tryd.prog w = .ok (.agg #[.pointer (some ⟨5, 30, none⟩), .pointer (some p), .int .u64 386]) w := by kernel_rfl
theorem partsPC (a : Addr) (w : World) : (ReflectliteValue.parts (.agg #[.pointer (some ⟨5, 52, none⟩), .pointer (some a), .int .u64 150])).run Tryd.prog w = .ok (some (52, a, 150)) w := by kernel_rfl
theorem partsCa (a : Addr) (w : World) : (ReflectliteValue.parts (.agg #[.pointer (some ⟨5, 30, none⟩), .pointer (some a), .int .u64 386])).run Tryd.prog w = .ok (some (30, a, 386)) w := by kernel_rfl
theorem partsC (a : Addr) (w : World) : (ReflectliteValue.parts (.agg #[.pointer (some ⟨5, 30, none⟩), .pointer (some a), .int .u64 130])).run Tryd.prog w = .ok (some (30, a, 130)) w := by kernel_rfl
theorem directC (w : World) : (Rtype.directlyAssignable 30 30).run Tryd.prog w = .ok true w := by kernel_rfl
theorem sizeC (w : World) : (sizeOf 30).run Tryd.prog w = .ok 1 w := by kernel_rfl
theorem valueOfC (c : Int) (w : World) : (ReflectliteValue.unpack (.iface 30 (.int .i64 c))).run Tryd.prog w
    = .ok (.agg #[.pointer (some ⟨5, 30, none⟩), .pointer (some ⟨w.heap.size, 0, none⟩), .int .u64 130]) (w.alloc (.cells #[.int .i64 c] 30)) := by kernel_rfl

/-- (Value).Elem at the Value of a *api.Code that is not nil. -/
theorem elemPC (a p : Addr) (W : World) (ha : W.cell? a = some (.pointer (some p))) :
    (ReflectliteValue.method (ReflectliteValue.valueError "reflectlite.Value.Elem" 0) ReflectliteValue.elem #[.agg #[.pointer (some ⟨5, 52, none⟩), .pointer (some a), .int .u64 150]]).run Tryd.prog W
      = .ok (.agg #[.pointer (some ⟨5, 30, none⟩), .pointer (some p), .int .u64 386]) W := by
  rw [rlm]
  simp only [Sem.run_bind, partsPC, Result.andThen]
  simp [ReflectliteValue.elem, loadVar, isAgg, underlying, Tryd.underlying52, ha, Result.andThen, elemOfPC, mkC]
theorem setC (ta b : Addr) (c : Int) (old : Value) (W : World) (hb : W.cell? b = some (.int .i64 c)) (ht : W.cell? ta = some old) (hf : W.frozen? ta = false) :
    (ReflectliteValue.set #[.agg #[.pointer (some ⟨5, 30, none⟩), .pointer (some ta), .int .u64 386], .agg #[.pointer (some ⟨5, 30, none⟩), .pointer (some b), .int .u64 130]]).run Tryd.prog W
      = .ok (.tuple #[]) (W.setCell ta (.int .i64 c)) := by
  rw [rls]
  simp only [Sem.run_bind, partsCa, partsC, Result.andThen]
  simp [ReflectliteValue.flagAddr, loadVar, isAgg, underlying, Tryd.underlying30, hb, Result.andThen, directC, storeVar, Value.cells, storeCells, Addr.add]
  rw [run_store Tryd.prog W ta _ _ (by rfl)]
  simp [ht, hf]

/-- The remaining chain at a round of errors.as. -/
def Rest (W wr : World) (c : Int) (v : Value) : Prop := Below W.heap.size W wr ∧ ∃ ps b, b.code = c ∧ IsErr wr b ps v

def GotC (B : Nat) (w : World) (t : Addr) (c : Int) (e : Ending) (w' : World) : Prop :=
  e = .returned (.bool true) ∧ Below B w w' ∧ w'.cell? t = some (.int .i64 c)

theorem rank_wrap {g : Nat} : rank (.iface 54 (.pointer (some ⟨g, 0, none⟩))) = g + 2 := by simp [rank]
theorem rank_fault {v : Value} (h : ∀ a, v ≠ .pointer (some a)) : rank (.iface 50 v) = 1 := by
  unfold rank
  split
  · rename_i e; injection e with e1 e2; exact absurd e2 (h _)
  · rename_i e; injection e with e1 e2; simp [← e1]
  · rename_i h1 h2; exact absurd rfl (h2 _ _)
theorem rank_code {c : Int} : rank (.iface 30 (.int .i64 c)) = 0 := by simp [rank]

set_option maxHeartbeats 1000000 in
theorem asC (B : Nat) (w : World) (c : Int) (ps : List ByteArray) (b : Base) (v : Value) (hc : b.code = c) (hv : IsErr w b ps v) (t a : Addr) (old : Value) (ht : w.cell? t = some old) (hf : w.frozen? t = false)
    (ha : w.cell? a = some (.pointer (some t))) (hB : B ≤ t.block) :
    Calls Tryd.prog 33 #[v, .iface 52 (.pointer (some t)), .agg #[.pointer (some ⟨5, 52, none⟩), .pointer (some a), .int .u64 150], .iface 79 (.agg #[.pointer (some ⟨5, 30, none⟩)])] w (GotC B w t c) := by
  have hTO := @run_callFunc_extern Tryd.prog 27 _ ReflectliteType.typeOf Tryd.func27 (by kernel_rfl) (by kernel_rfl) (by kernel_rfl) (by kernel_rfl)
  have hAT := @run_callFunc_extern Tryd.prog 76 _ (ReflectliteType.relation "AssignableTo" ReflectliteType.assignableTo) Tryd.func76 (by kernel_rfl) (by kernel_rfl) (by kernel_rfl) (by kernel_rfl)
  have hEl := @run_callFunc_extern Tryd.prog 35 _ (ReflectliteValue.method (ReflectliteValue.valueError "reflectlite.Value.Elem" 0) ReflectliteValue.elem) Tryd.func35 (by kernel_rfl) (by kernel_rfl) (by kernel_rfl) (by kernel_rfl)
  have hSe := @run_callFunc_extern Tryd.prog 36 _ ReflectliteValue.set Tryd.func36 (by kernel_rfl) (by kernel_rfl) (by kernel_rfl) (by kernel_rfl)
  have hVO := @run_callFunc_extern Tryd.prog 30 _ (fun args => ReflectliteValue.unpack (args.getD 0 (.tuple #[]))) Tryd.func30 (by kernel_rfl) (by kernel_rfl) (by kernel_rfl) (by kernel_rfl)
  have mA := methodAss
  obtain ⟨W, hW⟩ : ∃ W, W = w.alloc (.cells #[.pointer (some ⟨5, 52, none⟩), .pointer (some a), .int .u64 150] 71) := ⟨_, rfl⟩
  have hwW : Below w.heap.size w W := by rw [hW]; exact (Below.refl _ _).alloc (Nat.le_refl _) _
  have hR : Rest W W c v := ⟨Below.refl _ _, ps, b, hc, hv.later hwW⟩
  have hx : W.cell? ⟨w.heap.size, 0, none⟩ = some (.pointer (some ⟨5, 52, none⟩)) ∧ W.cell? ⟨w.heap.size, 1, none⟩ = some (.pointer (some a)) ∧ W.cell? ⟨w.heap.size, 2, none⟩ = some (.int .u64 150) ∧ W.cell? a = some (.pointer (some t)) ∧ W.cell? t = some old ∧ W.frozen? t = false ∧ w.heap.size < W.heap.size := by
    refine ⟨?_, ?_, ?_, (hwW.cell (cell_lt ha)).trans ha, (hwW.cell (cell_lt ht)).trans ht, (hwW.frozen (p := t) (cell_lt ht)).trans hf, ?_⟩
    all_goals rw [hW]
    · rw [World.cell?_alloc_at _ _ _ _ rfl]; rfl
    · rw [World.cell?_alloc_at _ _ _ _ rfl]; rfl
    · rw [World.cell?_alloc_at _ _ _ _ rfl]; rfl
    · simp
  have htw := cell_lt ht
  have HW := Lib.hid hW
  have HwW := Lib.hid hwW
  have HR := Lib.hid hR
  have HX := Lib.hid hx
  clear hR hv hc hW hwW hx ht hf ha
  go_enter Tryd.func33, Tryd.ntmps33
  go_wp2
  rw [← HW.out]
  go_loopw [0] (fun v wr => Rest W wr c v) (fun v _ => rank v)
  case atStart => exact HR.out
  case round =>
    obtain ⟨hbel, ps', b', hc', hv'⟩ := hrel
    obtain ⟨x0, x1, x2, xa, xt, xf, xl⟩ := HX.out
    have ha1 := cell_lt xa
    have ht1 := cell_lt xt
    have y0 := (hbel.cell (cell_lt x0)).trans x0
    have y1 := (hbel.cell (cell_lt x1)).trans x1
    have y2 := (hbel.cell (cell_lt x2)).trans x2
    have ya := (hbel.cell ha1).trans xa
    have yt := (hbel.cell ht1).trans xt
    have yf := (hbel.frozen (p := t) ht1).trans xf
    have HB := Lib.hid hbel
    have zl := hbel.size
    clear x0 x1 x2 xa xt xf hbel
    rcases ps' with _ | ⟨p, ps'⟩
    · obtain rfl := hv'
      obtain ⟨c', o⟩ := b'
      obtain rfl : c' = c := hc'
      cases o with
      | none =>
        have f1 := typeOfC
        have f2 := assCC
        have f3 := elemPC a t wr ya
        have f4 := valueOfC c'
        have yt' : (wr.alloc (.cells #[.int .i64 c'] 30)).cell? t = some old := (World.cell?_alloc_lt _ _ t (by omega)).trans yt
        have yf' : (wr.alloc (.cells #[.int .i64 c'] 30)).frozen? t = false := (World.frozen?_alloc_old _ _ t (by omega)).trans yf
        have f5 := setC t ⟨wr.heap.size, 0, none⟩ c' old (wr.alloc (.cells #[.int .i64 c'] 30)) (by rw [World.cell?_alloc_at _ _ _ _ rfl]; rfl) yt' yf'
        have HF := Lib.hid f5
        have HT := Lib.hid yt'
        clear f5 yt yf ya yt' yf'
        have f5 := HF.out
        simp only [Base.val]
        go_wp2
        go_ret
        refine ⟨rfl, ?_, ?_⟩
        · exact ((((HwW.out.trans (HB.out.mono HwW.out.size)).mono (by omega)).alloc (by omega) _).setCell hB _)
        · exact World.cell?_setCell_same _ _ _ HT.out
      | some o =>
        have f1 := typeOfF
        have f2 := assFC
        have f3 := noAsF
        have f4 := unF
        have f5 := mUnF
        clear ya yt yf
        simp only [Base.val]
        go_wp2_with (go_at_call 68; refine (unwrapF c' o _).mono ?_; rintro e w1 ⟨rfl, hb1⟩)
        go_roundw
        case rel => exact ⟨HB.out.trans (hb1.mono HB.out.size), [], ⟨c', none⟩, rfl, rfl⟩
        case measure => rw [rank_code, rank_fault (by intro a h; cases h)]; omega
    · obtain ⟨g, u, rfl, hp, hu, hr, hv2⟩ := hv'
      have f1 := typeOfP
      have f2 := assPC
      have f3 := noAsP
      have f4 := unP
      have f5 := mUnP
      have HP := Lib.hid hp
      have HU := Lib.hid hu
      have HV := Lib.hid hv2
      have HC := Lib.hid hc'
      have hi := hv2.iface
      obtain ⟨tu, u', rfl⟩ := hi
      clear ya yt yf hp hu hv2 hc'
      go_wp2_with (go_at_call 70; refine (unwrapP g _ _ HU.out).mono ?_; rintro e w1 ⟨rfl, rfl⟩)
      go_roundw
      case rel => exact ⟨HB.out, ps', b', HC.out, HV.out⟩
      case measure => rw [rank_wrap]; exact hr
end Go.Proofs.YtihmdhephcpgmaaDoor
