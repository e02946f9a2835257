/- errors.as and errors.As at a fault: the walks, at a pointer to an api.Code and at a pointer to an api.Fault. -/
import Derived.Test.YtbeejmlmplgaeaaDoorEfA
namespace Go.Proofs.YtbeejmlmplgaeaaDoor
open Go.RowKit Go.Extern.Stop Go.Stop Go.Extern

def GotC (B : Nat) (w : World) (t : Addr) (c : Int) (e : Ending) (w' : World) : Prop :=
  e = .returned (.bool true) ∧ Below B w w' ∧ w'.cell? t = some (.int .i64 c)
def GotF (B : Nat) (w : World) (tb : Nat) (o : Int) (e : Ending) (w' : World) : Prop :=
  e = .returned (.bool true) ∧ Below B w w' ∧ w'.cell? ⟨tb, 1, none⟩ = some (.int .i64 o)

/-- The remaining chain at a round of errors.as: the fault, or its code. -/
def Rest (W wr : World) (c o : Int) (v : Value) : Prop := Below W.heap.size W wr ∧ (v = faultV c o ∨ v = .iface 73 (.int .i64 c))
def rank : Value → Nat
  | .iface t _ => if t = 90 then 1 else 0
  | _ => 0
theorem rank_fault {v : Value} : rank (.iface 90 v) = 1 := by simp [rank]
theorem rank_code {v : Value} : rank (.iface 73 v) = 0 := by simp [rank]

set_option maxHeartbeats 1000000 in
theorem asC (B : Nat) (w : World) (c o : Int) (t a : Addr) (old : Value) (ht : w.cell? t = some old) (hf : w.frozen? t = false)
    (ha : w.cell? a = some (.pointer (some t))) (hB : B ≤ t.block) :
    Calls Tryd.prog 73 #[faultV c o, .iface 97 (.pointer (some t)), .agg #[.pointer (some ⟨3, 97, none⟩), .pointer (some a), .int .u64 150], .iface 118 (.agg #[.pointer (some ⟨3, 73, none⟩)])] w (GotC B w t c) := by
  have hTO := @run_callFunc_extern Tryd.prog 77 _ ReflectliteType.typeOf Tryd.func77 (by kernel_rfl) (by kernel_rfl) (by kernel_rfl) (by kernel_rfl)
  have hAT := @run_callFunc_extern Tryd.prog 108 _ (ReflectliteType.relation "AssignableTo" ReflectliteType.assignableTo) Tryd.func108 (by kernel_rfl) (by kernel_rfl) (by kernel_rfl) (by kernel_rfl)
  have hEl := @run_callFunc_extern Tryd.prog 78 _ (ReflectliteValue.method (ReflectliteValue.valueError "reflectlite.Value.Elem" 0) ReflectliteValue.elem) Tryd.func78 (by kernel_rfl) (by kernel_rfl) (by kernel_rfl) (by kernel_rfl)
  have hSe := @run_callFunc_extern Tryd.prog 79 _ ReflectliteValue.set Tryd.func79 (by kernel_rfl) (by kernel_rfl) (by kernel_rfl) (by kernel_rfl)
  have hVO := @run_callFunc_extern Tryd.prog 70 _ (fun args => ReflectliteValue.unpack (args.getD 0 (.tuple #[]))) Tryd.func70 (by kernel_rfl) (by kernel_rfl) (by kernel_rfl) (by kernel_rfl)
  have mA := methodAss
  obtain ⟨W, hW⟩ : ∃ W, W = w.alloc (.cells #[.pointer (some ⟨3, 97, none⟩), .pointer (some a), .int .u64 150] 107) := ⟨_, rfl⟩
  have hwW : Below w.heap.size w W := by rw [hW]; exact (Below.refl _ _).alloc (Nat.le_refl _) _
  have hR : Rest W W c o (faultV c o) := ⟨Below.refl _ _, .inl rfl⟩
  have hx : W.cell? ⟨w.heap.size, 0, none⟩ = some (.pointer (some ⟨3, 97, none⟩)) ∧ W.cell? ⟨w.heap.size, 1, none⟩ = some (.pointer (some a)) ∧ W.cell? ⟨w.heap.size, 2, none⟩ = some (.int .u64 150) ∧ W.cell? a = some (.pointer (some t)) ∧ W.cell? t = some old ∧ W.frozen? t = false ∧ w.heap.size < W.heap.size := by
    refine ⟨?_, ?_, ?_, (hwW.cell (cell_lt ha)).trans ha, (hwW.cell (cell_lt ht)).trans ht, (hwW.frozen (p := t) (cell_lt ht)).trans hf, ?_⟩
    all_goals rw [hW]
    · rw [World.cell?_alloc_at _ _ _ _ rfl]; rfl
    · rw [World.cell?_alloc_at _ _ _ _ rfl]; rfl
    · rw [World.cell?_alloc_at _ _ _ _ rfl]; rfl
    · simp
  have htw := cell_lt ht
  have HW := Lib.hid hW
  have HwW := Lib.hid hwW
  have HR := Lib.hid hR
  have HX := Lib.hid hx
  clear hR hW hwW hx ht hf ha
  go_enter Tryd.func73, Tryd.ntmps73
  go_wp2
  rw [← HW.out]
  unfold faultV
  go_loopw [0] (fun v wr => Rest W wr c o v) (fun v _ => rank v)
  case atStart => exact HR.out
  case round =>
    obtain ⟨hbel, hv'⟩ := hrel
    obtain ⟨x0, x1, x2, xa, xt, xf, xl⟩ := HX.out
    have ha1 := cell_lt xa
    have ht1 := cell_lt xt
    have y0 := (hbel.cell (cell_lt x0)).trans x0
    have y1 := (hbel.cell (cell_lt x1)).trans x1
    have y2 := (hbel.cell (cell_lt x2)).trans x2
    have ya := (hbel.cell ha1).trans xa
    have yt := (hbel.cell ht1).trans xt
    have yf := (hbel.frozen (p := t) ht1).trans xf
    have HB := Lib.hid hbel
    have zl := hbel.size
    clear x0 x1 x2 xa xt xf hbel
    rcases hv' with rfl | rfl
    · have f1 := typeOfF
      have f2 := assFC
      have f3 := noAsF
      have f4 := unF
      have f5 := mUnF
      clear ya yt yf
      unfold faultV
      go_wp2_with (go_at_call 103; refine (unwrapF c o _).mono ?_; rintro e w1 ⟨rfl, hb1⟩)
      go_roundw
      case rel => exact ⟨HB.out.trans (hb1.mono HB.out.size), .inr rfl⟩
      case measure => rw [rank_code, rank_fault]; omega
    · have f1 := typeOfC
      have f2 := assCC
      have f3 := elemPC a t wr ya
      have f4 := valueOfC c
      have yt' : (wr.alloc (.cells #[.int .i64 c] 73)).cell? t = some old := (World.cell?_alloc_lt _ _ t (by omega)).trans yt
      have yf' : (wr.alloc (.cells #[.int .i64 c] 73)).frozen? t = false := (World.frozen?_alloc_old _ _ t (by omega)).trans yf
      have f5 := setC t ⟨wr.heap.size, 0, none⟩ c old (wr.alloc (.cells #[.int .i64 c] 73)) (by rw [World.cell?_alloc_at _ _ _ _ rfl]; rfl) yt' yf'
      have HF := Lib.hid f5
      have HT := Lib.hid yt'
      clear f5 yt yf ya yt' yf'
      have f5 := HF.out
      go_wp2
      go_ret
      refine ⟨rfl, ?_, ?_⟩
      · exact ((((HwW.out.trans (HB.out.mono HwW.out.size)).mono (by omega)).alloc (by omega) _).setCell hB _)
      · exact World.cell?_setCell_same _ _ _ HT.out

set_option maxHeartbeats 1000000 in
theorem asF (B : Nat) (w : World) (c o : Int) (tb : Nat) (a : Addr) (old0 old1 : Value) (ht : w.cell? ⟨tb, 0, none⟩ = some old0) (htt : w.cell? ⟨tb, 1, none⟩ = some old1)
    (hf : w.frozen? ⟨tb, 0, none⟩ = false) (hff : w.frozen? ⟨tb, 1, none⟩ = false) (ha : w.cell? a = some (.pointer (some ⟨tb, 0, none⟩))) (hB : B ≤ tb) :
    Calls Tryd.prog 73 #[faultV c o, .iface 98 (.pointer (some ⟨tb, 0, none⟩)), .agg #[.pointer (some ⟨3, 98, none⟩), .pointer (some a), .int .u64 150], .iface 118 (.agg #[.pointer (some ⟨3, 90, none⟩)])] w (GotF B w tb o) := by
  have hTO := @run_callFunc_extern Tryd.prog 77 _ ReflectliteType.typeOf Tryd.func77 (by kernel_rfl) (by kernel_rfl) (by kernel_rfl) (by kernel_rfl)
  have hAT := @run_callFunc_extern Tryd.prog 108 _ (ReflectliteType.relation "AssignableTo" ReflectliteType.assignableTo) Tryd.func108 (by kernel_rfl) (by kernel_rfl) (by kernel_rfl) (by kernel_rfl)
  have hEl := @run_callFunc_extern Tryd.prog 78 _ (ReflectliteValue.method (ReflectliteValue.valueError "reflectlite.Value.Elem" 0) ReflectliteValue.elem) Tryd.func78 (by kernel_rfl) (by kernel_rfl) (by kernel_rfl) (by kernel_rfl)
  have hSe := @run_callFunc_extern Tryd.prog 79 _ ReflectliteValue.set Tryd.func79 (by kernel_rfl) (by kernel_rfl) (by kernel_rfl) (by kernel_rfl)
  have hVO := @run_callFunc_extern Tryd.prog 70 _ (fun args => ReflectliteValue.unpack (args.getD 0 (.tuple #[]))) Tryd.func70 (by kernel_rfl) (by kernel_rfl) (by kernel_rfl) (by kernel_rfl)
  have mA := methodAss
  obtain ⟨W, hW⟩ : ∃ W, W = w.alloc (.cells #[.pointer (some ⟨3, 98, none⟩), .pointer (some a), .int .u64 150] 107) := ⟨_, rfl⟩
  have hwW : Below w.heap.size w W := by rw [hW]; exact (Below.refl _ _).alloc (Nat.le_refl _) _
  have hx : W.cell? ⟨w.heap.size, 0, none⟩ = some (.pointer (some ⟨3, 98, none⟩)) ∧ W.cell? ⟨w.heap.size, 1, none⟩ = some (.pointer (some a)) ∧ W.cell? ⟨w.heap.size, 2, none⟩ = some (.int .u64 150) ∧ W.cell? a = some (.pointer (some ⟨tb, 0, none⟩)) ∧
      W.cell? ⟨tb, 0, none⟩ = some old0 ∧ W.cell? ⟨tb, 1, none⟩ = some old1 ∧ W.frozen? ⟨tb, 0, none⟩ = false ∧ W.frozen? ⟨tb, 1, none⟩ = false ∧ w.heap.size < W.heap.size := by
    refine ⟨?_, ?_, ?_, (hwW.cell (cell_lt ha)).trans ha, (hwW.cell (cell_lt ht)).trans ht, (hwW.cell (cell_lt htt)).trans htt, (hwW.frozen (p := ⟨tb, 0, none⟩) (cell_lt ht)).trans hf, (hwW.frozen (p := ⟨tb, 1, none⟩) (cell_lt htt)).trans hff, ?_⟩
    all_goals rw [hW]
    · rw [World.cell?_alloc_at _ _ _ _ rfl]; rfl
    · rw [World.cell?_alloc_at _ _ _ _ rfl]; rfl
    · rw [World.cell?_alloc_at _ _ _ _ rfl]; rfl
    · simp
  have htw : tb < w.heap.size := cell_lt ht
  have HW := Lib.hid hW
  have HwW := Lib.hid hwW
  have HX := Lib.hid hx
  clear hW hwW hx ht hf ha htt hff
  go_enter Tryd.func73, Tryd.ntmps73
  go_wp2
  rw [← HW.out]
  obtain ⟨x0, x1, x2, xa, xt, xtt, xf, xff, xl⟩ := HX.out
  have ha1 := cell_lt xa
  have ht1 : tb < W.heap.size := cell_lt xt
  have f1 := typeOfF
  have f2 := assFF
  have f3 := elemPF a ⟨tb, 0, none⟩ W xa
  have f4 := valueOfF c o
  have yt0 : (W.alloc (.cells #[.int .i64 c, .int .i64 o] 90)).cell? ⟨tb, 0, none⟩ = some old0 := (World.cell?_alloc_lt _ _ _ (by show tb < _; omega)).trans xt
  have yt1 : (W.alloc (.cells #[.int .i64 c, .int .i64 o] 90)).cell? ⟨tb, 1, none⟩ = some old1 := (World.cell?_alloc_lt _ _ _ (by show tb < _; omega)).trans xtt
  have yf0 : (W.alloc (.cells #[.int .i64 c, .int .i64 o] 90)).frozen? ⟨tb, 0, none⟩ = false := (World.frozen?_alloc_old _ _ ⟨tb, 0, none⟩ (by show tb ≠ _; omega)).trans xf
  have yf1 : (W.alloc (.cells #[.int .i64 c, .int .i64 o] 90)).frozen? ⟨tb, 1, none⟩ = false := (World.frozen?_alloc_old _ _ ⟨tb, 1, none⟩ (by show tb ≠ _; omega)).trans xff
  have f5 := setF tb W.heap.size c o old0 old1 (W.alloc (.cells #[.int .i64 c, .int .i64 o] 90)) (by rw [World.cell?_alloc_at _ _ _ _ rfl]; rfl) (by rw [World.cell?_alloc_at _ _ _ _ rfl]; rfl) yt0 yt1 yf0 yf1
  have HF := Lib.hid f5
  have HT := Lib.hid yt1
  clear f5 xt xf xa xtt xff yt0 yt1 yf0 yf1
  have f5 := HF.out
  unfold faultV
  refine wp_loop_rounds 1 ?_
  rw [rounds_succ]
  go_wp2
  go_ret
  refine ⟨rfl, ?_, ?_⟩
  · exact Below.alloc (Below.setCell (p := ⟨tb, 1, none⟩) (Below.setCell (p := ⟨tb, 0, none⟩) (HwW.out.mono (show B ≤ w.heap.size by omega)) hB _) hB _) (by simp; omega) _
  · refine (World.cell?_alloc_lt _ _ _ (by simp; omega)).trans ?_
    obtain ⟨_, _, _, _, _, xtt, _⟩ := HX.out
    exact World.cell?_setCell_same _ _ _ ((World.cell?_setCell_other W ⟨tb, 0, none⟩ ⟨tb, 1, none⟩ (.int .i64 c) (by intro e; injection e with _ e; cases e)).trans xtt)

theorem methodKind (h : Value) (w : World) : (Go.method 264 118 (.agg #[h]) "Kind").run Tryd.prog w = .ok (98, h) w := by kernel_rfl
theorem methodElem (h : Value) (w : World) : (Go.method 264 118 (.agg #[h]) "Elem").run Tryd.prog w = .ok (110, .agg #[h]) w := by kernel_rfl
theorem methodImp (h : Value) (w : World) : (Go.method 264 118 (.agg #[h]) "Implements").run Tryd.prog w = .ok (111, .agg #[h]) w := by kernel_rfl

theorem valueOfPC (t : Addr) (w : World) : (ReflectliteValue.unpack (.iface 97 (.pointer (some t)))).run Tryd.prog w
    = .ok (.agg #[.pointer (some ⟨3, 97, none⟩), .pointer (some ⟨w.heap.size, 0, none⟩), .int .u64 150]) (w.alloc (.cells #[.pointer (some t)] 97)) := by kernel_rfl
theorem typePC (a : Addr) (w : World) : (ReflectliteValue.methodAny (ReflectliteValue.valueError "reflectlite.Value.Type" 0) (fun t _ _ _ => ReflectliteType.toType t) #[.agg #[.pointer (some ⟨3, 97, none⟩), .pointer (some a), .int .u64 150]]).run Tryd.prog w
    = .ok (.iface 118 (.agg #[.pointer (some ⟨3, 97, none⟩)])) w := by kernel_rfl
theorem kindPC (w : World) : ((ReflectliteType.abiMethod fun t => (fun a : Nat => Value.int IntKind.u8 (a : Int)) <$> Rtype.kind t) #[.pointer (some ⟨3, 97, none⟩)]).run Tryd.prog w = .ok (.int .u8 22) w := by kernel_rfl
theorem kindC (w : World) : ((ReflectliteType.abiMethod fun t => (fun a : Nat => Value.int IntKind.u8 (a : Int)) <$> Rtype.kind t) #[.pointer (some ⟨3, 73, none⟩)]).run Tryd.prog w = .ok (.int .u8 2) w := by kernel_rfl
theorem isNilPC (a p : Addr) (W : World) (ha : W.cell? a = some (.pointer (some p))) :
    (ReflectliteValue.method (ReflectliteValue.valueError "reflectlite.Value.IsNil" 0) ReflectliteValue.isNil #[.agg #[.pointer (some ⟨3, 97, none⟩), .pointer (some a), .int .u64 150]]).run Tryd.prog W = .ok (.bool false) W := by
  rw [rlm]
  simp only [Sem.run_bind, partsPC, Result.andThen]
  simp [ReflectliteValue.isNil, loadVar, isAgg, underlying, Tryd.underlying97, ha, Result.andThen]
theorem elemTPC (w : World) : (ReflectliteType.method ReflectliteType.elem #[.agg #[.pointer (some ⟨3, 97, none⟩)]]).run Tryd.prog w = .ok (.iface 118 (.agg #[.pointer (some ⟨3, 73, none⟩)])) w := by kernel_rfl
theorem implC (w : World) : (ReflectliteType.relation "Implements" ReflectliteType.implements_ #[.agg #[.pointer (some ⟨3, 73, none⟩)], .iface 118 (.agg #[.pointer (some ⟨3, 32, none⟩)])]).run Tryd.prog w = .ok (.bool true) w := by kernel_rfl

theorem valueOfPF (t : Addr) (w : World) : (ReflectliteValue.unpack (.iface 98 (.pointer (some t)))).run Tryd.prog w
    = .ok (.agg #[.pointer (some ⟨3, 98, none⟩), .pointer (some ⟨w.heap.size, 0, none⟩), .int .u64 150]) (w.alloc (.cells #[.pointer (some t)] 98)) := by kernel_rfl
theorem typePF (a : Addr) (w : World) : (ReflectliteValue.methodAny (ReflectliteValue.valueError "reflectlite.Value.Type" 0) (fun t _ _ _ => ReflectliteType.toType t) #[.agg #[.pointer (some ⟨3, 98, none⟩), .pointer (some a), .int .u64 150]]).run Tryd.prog w
    = .ok (.iface 118 (.agg #[.pointer (some ⟨3, 98, none⟩)])) w := by kernel_rfl
theorem kindPF (w : World) : ((ReflectliteType.abiMethod fun t => (fun a : Nat => Value.int IntKind.u8 (a : Int)) <$> Rtype.kind t) #[.pointer (some ⟨3, 98, none⟩)]).run Tryd.prog w = .ok (.int .u8 22) w := by kernel_rfl
theorem kindF (w : World) : ((ReflectliteType.abiMethod fun t => (fun a : Nat => Value.int IntKind.u8 (a : Int)) <$> Rtype.kind t) #[.pointer (some ⟨3, 90, none⟩)]).run Tryd.prog w = .ok (.int .u8 25) w := by kernel_rfl
theorem isNilPF (a p : Addr) (W : World) (ha : W.cell? a = some (.pointer (some p))) :
    (ReflectliteValue.method (ReflectliteValue.valueError "reflectlite.Value.IsNil" 0) ReflectliteValue.isNil #[.agg #[.pointer (some ⟨3, 98, none⟩), .pointer (some a), .int .u64 150]]).run Tryd.prog W = .ok (.bool false) W := by
  rw [rlm]
  simp only [Sem.run_bind, partsPF, Result.andThen]
  simp [ReflectliteValue.isNil, loadVar, isAgg, underlying, Tryd.underlying98, ha, Result.andThen]
theorem elemTPF (w : World) : (ReflectliteType.method ReflectliteType.elem #[.agg #[.pointer (some ⟨3, 98, none⟩)]]).run Tryd.prog w = .ok (.iface 118 (.agg #[.pointer (some ⟨3, 90, none⟩)])) w := by kernel_rfl
theorem implF (w : World) : (ReflectliteType.relation "Implements" ReflectliteType.implements_ #[.agg #[.pointer (some ⟨3, 90, none⟩)], .iface 118 (.agg #[.pointer (some ⟨3, 32, none⟩)])]).run Tryd.prog w = .ok (.bool true) w := by kernel_rfl

set_option maxHeartbeats 2000000 in
theorem As_C (B : Nat) (w : World) (c o : Int) (t : Addr) (old : Value) (ht : w.cell? t = some old) (hf : w.frozen? t = false) (hB : B ≤ t.block) (hg : w.cell? ⟨1, 0, none⟩ = some (.iface 118 (.agg #[.pointer (some ⟨3, 32, none⟩)]))) :
    Calls Tryd.prog 60 #[faultV c o, .iface 97 (.pointer (some t))] w (GotC B w t c) := by
  have hVO := @run_callFunc_extern Tryd.prog 70 _ (fun args => ReflectliteValue.unpack (args.getD 0 (.tuple #[]))) Tryd.func70 (by kernel_rfl) (by kernel_rfl) (by kernel_rfl) (by kernel_rfl)
  have hTy := @run_callFunc_extern Tryd.prog 71 _ (ReflectliteValue.methodAny (ReflectliteValue.valueError "reflectlite.Value.Type" 0) (fun t _ _ _ => ReflectliteType.toType t)) Tryd.func71 (by kernel_rfl) (by kernel_rfl) (by kernel_rfl) (by kernel_rfl)
  have hNi := @run_callFunc_extern Tryd.prog 72 _ (ReflectliteValue.method (ReflectliteValue.valueError "reflectlite.Value.IsNil" 0) ReflectliteValue.isNil) Tryd.func72 (by kernel_rfl) (by kernel_rfl) (by kernel_rfl) (by kernel_rfl)
  have hKi := @run_callFunc_extern Tryd.prog 98 _ (ReflectliteType.abiMethod fun t => do pure (.int .u8 (← Rtype.kind t))) Tryd.func98 (by kernel_rfl) (by kernel_rfl) (by kernel_rfl) (by kernel_rfl)
  have hET := @run_callFunc_extern Tryd.prog 110 _ (ReflectliteType.method ReflectliteType.elem) Tryd.func110 (by kernel_rfl) (by kernel_rfl) (by kernel_rfl) (by kernel_rfl)
  have hIm := @run_callFunc_extern Tryd.prog 111 _ (ReflectliteType.relation "Implements" ReflectliteType.implements_) Tryd.func111 (by kernel_rfl) (by kernel_rfl) (by kernel_rfl) (by kernel_rfl)
  have f1 := valueOfPC
  have f2 := typePC
  have f3 := methodKind
  have f4 := kindPC
  have f5 := kindC
  have f6 := elemTPC
  have f7 := implC
  have f8 := methodElem
  have f9 := methodImp
  obtain ⟨W1, hW1⟩ : ∃ W1, W1 = w.alloc (.cells #[.pointer (some t)] 97) := ⟨_, rfl⟩
  obtain ⟨W2, hW2⟩ : ∃ W2, W2 = W1.alloc (.cells #[.pointer (some ⟨3, 97, none⟩), .pointer (some ⟨w.heap.size, 0, none⟩), .int .u64 150] 107) := ⟨_, rfl⟩
  have hb1 : Below w.heap.size w W1 := by rw [hW1]; exact (Below.refl _ _).alloc (Nat.le_refl _) _
  have hs1 : W1.heap.size = w.heap.size + 1 := by rw [hW1]; simp
  have hb2 : Below W1.heap.size W1 W2 := by rw [hW2]; exact (Below.refl _ _).alloc (Nat.le_refl _) _
  have hb : Below w.heap.size w W2 := hb1.trans (hb2.mono hb1.size)
  have ha1 : W1.cell? ⟨w.heap.size, 0, none⟩ = some (.pointer (some t)) := by rw [hW1, World.cell?_alloc_at _ _ _ _ rfl]; rfl
  have ha2 := (hb2.cell (cell_lt ha1)).trans ha1
  have hg2 := (hb.cell (cell_lt hg)).trans hg
  have n8 := isNilPC ⟨w.heap.size, 0, none⟩ t W2 ha2
  have HT := Lib.hid ((hb.cell (cell_lt ht)).trans ht)
  have HF := Lib.hid ((hb.frozen (p := t) (cell_lt ht)).trans hf)
  have hBw : B ≤ w.heap.size := by have := cell_lt ht; omega
  clear ht hf
  have HB := Lib.hid hb
  have H2 := Lib.hid ha2
  have HW1 := Lib.hid hW1
  have HW2 := Lib.hid hW2
  have HG := Lib.hid hg2
  clear hb hb1 hb2 ha1 ha2 hs1 hg hg2
  subst hW1
  subst hW2
  have hg2 := HG.out
  unfold faultV
  go_enter Tryd.func60, Tryd.ntmps60
  go_wp2_with (go_at_call 73; refine (asC B _ c o t ⟨w.heap.size, 0, none⟩ old HT.out HF.out H2.out hB).mono ?_; rintro e w1 ⟨rfl, hq1, hq2⟩; have HQ1 := Lib.hid hq1; have HQ2 := Lib.hid hq2; clear hq1 hq2)
  go_ret
  exact ⟨rfl, (HB.out.mono hBw).trans HQ1.out, HQ2.out⟩

set_option maxHeartbeats 2000000 in
theorem As_F (B : Nat) (w : World) (c o : Int) (tb : Nat) (old0 old1 : Value) (ht : w.cell? ⟨tb, 0, none⟩ = some old0) (htt : w.cell? ⟨tb, 1, none⟩ = some old1) (hf : w.frozen? ⟨tb, 0, none⟩ = false) (hff : w.frozen? ⟨tb, 1, none⟩ = false) (hB : B ≤ tb) (hg : w.cell? ⟨1, 0, none⟩ = some (.iface 118 (.agg #[.pointer (some ⟨3, 32, none⟩)]))) :
    Calls Tryd.prog 60 #[faultV c o, .iface 98 (.pointer (some ⟨tb, 0, none⟩))] w (GotF B w tb o) := by
  have hVO := @run_callFunc_extern Tryd.prog 70 _ (fun args => ReflectliteValue.unpack (args.getD 0 (.tuple #[]))) Tryd.func70 (by kernel_rfl) (by kernel_rfl) (by kernel_rfl) (by kernel_rfl)
  have hTy := @run_callFunc_extern Tryd.prog 71 _ (ReflectliteValue.methodAny (ReflectliteValue.valueError "reflectlite.Value.Type" 0) (fun t _ _ _ => ReflectliteType.toType t)) Tryd.func71 (by kernel_rfl) (by kernel_rfl) (by kernel_rfl) (by kernel_rfl)
  have hNi := @run_callFunc_extern Tryd.prog 72 _ (ReflectliteValue.method (ReflectliteValue.valueError "reflectlite.Value.IsNil" 0) ReflectliteValue.isNil) Tryd.func72 (by kernel_rfl) (by kernel_rfl) (by kernel_rfl) (by kernel_rfl)
  have hKi := @run_callFunc_extern Tryd.prog 98 _ (ReflectliteType.abiMethod fun t => do pure (.int .u8 (← Rtype.kind t))) Tryd.func98 (by kernel_rfl) (by kernel_rfl) (by kernel_rfl) (by kernel_rfl)
  have hET := @run_callFunc_extern Tryd.prog 110 _ (ReflectliteType.method ReflectliteType.elem) Tryd.func110 (by kernel_rfl) (by kernel_rfl) (by kernel_rfl) (by kernel_rfl)
  have hIm := @run_callFunc_extern Tryd.prog 111 _ (ReflectliteType.relation "Implements" ReflectliteType.implements_) Tryd.func111 (by kernel_rfl) (by kernel_rfl) (by kernel_rfl) (by kernel_rfl)
  have f1 := valueOfPF
  have f2 := typePF
  have f3 := methodKind
  have f4 := kindPF
  have f5 := kindF
  have f6 := elemTPF
  have f7 := implF
  have f8 := methodElem
  have f9 := methodImp
  obtain ⟨W1, hW1⟩ : ∃ W1, W1 = w.alloc (.cells #[.pointer (some ⟨tb, 0, none⟩)] 98) := ⟨_, rfl⟩
  obtain ⟨W2, hW2⟩ : ∃ W2, W2 = W1.alloc (.cells #[.pointer (some ⟨3, 98, none⟩), .pointer (some ⟨w.heap.size, 0, none⟩), .int .u64 150] 107) := ⟨_, rfl⟩
  have hb1 : Below w.heap.size w W1 := by rw [hW1]; exact (Below.refl _ _).alloc (Nat.le_refl _) _
  have hs1 : W1.heap.size = w.heap.size + 1 := by rw [hW1]; simp
  have hb2 : Below W1.heap.size W1 W2 := by rw [hW2]; exact (Below.refl _ _).alloc (Nat.le_refl _) _
  have hb : Below w.heap.size w W2 := hb1.trans (hb2.mono hb1.size)
  have ha1 : W1.cell? ⟨w.heap.size, 0, none⟩ = some (.pointer (some ⟨tb, 0, none⟩)) := by rw [hW1, World.cell?_alloc_at _ _ _ _ rfl]; rfl
  have ha2 := (hb2.cell (cell_lt ha1)).trans ha1
  have hg2 := (hb.cell (cell_lt hg)).trans hg
  have n8 := isNilPF ⟨w.heap.size, 0, none⟩ ⟨tb, 0, none⟩ W2 ha2
  have HT := Lib.hid ((hb.cell (cell_lt ht)).trans ht)
  have HTT := Lib.hid ((hb.cell (cell_lt htt)).trans htt)
  have HF := Lib.hid ((hb.frozen (p := ⟨tb, 0, none⟩) (cell_lt ht)).trans hf)
  have HFF := Lib.hid ((hb.frozen (p := ⟨tb, 1, none⟩) (cell_lt htt)).trans hff)
  have hBw : B ≤ w.heap.size := by have : tb < w.heap.size := cell_lt ht; omega
  clear ht hf htt hff
  have HB := Lib.hid hb
  have H2 := Lib.hid ha2
  have HW1 := Lib.hid hW1
  have HW2 := Lib.hid hW2
  have HG := Lib.hid hg2
  clear hb hb1 hb2 ha1 ha2 hs1 hg hg2
  subst hW1
  subst hW2
  have hg2 := HG.out
  unfold faultV
  go_enter Tryd.func60, Tryd.ntmps60
  go_wp2_with (go_at_call 73; refine (asF B _ c o tb ⟨w.heap.size, 0, none⟩ old0 old1 HT.out HTT.out HF.out HFF.out H2.out hB).mono ?_; rintro e w1 ⟨rfl, hq1, hq2⟩; have HQ1 := Lib.hid hq1; have HQ2 := Lib.hid hq2; clear hq1 hq2)
  go_ret
  exact ⟨rfl, (HB.out.mono hBw).trans HQ1.out, HQ2.out⟩

end Go.Proofs.YtbeejmlmplgaeaaDoor
