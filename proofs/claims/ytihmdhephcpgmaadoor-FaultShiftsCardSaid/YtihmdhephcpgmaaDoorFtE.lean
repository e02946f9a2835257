/- errors.as at a pointer to an api.Fault: the walks. -/
import Derived.Test.YtihmdhephcpgmaaDoorFtD
import Derived.Lib.Hide
namespace Go.Proofs.YtihmdhephcpgmaaDoor
open Go.RowKit Go.Extern.Stop Go.Stop Go.Extern

def GotF (B : Nat) (w : World) (tb : Nat) (o : Int) (e : Ending) (w' : World) : Prop :=
  e = .returned (.bool true) ∧ Below B w w' ∧ w'.cell? ⟨tb, 1, none⟩ = some (.int .i64 o)
def GotNone (w : World) (e : Ending) (w' : World) : Prop := e = .returned (.bool false) ∧ Below w.heap.size w w'
/-- The remaining chain around one base. -/
def RestB (W wr : World) (b : Base) (v : Value) : Prop := Below W.heap.size W wr ∧ ∃ ps, IsErr wr b ps v

set_option maxHeartbeats 1000000 in
theorem asF (B : Nat) (w : World) (c o : Int) (ps : List ByteArray) (v : Value) (hv : IsErr w ⟨c, some o⟩ ps v) (tb : Nat) (a : Addr) (old0 old1 : Value) (ht : w.cell? ⟨tb, 0, none⟩ = some old0) (htt : w.cell? ⟨tb, 1, none⟩ = some old1)
    (hf : w.frozen? ⟨tb, 0, none⟩ = false) (hff : w.frozen? ⟨tb, 1, none⟩ = false) (ha : w.cell? a = some (.pointer (some ⟨tb, 0, none⟩))) (hB : B ≤ tb) :
    Calls Tryd.prog 33 #[v, .iface 53 (.pointer (some ⟨tb, 0, none⟩)), .agg #[.pointer (some ⟨5, 53, none⟩), .pointer (some a), .int .u64 150], .iface 79 (.agg #[.pointer (some ⟨5, 50, none⟩)])] w (GotF B w tb o) := by
  have hTO := @run_callFunc_extern Tryd.prog 27 _ ReflectliteType.typeOf Tryd.func27 (by kernel_rfl) (by kernel_rfl) (by kernel_rfl) (by kernel_rfl)
  have hAT := @run_callFunc_extern Tryd.prog 76 _ (ReflectliteType.relation "AssignableTo" ReflectliteType.assignableTo) Tryd.func76 (by kernel_rfl) (by kernel_rfl) (by kernel_rfl) (by kernel_rfl)
  have hEl := @run_callFunc_extern Tryd.prog 35 _ (ReflectliteValue.method (ReflectliteValue.valueError "reflectlite.Value.Elem" 0) ReflectliteValue.elem) Tryd.func35 (by kernel_rfl) (by kernel_rfl) (by kernel_rfl) (by kernel_rfl)
  have hSe := @run_callFunc_extern Tryd.prog 36 _ ReflectliteValue.set Tryd.func36 (by kernel_rfl) (by kernel_rfl) (by kernel_rfl) (by kernel_rfl)
  have hVO := @run_callFunc_extern Tryd.prog 30 _ (fun args => ReflectliteValue.unpack (args.getD 0 (.tuple #[]))) Tryd.func30 (by kernel_rfl) (by kernel_rfl) (by kernel_rfl) (by kernel_rfl)
  have mA := methodAss
  obtain ⟨W, hW⟩ : ∃ W, W = w.alloc (.cells #[.pointer (some ⟨5, 53, none⟩), .pointer (some a), .int .u64 150] 71) := ⟨_, rfl⟩
  have hwW : Below w.heap.size w W := by rw [hW]; exact (Below.refl _ _).alloc (Nat.le_refl _) _
  have hR : RestB W W ⟨c, some o⟩ v := ⟨Below.refl _ _, ps, hv.later hwW⟩
  have hx : W.cell? ⟨w.heap.size, 0, none⟩ = some (.pointer (some ⟨5, 53, none⟩)) ∧ W.cell? ⟨w.heap.size, 1, none⟩ = some (.pointer (some a)) ∧ W.cell? ⟨w.heap.size, 2, none⟩ = some (.int .u64 150) ∧ W.cell? a = some (.pointer (some ⟨tb, 0, none⟩)) ∧
      W.cell? ⟨tb, 0, none⟩ = some old0 ∧ W.cell? ⟨tb, 1, none⟩ = some old1 ∧ W.frozen? ⟨tb, 0, none⟩ = false ∧ W.frozen? ⟨tb, 1, none⟩ = false ∧ w.heap.size < W.heap.size := by
    refine ⟨?_, ?_, ?_, (hwW.cell (cell_lt ha)).trans ha, (hwW.cell (cell_lt ht)).trans ht, (hwW.cell (cell_lt htt)).trans htt, (hwW.frozen (p := ⟨tb, 0, none⟩) (cell_lt ht)).trans hf, (hwW.frozen (p := ⟨tb, 1, none⟩) (cell_lt htt)).trans hff, ?_⟩
    all_goals rw [hW]
    · rw [World.cell?_alloc_at _ _ _ _ rfl]; rfl
    · rw [World.cell?_alloc_at _ _ _ _ rfl]; rfl
    · rw [World.cell?_alloc_at _ _ _ _ rfl]; rfl
    · simp
  have htw : tb < w.heap.size := cell_lt ht
  have HW := Lib.hid hW
  have HwW := Lib.hid hwW
  have HR := Lib.hid hR
  have HX := Lib.hid hx
  clear hR hv hW hwW hx ht hf ha htt hff
  go_enter Tryd.func33, Tryd.ntmps33
  go_wp2
  rw [← HW.out]
  go_loopw [0] (fun v wr => RestB W wr ⟨c, some o⟩ v) (fun v _ => rank v)
  case atStart => exact HR.out
  case round =>
    obtain ⟨hbel, ps', hv'⟩ := hrel
    obtain ⟨x0, x1, x2, xa, xt, xtt, xf, xff, xl⟩ := HX.out
    have ha1 := cell_lt xa
    have ht1 : tb < W.heap.size := cell_lt xt
    have y0 := (hbel.cell (cell_lt x0)).trans x0
    have y1 := (hbel.cell (cell_lt x1)).trans x1
    have y2 := (hbel.cell (cell_lt x2)).trans x2
    have ya := (hbel.cell ha1).trans xa
    have yt := (hbel.cell (p := ⟨tb, 0, none⟩) ht1).trans xt
    have ytt := (hbel.cell (p := ⟨tb, 1, none⟩) ht1).trans xtt
    have yf := (hbel.frozen (p := ⟨tb, 0, none⟩) ht1).trans xf
    have yff := (hbel.frozen (p := ⟨tb, 1, none⟩) ht1).trans xff
    have HB := Lib.hid hbel
    have zl := hbel.size
    clear x0 x1 x2 xa xt xf hbel xtt xff
    rcases ps' with _ | ⟨p, ps'⟩
    · obtain rfl := hv'
      have f1 := typeOfF
      have f2 := assFF
      have f3 := elemPF a ⟨tb, 0, none⟩ wr ya
      have f4 := valueOfF c o
      have yt0 : (wr.alloc (.cells #[.int .i64 c, .int .i64 o] 50)).cell? ⟨tb, 0, none⟩ = some old0 := (World.cell?_alloc_lt _ _ _ (by show tb < _; omega)).trans yt
      have yt1 : (wr.alloc (.cells #[.int .i64 c, .int .i64 o] 50)).cell? ⟨tb, 1, none⟩ = some old1 := (World.cell?_alloc_lt _ _ _ (by show tb < _; omega)).trans ytt
      have yf0 : (wr.alloc (.cells #[.int .i64 c, .int .i64 o] 50)).frozen? ⟨tb, 0, none⟩ = false := (World.frozen?_alloc_old _ _ ⟨tb, 0, none⟩ (by show tb ≠ _; omega)).trans yf
      have yf1 : (wr.alloc (.cells #[.int .i64 c, .int .i64 o] 50)).frozen? ⟨tb, 1, none⟩ = false := (World.frozen?_alloc_old _ _ ⟨tb, 1, none⟩ (by show tb ≠ _; omega)).trans yff
      have f5 := setF tb wr.heap.size c o old0 old1 (wr.alloc (.cells #[.int .i64 c, .int .i64 o] 50)) (by rw [World.cell?_alloc_at _ _ _ _ rfl]; rfl) (by rw [World.cell?_alloc_at _ _ _ _ rfl]; rfl) yt0 yt1 yf0 yf1
      have HF := Lib.hid f5
      have HT := Lib.hid yt1
      clear f5 yt yf ya ytt yff yt0 yt1 yf0 yf1
      have f5 := HF.out
      simp only [Base.val]
      go_wp2
      go_ret
      refine ⟨rfl, ?_, ?_⟩
      · exact (((((HwW.out.trans (HB.out.mono HwW.out.size)).mono (by omega)).alloc (by omega) _).setCell (by exact hB) _).setCell (by exact hB) _)
      · exact World.cell?_setCell_same _ _ _ ((World.cell?_setCell_other _ _ _ _ (by intro e; injection e with _ e; cases e)).trans HT.out)
    · obtain ⟨g, u, rfl, hp, hu, hr, hv2⟩ := hv'
      have f1 := typeOfP
      have f2 := assPF
      have f3 := noAsP
      have f4 := unP
      have f5 := mUnP
      have HP := Lib.hid hp
      have HU := Lib.hid hu
      have HV := Lib.hid hv2
      have hi := hv2.iface
      obtain ⟨tu, u', rfl⟩ := hi
      clear ya yt yf hp hu hv2 ytt yff
      go_wp2_with (go_at_call 70; refine (unwrapP g _ _ HU.out).mono ?_; rintro e w1 ⟨rfl, rfl⟩)
      go_roundw
      case rel => exact ⟨HB.out, ps', HV.out⟩
      case measure => rw [rank_wrap]; exact hr

set_option maxHeartbeats 1000000 in
theorem asF_none (w : World) (c : Int) (ps : List ByteArray) (v : Value) (hv : IsErr w ⟨c, none⟩ ps v) (tv va : Value) :
    Calls Tryd.prog 33 #[v, tv, .agg #[.pointer (some ⟨5, 53, none⟩), va, .int .u64 150], .iface 79 (.agg #[.pointer (some ⟨5, 50, none⟩)])] w (GotNone w) := by
  have hTO := @run_callFunc_extern Tryd.prog 27 _ ReflectliteType.typeOf Tryd.func27 (by kernel_rfl) (by kernel_rfl) (by kernel_rfl) (by kernel_rfl)
  have hAT := @run_callFunc_extern Tryd.prog 76 _ (ReflectliteType.relation "AssignableTo" ReflectliteType.assignableTo) Tryd.func76 (by kernel_rfl) (by kernel_rfl) (by kernel_rfl) (by kernel_rfl)
  have hEl := @run_callFunc_extern Tryd.prog 35 _ (ReflectliteValue.method (ReflectliteValue.valueError "reflectlite.Value.Elem" 0) ReflectliteValue.elem) Tryd.func35 (by kernel_rfl) (by kernel_rfl) (by kernel_rfl) (by kernel_rfl)
  have hSe := @run_callFunc_extern Tryd.prog 36 _ ReflectliteValue.set Tryd.func36 (by kernel_rfl) (by kernel_rfl) (by kernel_rfl) (by kernel_rfl)
  have hVO := @run_callFunc_extern Tryd.prog 30 _ (fun args => ReflectliteValue.unpack (args.getD 0 (.tuple #[]))) Tryd.func30 (by kernel_rfl) (by kernel_rfl) (by kernel_rfl) (by kernel_rfl)
  have mA := methodAss
  obtain ⟨W, hW⟩ : ∃ W, W = w.alloc (.cells #[.pointer (some ⟨5, 53, none⟩), va, .int .u64 150] 71) := ⟨_, rfl⟩
  have hwW : Below w.heap.size w W := by rw [hW]; exact (Below.refl _ _).alloc (Nat.le_refl _) _
  have hR : RestB W W ⟨c, none⟩ v := ⟨Below.refl _ _, ps, hv.later hwW⟩
  have HW := Lib.hid hW
  have HwW := Lib.hid hwW
  have HR := Lib.hid hR
  clear hR hv hW hwW
  go_enter Tryd.func33, Tryd.ntmps33
  go_wp2
  rw [← HW.out]
  go_loopw [0] (fun v wr => RestB W wr ⟨c, none⟩ v) (fun v _ => rank v)
  case atStart => exact HR.out
  case round =>
    obtain ⟨hbel, ps', hv'⟩ := hrel
    have HB := Lib.hid hbel
    clear hbel
    rcases ps' with _ | ⟨p, ps'⟩
    · obtain rfl := hv'
      have f1 := typeOfC
      have f2 := assCF
      have f3 := noAsC
      have f4 := unC
      have f5 := unsC
      simp only [Base.val]
      go_wp2
      go_ret
      exact ⟨rfl, HwW.out.trans (HB.out.mono HwW.out.size)⟩
    · obtain ⟨g, u, rfl, hp, hu, hr, hv2⟩ := hv'
      have f1 := typeOfP
      have f2 := assPF
      have f3 := noAsP
      have f4 := unP
      have f5 := mUnP
      have HU := Lib.hid hu
      have HV := Lib.hid hv2
      have hi := hv2.iface
      obtain ⟨tu, u', rfl⟩ := hi
      clear hp hu hv2
      go_wp2_with (go_at_call 70; refine (unwrapP g _ _ HU.out).mono ?_; rintro e w1 ⟨rfl, rfl⟩)
      go_roundw
      case rel => exact ⟨HB.out, ps', HV.out⟩
      case measure => rw [rank_wrap]; exact hr

set_option maxHeartbeats 1000000 in
theorem asC_none (w : World) (p tv va : Value) :
    Calls Tryd.prog 33 #[.iface 65 p, tv, .agg #[.pointer (some ⟨5, 52, none⟩), va, .int .u64 150], .iface 79 (.agg #[.pointer (some ⟨5, 30, none⟩)])] w (GotNone w) := by
  have hTO := @run_callFunc_extern Tryd.prog 27 _ ReflectliteType.typeOf Tryd.func27 (by kernel_rfl) (by kernel_rfl) (by kernel_rfl) (by kernel_rfl)
  have hAT := @run_callFunc_extern Tryd.prog 76 _ (ReflectliteType.relation "AssignableTo" ReflectliteType.assignableTo) Tryd.func76 (by kernel_rfl) (by kernel_rfl) (by kernel_rfl) (by kernel_rfl)
  have hEl := @run_callFunc_extern Tryd.prog 35 _ (ReflectliteValue.method (ReflectliteValue.valueError "reflectlite.Value.Elem" 0) ReflectliteValue.elem) Tryd.func35 (by kernel_rfl) (by kernel_rfl) (by kernel_rfl) (by kernel_rfl)
  have hSe := @run_callFunc_extern Tryd.prog 36 _ ReflectliteValue.set Tryd.func36 (by kernel_rfl) (by kernel_rfl) (by kernel_rfl) (by kernel_rfl)
  have hVO := @run_callFunc_extern Tryd.prog 30 _ (fun args => ReflectliteValue.unpack (args.getD 0 (.tuple #[]))) Tryd.func30 (by kernel_rfl) (by kernel_rfl) (by kernel_rfl) (by kernel_rfl)
  have mA := methodAss
  have f1 := typeOfS
  have f2 := assSC
  have f3 := noAsS
  have f4 := unS
  have f5 := unsS
  go_enter Tryd.func33, Tryd.ntmps33
  go_wp2
  refine wp_loop_rounds 1 ?_
  rw [rounds_succ]
  go_wp2
  go_ret
  exact ⟨rfl, (Below.refl _ _).alloc (Nat.le_refl _) _⟩
end Go.Proofs.YtihmdhephcpgmaaDoor
