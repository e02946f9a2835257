/- The walks of fault.Shift and fault.Text. -/
import Derived.Test.YtihmdhephcpgmaaDoorFtM
namespace Go.Proofs.YtihmdhephcpgmaaDoor
open Go.RowKit Go.Lib

theorem shift_nil (n : Int) (w : World) :
    Calls Tryd.prog 13 #[.nilIface, .int .i64 n] w fun e w' => e = .returned .nilIface ∧ Below w.heap.size w w' := by
  go_enter Tryd.func13, Tryd.ntmps13
  go_wp2_with fail
  refine (code_nil _).mono ?_
  rintro e w1 ⟨rfl, hb1⟩
  go_wp2_with fail
  go_ret
  exact ⟨rfl, hb1⟩

set_option maxHeartbeats 400000 in
theorem shift_fault {w : World} {c o : Int} {ps : List ByteArray} {v : Value} (hv : IsErr w ⟨c, some o⟩ ps v) (n : Int) (h0 : -9223372036854775808 ≤ o + n) (h1 : o + n ≤ 9223372036854775807) (hE : Env w) :
    Calls Tryd.prog 13 #[v, .int .i64 n] w fun e w' => e = .returned (Base.val ⟨c, some (o + n)⟩) ∧ Below w.heap.size w w' := by
  have e1 : IntKind.i64.wrap (o + n) = o + n := IntWalk.i64_in _ (by omega)
  have E1 := Lib.hid e1
  have HV := Lib.hid hv
  clear e1 hv
  go_enter Tryd.func13, Tryd.ntmps13
  go_wp2_with fail
  refine (code_some HV.out hE).mono ?_
  rintro e w1 ⟨rfl, hb1⟩
  have HV1 := Lib.hid (HV.out.later hb1)
  have hE1 := hE.later hb1
  go_wp2_with fail
  refine (at_some HV1.out hE1).mono ?_
  rintro e w2 ⟨rfl, hb2⟩
  have hb := hb1.trans (hb2.mono hb1.size)
  have e1 := E1.out
  clear hb1 hb2
  go_wp2_with fail
  refine (new_any _ _ _).mono ?_
  rintro e w3 ⟨rfl, rfl⟩
  go_wp2_with fail
  go_ret
  exact ⟨rfl, hb⟩

set_option maxHeartbeats 400000 in
theorem shift_code {w : World} {c : Int} {ps : List ByteArray} {v : Value} (hv : IsErr w ⟨c, none⟩ ps v) (n : Int) (h0 : -9223372036854775808 ≤ n) (h1 : n ≤ 9223372036854775807) (hE : Env w) :
    Calls Tryd.prog 13 #[v, .int .i64 n] w fun e w' => e = .returned (Base.val ⟨c, some n⟩) ∧ Below w.heap.size w w' := by
  have HV := Lib.hid hv
  clear hv
  go_enter Tryd.func13, Tryd.ntmps13
  go_wp2_with fail
  refine (code_some HV.out hE).mono ?_
  rintro e w1 ⟨rfl, hb1⟩
  have HV1 := Lib.hid (HV.out.later hb1)
  have hE1 := hE.later hb1
  go_wp2_with fail
  refine (at_none HV1.out hE1).mono ?_
  rintro e w2 ⟨rfl, hb2⟩
  have hb := hb1.trans (hb2.mono hb1.size)
  clear hb1 hb2
  go_wp2_with fail
  refine (new_any _ _ _).mono ?_
  rintro e w3 ⟨rfl, rfl⟩
  go_wp2_with fail
  go_ret
  exact ⟨rfl, hb⟩

theorem text_nil (w : World) :
    Calls Tryd.prog 19 #[.nilIface] w fun e w' => e = .returned (.string ⟨#[111, 107]⟩) ∧ w = w' := by
  go_enter Tryd.func19, Tryd.ntmps19
  go_wp2_with fail
  go_ret
  exact ⟨rfl, rfl⟩

set_option maxHeartbeats 400000 in
theorem text_other (p : Value) (w : World) (hE : Env w) :
    Calls Tryd.prog 19 #[.iface 65 p] w fun e w' => e = .returned (.string ⟨#[101, 114, 114, 111, 114]⟩) ∧ Below w.heap.size w w' := by
  go_enter Tryd.func19, Tryd.ntmps19
  go_wp2_with fail
  refine (code_other _ _ hE).mono ?_
  rintro e w1 ⟨rfl, hb1⟩
  go_wp2_with fail
  go_ret
  exact ⟨rfl, hb1⟩

set_option maxHeartbeats 400000 in
theorem text_code {w : World} {c : Int} {ps : List ByteArray} {v : Value} (hv : IsErr w ⟨c, none⟩ ps v) (hE : Env w) :
    Calls Tryd.prog 19 #[v] w fun e w' => e = .returned (.string ⟨(tell c 0 false false).toArray⟩) ∧ Below w.heap.size w w' := by
  have HV := Lib.hid hv
  obtain ⟨tv, uv, rfl⟩ := hv.iface
  clear hv
  go_enter Tryd.func19, Tryd.ntmps19
  go_wp2_with fail
  refine (code_some HV.out hE).mono ?_
  rintro e w1 ⟨rfl, hb1⟩
  have HV1 := Lib.hid (HV.out.later hb1)
  have hE1 := hE.later hb1
  go_wp2_with fail
  refine (name_any _ _ hE1).mono ?_
  rintro e w2 ⟨rfl, rfl⟩
  go_wp2_with fail
  refine (at_none HV1.out hE1).mono ?_
  rintro e w2 ⟨rfl, hb2⟩
  have hb := hb1.trans (hb2.mono hb1.size)
  clear hb1 hb2
  go_wp2_with fail
  go_ret
  exact ⟨rfl, hb⟩

set_option maxHeartbeats 400000 in
theorem text_fault {w : World} {c o : Int} {ps : List ByteArray} {v : Value} (hv : IsErr w ⟨c, some o⟩ ps v) (h0 : -9223372036854775808 ≤ o) (h1 : o ≤ 9223372036854775807) (hE : Env w) :
    Calls Tryd.prog 19 #[v] w fun e w' => e = .returned (.string ⟨(tell c o false true).toArray⟩) ∧ Below w.heap.size w w' := by
  have HV := Lib.hid hv
  obtain ⟨tv, uv, rfl⟩ := hv.iface
  clear hv
  have hz := Lib.itoa_length_le o h0 h1
  have hy := nameOf_le c
  have e : tell c o false true = Ft.nameOf c ++ ([32] ++ Lib.itoa o) := by simp [tell]
  have E := Lib.hid e
  clear e
  go_enter Tryd.func19, Tryd.ntmps19
  go_wp2_with fail
  refine (code_some HV.out hE).mono ?_
  rintro e w1 ⟨rfl, hb1⟩
  have HV1 := Lib.hid (HV.out.later hb1)
  have hE1 := hE.later hb1
  go_wp2_with fail
  refine (name_any _ _ hE1).mono ?_
  rintro e w2 ⟨rfl, rfl⟩
  go_wp2_with fail
  refine (at_some HV1.out hE1).mono ?_
  rintro e w2 ⟨rfl, hb2⟩
  have hE2 := hE1.later hb2
  have hb := hb1.trans (hb2.mono hb1.size)
  clear hb1 hb2 hE1 hE
  go_wp2_with fail
  refine (Tryd.strconv_Itoa o h0 h1 _ hE2.tab).mono ?_
  rintro e w3 ⟨rfl, k, os, rfl⟩
  generalize Lib.itoa o = l at *
  generalize Ft.nameOf c = m at *
  go_wp2_with fail
  go_ret
  refine ⟨ret_str ?_, hb.trans (Lib.below_grow _ _ hb.size _ _)⟩
  rw [E.out, Go.Joins.data_append, Go.Joins.data_append]
end Go.Proofs.YtihmdhephcpgmaaDoor
