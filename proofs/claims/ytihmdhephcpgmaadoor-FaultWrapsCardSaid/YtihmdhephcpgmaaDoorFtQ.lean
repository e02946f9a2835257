/- The walk of the law FaultShifts: true, at every input. -/
import Derived.Test.YtihmdhephcpgmaaDoorFtP
import Derived.Test.YtihmdhephcpgmaaDoorFtL
namespace Go.Proofs.YtihmdhephcpgmaaDoor
open Go.RowKit Go.Lib

/-- The law's own copy of the described error. -/
def Box (w : World) (g : Nat) (nl : Bool) (A : Option Addr) (n cap : Nat) (c o : Int) (fl : Bool) : Prop :=
  w.cell? ⟨g, 0, none⟩ = some (.bool nl) ∧ w.cell? ⟨g, 1, none⟩ = some (.slice A n cap) ∧ w.cell? ⟨g, 2, none⟩ = some (.int .i64 c) ∧ w.cell? ⟨g, 3, none⟩ = some (.int .i64 o) ∧ w.cell? ⟨g, 4, none⟩ = some (.bool fl)
theorem Box.new (w : World) (nl : Bool) (A : Option Addr) (n cap : Nat) (c o : Int) (fl : Bool) :
    Box (w.alloc (.cells #[.bool nl, .slice A n cap, .int .i64 c, .int .i64 o, .bool fl] 24)) w.heap.size nl A n cap c o fl := by
  refine ⟨?_, ?_, ?_, ?_, ?_⟩
  all_goals rw [World.cell?_alloc_at _ _ _ _ rfl]; rfl
theorem Box.later {w w' : World} {g : Nat} {nl : Bool} {A : Option Addr} {n cap : Nat} {c o : Int} {fl : Bool} (h : Box w g nl A n cap c o fl) (hb : Below w.heap.size w w') : Box w' g nl A n cap c o fl :=
  ⟨(hb.cell (cell_lt h.1)).trans h.1, (hb.cell (cell_lt h.2.1)).trans h.2.1, (hb.cell (cell_lt h.2.2.1)).trans h.2.2.1, (hb.cell (cell_lt h.2.2.2.1)).trans h.2.2.2.1, (hb.cell (cell_lt h.2.2.2.2)).trans h.2.2.2.2⟩

set_option maxHeartbeats 1000000 in
theorem shifts_large (nl : Bool) (A : Option Addr) (n cap : Nat) (c o m : Int) (fl : Bool) (ps : List ByteArray) (w : World) (hn : n ≤ 9223372036854775807) (hs : Sl w A n ps) (hE : Env w) (hf : fewB ps o = false) :
    Calls Tryd.prog 4 #[.agg #[.bool nl, .slice A n cap, .int .i64 c, .int .i64 o, .bool fl], .int .i32 m] w fun e w' => e = .returned (.bool true) ∧ Below w.heap.size w w' := by
  have hb : Below w.heap.size w (w.alloc (.cells #[.bool nl, .slice A n cap, .int .i64 c, .int .i64 o, .bool fl] 24)) := (Below.refl _ _).alloc (Nat.le_refl _) _
  have HX := Lib.hid (Box.new w nl A n cap c o fl)
  have hE0 := hE.later hb
  have hs0 := hs.later hb
  have HB := Lib.hid hb
  have HF := Lib.hid hf
  clear hb hs hE hf
  go_enter Tryd.func4, Tryd.ntmps4
  go_wp2_with fail
  refine (awake_any _ hE0).mono ?_
  rintro e w1 ⟨rfl, hb1⟩
  have HX1 := Lib.hid (HX.out.later hb1)
  have hE1 := hE0.later hb1
  have hs1 := hs0.later hb1
  have HB1 := Lib.hid (HB.out.trans (hb1.mono HB.out.size))
  clear hb1 hE0 hs0
  obtain ⟨x0, x1, x2, x3, x4⟩ := HX1.out
  go_wp2_with fail
  refine (few_any nl A n cap c o fl ps _ hn hs1).mono ?_
  rintro e w2 ⟨rfl, hb2⟩
  rw [HF.out]
  have hE2 := hE1.later hb2
  have HB2 := Lib.hid (HB1.out.trans (hb2.mono HB1.out.size))
  clear hb2 hE1 hs1 x0 x1 x2 x3 x4
  go_wp2_with fail
  refine (awake_any _ hE2).mono ?_
  rintro e w3 ⟨rfl, hb3⟩
  go_wp2_with fail
  go_ret
  exact ⟨rfl, HB2.out.trans (hb3.mono HB2.out.size)⟩

set_option maxHeartbeats 1000000 in
theorem shifts_nil (A : Option Addr) (n cap : Nat) (c o m : Int) (fl : Bool) (ps : List ByteArray) (w : World) (hn : n ≤ 9223372036854775807) (hs : Sl w A n ps) (hE : Env w) (hf : fewB ps o = true) (m0 : -2147483648 ≤ m) (m1 : m ≤ 2147483647) :
    Calls Tryd.prog 4 #[.agg #[.bool true, .slice A n cap, .int .i64 c, .int .i64 o, .bool fl], .int .i32 m] w fun e w' => e = .returned (.bool true) ∧ Below w.heap.size w w' := by
  have hb : Below w.heap.size w (w.alloc (.cells #[.bool true, .slice A n cap, .int .i64 c, .int .i64 o, .bool fl] 24)) := (Below.refl _ _).alloc (Nat.le_refl _) _
  have HX := Lib.hid (Box.new w true A n cap c o fl)
  have hE0 := hE.later hb
  have hs0 := hs.later hb
  have HB := Lib.hid hb
  have HF := Lib.hid hf
  clear hb hs hE hf
  go_enter Tryd.func4, Tryd.ntmps4
  go_wp2_with fail
  refine (awake_any _ hE0).mono ?_
  rintro e w1 ⟨rfl, hb1⟩
  have HX1 := Lib.hid (HX.out.later hb1)
  have hE1 := hE0.later hb1
  have hs1 := hs0.later hb1
  have HB1 := Lib.hid (HB.out.trans (hb1.mono HB.out.size))
  clear hb1 hE0 hs0
  obtain ⟨x0, x1, x2, x3, x4⟩ := HX1.out
  go_wp2_with fail
  refine (few_any true A n cap c o fl ps _ hn hs1).mono ?_
  rintro e w2 ⟨rfl, hb2⟩
  rw [HF.out]
  have HX2 := Lib.hid (HX1.out.later hb2)
  have hE2 := hE1.later hb2
  have HB2 := Lib.hid (HB1.out.trans (hb2.mono HB1.out.size))
  clear hb2 hE1 hs1 x0 x1 x2 x3 x4
  obtain ⟨x0, x1, x2, x3, x4⟩ := HX2.out
  go_wp2_with fail
  refine (build_nil A n cap c o fl _).mono ?_
  rintro e w3 ⟨rfl, hb3⟩
  have HX3 := Lib.hid (HX2.out.later hb3)
  have HB3 := Lib.hid (HB2.out.trans (hb3.mono HB2.out.size))
  clear hb3 x0 x1 x2 x3 x4 hE2
  go_wp2_with fail
  refine (shift_nil _ _).mono ?_
  rintro e w4 ⟨rfl, hb4⟩
  obtain ⟨x0, x1, x2, x3, x4⟩ := HX3.out.later hb4
  have HB4 := Lib.hid (HB3.out.trans (hb4.mono HB3.out.size))
  clear hb4
  go_wp2_with fail
  go_ret
  exact ⟨rfl, HB4.out⟩

set_option maxHeartbeats 2000000 in
theorem shifts_fault (A : Option Addr) (n cap : Nat) (c o m : Int) (ps : List ByteArray) (w : World) (hn : n ≤ 9223372036854775807) (hs : Sl w A n ps) (hE : Env w) (hf : fewB ps o = true) (m0 : -2147483648 ≤ m) (m1 : m ≤ 2147483647) :
    Calls Tryd.prog 4 #[.agg #[.bool false, .slice A n cap, .int .i64 c, .int .i64 o, .bool true], .int .i32 m] w fun e w' => e = .returned (.bool true) ∧ Below w.heap.size w w' := by
  have hb : Below w.heap.size w (w.alloc (.cells #[.bool false, .slice A n cap, .int .i64 c, .int .i64 o, .bool true] 24)) := (Below.refl _ _).alloc (Nat.le_refl _) _
  have HX := Lib.hid (Box.new w false A n cap c o true)
  obtain ⟨_, hlen, o0, o1⟩ := fewB_true hf
  rw [hs.len] at hlen
  have hE0 := hE.later hb
  have hs0 := hs.later hb
  have HB := Lib.hid hb
  have HF := Lib.hid hf
  have e1 : IntKind.i64.wrap m = m := IntWalk.i64_in _ (by omega)
  have e2 : IntKind.i64.wrap (m + o) = m + o := IntWalk.i64_in _ (by omega)
  have e3 : (o + m == m + o) = true := by simp; omega
  clear hb hs hE hf
  go_enter Tryd.func4, Tryd.ntmps4
  go_wp2_with fail
  refine (awake_any _ hE0).mono ?_
  rintro e w1 ⟨rfl, hb1⟩
  have HX1 := Lib.hid (HX.out.later hb1)
  have hE1 := hE0.later hb1
  have hs1 := hs0.later hb1
  have HB1 := Lib.hid (HB.out.trans (hb1.mono HB.out.size))
  clear hb1 hE0 hs0
  obtain ⟨x0, x1, x2, x3, x4⟩ := HX1.out
  go_wp2_with fail
  refine (few_any false A n cap c o true ps _ hn hs1).mono ?_
  rintro e w2 ⟨rfl, hb2⟩
  rw [HF.out]
  have HX2 := Lib.hid (HX1.out.later hb2)
  have hE2 := hE1.later hb2
  have hs2 := hs1.later hb2
  have HB2 := Lib.hid (HB1.out.trans (hb2.mono HB1.out.size))
  clear hb2 hE1 hs1 x0 x1 x2 x3 x4
  obtain ⟨x0, x1, x2, x3, x4⟩ := HX2.out
  go_wp2_with fail
  refine (build_some A n cap c o true ps _ hlen hs2).mono ?_
  rintro e w3 ⟨v, rfl, hv, hb3⟩
  have HX3 := Lib.hid (HX2.out.later hb3)
  have hE3 := hE2.later hb3
  have HV := Lib.hid (show IsErr w3 ⟨c, some o⟩ ps.reverse v from hv)
  have HB3 := Lib.hid (HB2.out.trans (hb3.mono HB2.out.size))
  clear hb3 x0 x1 x2 x3 x4 hE2 hs2 hv
  go_wp2_with fail
  refine (shift_fault HV.out m (by omega) (by omega) hE3).mono ?_
  rintro e w4 ⟨rfl, hb4⟩
  have HX4 := Lib.hid (HX3.out.later hb4)
  have hE4 := hE3.later hb4
  have HB4 := Lib.hid (HB3.out.trans (hb4.mono HB3.out.size))
  have HW := Lib.hid (show IsErr w4 ⟨c, some (o + m)⟩ [] (Base.val ⟨c, some (o + m)⟩) from rfl)
  clear hb4 hE3
  obtain ⟨x0, x1, x2, x3, x4⟩ := HX4.out
  simp only [Base.val] at HW ⊢
  go_wp2_with fail
  refine (code_some HW.out hE4).mono ?_
  rintro e w5 ⟨rfl, hb5⟩
  have HX5 := Lib.hid (HX4.out.later hb5)
  have hE5 := hE4.later hb5
  have HW5 := Lib.hid (HW.out.later hb5)
  have HB5 := Lib.hid (HB4.out.trans (hb5.mono HB4.out.size))
  clear hb5 hE4 x0 x1 x2 x3 x4
  go_wp2_with fail
  refine (at_some HW5.out hE5).mono ?_
  rintro e w6 ⟨rfl, hb6⟩
  obtain ⟨x0, x1, x2, x3, x4⟩ := HX5.out.later hb6
  have HB6 := Lib.hid (HB5.out.trans (hb6.mono HB5.out.size))
  clear hb6 hE5
  go_wp2_with fail
  go_ret
  exact ⟨rfl, HB6.out⟩

set_option maxHeartbeats 2000000 in
theorem shifts_code (A : Option Addr) (n cap : Nat) (c o m : Int) (ps : List ByteArray) (w : World) (hn : n ≤ 9223372036854775807) (hs : Sl w A n ps) (hE : Env w) (hf : fewB ps o = true) (m0 : -2147483648 ≤ m) (m1 : m ≤ 2147483647) :
    Calls Tryd.prog 4 #[.agg #[.bool false, .slice A n cap, .int .i64 c, .int .i64 o, .bool false], .int .i32 m] w fun e w' => e = .returned (.bool true) ∧ Below w.heap.size w w' := by
  have hb : Below w.heap.size w (w.alloc (.cells #[.bool false, .slice A n cap, .int .i64 c, .int .i64 o, .bool false] 24)) := (Below.refl _ _).alloc (Nat.le_refl _) _
  have HX := Lib.hid (Box.new w false A n cap c o false)
  obtain ⟨_, hlen, o0, o1⟩ := fewB_true hf
  rw [hs.len] at hlen
  have hE0 := hE.later hb
  have hs0 := hs.later hb
  have HB := Lib.hid hb
  have HF := Lib.hid hf
  have e1 : IntKind.i64.wrap m = m := IntWalk.i64_in _ (by omega)
  clear hb hs hE hf
  go_enter Tryd.func4, Tryd.ntmps4
  go_wp2_with fail
  refine (awake_any _ hE0).mono ?_
  rintro e w1 ⟨rfl, hb1⟩
  have HX1 := Lib.hid (HX.out.later hb1)
  have hE1 := hE0.later hb1
  have hs1 := hs0.later hb1
  have HB1 := Lib.hid (HB.out.trans (hb1.mono HB.out.size))
  clear hb1 hE0 hs0
  obtain ⟨x0, x1, x2, x3, x4⟩ := HX1.out
  go_wp2_with fail
  refine (few_any false A n cap c o false ps _ hn hs1).mono ?_
  rintro e w2 ⟨rfl, hb2⟩
  rw [HF.out]
  have HX2 := Lib.hid (HX1.out.later hb2)
  have hE2 := hE1.later hb2
  have hs2 := hs1.later hb2
  have HB2 := Lib.hid (HB1.out.trans (hb2.mono HB1.out.size))
  clear hb2 hE1 hs1 x0 x1 x2 x3 x4
  obtain ⟨x0, x1, x2, x3, x4⟩ := HX2.out
  go_wp2_with fail
  refine (build_some A n cap c o false ps _ hlen hs2).mono ?_
  rintro e w3 ⟨v, rfl, hv, hb3⟩
  have HX3 := Lib.hid (HX2.out.later hb3)
  have hE3 := hE2.later hb3
  have HV := Lib.hid (show IsErr w3 ⟨c, none⟩ ps.reverse v from hv)
  have HB3 := Lib.hid (HB2.out.trans (hb3.mono HB2.out.size))
  clear hb3 x0 x1 x2 x3 x4 hE2 hs2 hv
  go_wp2_with fail
  refine (shift_code HV.out m (by omega) (by omega) hE3).mono ?_
  rintro e w4 ⟨rfl, hb4⟩
  have HX4 := Lib.hid (HX3.out.later hb4)
  have hE4 := hE3.later hb4
  have HB4 := Lib.hid (HB3.out.trans (hb4.mono HB3.out.size))
  have HW := Lib.hid (show IsErr w4 ⟨c, some m⟩ [] (Base.val ⟨c, some m⟩) from rfl)
  clear hb4 hE3
  obtain ⟨x0, x1, x2, x3, x4⟩ := HX4.out
  simp only [Base.val] at HW ⊢
  go_wp2_with fail
  refine (code_some HW.out hE4).mono ?_
  rintro e w5 ⟨rfl, hb5⟩
  have HX5 := Lib.hid (HX4.out.later hb5)
  have hE5 := hE4.later hb5
  have HW5 := Lib.hid (HW.out.later hb5)
  have HB5 := Lib.hid (HB4.out.trans (hb5.mono HB4.out.size))
  clear hb5 hE4 x0 x1 x2 x3 x4
  go_wp2_with fail
  refine (at_some HW5.out hE5).mono ?_
  rintro e w6 ⟨rfl, hb6⟩
  obtain ⟨x0, x1, x2, x3, x4⟩ := HX5.out.later hb6
  have HB6 := Lib.hid (HB5.out.trans (hb6.mono HB5.out.size))
  clear hb6 hE5
  go_wp2_with fail
  go_ret
  exact ⟨rfl, HB6.out⟩

theorem shifts_any (nl : Bool) (A : Option Addr) (n cap : Nat) (c o : Int) (fl : Bool) (m : Int) (ps : List ByteArray) (m0 : -2147483648 ≤ m) (m1 : m ≤ 2147483647) (w : World) (hn : n ≤ 9223372036854775807) (hs : Sl w A n ps) (hE : Env w) :
    Calls Tryd.prog 4 #[.agg #[.bool nl, .slice A n cap, .int .i64 c, .int .i64 o, .bool fl], .int .i32 m] w fun e w' => e = .returned (.bool true) ∧ Below w.heap.size w w' := by
  cases hf : fewB ps o
  · exact shifts_large nl A n cap c o m fl ps w hn hs hE hf
  · cases nl
    · cases fl
      · exact shifts_code A n cap c o m ps w hn hs hE hf m0 m1
      · exact shifts_fault A n cap c o m ps w hn hs hE hf m0 m1
    · exact shifts_nil A n cap c o m fl ps w hn hs hE hf m0 m1
end Go.Proofs.YtihmdhephcpgmaaDoor
