/- The walk of the law FaultWraps: true, at every input. -/
import Derived.Test.YtihmdhephcpgmaaDoorFtQ
import Derived.Test.YtihmdhephcpgmaaDoorFtI
namespace Go.Proofs.YtihmdhephcpgmaaDoor
open Go.RowKit Go.Lib

theorem new_cell1 {w w' : World} {q : ByteArray} {x : Value} {T : TypeId} (h : w' = w.alloc (.cells #[.string q, x] T)) : w'.cell? ⟨w.heap.size, 1, none⟩ = some x := by
  rw [h, World.cell?_alloc_at _ _ _ _ rfl]; rfl
theorem wrap_at {w w' : World} {b : Base} {ps : List ByteArray} {v : Value} {q : ByteArray} (h : w' = w.alloc (.cells #[.string q, v] 56)) (hv : IsErr w b ps v) :
    IsErr w' b (q :: ps) (.iface 54 (.pointer (some ⟨w.heap.size, 0, none⟩))) := by rw [h]; exact hv.wrap q
def CallK (w : World) (t : TypeId) (F : FuncId) (L : List UInt8) (v : Value) : Prop :=
  ∃ u, v = .iface t u ∧ ∀ V, Below w.heap.size w V → Calls Tryd.prog F #[u] V fun e w' => e = .returned (.string ⟨L.toArray⟩) ∧ Below V.heap.size V w'

/-- The text of any described error, by whatever method Error it has. -/
theorem err_kind {w : World} {c : Int} {o : Option Int} {ps : List ByteArray} {v : Value} (hv : IsErr w ⟨c, o⟩ ps v) (h0 : -9223372036854775808 ≤ c) (h1 : c ≤ 9223372036854775807) (hE : Env w) (hs : Small ps) (hl : ps.length ≤ 30) :
    CallK w 30 66 (errText c ps) v ∨ CallK w 50 67 (errText c ps) v ∨ CallK w 54 69 (errText c ps) v := by
  cases ps with
  | nil =>
    obtain rfl := hv
    cases o with
    | none => exact .inl ⟨_, rfl, fun V hV => errorC c h0 h1 V (hE.later hV)⟩
    | some o => exact .inr (.inl ⟨_, rfl, fun V hV => errorF c o h0 h1 V (hE.later hV)⟩)
  | cons p r =>
    have hv0 := hv
    obtain ⟨g, u, rfl, _⟩ := hv
    exact .inr (.inr ⟨_, rfl, fun V hV => errorP c h0 h1 r p g o V (hE.later hV) (IsErr.later hV hv0) hs (by simp at hl; omega)⟩)

set_option maxHeartbeats 2000000 in
theorem wraps_large (nl : Bool) (A : Option Addr) (n cap : Nat) (c o : Int) (fl : Bool) (q : ByteArray) (ps : List ByteArray) (w : World) (hn : n ≤ 9223372036854775807) (hs : Sl w A n ps) (hE : Env w) (hf : fewB ps o = false) :
    Calls Tryd.prog 5 #[.agg #[.bool nl, .slice A n cap, .int .i64 c, .int .i64 o, .bool fl], .string q] w fun e w' => e = .returned (.bool true) ∧ Below w.heap.size w w' := by
  have hb : Below w.heap.size w (w.alloc (.cells #[.bool nl, .slice A n cap, .int .i64 c, .int .i64 o, .bool fl] 24)) := (Below.refl _ _).alloc (Nat.le_refl _) _
  have HX := Lib.hid (Box.new w nl A n cap c o fl)
  have hE0 := hE.later hb
  have hs0 := hs.later hb
  have HB := Lib.hid hb
  have HF := Lib.hid hf
  clear hb hs hE hf
  go_enter Tryd.func5, Tryd.ntmps5
  go_wp2_with fail
  refine (awake_any _ hE0).mono ?_
  rintro e w1 ⟨rfl, hb1⟩
  have HX1 := Lib.hid (HX.out.later hb1)
  have hE1 := hE0.later hb1
  have hs1 := hs0.later hb1
  have HB1 := Lib.hid (HB.out.trans (hb1.mono HB.out.size))
  clear hb1 hE0 hs0
  obtain ⟨x0, x1, x2, x3, x4⟩ := HX1.out
  go_wp2_with fail
  refine (few_any nl A n cap c o fl ps _ hn hs1).mono ?_
  rintro e w2 ⟨rfl, hb2⟩
  rw [HF.out]
  have HX2 := Lib.hid (HX1.out.later hb2)
  have hE2 := hE1.later hb2
  have hs2 := hs1.later hb2
  have HB2 := Lib.hid (HB1.out.trans (hb2.mono HB1.out.size))
  clear hb2 hE1 hs1 x0 x1 x2 x3 x4
  obtain ⟨x0, x1, x2, x3, x4⟩ := HX2.out
  go_wp2_with fail
  refine (awake_any _ hE2).mono ?_
  rintro e w3 ⟨rfl, hb3⟩
  go_wp2_with fail
  go_ret
  exact ⟨rfl, HB2.out.trans (hb3.mono HB2.out.size)⟩

set_option maxHeartbeats 2000000 in
theorem wraps_nil (A : Option Addr) (n cap : Nat) (c o : Int) (fl : Bool) (q : ByteArray) (ps : List ByteArray) (w : World) (hn : n ≤ 9223372036854775807) (hs : Sl w A n ps) (hE : Env w) (hf : fewB ps o = true) :
    Calls Tryd.prog 5 #[.agg #[.bool true, .slice A n cap, .int .i64 c, .int .i64 o, .bool fl], .string q] w fun e w' => e = .returned (.bool true) ∧ Below w.heap.size w w' := by
  have hb : Below w.heap.size w (w.alloc (.cells #[.bool true, .slice A n cap, .int .i64 c, .int .i64 o, .bool fl] 24)) := (Below.refl _ _).alloc (Nat.le_refl _) _
  have HX := Lib.hid (Box.new w true A n cap c o fl)
  have hE0 := hE.later hb
  have hs0 := hs.later hb
  have HB := Lib.hid hb
  have HF := Lib.hid hf
  clear hb hs hE hf
  go_enter Tryd.func5, Tryd.ntmps5
  go_wp2_with fail
  refine (awake_any _ hE0).mono ?_
  rintro e w1 ⟨rfl, hb1⟩
  have HX1 := Lib.hid (HX.out.later hb1)
  have hE1 := hE0.later hb1
  have hs1 := hs0.later hb1
  have HB1 := Lib.hid (HB.out.trans (hb1.mono HB.out.size))
  clear hb1 hE0 hs0
  obtain ⟨x0, x1, x2, x3, x4⟩ := HX1.out
  go_wp2_with fail
  refine (few_any true A n cap c o fl ps _ hn hs1).mono ?_
  rintro e w2 ⟨rfl, hb2⟩
  rw [HF.out]
  have HX2 := Lib.hid (HX1.out.later hb2)
  have hE2 := hE1.later hb2
  have hs2 := hs1.later hb2
  have HB2 := Lib.hid (HB1.out.trans (hb2.mono HB1.out.size))
  clear hb2 hE1 hs1 x0 x1 x2 x3 x4
  obtain ⟨x0, x1, x2, x3, x4⟩ := HX2.out
  go_wp2_with fail
  refine (awake_any _ hE2).mono ?_
  rintro e w3 ⟨rfl, hb3⟩
  go_wp2_with fail
  go_ret
  exact ⟨rfl, HB2.out.trans (hb3.mono HB2.out.size)⟩

set_option maxHeartbeats 2000000 in
theorem wraps_part (A : Option Addr) (n cap : Nat) (c o : Int) (fl : Bool) (q : ByteArray) (ps : List ByteArray) (w : World) (hn : n ≤ 9223372036854775807) (hs : Sl w A n ps) (hE : Env w) (hf : fewB ps o = true) (hq : 50 < q.size) :
    Calls Tryd.prog 5 #[.agg #[.bool false, .slice A n cap, .int .i64 c, .int .i64 o, .bool fl], .string q] w fun e w' => e = .returned (.bool true) ∧ Below w.heap.size w w' := by
  have hb : Below w.heap.size w (w.alloc (.cells #[.bool false, .slice A n cap, .int .i64 c, .int .i64 o, .bool fl] 24)) := (Below.refl _ _).alloc (Nat.le_refl _) _
  have HX := Lib.hid (Box.new w false A n cap c o fl)
  have hq1 : (50 : Int) < q.size := by omega
  have hE0 := hE.later hb
  have hs0 := hs.later hb
  have HB := Lib.hid hb
  have HF := Lib.hid hf
  clear hb hs hE hf
  go_enter Tryd.func5, Tryd.ntmps5
  go_wp2_with fail
  refine (awake_any _ hE0).mono ?_
  rintro e w1 ⟨rfl, hb1⟩
  have HX1 := Lib.hid (HX.out.later hb1)
  have hE1 := hE0.later hb1
  have hs1 := hs0.later hb1
  have HB1 := Lib.hid (HB.out.trans (hb1.mono HB.out.size))
  clear hb1 hE0 hs0
  obtain ⟨x0, x1, x2, x3, x4⟩ := HX1.out
  go_wp2_with fail
  refine (few_any false A n cap c o fl ps _ hn hs1).mono ?_
  rintro e w2 ⟨rfl, hb2⟩
  rw [HF.out]
  have HX2 := Lib.hid (HX1.out.later hb2)
  have hE2 := hE1.later hb2
  have hs2 := hs1.later hb2
  have HB2 := Lib.hid (HB1.out.trans (hb2.mono HB1.out.size))
  clear hb2 hE1 hs1 x0 x1 x2 x3 x4
  obtain ⟨x0, x1, x2, x3, x4⟩ := HX2.out
  go_wp2_with fail
  refine (awake_any _ hE2).mono ?_
  rintro e w3 ⟨rfl, hb3⟩
  go_wp2_with fail
  go_ret
  exact ⟨rfl, HB2.out.trans (hb3.mono HB2.out.size)⟩

set_option maxHeartbeats 2000000 in
theorem wraps_main (A : Option Addr) (n cap : Nat) (c o : Int) (fl : Bool) (q : ByteArray) (ps : List ByteArray) (w : World) (hn : n ≤ 9223372036854775807) (hs : Sl w A n ps) (hE : Env w) (hf : fewB ps o = true) (hq : q.size ≤ 50) (h0 : -9223372036854775808 ≤ c) (h1 : c ≤ 9223372036854775807) :
    Calls Tryd.prog 5 #[.agg #[.bool false, .slice A n cap, .int .i64 c, .int .i64 o, .bool fl], .string q] w fun e w' => e = .returned (.bool true) ∧ Below w.heap.size w w' := by
  have hb : Below w.heap.size w (w.alloc (.cells #[.bool false, .slice A n cap, .int .i64 c, .int .i64 o, .bool fl] 24)) := (Below.refl _ _).alloc (Nat.le_refl _) _
  have HX := Lib.hid (Box.new w false A n cap c o fl)
  have hq1 : (q.size : Int) ≤ 50 := by omega
  obtain ⟨hsm, hlen, _, _⟩ := fewB_true hf
  rw [hs.len] at hlen
  have HL := Lib.hid hs.len
  have hw : (c == wrap64 (c + 1)) = false := by
    rw [beq_eq_false_iff_ne]
    unfold wrap64
    omega
  have HW := Lib.hid hw
  clear hw
  have hE0 := hE.later hb
  have hs0 := hs.later hb
  have HB := Lib.hid hb
  have HF := Lib.hid hf
  clear hb hs hE hf
  go_enter Tryd.func5, Tryd.ntmps5
  go_wp2_with fail
  refine (awake_any _ hE0).mono ?_
  rintro e w1 ⟨rfl, hb1⟩
  have HX1 := Lib.hid (HX.out.later hb1)
  have hE1 := hE0.later hb1
  have hs1 := hs0.later hb1
  have HB1 := Lib.hid (HB.out.trans (hb1.mono HB.out.size))
  clear hb1 hE0 hs0
  obtain ⟨x0, x1, x2, x3, x4⟩ := HX1.out
  go_wp2_with fail
  refine (few_any false A n cap c o fl ps _ hn hs1).mono ?_
  rintro e w2 ⟨rfl, hb2⟩
  rw [HF.out]
  have HX2 := Lib.hid (HX1.out.later hb2)
  have hE2 := hE1.later hb2
  have hs2 := hs1.later hb2
  have HB2 := Lib.hid (HB1.out.trans (hb2.mono HB1.out.size))
  clear hb2 hE1 hs1 x0 x1 x2 x3 x4
  obtain ⟨x0, x1, x2, x3, x4⟩ := HX2.out
  go_wp2_with fail
  refine (build_some A n cap c o fl ps _ hlen hs2).mono ?_
  rintro e w3 ⟨v, rfl, hv, hb3⟩
  have HX3 := Lib.hid (HX2.out.later hb3)
  have hE3 := hE2.later hb3
  have HB3 := Lib.hid (HB2.out.trans (hb3.mono HB2.out.size))
  have hkind := err_kind hv h0 h1 hE3 (fun x hx => hsm x (List.mem_reverse.1 hx)) (by rw [List.length_reverse, HL.out]; omega)
  have m1 := mErC
  have m2 := mErF
  have m3 := mErP
  rcases hkind with ⟨u, rfl, hcall⟩ | ⟨u, rfl, hcall⟩ | ⟨u, rfl, hcall⟩
  all_goals
    have HV := Lib.hid hv
    have HC := Lib.hid hcall
    clear hb3 x0 x1 x2 x3 x4 hE2 hs2 hv hcall
    go_wp2_with fail
    refine (in_some q _ u _).mono ?_
    rintro e w4 ⟨rfl, hw4⟩
    have hb4 : Below w3.heap.size w3 w4 := by rw [hw4]; exact (Below.refl _ _).alloc (Nat.le_refl _) _
    have hc4 := new_cell1 hw4
    have HA4 := Lib.hid (wrap_at hw4 HV.out)
    have HK4 := Lib.hid hb4
    have HC4 := Lib.hid hc4
    have HX4 := Lib.hid (HX3.out.later hb4)
    have HB4 := Lib.hid (HB3.out.trans (hb4.mono HB3.out.size))
    obtain ⟨g, hg⟩ : ∃ g, g = w3.heap.size := ⟨_, rfl⟩
    rw [← hg] at HA4 HC4 ⊢
    clear hb4 hc4 hw4 hE3 hg
    go_wp2_with fail
    refine (unwrap_part g _ _ HC4.out).mono ?_
    rintro e w5 ⟨rfl, rfl⟩
    generalize errText c ps.reverse = L at *
    go_wp2_with fail
    refine (HC.out _ HK4.out).mono ?_
    rintro e w5 ⟨rfl, hb5⟩
    have HK5 := Lib.hid (HK4.out.trans (hb5.mono HK4.out.size))
    have HX5 := Lib.hid (HX4.out.later hb5)
    have HA5 := Lib.hid (HA4.out.later hb5)
    have HB5 := Lib.hid (HB4.out.trans (hb5.mono HB4.out.size))
    clear hb5
    go_wp2_with fail
    refine (HC.out _ HK5.out).mono ?_
    rintro e w6 ⟨rfl, hb6⟩
    have HX6 := Lib.hid (HX5.out.later hb6)
    have HA6 := Lib.hid (HA5.out.later hb6)
    have HB6 := Lib.hid (HB5.out.trans (hb6.mono HB5.out.size))
    clear hb6
    obtain ⟨x0, x1, x2, x3, x4⟩ := HX6.out
    go_wp2_with fail
    refine (is_any true _ c c (by simp) _ _ _ rfl HA6.out).mono ?_
    rintro e w7 ⟨rfl, hb7⟩
    have HX7 := Lib.hid (HX6.out.later hb7)
    have HA7 := Lib.hid (HA6.out.later hb7)
    have HB7 := Lib.hid (HB6.out.trans (hb7.mono HB6.out.size))
    clear hb7 x0 x1 x2 x3 x4
    obtain ⟨x0, x1, x2, x3, x4⟩ := HX7.out
    go_wp2_with fail
    refine (is_any false _ c _ ?_ _ _ _ rfl HA7.out).mono ?_
    · exact HW.out
    rintro e w8 ⟨rfl, hb8⟩
    have HB8 := Lib.hid (HB7.out.trans (hb8.mono HB7.out.size))
    clear hb8
    go_wp2_with fail
    go_ret
    exact ⟨rfl, HB8.out⟩

theorem wraps_any (nl : Bool) (A : Option Addr) (n cap : Nat) (c o : Int) (h0 : -9223372036854775808 ≤ c) (h1 : c ≤ 9223372036854775807) (fl : Bool) (q : ByteArray) (ps : List ByteArray) (w : World) (hn : n ≤ 9223372036854775807) (hs : Sl w A n ps) (hE : Env w) :
    Calls Tryd.prog 5 #[.agg #[.bool nl, .slice A n cap, .int .i64 c, .int .i64 o, .bool fl], .string q] w fun e w' => e = .returned (.bool true) ∧ Below w.heap.size w w' := by
  cases hf : fewB ps o
  · exact wraps_large nl A n cap c o fl q ps w hn hs hE hf
  · cases nl
    · rcases Nat.lt_or_ge 50 q.size with hq | hq
      · exact wraps_part A n cap c o fl q ps w hn hs hE hf hq
      · exact wraps_main A n cap c o fl q ps w hn hs hE hf hq h0 h1
    · exact wraps_nil A n cap c o fl q ps w hn hs hE hf
end Go.Proofs.YtihmdhephcpgmaaDoor
