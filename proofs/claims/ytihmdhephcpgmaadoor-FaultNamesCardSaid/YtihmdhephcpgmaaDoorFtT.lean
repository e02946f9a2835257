/- The walk of the law FaultNames: true, at every input. -/
import Derived.Test.YtihmdhephcpgmaaDoorFtR
import Derived.Deep.RegionHeld3
namespace Go.Proofs.YtihmdhephcpgmaaDoor
open Go.RowKit Go.Lib

theorem new_error (s : ByteArray) (w : World) :
    Calls Tryd.prog 21 #[.string s] w fun e w' => e = .returned (.iface 65 (.pointer (some ⟨w.heap.size, 0, none⟩))) ∧ Below w.heap.size w w' := by
  go_enter Tryd.func21, Tryd.ntmps21
  go_wp2_with fail
  go_ret
  exact ⟨rfl, (Below.refl _ _).alloc (Nat.le_refl _) _⟩

/-- What the law builds, and the text that it has: one contract for all described errors. -/
def Texted (w : World) (v : Value) (L : List UInt8) : Prop :=
  ∀ V, Below w.heap.size w V → Calls Tryd.prog 19 #[v] V fun e w' => e = .returned (.string ⟨L.toArray⟩) ∧ Below V.heap.size V w'
def BuiltT (w : World) (L : List UInt8) (e : Ending) (w' : World) : Prop := ∃ v, e = .returned v ∧ Texted w' v L ∧ Below w.heap.size w w'

theorem build_text (nl : Bool) (A : Option Addr) (n cap : Nat) (c o : Int) (fl : Bool) (ps : List ByteArray) (w : World) (hn : n ≤ 20) (h0 : -9223372036854775808 ≤ o) (h1 : o ≤ 9223372036854775807) (h : Sl w A n ps) (hE : Env w) :
    Calls Tryd.prog 9 #[.agg #[.bool nl, .slice A n cap, .int .i64 c, .int .i64 o, .bool fl]] w (BuiltT w (tell c o nl fl)) := by
  cases nl
  · refine (build_some A n cap c o fl ps w hn h).mono fun e w' ⟨v, he, hv, hb⟩ => ⟨v, he, fun V hV => ?_, hb⟩
    have hE' := (hE.later hb).later hV
    cases fl
    · exact text_code (IsErr.later hV hv) hE'
    · exact text_fault (IsErr.later hV hv) h0 h1 hE'
  · exact (build_nil A n cap c o fl w).mono fun e w' ⟨he, hb⟩ => ⟨_, he, fun V _ => (text_nil V).mono fun e w' ⟨he, hw⟩ => ⟨he, by rw [← hw]; exact Below.refl _ _⟩, hb⟩
theorem told_any (nl : Bool) (A : Option Addr) (n cap : Nat) (c o : Int) (fl : Bool) (w : World) (h0 : -9223372036854775808 ≤ o) (h1 : o ≤ 9223372036854775807) :
    Calls Tryd.prog 20 #[.agg #[.bool nl, .slice A n cap, .int .i64 c, .int .i64 o, .bool fl]] w fun e w' => e = .returned (.string ⟨(tell c o nl fl).toArray⟩) ∧ Below w.heap.size w w' := by
  cases nl
  · cases fl
    · exact told_code A n cap c o w
    · exact told_fault A n cap c o h0 h1 w
  · exact told_nil A n cap c o fl w

set_option maxHeartbeats 1000000 in
theorem names_large (k : Int) (nl : Bool) (A : Option Addr) (n cap : Nat) (c o : Int) (fl : Bool) (ps : List ByteArray) (w : World) (hn : n ≤ 9223372036854775807) (hs : Sl w A n ps) (hE : Env w) (hf : fewB ps o = false) :
    Calls Tryd.prog 6 #[.int .i64 k, .agg #[.bool nl, .slice A n cap, .int .i64 c, .int .i64 o, .bool fl]] w fun e w' => e = .returned (.bool true) ∧ Below w.heap.size w w' := by
  have hb : Below w.heap.size w (w.alloc (.cells #[.bool nl, .slice A n cap, .int .i64 c, .int .i64 o, .bool fl] 24)) := (Below.refl _ _).alloc (Nat.le_refl _) _
  have HX := Lib.hid (Box.new w nl A n cap c o fl)
  have hE0 := hE.later hb
  have hs0 := hs.later hb
  have HB := Lib.hid hb
  have HF := Lib.hid hf
  clear hb hs hE hf
  go_enter Tryd.func6, Tryd.ntmps6
  go_wp2_with fail
  refine (awake_any _ hE0).mono ?_
  rintro e w1 ⟨rfl, hb1⟩
  have HX1 := Lib.hid (HX.out.later hb1)
  have hE1 := hE0.later hb1
  have hs1 := hs0.later hb1
  have HB1 := Lib.hid (HB.out.trans (hb1.mono HB.out.size))
  clear hb1 hE0 hs0
  obtain ⟨x0, x1, x2, x3, x4⟩ := HX1.out
  go_wp2_with fail
  refine (few_any nl A n cap c o fl ps _ hn hs1).mono ?_
  rintro e w2 ⟨rfl, hb2⟩
  rw [HF.out]
  have hE2 := hE1.later hb2
  have HB2 := Lib.hid (HB1.out.trans (hb2.mono HB1.out.size))
  clear hb2 hE1 hs1 x0 x1 x2 x3 x4
  go_wp2_with fail
  refine (awake_any _ hE2).mono ?_
  rintro e w3 ⟨rfl, hb3⟩
  go_wp2_with fail
  go_ret
  exact ⟨rfl, HB2.out.trans (hb3.mono HB2.out.size)⟩

set_option maxHeartbeats 4000000 in
theorem names_main (k : Int) (nl : Bool) (A : Option Addr) (n cap : Nat) (c o : Int) (fl : Bool) (ps : List ByteArray) (w : World) (hn : n ≤ 9223372036854775807) (hs : Sl w A n ps) (hE : Env w) (hf : fewB ps o = true) :
    Calls Tryd.prog 6 #[.int .i64 k, .agg #[.bool nl, .slice A n cap, .int .i64 c, .int .i64 o, .bool fl]] w fun e w' => e = .returned (.bool true) ∧ Below w.heap.size w w' := by
  have hb : Below w.heap.size w (w.alloc (.cells #[.bool nl, .slice A n cap, .int .i64 c, .int .i64 o, .bool fl] 24)) := (Below.refl _ _).alloc (Nat.le_refl _) _
  have HX := Lib.hid (Box.new w nl A n cap c o fl)
  obtain ⟨_, hlen, o0, o1⟩ := fewB_true hf
  rw [hs.len] at hlen
  have hE0 := hE.later hb
  have hs0 := hs.later hb
  have HB := Lib.hid hb
  have HF := Lib.hid hf
  clear hb hs hE hf
  go_enter Tryd.func6, Tryd.ntmps6
  go_wp2_with fail
  refine (awake_any _ hE0).mono ?_
  rintro e w1 ⟨rfl, hb1⟩
  have HX1 := Lib.hid (HX.out.later hb1)
  have hE1 := hE0.later hb1
  have hs1 := hs0.later hb1
  have HB1 := Lib.hid (HB.out.trans (hb1.mono HB.out.size))
  clear hb1 hE0 hs0
  obtain ⟨x0, x1, x2, x3, x4⟩ := HX1.out
  go_wp2_with fail
  refine (few_any nl A n cap c o fl ps _ hn hs1).mono ?_
  rintro e w2 ⟨rfl, hb2⟩
  rw [HF.out]
  have HX2 := Lib.hid (HX1.out.later hb2)
  have hE2 := hE1.later hb2
  have hs2 := hs1.later hb2
  have HB2 := Lib.hid (HB1.out.trans (hb2.mono HB1.out.size))
  clear hb2 hE1 hs1 x0 x1 x2 x3 x4
  obtain ⟨x0, x1, x2, x3, x4⟩ := HX2.out
  have C1 := Lib.hid (fun (V : World) (hV : Below w2.heap.size w2 V) => (name_any k V (hE2.later hV)).mono fun e w' (h : _ ∧ _) => (⟨h.1, by rw [← h.2]; exact hV⟩ : _ ∧ Below w2.heap.size w2 w'))
  have C2 := Lib.hid (fun (V : World) (hV : Below w2.heap.size w2 V) => (ref_name_any k V).mono fun e w' (h : _ ∧ _) => (⟨h.1, hV.trans (h.2.mono hV.size)⟩ : _ ∧ Below w2.heap.size w2 w'))
  have C3 := Lib.hid (fun (V : World) (hV : Below w2.heap.size w2 V) => (build_text nl A n cap c o fl ps V hlen (by omega) (by omega) (hs2.later hV) (hE2.later hV)).mono fun e w' (h : BuiltT V _ e w') => (h.elim fun v h => ⟨v, h.1, h.2.1, hV.trans (h.2.2.mono hV.size)⟩ : ∃ v, e = .returned v ∧ Texted w' v (tell c o nl fl) ∧ Below w2.heap.size w2 w'))
  have C4 := Lib.hid (fun (V : World) (hV : Below w2.heap.size w2 V) => (told_any nl A n cap c o fl V (by omega) (by omega)).mono fun e w' (h : _ ∧ _) => (⟨h.1, hV.trans (h.2.mono hV.size)⟩ : _ ∧ Below w2.heap.size w2 w'))
  have C5 := Lib.hid (fun (V : World) (hV : Below w2.heap.size w2 V) => (new_error ⟨#[120]⟩ V).mono fun e w' (h : _ ∧ _) => (⟨h.1, hV.trans (h.2.mono hV.size)⟩ : _ ∧ Below w2.heap.size w2 w'))
  have C6 := Lib.hid (fun (p : Value) (V : World) (hV : Below w2.heap.size w2 V) => (text_other p V (hE2.later hV)).mono fun e w' (h : _ ∧ _) => (⟨h.1, hV.trans (h.2.mono hV.size)⟩ : _ ∧ Below w2.heap.size w2 w'))
  have C7 := Lib.hid (fun (V : World) (v : Value) (L : List UInt8) (hT : Texted V v L) (hV : Below w2.heap.size w2 V) => (hT V (Below.refl _ _)).mono fun e w' (h : _ ∧ _) => (⟨h.1, hV.trans (h.2.mono hV.size)⟩ : _ ∧ Below w2.heap.size w2 w'))
  generalize Ft.nameOf k = m at *
  generalize tell c o nl fl = L at *
  clear hE2 hs2
  have SS : Below w2.heap.size w2 w2 ∧ Box w2 w.heap.size nl A n cap c o fl := ⟨Below.refl _ _, HX2.out⟩
  go_wp2_with fail
  go_region_held3 (fun W => Below w2.heap.size w2 W ∧ W.cell? ⟨w.heap.size, 0, none⟩ = some (.bool nl) ∧ W.cell? ⟨w.heap.size, 1, none⟩ = some (.slice A n cap) ∧ W.cell? ⟨w.heap.size, 2, none⟩ = some (.int .i64 c) ∧ W.cell? ⟨w.heap.size, 3, none⟩ = some (.int .i64 o) ∧ W.cell? ⟨w.heap.size, 4, none⟩ = some (.bool fl))
    (first | exact SS | exact ⟨SS.1.drew, SS.2⟩)
    (first
      | (go_at_call 17; refine (C1.out _ ?_).mono ?_; (first | exact SS.1 | exact SS.1.drew); rintro e w6 ⟨rfl, hb6⟩; have SS : Below w2.heap.size w2 w6 ∧ Box w6 w.heap.size nl A n cap c o fl := ⟨hb6, HX2.out.later hb6⟩)
      | (go_at_call 18; refine (C2.out _ ?_).mono ?_; (first | exact SS.1 | exact SS.1.drew); rintro e w6 ⟨rfl, hb6⟩; have SS : Below w2.heap.size w2 w6 ∧ Box w6 w.heap.size nl A n cap c o fl := ⟨hb6, HX2.out.later hb6⟩)
      | (go_at_call 9; refine (C3.out _ ?_).mono ?_; (first | exact SS.1 | exact SS.1.drew); rintro e w6 ⟨v, rfl, hT, hb6⟩; have HT := Lib.hid hT; clear hT; have SS : Below w2.heap.size w2 w6 ∧ Box w6 w.heap.size nl A n cap c o fl := ⟨hb6, HX2.out.later hb6⟩)
      | (go_at_call 20; refine (C4.out _ ?_).mono ?_; (first | exact SS.1 | exact SS.1.drew); rintro e w6 ⟨rfl, hb6⟩; have SS : Below w2.heap.size w2 w6 ∧ Box w6 w.heap.size nl A n cap c o fl := ⟨hb6, HX2.out.later hb6⟩)
      | (go_at_call 21; refine (C5.out _ ?_).mono ?_; (first | exact SS.1 | exact SS.1.drew); rintro e w6 ⟨rfl, hb6⟩; have SS : Below w2.heap.size w2 w6 ∧ Box w6 w.heap.size nl A n cap c o fl := ⟨hb6, HX2.out.later hb6⟩)
      | (go_at_call 19; (with_reducible refine (C7.out _ v L HT.out ?_).mono ?_); exact SS.1; rintro e w6 ⟨rfl, hb6⟩; have SS : Below w2.heap.size w2 w6 ∧ Box w6 w.heap.size nl A n cap c o fl := ⟨hb6, HX2.out.later hb6⟩)
      | (go_at_call 19; refine (C6.out _ _ ?_).mono ?_; (first | exact SS.1 | exact SS.1.drew); rintro e w6 ⟨rfl, hb6⟩; have SS : Below w2.heap.size w2 w6 ∧ Box w6 w.heap.size nl A n cap c o fl := ⟨hb6, HX2.out.later hb6⟩))
  all_goals
    go_wp2
    go_ret
    exact ⟨rfl, HB2.out.trans (Below.mono SS.1 HB2.out.size)⟩

theorem names_any (k : Int) (nl : Bool) (A : Option Addr) (n cap : Nat) (c o : Int) (fl : Bool) (ps : List ByteArray) (w : World) (hn : n ≤ 9223372036854775807) (hs : Sl w A n ps) (hE : Env w) :
    Calls Tryd.prog 6 #[.int .i64 k, .agg #[.bool nl, .slice A n cap, .int .i64 c, .int .i64 o, .bool fl]] w fun e w' => e = .returned (.bool true) ∧ Below w.heap.size w w' := by
  cases hf : fewB ps o
  · exact names_large k nl A n cap c o fl ps w hn hs hE hf
  · exact names_main k nl A n cap c o fl ps w hn hs hE hf
end Go.Proofs.YtihmdhephcpgmaaDoor
