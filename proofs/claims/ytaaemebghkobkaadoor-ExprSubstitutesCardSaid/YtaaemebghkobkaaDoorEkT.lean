/- The walks of expr.show, showList, showRest and Text. The condition: a right expression of a short text. -/
import Derived.Test.YtaaemebghkobkaaDoorTwE
import Derived.Test.YtaaemebghkobkaaDoorExF
namespace Go.Proofs.YtaaemebghkobkaaDoor
open Go.RowKit

/-! ### a builder in a later world -/
theorem bldAt_below {b : Nat} {p : Value} {bs : List Value} {w w' : World} (h : Lib.BuilderAtF 57 5 b b p bs w) (hb : Below w.heap.size w w') : Lib.BuilderAtF 57 5 b b p bs w' := by
  have hlt := h.lt
  obtain ⟨h1, v, h2, h3, h4⟩ := h
  refine ⟨h1, v, (hb.block b hlt).trans h2, World.ownsRowF.kept (row := none) h3 ⟨hb.os, hb.tape, hb.output, hb.size, fun k hk _ => hb.block k hk⟩ ?_, h4⟩
  by_cases hv : v.ownBlock = none
  · exact .inl hv
  · exact .inr hv
theorem bld_below {b : Nat} {l : List UInt8} {w w' : World} (h : Bld b l w) (hb : Below w.heap.size w w') : Bld b l w' :=
  h.imp (fun h => bldAt_below h hb) (fun h => bldAt_below h hb)
theorem Bld.lt {b : Nat} {l : List UInt8} {w : World} (h : Bld b l w) : b < w.heap.size := by
  rcases h with h | h <;> exact h.lt
theorem Wrote.below {b : Nat} {u v w : World} (h : Wrote b u v) (hb : Below v.heap.size v w) (hbv : b ≤ v.heap.size) : Wrote b u w :=
  ⟨h.1.trans (hb.mono hbv), fun k o hk hne ho => (hb.block k (Array.getElem?_eq_some_iff.1 (h.2 k o hk hne ho)).1).trans (h.2 k o hk hne ho)⟩

/-- A box of eight cells. -/
def BoxC (w : World) (k : Nat) (us : Array Value) : Prop := w.heap[k]? = some (.cells us 27 (0, 0))
theorem BoxC.new (w : World) (us : Array Value) : BoxC (w.alloc (.cells us 27)) w.heap.size us := heap_last w _
theorem BoxC.wrote {w w' : World} {b k : Nat} {us : Array Value} (h : BoxC w k us) (hw : Wrote b w w') (hk : k ≠ b) : BoxC w' k us := hw.keeps (by decide) hk h
theorem BoxC.boxd {w : World} {k : Nat} {us : Array Value} (h : BoxC w k us) : Boxd w k us.toList := fun j u hu => by
  rw [cell_of_row _ _ j _ _ (0, 0) h]
  simpa using hu
theorem BoxC.lt {w : World} {k : Nat} {us : Array Value} (h : BoxC w k us) : k < w.heap.size := (Array.getElem?_eq_some_iff.1 h).1

/-- What the walks of the text leave. -/
def XShowPost (w : World) (b : Nat) (l : List UInt8) (e : Ending) (w' : World) : Prop := e = .returned (.tuple #[]) ∧ Bld b l w' ∧ Wrote b w w'
def XShowAt (b : Nat) (e : Ex) : Prop := ∀ (us : List Value) (l : List UInt8) (w : World), e.right = true → e.wt ≤ 1000 → l.length + e.text.length ≤ 100000000 → Bld b l w → e.dat.In w False (· < b) us →
  Calls Tryd.prog 40 #[.pointer (some ⟨b, 0, none⟩), .agg us.toArray] w (XShowPost w b (l ++ e.text))

/-- What stands ahead of the k-th of a list. -/
def sepC (k : Nat) : ByteArray := if k = 0 then ⟨#[]⟩ else ⟨#[44, 32]⟩

set_option maxRecDepth 100000 in
set_option maxHeartbeats 8000000 in
theorem showList_any (b : Nat) (xs : List Ex) (ih : ∀ e ∈ xs, XShowAt b e) (hr : ∀ e ∈ xs, e.right = true) (hwt : ∀ e ∈ xs, e.wt ≤ 1000) (f g : ByteArray) (C : Option Addr) (r c : Nat) (l : List UInt8) (w : World)
    (hlen : l.length + f.size + (Ex.textC xs).length + g.size ≤ 100000000) (hB : Bld b l w) (h : Row w False (· < b) 8 C r (Ex.dats xs)) :
    Calls Tryd.prog 69 #[.pointer (some ⟨b, 0, none⟩), .string f, .slice C r c, .string g] w (XShowPost w b (l ++ f.data.toList ++ Ex.textC xs ++ g.data.toList)) := by
  have hm : (r : Int) ≤ 9223372036854775807 := by have := h.le; omega
  have hxl := h.len
  rw [Ex.dats_len] at hxl
  have hfs := Lib.size_eq f
  have IH := Lib.hid ih
  have HRT := Lib.hid hr
  have HWT := Lib.hid hwt
  have H := Lib.hid h
  have HLN := Lib.hid hlen
  have HF := Lib.hid hfs
  have C1 := Lib.hid (writeString_any b l f w hB (by omega))
  have HBB := Lib.hid hB
  clear ih hr hwt h hlen hB hfs
  go_enter Tryd.func69, Tryd.ntmps69
  go_wp2_with fail
  refine C1.out.mono ?_
  rintro e w1 ⟨rfl, hb1, hw1⟩
  have HW1 := Lib.hid hw1
  have HB1 := Lib.hid hb1
  clear hb1 hw1 C1
  go_wp2_with fail
  go_loopw [15] (fun i wr => ∃ k : Nat, k ≤ r ∧ i = .int .i64 k ∧ Bld b (l ++ f.data.toList ++ Ex.textC (xs.take k)) wr ∧ Wrote b w wr) (fun i _ => r - (intOf i).toNat)
  case atStart => exact ⟨0, by omega, rfl, by simpa [Ex.textC] using HB1.out, HW1.out⟩
  case round =>
    obtain ⟨k, hk, rfl, hbk, hwk⟩ := hrel
    have z0 : (0 : Int) ≤ k := by omega
    have hpk := Ex.textC_take xs k
    have HBK := Lib.hid hbk
    have HWK := Lib.hid hwk
    by_cases hlt : k < r
    · have z1 : (k : Int) < r := by omega
      obtain ⟨p, u, ps, rfl, hx, hpb, _, hu, hcs⟩ := kid_at (Row.later H.out hwk.1 (fun _ h => h)) hlt
      have hst := Ex.textC_step hx
      have hpk2 := Ex.textC_take xs (k + 1)
      rw [hst] at hpk2
      simp only [List.length_append] at hpk2
      have HA0 := Lib.hid (show Wrote b wr (wr.alloc (.cells ps.toArray 27)) from (Wrote.refl b wr).alloc (Nat.le_of_lt hbk.lt) _)
      have HBX := Lib.hid (BoxC.new wr ps.toArray)
      have HBA := Lib.hid (bld_below hbk ((Below.refl _ _).alloc (Nat.le_refl _) (.cells ps.toArray 27)))
      have HNE := Lib.hid (show wr.heap.size ≠ b by have := hbk.lt; omega)
      have D := Lib.hid (fun (V : World) (hV : Wrote b wr V) (hq : Bld b (l ++ f.data.toList ++ Ex.textC (xs.take k) ++ (if k = 0 then [] else [44, 32])) V) => IH.out u (List.mem_of_getElem? hx) ps _ V (HRT.out u (List.mem_of_getElem? hx)) (HWT.out u (List.mem_of_getElem? hx)) (by
        have h1 := HLN.out; have h2 := HF.out
        simp only [List.length_append]
        omega) hq (Dat.In.later hu hV.1 (fun _ h => h)))
      obtain ⟨_, _, _, _, _, _, _, _, _, rfl, _⟩ := ex_open hu
      obtain ⟨c0, c1, c2, c3, c4, c5, c6, c7⟩ := cells8_at hcs
      obtain ⟨x0, x1, x2, x3, x4, x5, x6, x7⟩ := HBX.out.boxd.c8
      have HST := Lib.hid hst
      by_cases hk0 : k = 0
      · have z2 : (k : Int) ≤ 0 := by omega
        have hif : (if k = 0 then ([] : List UInt8) else [44, 32]) = [] := if_pos hk0
        rw [hif] at HST D
        have D2 := Lib.hid (D.out _ HA0.out (by simpa using HBA.out))
        clear hx hu hcs hst hpk hpk2 hbk hwk D hif hk0
        go_wp2_with fail
        refine D2.out.mono ?_
        rintro e w3 ⟨rfl, hb3, hw3⟩
        have HB3 := Lib.hid hb3
        have HW3 := Lib.hid (HWK.out.trans (HA0.out.trans hw3))
        clear hb3 hw3 x0 x1 x2 x3 x4 x5 x6 x7 c0 c1 c2 c3 c4 c5 c6 c7 D2
        go_wp2_with fail
        go_roundw
        case rel => exact ⟨k + 1, by omega, by go_num, by rw [HST.out]; simpa only [List.append_assoc, List.append_nil, List.nil_append] using HB3.out, HW3.out⟩
        case measure => simp [intOf]; omega
      · have z2 : (0 : Int) < k := by omega
        have hif : (if k = 0 then ([] : List UInt8) else [44, 32]) = [44, 32] := if_neg hk0
        rw [hif] at HST D
        have CW := Lib.hid (writeString_any b _ ⟨#[44, 32]⟩ _ HBA.out (by have := HLN.out; have := HF.out; simp only [List.length_append]; rw [show (ByteArray.mk #[44, 32]).size = 2 from rfl]; omega))
        clear hx hu hcs hst hpk hpk2 hbk hwk hk0 hif
        go_wp2_with fail
        refine CW.out.mono ?_
        rintro e w2 ⟨rfl, hb2, hw2⟩
        have HW2 := Lib.hid (HA0.out.trans hw2)
        have D2 := Lib.hid (D.out w2 HW2.out hb2)
        clear x0 x1 x2 x3 x4 x5 x6 x7 c0 c1 c2 c3 c4 c5 c6 c7
        obtain ⟨x0, x1, x2, x3, x4, x5, x6, x7⟩ := (HBX.out.wrote hw2 HNE.out).boxd.c8
        clear hb2 hw2 D CW
        go_wp2_with fail
        refine D2.out.mono ?_
        rintro e w3 ⟨rfl, hb3, hw3⟩
        have HB3 := Lib.hid hb3
        have HW3 := Lib.hid (HWK.out.trans (HW2.out.trans hw3))
        clear hb3 hw3 x0 x1 x2 x3 x4 x5 x6 x7 D2
        go_wp2_with fail
        go_roundw
        case rel => exact ⟨k + 1, by omega, by go_num, by rw [HST.out]; simpa only [List.append_assoc] using HB3.out, HW3.out⟩
        case measure => simp [intOf]; omega
    · have z1 : (r : Int) ≤ k := by omega
      have hjk : xs.take k = xs := List.take_of_length_le (by omega)
      rw [hjk] at hbk
      have CW := Lib.hid (writeString_any b _ g _ hbk (by have := HLN.out; have := HF.out; simp only [List.length_append]; omega))
      clear hbk hwk hpk HBK
      go_wp2_with fail
      refine CW.out.mono ?_
      rintro e w2 ⟨rfl, hb2, hw2⟩
      have HB3 := Lib.hid hb2
      have HW3 := Lib.hid (HWK.out.trans hw2)
      clear hb2 hw2
      go_wp2_with fail
      go_end0
      exact ⟨rfl, HB3.out, HW3.out⟩
end Go.Proofs.YtaaemebghkobkaaDoor
