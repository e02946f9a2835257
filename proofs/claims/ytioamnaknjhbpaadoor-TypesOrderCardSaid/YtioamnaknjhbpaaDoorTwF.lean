/- The walk of types.Text: a closure that writes into a strings.Builder and calls itself. The condition: the type is small. -/
import Derived.Test.YtioamnaknjhbpaaDoorTwA
import Derived.Test.YtioamnaknjhbpaaDoorTwE
import Derived.Laws.Sem
namespace Go.Proofs.YtioamnaknjhbpaaDoor
open Go.RowKit

theorem run_store_fn {P : Program} {w : World} {a : Addr} {md : Mode} (fn : Fn) (first captured : Array Value) : (store a (.func fn first captured) md).run P w = stored P w a (.func fn first captured) md := run_store P w a _ md rfl
attribute [local go_sem] run_store_fn

theorem cells3 {w : World} {k : Nat} {x y z : Value} {T : TypeId} (h : w.heap[k]? = some (.cells #[x, y, z] T (0, 0))) : w.cell? ⟨k, 0, none⟩ = some x ∧ w.cell? ⟨k, 1, none⟩ = some y ∧ w.cell? ⟨k, 2, none⟩ = some z :=
  ⟨by rw [cell_of_row _ _ 0 _ _ (0, 0) h]; rfl, by rw [cell_of_row _ _ 1 _ _ (0, 0) h]; rfl, by rw [cell_of_row _ _ 2 _ _ (0, 0) h]; rfl⟩
/-- A block that is no row of bytes and not the builder's stays. -/
theorem Wrote.keeps {w w' : World} {b k : Nat} {cs : Array Value} {T : TypeId} (h : Wrote b w w') (hT : T ≠ 5) (hk : k ≠ b) (hb : w.heap[k]? = some (.cells cs T (0, 0))) : w'.heap[k]? = some (.cells cs T (0, 0)) :=
  h.2 k _ hb (by simpa using hk) (fun c fz e => by cases e; exact hT rfl)
theorem heap_last (w : World) (o : Obj) : (w.alloc o).heap[w.heap.size]? = some o := (MapKept.heap_alloc w o).1
theorem heap_prev {w : World} {k : Nat} {o : Obj} (h : w.heap[k]? = some o) (o' : Obj) : (w.alloc o').heap[k]? = some o :=
  (((Below.refl _ _).alloc (Nat.le_refl _) o' : Below w.heap.size w (w.alloc o')).block _ (Array.getElem?_eq_some_iff.1 h).1).trans h

/-- What the walk of the closure carries: the builder holds these bytes; the closure lies in its variable. -/
structure Shown (b : Nat) (l : List UInt8) (w : World) : Prop where
  bld : Bld b l w
  var : w.heap[b + 1]? = some (.cells #[.func (.func 36) #[] #[.pointer (some ⟨b, 0, none⟩), .pointer (some ⟨b + 1, 0, none⟩)]] 53 (0, 0))
theorem Shown.alloc {b : Nat} {l : List UInt8} {w : World} (h : Shown b l w) (o : Obj) : Shown b l (w.alloc o) := ⟨h.bld.alloc o, heap_prev h.var o⟩
theorem Shown.cell {b : Nat} {l : List UInt8} {w : World} (h : Shown b l w) : w.cell? ⟨b + 1, 0, none⟩ = some (.func (.func 36) #[] #[.pointer (some ⟨b, 0, none⟩), .pointer (some ⟨b + 1, 0, none⟩)]) := by
  rw [cell_of_row _ _ 0 _ _ (0, 0) h.var]; rfl
theorem Shown.le {b : Nat} {l : List UInt8} {w : World} (h : Shown b l w) : b ≤ w.heap.size := by
  have := (Array.getElem?_eq_some_iff.1 h.var).1
  omega
theorem Shown.wrote {b : Nat} {l l' : List UInt8} {w w' : World} (h : Shown b l w) (hb : Bld b l' w') (hw : Wrote b w w') : Shown b l' w' :=
  ⟨hb, hw.keeps (by decide) (by omega) h.var⟩

/-- What stands ahead of the k-th argument. -/
def sepAt (k : Nat) : ByteArray := if k = 0 then ⟨#[91]⟩ else ⟨#[44, 32]⟩
theorem sepAt_data (k : Nat) : (sepAt k).data.toList = if k = 0 then [91] else [44, 32] := by unfold sepAt; split <;> rfl
theorem sepAt_size (k : Nat) : (sepAt k).size ≤ 2 := by unfold sepAt; split <;> decide

/-- What the closure leaves. -/
def ShowPost (w : World) (b : Nat) (l : List UInt8) (e : Ending) (w' : World) : Prop := e = .returned (.tuple #[]) ∧ Shown b l w' ∧ Wrote b w w'

set_option maxRecDepth 100000 in
set_option maxHeartbeats 8000000 in
theorem show_any (b : Nat) : ∀ (t : Ty) (A : Option Addr) (m c : Nat) (l : List UInt8) (w : World), l.length + t.text.length ≤ 100000000 → Shown b l w → Lies w (· < b) A m t.args →
    Calls Tryd.prog 36 #[.agg #[.string t.name, .slice A m c, .int .i64 t.off], .pointer (some ⟨b, 0, none⟩), .pointer (some ⟨b + 1, 0, none⟩)] w (ShowPost w b (l ++ t.text)) := by
  refine Ty.ind fun s xs o ih A m c l w hs hsh h => ?_
  simp only [Ty.name, Ty.args, Ty.off] at h ⊢
  have hm : (m : Int) ≤ 9223372036854775807 := by have := h.le; omega
  have hxl := h.len
  have hp := text_pre s xs o
  have hps := Lib.size_eq s
  have hp0 : s.data.toList.length ≤ (pre s.data.toList xs).length := by have := pre_le s.data.toList xs 0; simpa [pre] using this
  have IH := Lib.hid ih
  have H := Lib.hid h
  have HT := Lib.hid hs
  have HP := Lib.hid hp
  have HA := Lib.hid (pre_all s xs o)
  have HW0 := Lib.hid ((Wrote.refl b w).alloc hsh.le (.cells #[.string s, .slice A m c, .int .i64 o] 24))
  have HS0 := Lib.hid (hsh.alloc (.cells #[.string s, .slice A m c, .int .i64 o] 24))
  have HX0 := Lib.hid (heap_last w (.cells #[.string s, .slice A m c, .int .i64 o] 24))
  have HNE := Lib.hid (show w.heap.size ≠ b by have := (Array.getElem?_eq_some_iff.1 hsh.var).1; omega)
  have hwr := writeString_any b l s _ HS0.out.bld (by omega)
  have HR := Lib.hid hwr
  obtain ⟨x0, x1, x2⟩ := cells3 HX0.out
  clear ih h hs hp hsh hwr
  go_enter Tryd.func36, Tryd.ntmps36
  go_wp2_with fail
  refine HR.out.mono ?_
  rintro e w1 ⟨rfl, hb1, hw1⟩
  have HW1 := Lib.hid (HW0.out.trans hw1)
  have HS1 := Lib.hid (HS0.out.wrote hb1 hw1)
  obtain ⟨y0, y1, y2⟩ := cells3 (hw1.keeps (by decide) HNE.out HX0.out)
  clear x0 x1 x2 HX0 HW0 HS0 HR hb1 hw1
  by_cases hm0 : m = 0
  · subst hm0
    obtain rfl := List.eq_nil_of_length_eq_zero hxl
    have e0 : (((0 : Nat) : Int) == 0) = true := rfl
    have HE := Lib.hid (show Shown b (l ++ Ty.text (.mk s [] o)) w1 by rw [HA.out]; exact HS1.out)
    go_wp2_with fail
    refine bodyPost_ret (results_none rfl _ _ _) rfl ?_
    exact ⟨rfl, HE.out, HW1.out⟩
  · have e0 : ((m : Int) == 0) = false := by simp; omega
    go_wp2_with fail
    go_loopw [4, 17] (fun v i wr => ∃ k : Nat, k ≤ m ∧ i = .int .i64 k ∧ v = .string (sepAt k) ∧ Shown b (l ++ pre s.data.toList (xs.take k)) wr ∧ Wrote b w wr) (fun _ i _ => m - (intOf i).toNat)
    case atStart => exact ⟨0, by omega, rfl, rfl, by simpa [pre] using HS1.out, HW1.out⟩
    case round =>
      obtain ⟨k, hk, rfl, rfl, hsk, hwk⟩ := hrel
      have z0 : (0 : Int) ≤ k := by omega
      have hpk := pre_le s.data.toList xs k
      have HSK := Lib.hid hsk
      have HWK := Lib.hid hwk
      by_cases hlt : k < m
      · have z1 : (k : Int) < m := by omega
        obtain ⟨a, u, ys, p, B, n, d, rfl, hx, _, a0, a1, a2, hu, hl⟩ := Lies.get (LiesN.later H.out hwk.1 (fun _ h => h)) hlt
        have hst := pre_step s.data.toList hx
        have hpk2 := pre_le s.data.toList xs (k + 1)
        have HX := Lib.hid (heap_last wr (.cells #[.string u, .slice B n d, .int .i64 p] 24))
        have HNE2 := Lib.hid (show wr.heap.size ≠ b by have := (Array.getElem?_eq_some_iff.1 hsk.var).1; omega)
        have HSA := Lib.hid (hsk.alloc (.cells #[.string u, .slice B n d, .int .i64 p] 24))
        have HWA := Lib.hid (hwk.alloc hsk.le (.cells #[.string u, .slice B n d, .int .i64 p] 24))
        have hlen : (l ++ pre s.data.toList (xs.take k)).length + (sepAt k).size ≤ 1000000000 := by have := sepAt_size k; have := HT.out; have := HP.out; simp only [List.length_append]; omega
        have C := Lib.hid (writeString_any b _ (sepAt k) _ HSA.out.bld hlen)
        have D := Lib.hid (fun (V : World) (hV : Wrote b wr V) (hq : Shown b (l ++ pre s.data.toList (xs.take k) ++ (sepAt k).data.toList) V) => IH.out _ (List.mem_of_getElem? hx) B n d _ V (by
          have h1 := HT.out; have h2 := HP.out
          rw [hst] at hpk2
          rw [sepAt_data]
          simp only [List.length_append] at hpk2 ⊢
          omega) hq (hl.later hV.1 (fun _ h => h)))
        simp only [Ty.name, Ty.off] at D
        obtain ⟨x0, x1, x2⟩ := cells3 HX.out
        have HST := Lib.hid hst
        have HA0 := Lib.hid (show Wrote b wr (wr.alloc (.cells #[.string u, .slice B n d, .int .i64 p] 24)) from (Wrote.refl b wr).alloc hsk.le _)
        clear hx hl hst hpk hpk2 hsk hwk hlen y0 y1 y2
        go_wp2_with fail
        refine C.out.mono ?_
        rintro e w2 ⟨rfl, hb2, hw2⟩
        have HS2 := Lib.hid (HSA.out.wrote hb2 hw2)
        have HW2 := Lib.hid (HWA.out.trans hw2)
        obtain ⟨y0, y1, y2⟩ := cells3 (hw2.keeps (by decide) HNE2.out HX.out)
        have v0 := HS2.out.cell
        have D2 := Lib.hid (D.out w2 (HA0.out.trans hw2) HS2.out)
        clear x0 x1 x2 a0 a1 a2 C D HSA HWA hb2 hw2 HX
        go_wp2_with fail
        refine D2.out.mono ?_
        rintro e w3 ⟨rfl, hs3, hw3⟩
        have HS3 := Lib.hid hs3
        have HW3 := Lib.hid (HW2.out.trans hw3)
        clear hs3 hw3 y0 y1 y2 v0 D2
        go_wp2_with fail
        go_roundw
        case rel => exact ⟨k + 1, by omega, by go_num, by simp [sepAt], by rw [HST.out, ← sepAt_data]; simpa only [List.append_assoc] using HS3.out, HW3.out⟩
        case measure => simp [intOf]; omega
      · have z1 : (m : Int) ≤ k := by omega
        have hjk : xs.take k = xs := List.take_of_length_le (by omega)
        rw [hjk] at hsk
        have C := Lib.hid (writeString_any b _ ⟨#[93]⟩ _ hsk.bld (by have := HT.out; have := HP.out; simp only [List.length_append]; rw [show (ByteArray.mk #[93]).size = 1 from rfl]; omega))
        have HS2 := Lib.hid hsk
        have HAA := Lib.hid (show Ty.text (.mk s xs o) = pre s.data.toList xs ++ [93] by rw [HA.out, if_neg (by omega)])
        clear hsk hwk hpk y0 y1 y2
        go_wp2_with fail
        refine C.out.mono ?_
        rintro e w2 ⟨rfl, hb2, hw2⟩
        have HS3 := Lib.hid (HS2.out.wrote hb2 hw2)
        have HW3 := Lib.hid (HWK.out.trans hw2)
        clear hb2 hw2
        go_wp2_with fail
        go_end0
        exact ⟨rfl, by rw [HAA.out, ← List.append_assoc]; exact HS3.out, HW3.out⟩

/-- The world in which Text calls its closure first. -/
def TextW (w : World) (s : ByteArray) (A : Option Addr) (m c : Nat) (o : Int) : World :=
  ((w.alloc (.cells #[.string s, .slice A m c, .int .i64 o] 24)).alloc (.cells #[.pointer none, .slice none 0 0] 52)).alloc (.cells #[.func (.func 36) #[] #[.pointer (some ⟨w.heap.size + 1, 0, none⟩), .pointer (some ⟨w.heap.size + 1 + 1, 0, none⟩)]] 53)
theorem textW (w : World) (s : ByteArray) (A : Option Addr) (m c : Nat) (o : Int) : Shown (w.heap.size + 1) [] (TextW w s A m c o) ∧ Below w.heap.size w (TextW w s A m c o) ∧ (TextW w s A m c o).heap[w.heap.size]? = some (.cells #[.string s, .slice A m c, .int .i64 o] 24 (0, 0)) := by
  have hx := heap_prev (heap_prev (heap_last w (.cells #[.string s, .slice A m c, .int .i64 o] 24)) (.cells #[.pointer none, .slice none 0 0] 52)) (.cells #[.func (.func 36) #[] #[.pointer (some ⟨w.heap.size + 1, 0, none⟩), .pointer (some ⟨w.heap.size + 1 + 1, 0, none⟩)]] 53)
  have hf := Lib.fresh_isBuilder 52 5 (w.alloc (.cells #[.string s, .slice A m c, .int .i64 o] 24))
  have hv := heap_last ((w.alloc (.cells #[.string s, .slice A m c, .int .i64 o] 24)).alloc (.cells #[.pointer none, .slice none 0 0] 52)) (.cells #[.func (.func 36) #[] #[.pointer (some ⟨w.heap.size + 1, 0, none⟩), .pointer (some ⟨w.heap.size + 1 + 1, 0, none⟩)]] 53)
  rw [show (w.alloc (.cells #[.string s, .slice A m c, .int .i64 o] 24)).heap.size = w.heap.size + 1 by simp] at hf
  rw [show ((w.alloc (.cells #[.string s, .slice A m c, .int .i64 o] 24)).alloc (.cells #[.pointer none, .slice none 0 0] 52)).heap.size = w.heap.size + 1 + 1 by simp] at hv
  exact ⟨⟨(Lib.IsBuilderF.of hf).alloc _, hv⟩, (((Below.refl _ _).alloc (Nat.le_refl _) _).alloc (by simp) _).alloc (by simp; omega) _, hx⟩

set_option maxRecDepth 100000 in
set_option maxHeartbeats 4000000 in
theorem text_any (t : Ty) (A : Option Addr) (m c : Nat) (w : World) (hs : t.text.length ≤ 1000000) (h : Here w A m t.args) :
    Calls Tryd.prog 14 #[.agg #[.string t.name, .slice A m c, .int .i64 t.off]] w (TxtPost w t.text) := by
  obtain ⟨hsh, hb, hx⟩ := textW w t.name A m c t.off
  have hl : Lies (TextW w t.name A m c t.off) (· < w.heap.size + 1) A m t.args := (LiesN.later h hb (fun _ h => h)).wide (fun _ h => Nat.lt_succ_of_lt h)
  have C := Lib.hid (show_any (w.heap.size + 1) t A m c [] _ (by simp; omega) hsh hl)
  have HX := Lib.hid (cells3 hx)
  have HV := Lib.hid hsh.cell
  have HB := Lib.hid hb
  clear hx hsh hb hl h
  unfold TextW at *
  obtain ⟨x0, x1, x2⟩ := HX.out
  have v0 := HV.out
  go_enter Tryd.func14, Tryd.ntmps14
  go_wp2_with fail
  refine C.out.mono ?_
  rintro e w1 ⟨rfl, hs1, hw1⟩
  have HB1 := Lib.hid (HB.out.trans (hw1.1.mono (Nat.le_succ _)))
  have D := Lib.hid (Tryd.Builder_String_any_k (w.heap.size + 1) (w.heap.size + 1) _ _ hs1.bld (by have := hs1.le; omega))
  clear hs1 hw1 C x0 x1 x2 v0 HX HV
  go_wp2_with fail
  refine D.out.mono ?_
  rintro e w2 ⟨rfl, _, hb2, _⟩
  have HB2 := Lib.hid (HB1.out.trans (hb2.mono (Nat.le_succ _)))
  clear hb2
  go_wp2_with fail
  go_ret
  exact ⟨by simp, HB2.out⟩
end Go.Proofs.YtioamnaknjhbpaaDoor
