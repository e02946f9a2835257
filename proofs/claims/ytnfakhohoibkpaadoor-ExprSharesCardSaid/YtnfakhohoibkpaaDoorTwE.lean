/- The walks of a builder's WriteString and of types.Text. -/
import Derived.Test.YtnfakhohoibkpaaDoorBs
import Derived.Test.YtnfakhohoibkpaaDoorShelf
import Derived.Shelf.Strings.BuilderK
import Derived.Test.YtnfakhohoibkpaaDoorTwA
import Derived.Laws.Sem
namespace Go.Proofs.YtnfakhohoibkpaaDoor
open Go.RowKit

abbrev Bld (b : Nat) (l : List UInt8) (w : World) : Prop := Lib.IsBuilderF 57 5 b b (Lib.byteCells l) w
/-- A builder that was written into: its own address lies in it. -/
abbrev BldU (b : Nat) (bs : List Value) (w : World) : Prop := Lib.BuilderAtF 57 5 b b (.pointer (some ⟨b, 0, none⟩)) bs w
/-- What a writing method does to the world. -/
def Wrote (b : Nat) (w w' : World) : Prop := Below b w w' ∧ Lib.OthersKept 5 (some b) w w'
theorem Wrote.refl (b : Nat) (w : World) : Wrote b w w := ⟨Below.refl _ _, Lib.OthersKept.refl _ _ _⟩
theorem Wrote.trans {b : Nat} {u v w : World} (h : Wrote b u v) (k : Wrote b v w) : Wrote b u w := ⟨h.1.trans k.1, h.2.trans k.2⟩
theorem Wrote.alloc {b : Nat} {u v : World} (h : Wrote b u v) (hb : b ≤ v.heap.size) (o : Obj) : Wrote b u (v.alloc o) := ⟨h.1.alloc hb o, h.2.alloc o⟩

theorem infoByte : (Tryd.prog.info? 5).map (fun i => (i.zero, i.size, i.bytes)) = some (some (.int .u8 0), 1, 1) := by kernel_rfl

theorem sizeBld : (Tryd.prog.info? 57).map (·.size) = some 2 := by kernel_rfl
theorem liesBld : liesAt Tryd.prog Tryd.prog.depth 57 (2 / Tryd.prog.cellsOf 57) 0 57 1 = true := by kernel_rfl

set_option maxRecDepth 100000 in
set_option maxHeartbeats 2000000 in
theorem copyCheck_any (b : Nat) (bs : List Value) (w : World) (h : Lib.IsBuilderF 57 5 b b bs w) :
    Calls Tryd.prog 83 #[.pointer (some ⟨b, 0, none⟩)] w fun e w' => e = .returned (.tuple #[]) ∧ BldU b bs w' ∧ Wrote b w w' := by
  obtain ⟨j, hj, hjs⟩ := Option.map_eq_some_iff.1 sizeBld
  rcases h with h | h
  · have c0 := h.cell0
    have f0 := h.frozen0
    have HW := Lib.hid (show BldU b bs (w.setCell ⟨b, 0, none⟩ (.pointer (some ⟨b, 0, none⟩))) ∧ Wrote b w (w.setCell ⟨b, 0, none⟩ (.pointer (some ⟨b, 0, none⟩))) from
      ⟨h.used _, (Below.refl b w).setCell (p := ⟨b, 0, none⟩) h.1 _, (Lib.OthersKept.refl _ _ w).setCell ⟨b, 0, none⟩ rfl _⟩)
    have hsh := h.shape
    clear h
    go_enter Tryd.func83, Tryd.ntmps83
    go_wp2
    rw [Lib.run_to_unsafe w ⟨b, 0, none⟩ Tryd.underlying54 Tryd.underlying100 hj (by rw [hjs]; decide) hsh (Nat.zero_lt_succ 1)]
    simp only [Result.andThen]
    rw [Oper.upon_value]
    go_wp2
    rw [run_callFunc_extern Tryd.func88 (by kernel_rfl) (by kernel_rfl) (by kernel_rfl) (e := Extern.AbiNoEscape.same) (by kernel_rfl)]
    rw [Lib.run_noEscape]
    simp only [Result.andThen]
    rw [Oper.upon_value]
    go_wp2
    rw [Lib.run_from_unsafe w ⟨b, 0, none⟩ Tryd.underlying100 Tryd.underlying54 hj hsh liesBld]
    simp only [Result.andThen]
    rw [Oper.upon_value]
    go_wp2
    go_end0
    exact ⟨rfl, HW.out⟩
  · have c0 := h.cell0
    have HW := Lib.hid (And.intro h (Wrote.refl b w))
    clear h
    go_enter Tryd.func83, Tryd.ntmps83
    go_wp2
    rw [Lib.run_neq_ptr_same _ _ Tryd.underlying54 hj]
    go_wp2
    go_end0
    exact ⟨rfl, HW.out⟩

theorem Wrote.grown {b : Nat} {u v v' : World} {n : Nat} {x : Value} {bs : List Value} (h : Wrote b u v) (hown : v.ownsRowF b 5 1 x n bs) (hg : v.grownBy v' x.ownBlock) (hb : b ≤ v.heap.size) : Wrote b u v' :=
  ⟨h.1.grown hg hb fun k hk => (hown.lt k hk).1, h.2.grown hg (Lib.ownsRowF_kind hown)⟩
theorem Wrote.setCell {b : Nat} {u v : World} (h : Wrote b u v) (k : Nat) (x : Value) : Wrote b u (v.setCell ⟨b, k, none⟩ x) := ⟨h.1.setCell (p := ⟨b, k, none⟩) (Nat.le_refl _) _, h.2.setCell ⟨b, k, none⟩ rfl _⟩

/-- The slice of a builder's bytes, as a value. -/
theorem slice_of_ownF {w : World} {b n : Nat} {v : Value} {bs : List Value} (h : w.ownsRowF b 5 1 v n bs) : ∃ ao k cap, v = .slice ao k cap := by
  rcases h.2 with ⟨hv, _⟩ | ⟨g, cap, cur, fz, hv, _⟩
  · exact ⟨_, _, _, hv⟩
  · exact ⟨_, _, _, hv⟩

set_option maxRecDepth 100000 in
set_option maxHeartbeats 2000000 in
theorem writeString_any (b : Nat) (l : List UInt8) (s : ByteArray) (w : World) (h : Bld b l w) (hlen : l.length + s.size ≤ 1000000000) :
    Calls Tryd.prog 67 #[.pointer (some ⟨b, 0, none⟩), .string s] w fun e w' => e = .returned (.tuple #[.int .i64 s.size, .nilIface]) ∧ Bld b (l ++ s.data.toList) w' ∧ Wrote b w w' := by
  obtain ⟨i0, hi, hz0, hz1, hz2⟩ := info_parts infoByte
  have hl : (Lib.byteCells l).length = l.length := Lib.byteCells_length l
  go_enter Tryd.func67, Tryd.ntmps67
  go_wp2_with fail
  refine (copyCheck_any b _ w h).mono ?_
  rintro e w1 ⟨rfl, ⟨hB, v, hbk, hown, hne⟩, hk1⟩
  have hlt : b < w1.heap.size := (Array.getElem?_eq_some_iff.1 hbk).1
  have c0 : w1.cell? ⟨b, 0, none⟩ = some (.pointer (some ⟨b, 0, none⟩)) := by rw [Lib.cell_of_heap hbk]; rfl
  have c1 : w1.cell? ⟨b, 1, none⟩ = some v := by rw [Lib.cell_of_heap hbk]; rfl
  have HB := Lib.hid hbk
  have HN := Lib.hid hne
  have HK := Lib.hid hk1
  clear h hbk hne hk1
  go_wp2_with (at_builtin; refine Lib.wpList_append_own_stringF _ rfl _ _ 55 9 rfl b 5 i0 Tryd.underlying55 Tryd.underlying9 hi hz0 hz1 hz2 _ _ _ rfl hown s rfl (by unfold maxLen; omega) (by omega) (by omega) ?_)
  intro v' w2 hown' hgrow _
  have HO := Lib.hid hown'
  obtain ⟨ao, k, cap, rfl⟩ := slice_of_ownF hown'
  have hb2 : w2.heap[b]? = some (.cells #[.pointer (some ⟨b, 0, none⟩), v] 57 (0, 0)) := by
    rw [hgrow.block b hlt (fun e => HN.out e.symm)]
    exact HB.out
  have d0 : w2.cell? ⟨b, 0, none⟩ = some (.pointer (some ⟨b, 0, none⟩)) := by rw [Lib.cell_of_heap hb2]; rfl
  have d1 : w2.cell? ⟨b, 1, none⟩ = some v := by rw [Lib.cell_of_heap hb2]; rfl
  have f1 : w2.frozen? ⟨b, 1, none⟩ = false := Lib.frozen_of_heap hb2 1
  have HW := Lib.hid ((HK.out.grown hown hgrow (by omega)).setCell 1 (.slice ao k cap))
  have HP := Lib.hid (Lib.BuilderAtF.put (T := 57) (e := 5) hB hb2 (bs' := Lib.byteCells (l ++ s.data.toList)) (by rw [Lib.byteCells_append, ← Lib.strCells_eq]; simpa [Lib.strCells_length, hl] using hown') (by decide))
  clear hgrow hown hown' hb2
  go_wp2
  go_ret2
  exact ⟨rfl, .inr HP.out, HW.out⟩
end Go.Proofs.YtnfakhohoibkpaaDoor
namespace Go.Proofs.YtnfakhohoibkpaaDoor
open Go.RowKit

theorem run_store_fn {P : Program} {w : World} {a : Addr} {md : Mode} (fn : Fn) (first captured : Array Value) : (store a (.func fn first captured) md).run P w = stored P w a (.func fn first captured) md := run_store P w a _ md rfl
attribute [local go_sem] run_store_fn

theorem cells3 {w : World} {k : Nat} {x y z : Value} {T : TypeId} (h : w.heap[k]? = some (.cells #[x, y, z] T (0, 0))) : w.cell? ⟨k, 0, none⟩ = some x ∧ w.cell? ⟨k, 1, none⟩ = some y ∧ w.cell? ⟨k, 2, none⟩ = some z :=
  ⟨by rw [cell_of_row _ _ 0 _ _ (0, 0) h]; rfl, by rw [cell_of_row _ _ 1 _ _ (0, 0) h]; rfl, by rw [cell_of_row _ _ 2 _ _ (0, 0) h]; rfl⟩
/-- A block that is no row of bytes and not the builder's stays. -/
theorem Wrote.keeps {w w' : World} {b k : Nat} {cs : Array Value} {T : TypeId} (h : Wrote b w w') (hT : T ≠ 5) (hk : k ≠ b) (hb : w.heap[k]? = some (.cells cs T (0, 0))) : w'.heap[k]? = some (.cells cs T (0, 0)) :=
  h.2 k _ hb (by simpa using hk) (fun c fz e => by cases e; exact hT rfl)
theorem heap_last (w : World) (o : Obj) : (w.alloc o).heap[w.heap.size]? = some o := (MapKept.heap_alloc w o).1
theorem heap_prev {w : World} {k : Nat} {o : Obj} (h : w.heap[k]? = some o) (o' : Obj) : (w.alloc o').heap[k]? = some o :=
  (((Below.refl _ _).alloc (Nat.le_refl _) o' : Below w.heap.size w (w.alloc o')).block _ (Array.getElem?_eq_some_iff.1 h).1).trans h

/-- What the walk of the closure carries: the builder holds these bytes; the closure lies in its variable. -/
structure Shown (b : Nat) (l : List UInt8) (w : World) : Prop where
  bld : Bld b l w
  var : w.heap[b + 1]? = some (.cells #[.func (.func 84) #[] #[.pointer (some ⟨b, 0, none⟩), .pointer (some ⟨b + 1, 0, none⟩)]] 94 (0, 0))
theorem Shown.alloc {b : Nat} {l : List UInt8} {w : World} (h : Shown b l w) (o : Obj) : Shown b l (w.alloc o) := ⟨h.bld.alloc o, heap_prev h.var o⟩
theorem Shown.cell {b : Nat} {l : List UInt8} {w : World} (h : Shown b l w) : w.cell? ⟨b + 1, 0, none⟩ = some (.func (.func 84) #[] #[.pointer (some ⟨b, 0, none⟩), .pointer (some ⟨b + 1, 0, none⟩)]) := by
  rw [cell_of_row _ _ 0 _ _ (0, 0) h.var]; rfl
theorem Shown.le {b : Nat} {l : List UInt8} {w : World} (h : Shown b l w) : b ≤ w.heap.size := by
  have := (Array.getElem?_eq_some_iff.1 h.var).1
  omega
theorem Shown.wrote {b : Nat} {l l' : List UInt8} {w w' : World} (h : Shown b l w) (hb : Bld b l' w') (hw : Wrote b w w') : Shown b l' w' :=
  ⟨hb, hw.keeps (by decide) (by omega) h.var⟩

/-- What stands ahead of the k-th argument. -/
def sepAt (k : Nat) : ByteArray := if k = 0 then ⟨#[91]⟩ else ⟨#[44, 32]⟩
theorem sepAt_data (k : Nat) : (sepAt k).data.toList = if k = 0 then [91] else [44, 32] := by unfold sepAt; split <;> rfl
theorem sepAt_size (k : Nat) : (sepAt k).size ≤ 2 := by unfold sepAt; split <;> decide

/-- What the closure leaves. -/
def ShowPost (w : World) (b : Nat) (l : List UInt8) (e : Ending) (w' : World) : Prop := e = .returned (.tuple #[]) ∧ Shown b l w' ∧ Wrote b w w'

set_option maxRecDepth 100000 in
set_option maxHeartbeats 8000000 in
theorem show_any (b : Nat) : ∀ (t : Ty) (A : Option Addr) (m c : Nat) (l : List UInt8) (w : World), l.length + t.text.length ≤ 100000000 → Shown b l w → Lies w (· < b) A m t.args →
    Calls Tryd.prog 84 #[.agg #[.string t.name, .slice A m c, .int .i64 t.off], .pointer (some ⟨b, 0, none⟩), .pointer (some ⟨b + 1, 0, none⟩)] w (ShowPost w b (l ++ t.text)) := by
  refine Ty.ind fun s xs o ih A m c l w hs hsh h => ?_
  simp only [Ty.name, Ty.args, Ty.off] at h ⊢
  have hm : (m : Int) ≤ 9223372036854775807 := by have := h.le; omega
  have hxl := h.len
  have hp := text_pre s xs o
  have hps := Lib.size_eq s
  have hp0 : s.data.toList.length ≤ (pre s.data.toList xs).length := by have := pre_le s.data.toList xs 0; simpa [pre] using this
  have IH := Lib.hid ih
  have H := Lib.hid h
  have HT := Lib.hid hs
  have HP := Lib.hid hp
  have HA := Lib.hid (pre_all s xs o)
  have HW0 := Lib.hid ((Wrote.refl b w).alloc hsh.le (.cells #[.string s, .slice A m c, .int .i64 o] 24))
  have HS0 := Lib.hid (hsh.alloc (.cells #[.string s, .slice A m c, .int .i64 o] 24))
  have HX0 := Lib.hid (heap_last w (.cells #[.string s, .slice A m c, .int .i64 o] 24))
  have HNE := Lib.hid (show w.heap.size ≠ b by have := (Array.getElem?_eq_some_iff.1 hsh.var).1; omega)
  have hwr := writeString_any b l s _ HS0.out.bld (by omega)
  have HR := Lib.hid hwr
  obtain ⟨x0, x1, x2⟩ := cells3 HX0.out
  clear ih h hs hp hsh hwr
  go_enter Tryd.func84, Tryd.ntmps84
  go_wp2_with fail
  refine HR.out.mono ?_
  rintro e w1 ⟨rfl, hb1, hw1⟩
  have HW1 := Lib.hid (HW0.out.trans hw1)
  have HS1 := Lib.hid (HS0.out.wrote hb1 hw1)
  obtain ⟨y0, y1, y2⟩ := cells3 (hw1.keeps (by decide) HNE.out HX0.out)
  clear x0 x1 x2 HX0 HW0 HS0 HR hb1 hw1
  by_cases hm0 : m = 0
  · subst hm0
    obtain rfl := List.eq_nil_of_length_eq_zero hxl
    have e0 : (((0 : Nat) : Int) == 0) = true := rfl
    have HE := Lib.hid (show Shown b (l ++ Ty.text (.mk s [] o)) w1 by rw [HA.out]; exact HS1.out)
    go_wp2_with fail
    refine bodyPost_ret (results_none rfl _ _ _) rfl ?_
    exact ⟨rfl, HE.out, HW1.out⟩
  · have e0 : ((m : Int) == 0) = false := by simp; omega
    go_wp2_with fail
    go_loopw [4, 17] (fun v i wr => ∃ k : Nat, k ≤ m ∧ i = .int .i64 k ∧ v = .string (sepAt k) ∧ Shown b (l ++ pre s.data.toList (xs.take k)) wr ∧ Wrote b w wr) (fun _ i _ => m - (intOf i).toNat)
    case atStart => exact ⟨0, by omega, rfl, rfl, by simpa [pre] using HS1.out, HW1.out⟩
    case round =>
      obtain ⟨k, hk, rfl, rfl, hsk, hwk⟩ := hrel
      have z0 : (0 : Int) ≤ k := by omega
      have hpk := pre_le s.data.toList xs k
      have HSK := Lib.hid hsk
      have HWK := Lib.hid hwk
      by_cases hlt : k < m
      · have z1 : (k : Int) < m := by omega
        obtain ⟨a, u, ys, p, B, n, d, rfl, hx, _, a0, a1, a2, hu, hl⟩ := Lies.get (LiesN.later H.out hwk.1 (fun _ h => h)) hlt
        have hst := pre_step s.data.toList hx
        have hpk2 := pre_le s.data.toList xs (k + 1)
        have HX := Lib.hid (heap_last wr (.cells #[.string u, .slice B n d, .int .i64 p] 24))
        have HNE2 := Lib.hid (show wr.heap.size ≠ b by have := (Array.getElem?_eq_some_iff.1 hsk.var).1; omega)
        have HSA := Lib.hid (hsk.alloc (.cells #[.string u, .slice B n d, .int .i64 p] 24))
        have HWA := Lib.hid (hwk.alloc hsk.le (.cells #[.string u, .slice B n d, .int .i64 p] 24))
        have hlen : (l ++ pre s.data.toList (xs.take k)).length + (sepAt k).size ≤ 1000000000 := by have := sepAt_size k; have := HT.out; have := HP.out; simp only [List.length_append]; omega
        have C := Lib.hid (writeString_any b _ (sepAt k) _ HSA.out.bld hlen)
        have D := Lib.hid (fun (V : World) (hV : Wrote b wr V) (hq : Shown b (l ++ pre s.data.toList (xs.take k) ++ (sepAt k).data.toList) V) => IH.out _ (List.mem_of_getElem? hx) B n d _ V (by
          have h1 := HT.out; have h2 := HP.out
          rw [hst] at hpk2
          rw [sepAt_data]
          simp only [List.length_append] at hpk2 ⊢
          omega) hq (hl.later hV.1 (fun _ h => h)))
        simp only [Ty.name, Ty.off] at D
        obtain ⟨x0, x1, x2⟩ := cells3 HX.out
        have HST := Lib.hid hst
        have HA0 := Lib.hid (show Wrote b wr (wr.alloc (.cells #[.string u, .slice B n d, .int .i64 p] 24)) from (Wrote.refl b wr).alloc hsk.le _)
        clear hx hl hst hpk hpk2 hsk hwk hlen y0 y1 y2
        go_wp2_with fail
        refine C.out.mono ?_
        rintro e w2 ⟨rfl, hb2, hw2⟩
        have HS2 := Lib.hid (HSA.out.wrote hb2 hw2)
        have HW2 := Lib.hid (HWA.out.trans hw2)
        obtain ⟨y0, y1, y2⟩ := cells3 (hw2.keeps (by decide) HNE2.out HX.out)
        have v0 := HS2.out.cell
        have D2 := Lib.hid (D.out w2 (HA0.out.trans hw2) HS2.out)
        clear x0 x1 x2 a0 a1 a2 C D HSA HWA hb2 hw2 HX
        go_wp2_with fail
        refine D2.out.mono ?_
        rintro e w3 ⟨rfl, hs3, hw3⟩
        have HS3 := Lib.hid hs3
        have HW3 := Lib.hid (HW2.out.trans hw3)
        clear hs3 hw3 y0 y1 y2 v0 D2
        go_wp2_with fail
        go_roundw
        case rel => exact ⟨k + 1, by omega, by go_num, by simp [sepAt], by rw [HST.out, ← sepAt_data]; simpa only [List.append_assoc] using HS3.out, HW3.out⟩
        case measure => simp [intOf]; omega
      · have z1 : (m : Int) ≤ k := by omega
        have hjk : xs.take k = xs := List.take_of_length_le (by omega)
        rw [hjk] at hsk
        have C := Lib.hid (writeString_any b _ ⟨#[93]⟩ _ hsk.bld (by have := HT.out; have := HP.out; simp only [List.length_append]; rw [show (ByteArray.mk #[93]).size = 1 from rfl]; omega))
        have HS2 := Lib.hid hsk
        have HAA := Lib.hid (show Ty.text (.mk s xs o) = pre s.data.toList xs ++ [93] by rw [HA.out, if_neg (by omega)])
        clear hsk hwk hpk y0 y1 y2
        go_wp2_with fail
        refine C.out.mono ?_
        rintro e w2 ⟨rfl, hb2, hw2⟩
        have HS3 := Lib.hid (HS2.out.wrote hb2 hw2)
        have HW3 := Lib.hid (HWK.out.trans hw2)
        clear hb2 hw2
        go_wp2_with fail
        go_end0
        exact ⟨rfl, by rw [HAA.out, ← List.append_assoc]; exact HS3.out, HW3.out⟩

/-- The world in which Text calls its closure first. -/
def TextW (w : World) (s : ByteArray) (A : Option Addr) (m c : Nat) (o : Int) : World :=
  ((w.alloc (.cells #[.string s, .slice A m c, .int .i64 o] 24)).alloc (.cells #[.pointer none, .slice none 0 0] 57)).alloc (.cells #[.func (.func 84) #[] #[.pointer (some ⟨w.heap.size + 1, 0, none⟩), .pointer (some ⟨w.heap.size + 1 + 1, 0, none⟩)]] 94)
theorem textW (w : World) (s : ByteArray) (A : Option Addr) (m c : Nat) (o : Int) : Shown (w.heap.size + 1) [] (TextW w s A m c o) ∧ Below w.heap.size w (TextW w s A m c o) ∧ (TextW w s A m c o).heap[w.heap.size]? = some (.cells #[.string s, .slice A m c, .int .i64 o] 24 (0, 0)) := by
  have hx := heap_prev (heap_prev (heap_last w (.cells #[.string s, .slice A m c, .int .i64 o] 24)) (.cells #[.pointer none, .slice none 0 0] 57)) (.cells #[.func (.func 84) #[] #[.pointer (some ⟨w.heap.size + 1, 0, none⟩), .pointer (some ⟨w.heap.size + 1 + 1, 0, none⟩)]] 94)
  have hf := Lib.fresh_isBuilder 57 5 (w.alloc (.cells #[.string s, .slice A m c, .int .i64 o] 24))
  have hv := heap_last ((w.alloc (.cells #[.string s, .slice A m c, .int .i64 o] 24)).alloc (.cells #[.pointer none, .slice none 0 0] 57)) (.cells #[.func (.func 84) #[] #[.pointer (some ⟨w.heap.size + 1, 0, none⟩), .pointer (some ⟨w.heap.size + 1 + 1, 0, none⟩)]] 94)
  rw [show (w.alloc (.cells #[.string s, .slice A m c, .int .i64 o] 24)).heap.size = w.heap.size + 1 by simp] at hf
  rw [show ((w.alloc (.cells #[.string s, .slice A m c, .int .i64 o] 24)).alloc (.cells #[.pointer none, .slice none 0 0] 57)).heap.size = w.heap.size + 1 + 1 by simp] at hv
  exact ⟨⟨(Lib.IsBuilderF.of hf).alloc _, hv⟩, (((Below.refl _ _).alloc (Nat.le_refl _) _).alloc (by simp) _).alloc (by simp; omega) _, hx⟩

set_option maxRecDepth 100000 in
set_option maxHeartbeats 4000000 in
theorem text_any (t : Ty) (A : Option Addr) (m c : Nat) (w : World) (hs : t.text.length ≤ 1000000) (h : Here w A m t.args) :
    Calls Tryd.prog 68 #[.agg #[.string t.name, .slice A m c, .int .i64 t.off]] w (TxtPost w t.text) := by
  obtain ⟨hsh, hb, hx⟩ := textW w t.name A m c t.off
  have hl : Lies (TextW w t.name A m c t.off) (· < w.heap.size + 1) A m t.args := (LiesN.later h hb (fun _ h => h)).wide (fun _ h => Nat.lt_succ_of_lt h)
  have C := Lib.hid (show_any (w.heap.size + 1) t A m c [] _ (by simp; omega) hsh hl)
  have HX := Lib.hid (cells3 hx)
  have HV := Lib.hid hsh.cell
  have HB := Lib.hid hb
  clear hx hsh hb hl h
  unfold TextW at *
  obtain ⟨x0, x1, x2⟩ := HX.out
  have v0 := HV.out
  go_enter Tryd.func68, Tryd.ntmps68
  go_wp2_with fail
  refine C.out.mono ?_
  rintro e w1 ⟨rfl, hs1, hw1⟩
  have HB1 := Lib.hid (HB.out.trans (hw1.1.mono (Nat.le_succ _)))
  have D := Lib.hid (Tryd.Builder_String_any_k (w.heap.size + 1) (w.heap.size + 1) _ _ hs1.bld (by have := hs1.le; omega))
  clear hs1 hw1 C x0 x1 x2 v0 HX HV
  go_wp2_with fail
  refine D.out.mono ?_
  rintro e w2 ⟨rfl, _, hb2, _⟩
  have HB2 := Lib.hid (HB1.out.trans (hb2.mono (Nat.le_succ _)))
  clear hb2
  go_wp2_with fail
  go_ret
  exact ⟨by simp, HB2.out⟩
end Go.Proofs.YtnfakhohoibkpaaDoor
