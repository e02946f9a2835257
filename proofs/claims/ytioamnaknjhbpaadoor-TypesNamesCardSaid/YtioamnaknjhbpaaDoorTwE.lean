/- The walks of (*strings.Builder).copyCheck and WriteString, of a builder that the call has made; and what String gives. No condition but the model's own on lengths. -/
import Derived.Test.YtioamnaknjhbpaaDoorBs
import Derived.Test.YtioamnaknjhbpaaDoorShelf
import Derived.Shelf.Strings.BuilderK
namespace Go.Proofs.YtioamnaknjhbpaaDoor
open Go.RowKit

abbrev Bld (b : Nat) (l : List UInt8) (w : World) : Prop := Lib.IsBuilderF 52 5 b b (Lib.byteCells l) w
/-- A builder that was written into: its own address lies in it. -/
abbrev BldU (b : Nat) (bs : List Value) (w : World) : Prop := Lib.BuilderAtF 52 5 b b (.pointer (some ⟨b, 0, none⟩)) bs w
/-- What a writing method does to the world. -/
def Wrote (b : Nat) (w w' : World) : Prop := Below b w w' ∧ Lib.OthersKept 5 (some b) w w'
theorem Wrote.refl (b : Nat) (w : World) : Wrote b w w := ⟨Below.refl _ _, Lib.OthersKept.refl _ _ _⟩
theorem Wrote.trans {b : Nat} {u v w : World} (h : Wrote b u v) (k : Wrote b v w) : Wrote b u w := ⟨h.1.trans k.1, h.2.trans k.2⟩
theorem Wrote.alloc {b : Nat} {u v : World} (h : Wrote b u v) (hb : b ≤ v.heap.size) (o : Obj) : Wrote b u (v.alloc o) := ⟨h.1.alloc hb o, h.2.alloc o⟩

theorem infoByte : (Tryd.prog.info? 5).map (fun i => (i.zero, i.size, i.bytes)) = some (some (.int .u8 0), 1, 1) := by kernel_rfl

theorem sizeBld : (Tryd.prog.info? 52).map (·.size) = some 2 := by kernel_rfl
theorem liesBld : liesAt Tryd.prog Tryd.prog.depth 52 (2 / Tryd.prog.cellsOf 52) 0 52 1 = true := by kernel_rfl

set_option maxRecDepth 100000 in
set_option maxHeartbeats 2000000 in
theorem copyCheck_any (b : Nat) (bs : List Value) (w : World) (h : Lib.IsBuilderF 52 5 b b bs w) :
    Calls Tryd.prog 47 #[.pointer (some ⟨b, 0, none⟩)] w fun e w' => e = .returned (.tuple #[]) ∧ BldU b bs w' ∧ Wrote b w w' := by
  obtain ⟨j, hj, hjs⟩ := Option.map_eq_some_iff.1 sizeBld
  rcases h with h | h
  · have c0 := h.cell0
    have f0 := h.frozen0
    have HW := Lib.hid (show BldU b bs (w.setCell ⟨b, 0, none⟩ (.pointer (some ⟨b, 0, none⟩))) ∧ Wrote b w (w.setCell ⟨b, 0, none⟩ (.pointer (some ⟨b, 0, none⟩))) from
      ⟨h.used _, (Below.refl b w).setCell (p := ⟨b, 0, none⟩) h.1 _, (Lib.OthersKept.refl _ _ w).setCell ⟨b, 0, none⟩ rfl _⟩)
    have hsh := h.shape
    clear h
    go_enter Tryd.func47, Tryd.ntmps47
    go_wp2
    rw [Lib.run_to_unsafe w ⟨b, 0, none⟩ Tryd.underlying49 Tryd.underlying72 hj (by rw [hjs]; decide) hsh (Nat.zero_lt_succ 1)]
    simp only [Result.andThen]
    rw [Oper.upon_value]
    go_wp2
    rw [run_callFunc_extern Tryd.func57 (by kernel_rfl) (by kernel_rfl) (by kernel_rfl) (e := Extern.AbiNoEscape.same) (by kernel_rfl)]
    rw [Lib.run_noEscape]
    simp only [Result.andThen]
    rw [Oper.upon_value]
    go_wp2
    rw [Lib.run_from_unsafe w ⟨b, 0, none⟩ Tryd.underlying72 Tryd.underlying49 hj hsh liesBld]
    simp only [Result.andThen]
    rw [Oper.upon_value]
    go_wp2
    go_end0
    exact ⟨rfl, HW.out⟩
  · have c0 := h.cell0
    have HW := Lib.hid (And.intro h (Wrote.refl b w))
    clear h
    go_enter Tryd.func47, Tryd.ntmps47
    go_wp2
    rw [Lib.run_neq_ptr_same _ _ Tryd.underlying49 hj]
    go_wp2
    go_end0
    exact ⟨rfl, HW.out⟩

theorem Wrote.grown {b : Nat} {u v v' : World} {n : Nat} {x : Value} {bs : List Value} (h : Wrote b u v) (hown : v.ownsRowF b 5 1 x n bs) (hg : v.grownBy v' x.ownBlock) (hb : b ≤ v.heap.size) : Wrote b u v' :=
  ⟨h.1.grown hg hb fun k hk => (hown.lt k hk).1, h.2.grown hg (Lib.ownsRowF_kind hown)⟩
theorem Wrote.setCell {b : Nat} {u v : World} (h : Wrote b u v) (k : Nat) (x : Value) : Wrote b u (v.setCell ⟨b, k, none⟩ x) := ⟨h.1.setCell (p := ⟨b, k, none⟩) (Nat.le_refl _) _, h.2.setCell ⟨b, k, none⟩ rfl _⟩

/-- The slice of a builder's bytes, as a value. -/
theorem slice_of_ownF {w : World} {b n : Nat} {v : Value} {bs : List Value} (h : w.ownsRowF b 5 1 v n bs) : ∃ ao k cap, v = .slice ao k cap := by
  rcases h.2 with ⟨hv, _⟩ | ⟨g, cap, cur, fz, hv, _⟩
  · exact ⟨_, _, _, hv⟩
  · exact ⟨_, _, _, hv⟩

set_option maxRecDepth 100000 in
set_option maxHeartbeats 2000000 in
theorem writeString_any (b : Nat) (l : List UInt8) (s : ByteArray) (w : World) (h : Bld b l w) (hlen : l.length + s.size ≤ 1000000000) :
    Calls Tryd.prog 37 #[.pointer (some ⟨b, 0, none⟩), .string s] w fun e w' => e = .returned (.tuple #[.int .i64 s.size, .nilIface]) ∧ Bld b (l ++ s.data.toList) w' ∧ Wrote b w w' := by
  obtain ⟨i0, hi, hz0, hz1, hz2⟩ := info_parts infoByte
  have hl : (Lib.byteCells l).length = l.length := Lib.byteCells_length l
  go_enter Tryd.func37, Tryd.ntmps37
  go_wp2_with fail
  refine (copyCheck_any b _ w h).mono ?_
  rintro e w1 ⟨rfl, ⟨hB, v, hbk, hown, hne⟩, hk1⟩
  have hlt : b < w1.heap.size := (Array.getElem?_eq_some_iff.1 hbk).1
  have c0 : w1.cell? ⟨b, 0, none⟩ = some (.pointer (some ⟨b, 0, none⟩)) := by rw [Lib.cell_of_heap hbk]; rfl
  have c1 : w1.cell? ⟨b, 1, none⟩ = some v := by rw [Lib.cell_of_heap hbk]; rfl
  have HB := Lib.hid hbk
  have HN := Lib.hid hne
  have HK := Lib.hid hk1
  clear h hbk hne hk1
  go_wp2_with (at_builtin; refine Lib.wpList_append_own_stringF _ rfl _ _ 50 9 rfl b 5 i0 Tryd.underlying50 Tryd.underlying9 hi hz0 hz1 hz2 _ _ _ rfl hown s rfl (by unfold maxLen; omega) (by omega) (by omega) ?_)
  intro v' w2 hown' hgrow _
  have HO := Lib.hid hown'
  obtain ⟨ao, k, cap, rfl⟩ := slice_of_ownF hown'
  have hb2 : w2.heap[b]? = some (.cells #[.pointer (some ⟨b, 0, none⟩), v] 52 (0, 0)) := by
    rw [hgrow.block b hlt (fun e => HN.out e.symm)]
    exact HB.out
  have d0 : w2.cell? ⟨b, 0, none⟩ = some (.pointer (some ⟨b, 0, none⟩)) := by rw [Lib.cell_of_heap hb2]; rfl
  have d1 : w2.cell? ⟨b, 1, none⟩ = some v := by rw [Lib.cell_of_heap hb2]; rfl
  have f1 : w2.frozen? ⟨b, 1, none⟩ = false := Lib.frozen_of_heap hb2 1
  have HW := Lib.hid ((HK.out.grown hown hgrow (by omega)).setCell 1 (.slice ao k cap))
  have HP := Lib.hid (Lib.BuilderAtF.put (T := 52) (e := 5) hB hb2 (bs' := Lib.byteCells (l ++ s.data.toList)) (by rw [Lib.byteCells_append, ← Lib.strCells_eq]; simpa [Lib.strCells_length, hl] using hown') (by decide))
  clear hgrow hown hown' hb2
  go_wp2
  go_ret2
  exact ⟨rfl, .inr HP.out, HW.out⟩
end Go.Proofs.YtioamnaknjhbpaaDoor
