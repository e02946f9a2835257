/- The walks of slices.Values at a slice of strings and of types.Names. The condition: the type is small. -/
import Derived.Test.YtioamnaknjhbpaaDoorTyV
import Derived.Test.YtioamnaknjhbpaaDoorTwG
import Derived.RangeFuncKeeps
namespace Go.Proofs.YtioamnaknjhbpaaDoor
open Go.RowKit
attribute [local go_sem] Oper.semAt_some

/-- A slice of strings in a block below n. -/
structure SlB (n : Nat) (w : World) (A : Option Addr) (k : Nat) (ps : List ByteArray) : Prop where
  len : ps.length = k
  at_ : ∀ j p, ps[j]? = some p → ∃ a, A = some a ∧ a.block < n ∧ w.cell? (a.add j) = some (.string p)
theorem SlB.of {w : World} {A : Option Addr} {k : Nat} {ps : List ByteArray} (h : Sl w A k ps) : SlB w.heap.size w A k ps := ⟨h.len, h.at_⟩
theorem SlB.wide {n n' : Nat} {w : World} {A : Option Addr} {k : Nat} {ps : List ByteArray} (h : SlB n w A k ps) (hn : n ≤ n') : SlB n' w A k ps :=
  ⟨h.len, fun j p hj => let ⟨a, e, h1, h2⟩ := h.at_ j p hj; ⟨a, e, Nat.lt_of_lt_of_le h1 hn, h2⟩⟩
theorem SlB.later {n : Nat} {w w' : World} {A : Option Addr} {k : Nat} {ps : List ByteArray} (h : SlB n w A k ps) (hb : Below n w w') : SlB n w' A k ps :=
  ⟨h.len, fun j p hj => let ⟨a, e, h1, h2⟩ := h.at_ j p hj; ⟨a, e, h1, (hb.cell (by rw [block_of_add]; exact h1)).trans h2⟩⟩
theorem SlB.kept {n m : Nat} {w w' : World} {A : Option Addr} {k : Nat} {ps : List ByteArray} (h : SlB n w A k ps) (hk : Keep n m w w') : SlB n w' A k ps :=
  ⟨h.len, fun j p hj => let ⟨a, e, h1, h2⟩ := h.at_ j p hj; ⟨a, e, h1, (hk.2 _ _ (.inl (by rw [block_of_add]; exact h1)) h2).1⟩⟩
theorem take_snoc {ps : List ByteArray} {j : Nat} {s : ByteArray} (h : ps[j]? = some s) : ps.take (j + 1) = ps.take j ++ [s] := by rw [List.take_add_one, h]; rfl

set_option maxRecDepth 100000 in
set_option maxHeartbeats 4000000 in
theorem values_in (l n m d Bs : Nat) (ps : List ByteArray) (A : Option Addr) (k c : Nat) (J Jx : List ByteArray → World → Prop) (W : World) (hk : k ≤ 1000000)
    (hY : ∀ pre x V, J pre V → pre.length < ps.length → YieldAt Fence.wide (d - 1) Tryd.prog l #[.string x] V fun e W' =>
      (e = .returned (.bool true) ∧ J (pre ++ [x]) W' ∧ Keep n m V W') ∨ (e = .returned (.bool false) ∧ Jx (pre ++ [x]) W'))
    (hB : W.cell? ⟨Bs, 0, none⟩ = some (.slice A k c)) (h : SlB n W A k ps) (h0 : J [] W) :
    CallsIn Fence.wide d Tryd.prog 55 #[.func (.yield l) #[] #[], .pointer (some ⟨Bs, 0, none⟩)] W fun e W' => (∃ v, e = .returned v) ∧ ((∃ ys, ys = ps ∧ J ys W') ∨ (∃ pre, pre <+: ps ∧ Jx pre W')) := by
  have hdd : ∀ k : Nat, (Fence.wide.depth.isSome = true → 1 ≤ k) := fun k h => by cases h
  have hkm : (k : Int) ≤ 1000000 := by omega
  have hlen := h.len
  have H := Lib.hid h
  have HY := Lib.hid hY
  have H0 := Lib.hid h0
  clear h hY h0
  refine callsIn_of_wp Tryd.func55 rfl trivial ?_ rfl
  simp only [Tryd.ntmps55, List.size_toArray, List.length_cons, List.length_nil, Nat.reduceAdd, Nat.reduceSub, Array.replicate_succ, Array.replicate_zero, List.push_toArray, List.append_toArray, List.nil_append, List.cons_append]
  gi_wp2
  gi_loopw [7] (fun i wr => ∃ j : Nat, j ≤ k ∧ i = .int .i64 j ∧ J (ps.take j) wr ∧ Keep n m W wr) (fun i _ => k - (intOf i).toNat)
  case atStart => exact ⟨0, by omega, rfl, by simpa using H0.out, Keep.refl _ _ _⟩
  case round =>
    obtain ⟨j, hj, rfl, hjj, hkk⟩ := hrel
    have HKK := Lib.hid hkk
    have y1 : (0 : Int) ≤ j := by omega
    by_cases hlt : j < k
    · have y0 : (j : Int) < k := by omega
      obtain ⟨s, hs⟩ : ∃ s, ps[j]? = some s := ⟨_, List.getElem?_eq_getElem (by omega)⟩
      obtain ⟨a, rfl, _, a0⟩ := (H.out.kept hkk).at_ j s hs
      have hR := HY.out _ s wr hjj (by rw [List.length_take]; omega)
      rw [← take_snoc hs] at hR
      obtain ⟨fn, tmps, assign, body, hy, hR⟩ := hR
      have HR := Lib.hid hR
      have HS := Lib.hid hs
      clear hR hjj hkk hs
      gi_wp2_with (((try refine ⟨hdd _, ?_⟩); refine HR.out.mono ?_; clear HR a0; rintro e W2 (⟨rfl, hJ2, hk2⟩ | ⟨rfl, hx2⟩); have HK2 := Lib.hid (HKK.out.trans hk2); have HJ2 := Lib.hid hJ2; clear hk2 hJ2))
      · go_roundw
        case rel => exact ⟨j + 1, by omega, by go_num, HJ2.out, HK2.out⟩
        case measure => simp [intOf]; omega
      · refine bodyPost_ret (results_none rfl _ _ _) rfl ?_
        exact ⟨⟨_, rfl⟩, .inr ⟨_, List.take_prefix _ _, hx2⟩⟩
    · have y0 : (k : Int) ≤ j := by omega
      have hjk : ps.take j = ps := List.take_of_length_le (by omega)
      rw [hjk] at hjj
      have HJJ := Lib.hid hjj
      clear hjj hkk
      gi_wp2
      go_end0
      exact ⟨⟨_, rfl⟩, .inl ⟨_, rfl, HJJ.out⟩⟩

set_option maxRecDepth 100000 in
set_option maxHeartbeats 1000000 in
theorem namesOk : NamesOk := fun t A k c w hsm h => by
  have hb : Below w.heap.size w (w.alloc (.cells #[.string t.name, .slice A k c, .int .i64 t.off] 24)) := (Below.refl _ _).alloc (Nat.le_refl _) _
  have HB := Lib.hid hb
  obtain ⟨x0, x1, x2⟩ := Box.new w t.name A k c t.off 24
  have hl := hsm.list
  have C := Lib.hid (gather_any t A k c _ (.slice none 0 0) [] (w.alloc (.cells #[.string t.name, .slice A k c, .int .i64 t.off] 24)) (by simp; omega) (Nat.le_refl _) (World.ownsRow_nil _ _ _ _) (Here.later h hb))
  simp only [List.nil_append] at C
  clear hb h
  go_enter Tryd.func28, Tryd.ntmps28
  go_wp2_with fail
  refine C.out.mono ?_
  rintro e w1 ⟨v, rfl, hown, hb1⟩
  have HB1 := Lib.hid (HB.out.trans (hb1.mono HB.out.size))
  obtain ⟨A', c', rfl, hsl⟩ := sl_of_own rfl hown
  have HSL := Lib.hid (SlB.of hsl)
  have hb2 : Below w1.heap.size w1 (w1.alloc (.cells #[.slice A' t.list.length c'] 31)) := (Below.refl _ _).alloc (Nat.le_refl _) _
  have HB2 := Lib.hid (HB1.out.trans (hb2.mono HB1.out.size))
  have HC := Lib.hid (show (w1.alloc (.cells #[.slice A' t.list.length c'] 31)).cell? ⟨w1.heap.size, 0, none⟩ = some (.slice A' t.list.length c') by rw [World.cell?_alloc_at _ _ _ _ rfl]; rfl)
  have HSL2 := Lib.hid (HSL.out.later hb2)
  have HZ := Lib.hid (show w1.heap.size < (w1.alloc (.cells #[.slice A' t.list.length c'] 31)).heap.size by simp)
  clear hown hb1 hsl hb2 x0 x1 x2 C HB1 HSL
  go_wp2
  go_ret
  generalize hW : w1.alloc (.cells #[.slice A' t.list.length c'] 31) = w' at *
  refine ⟨55, #[.pointer (some ⟨w1.heap.size, 0, none⟩)], rfl, HB2.out, enters_of Tryd.func55 (by kernel_rfl) rfl, fun n w2 _ hb2 l J Jx W hWb hJ _ hY h0 => ?_⟩
  have hbw : Below w'.heap.size w' W := hb2.trans (hWb.mono hb2.size)
  exact values_in l w'.heap.size w2.heap.size n w1.heap.size t.list A' t.list.length c' J Jx W (by omega) hY ((hbw.cell (p := ⟨w1.heap.size, 0, none⟩) HZ.out).trans HC.out) ((HSL2.out.wide (Nat.le_of_lt HZ.out)).later hbw) h0
end Go.Proofs.YtioamnaknjhbpaaDoor
