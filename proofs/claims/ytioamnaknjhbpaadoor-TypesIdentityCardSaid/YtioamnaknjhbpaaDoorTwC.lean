/- The walks of types.Depth and types.Size. The condition: the type is small. -/
import Derived.Test.YtioamnaknjhbpaaDoorTwA
namespace Go.Proofs.YtioamnaknjhbpaaDoor
open Go.RowKit

theorem depth_pos (t : Ty) : 1 ≤ t.depth := by cases t; simp only [Ty.depth]; omega

set_option maxRecDepth 100000 in
set_option maxHeartbeats 2000000 in
theorem depth_any : ∀ (t : Ty) (A : Option Addr) (m c : Nat) (w : World), t.depth ≤ 1000000 → Here w A m t.args →
    Calls Tryd.prog 16 #[.agg #[.string t.name, .slice A m c, .int .i64 t.off]] w (NatPost w t.depth) := by
  refine Ty.ind fun s xs o ih A m c w hs h => ?_
  simp only [Ty.name, Ty.args, Ty.off] at h ⊢
  have hb : Below w.heap.size w (w.alloc (.cells #[.string s, .slice A m c, .int .i64 o] 24)) := (Below.refl _ _).alloc (Nat.le_refl _) _
  have hm : (m : Int) ≤ 9223372036854775807 := by have := h.le; omega
  have hxl := h.len
  have IH := Lib.hid ih
  have H := Lib.hid (Here.later h hb)
  have HX := Lib.hid (Box.new w s A m c o 24)
  have HB := Lib.hid hb
  have HD := Lib.hid (show Ty.depth (.mk s xs o) = max 1 (Ty.depthL xs) by rw [Ty.depth])
  rw [HD.out] at hs
  have HT := Lib.hid hs
  obtain ⟨x0, x1, x2⟩ := HX.out
  clear ih h hb hs
  go_enter Tryd.func16, Tryd.ntmps16
  go_wp2_with fail
  generalize hW : w.alloc (.cells #[.string s, .slice A m c, .int .i64 o] 24) = W at *
  clear hW x0 x1 x2
  go_loopw [3, 9] (fun v i wr => ∃ (k q : Nat), k ≤ m ∧ i = .int .i64 k ∧ v = .int .i64 q ∧ q + 1 = max 1 (Ty.depthL (xs.take k)) ∧ Below W.heap.size W wr) (fun _ i _ => m - (intOf i).toNat)
  case atStart => exact ⟨0, 0, by omega, rfl, rfl, by simp [Ty.depthL], Below.refl _ _⟩
  case round =>
    obtain ⟨k, q, hk, rfl, rfl, hq, hbel⟩ := hrel
    have HBL := Lib.hid hbel
    have hpk := depthL_take xs k
    have hq1 : (q : Int) ≤ 1000000 := by have := HT.out; omega
    have z0 : (0 : Int) ≤ k := by omega
    by_cases hlt : k < m
    · have y0 : (k : Int) < m := by omega
      obtain ⟨a, u, ys, p, B, l, d, rfl, hx, _, c0, c1, c2, hu, hl⟩ := (H.out.later hbel).get hlt
      have hst := depthL_snoc (xs.take k) (.mk u ys p)
      rw [show xs.take k ++ [Ty.mk u ys p] = xs.take (k + 1) by rw [List.take_add_one, hx]; rfl] at hst
      have hle := depthL_take xs (k + 1)
      have htx : Ty.depth (.mk u ys p) ≤ 1000000 := by have := HT.out; omega
      have hka : Below wr.heap.size wr (wr.alloc (.cells #[.string u, .slice B l d, .int .i64 p] 24)) := (Below.refl _ _).alloc (Nat.le_refl _) _
      have C := Lib.hid (IH.out _ (List.mem_of_getElem? hx) B l d _ htx (Here.later hl hka))
      simp only [Ty.name, Ty.off] at C
      obtain ⟨x0, x1, x2⟩ := Box.new wr u B l d p 24
      have hdp := depth_pos (.mk u ys p)
      have HST := Lib.hid hst
      have HQ := Lib.hid hq
      have HK := Lib.hid (HBL.out.trans (hka.mono HBL.out.size))
      clear hle hx hl hbel hpk hst hq hka
      generalize Ty.depth (.mk u ys p) = g at *
      have z3 : (g : Int) ≤ 1000000 := by omega
      clear htx
      by_cases h0 : q < g
      · have z4 : (q : Int) < g := by omega
        have z5 : max (q : Int) (g : Int) = g := by omega
        go_wp2_with fail
        refine C.out.mono ?_
        rintro e w1 ⟨rfl, hb1⟩
        have HB1 := Lib.hid (HK.out.trans (hb1.mono HK.out.size))
        clear hb1 x0 x1 x2 c0 c1 c2
        go_wp2_with fail
        go_roundw
        case rel => exact ⟨k + 1, g, by omega, by go_num, by go_num, by rw [HST.out]; have := HQ.out; omega, HB1.out⟩
        case measure => simp [intOf]; omega
      · have z4 : (g : Int) ≤ q := by omega
        have z5 : max (q : Int) (g : Int) = q := by omega
        clear h0
        go_wp2_with fail
        refine C.out.mono ?_
        rintro e w1 ⟨rfl, hb1⟩
        have HB1 := Lib.hid (HK.out.trans (hb1.mono HK.out.size))
        clear hb1 x0 x1 x2 c0 c1 c2
        go_wp2_with fail
        go_roundw
        case rel => exact ⟨k + 1, q, by omega, by go_num, by go_num, by rw [HST.out]; have := HQ.out; omega, HB1.out⟩
        case measure => simp [intOf]; omega
    · have y0 : (m : Int) ≤ k := by omega
      rw [List.take_of_length_le (by omega : xs.length ≤ k)] at hq
      have HQ := Lib.hid hq
      clear hbel hpk hq
      go_wp2_with fail
      go_ret
      exact ⟨ret_int (by rw [HD.out]; have := HQ.out; omega), HB.out.trans (HBL.out.mono HB.out.size)⟩

theorem listL_len_step {xs : List Ty} {k : Nat} {x : Ty} (hx : xs[k]? = some x) : (Ty.listL (xs.take (k + 1))).length = (Ty.listL (xs.take k)).length + x.list.length := by
  rw [listL_step hx, List.length_append]

set_option maxRecDepth 100000 in
set_option maxHeartbeats 2000000 in
theorem size_any : ∀ (t : Ty) (A : Option Addr) (m c : Nat) (w : World), t.list.length ≤ 1000000 → Here w A m t.args →
    Calls Tryd.prog 18 #[.agg #[.string t.name, .slice A m c, .int .i64 t.off]] w (NatPost w t.list.length) := by
  refine Ty.ind fun s xs o ih A m c w hs h => ?_
  simp only [Ty.name, Ty.args, Ty.off] at h ⊢
  have hb : Below w.heap.size w (w.alloc (.cells #[.string s, .slice A m c, .int .i64 o] 24)) := (Below.refl _ _).alloc (Nat.le_refl _) _
  have hm : (m : Int) ≤ 9223372036854775807 := by have := h.le; omega
  have hxl := h.len
  have IH := Lib.hid ih
  have H := Lib.hid (Here.later h hb)
  have HX := Lib.hid (Box.new w s A m c o 24)
  have HB := Lib.hid hb
  have HD := Lib.hid (show (Ty.list (.mk s xs o)).length = 1 + (Ty.listL xs).length by rw [Ty.list, List.length_cons]; omega)
  rw [HD.out] at hs
  have HT := Lib.hid hs
  obtain ⟨x0, x1, x2⟩ := HX.out
  clear ih h hb hs
  go_enter Tryd.func18, Tryd.ntmps18
  go_wp2_with fail
  generalize hW : w.alloc (.cells #[.string s, .slice A m c, .int .i64 o] 24) = W at *
  clear hW x0 x1 x2
  go_loopw [3, 9] (fun v i wr => ∃ (k q : Nat), k ≤ m ∧ i = .int .i64 k ∧ v = .int .i64 q ∧ q = 1 + (Ty.listL (xs.take k)).length ∧ Below W.heap.size W wr) (fun _ i _ => m - (intOf i).toNat)
  case atStart => exact ⟨0, 1, by omega, rfl, rfl, by simp [Ty.listL], Below.refl _ _⟩
  case round =>
    obtain ⟨k, q, hk, rfl, rfl, hq, hbel⟩ := hrel
    have HBL := Lib.hid hbel
    have hpk := listL_take xs k
    have hq1 : (q : Int) ≤ 1000000 := by have := HT.out; omega
    have z0 : (0 : Int) ≤ k := by omega
    by_cases hlt : k < m
    · have y0 : (k : Int) < m := by omega
      obtain ⟨a, u, ys, p, B, l, d, rfl, hx, _, c0, c1, c2, hu, hl⟩ := (H.out.later hbel).get hlt
      have hst := listL_len_step hx
      have hle := listL_take xs (k + 1)
      have htx : (Ty.list (.mk u ys p)).length ≤ 1000000 := by have := HT.out; omega
      have hka : Below wr.heap.size wr (wr.alloc (.cells #[.string u, .slice B l d, .int .i64 p] 24)) := (Below.refl _ _).alloc (Nat.le_refl _) _
      have C := Lib.hid (IH.out _ (List.mem_of_getElem? hx) B l d _ htx (Here.later hl hka))
      simp only [Ty.name, Ty.off] at C
      obtain ⟨x0, x1, x2⟩ := Box.new wr u B l d p 24
      have HST := Lib.hid hst
      have HQ := Lib.hid hq
      have HK := Lib.hid (HBL.out.trans (hka.mono HBL.out.size))
      clear hle hx hl hbel hpk hst hq hka
      generalize (Ty.list (.mk u ys p)).length = g at *
      have z3 : (g : Int) ≤ 1000000 := by omega
      clear htx
      go_wp2_with fail
      refine C.out.mono ?_
      rintro e w1 ⟨rfl, hb1⟩
      have HB1 := Lib.hid (HK.out.trans (hb1.mono HK.out.size))
      clear hb1 x0 x1 x2 c0 c1 c2
      go_wp2_with fail
      go_roundw
      case rel => exact ⟨k + 1, q + g, by omega, by go_num, by go_num, by rw [HST.out]; have := HQ.out; omega, HB1.out⟩
      case measure => simp [intOf]; omega
    · have y0 : (m : Int) ≤ k := by omega
      rw [List.take_of_length_le (by omega : xs.length ≤ k)] at hq
      have HQ := Lib.hid hq
      clear hbel hpk hq
      go_wp2_with fail
      go_ret
      exact ⟨ret_int (by rw [HD.out, HQ.out]), HB.out.trans (HBL.out.mono HB.out.size)⟩
end Go.Proofs.YtioamnaknjhbpaaDoor
