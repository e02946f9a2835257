/- The walks of types.Compare and of slices.CompareFunc at it. No condition but that a name's length is an int. -/
import Derived.Test.YtioamnaknjhbpaaDoorTyL
namespace Go.Proofs.YtioamnaknjhbpaaDoor
open Go.RowKit

/-- Two types boxed one behind the other. -/
theorem box_pair (w : World) (s r : ByteArray) (A B : Option Addr) (m l c d : Nat) (o p : Int) (T : TypeId) :
    Below w.heap.size w ((w.alloc (.cells #[.string s, .slice A m c, .int .i64 o] T)).alloc (.cells #[.string r, .slice B l d, .int .i64 p] T))
      ∧ Box ((w.alloc (.cells #[.string s, .slice A m c, .int .i64 o] T)).alloc (.cells #[.string r, .slice B l d, .int .i64 p] T)) w.heap.size s A m c o
      ∧ Box ((w.alloc (.cells #[.string s, .slice A m c, .int .i64 o] T)).alloc (.cells #[.string r, .slice B l d, .int .i64 p] T)) (w.heap.size + 1) r B l d p := by
  refine ⟨((Below.refl _ _).alloc (Nat.le_refl _) _).alloc (by simp) _, (Box.new w s A m c o T).later ((Below.refl _ _).alloc (Nat.le_refl _) _), ?_⟩
  have h := Box.new (w.alloc (.cells #[.string s, .slice A m c, .int .i64 o] T)) r B l d p T
  rwa [show (w.alloc (.cells #[.string s, .slice A m c, .int .i64 o] T)).heap.size = w.heap.size + 1 by simp] at h

/-- An element of a slice, as the next block leaves it. -/
theorem elem_later {w : World} {a : Addr} {u : Value} (h : w.cell? a = some u) (o : Obj) : (w.alloc o).cell? a = some u :=
  (((Below.refl _ _).alloc (Nat.le_refl _) o : Below w.heap.size w (w.alloc o)).cell (cell_lt h)).trans h

/-- What a comparison of t gives. -/
def CmpAt (t : Ty) : Prop := ∀ (u : Ty) (A B : Option Addr) (m l c d : Nat) (w : World), t.name.size ≤ 9223372036854775807 → u.name.size ≤ 9223372036854775807 → Here w A m t.args → Here w B l u.args →
  Calls Tryd.prog 11 #[.agg #[.string t.name, .slice A m c, .int .i64 t.off], .agg #[.string u.name, .slice B l d, .int .i64 u.off]] w (CmpPost w (t.cmp u))

set_option maxRecDepth 100000 in
set_option maxHeartbeats 4000000 in
theorem cmpFunc_any (xs : List Ty) (ih : ∀ t ∈ xs, CmpAt t) (ys : List Ty) (A B : Option Addr) (m l c d : Nat) (w : World) (h1 : Here w A m xs) (h2 : Here w B l ys) :
    Calls Tryd.prog 33 #[.slice A m c, .slice B l d, .func (.func 11) #[] #[]] w (CmpPost w (Ty.cmpL xs ys)) := by
  have hm : (m : Int) ≤ 9223372036854775807 := by have := h1.le; omega
  have hl : (l : Int) ≤ 9223372036854775807 := by have := h2.le; omega
  have IH := Lib.hid ih
  have H1 := Lib.hid h1
  have H2 := Lib.hid h2
  have HC := Lib.hid (show Ty.cmpL xs ys = Ty.cmpL (xs.drop 0) (ys.drop 0) by rw [List.drop_zero, List.drop_zero])
  clear ih h1 h2
  go_enter Tryd.func33, Tryd.ntmps33
  go_wp2_with fail
  go_loopw [13] (fun i wr => ∃ k : Nat, k ≤ m ∧ k ≤ l ∧ i = .int .i64 k ∧ Ty.cmpL xs ys = Ty.cmpL (xs.drop k) (ys.drop k) ∧ Below w.heap.size w wr) (fun i _ => m - (intOf i).toNat)
  case atStart => exact ⟨0, by omega, by omega, rfl, HC.out, Below.refl _ _⟩
  case round =>
    obtain ⟨k, hk, hk2, rfl, hc, hbel⟩ := hrel
    have HBL := Lib.hid hbel
    have HQ := Lib.hid hc
    clear hc
    have z0 : (0 : Int) ≤ k := by omega
    by_cases hlt1 : k < m
    · have z1 : (k : Int) < m := by omega
      obtain ⟨a, s2, as2, o2, A2, m2, c2, rfl, hx, _, a0, a1, a2, hs2, hl2⟩ := (H1.out.later hbel).get hlt1
      by_cases hlt2 : k < l
      · have z2 : (k : Int) < l := by omega
        obtain ⟨b, r2, bs2, p2, B2, l2, d2, rfl, hy, _, b0, b1, b2, hr2, hl3⟩ := (H2.out.later hbel).get hlt2
        have hbx := box_pair wr s2 r2 A2 B2 m2 l2 c2 d2 o2 p2 24
        have C := Lib.hid (IH.out _ (List.mem_of_getElem? hx) (.mk r2 bs2 p2) A2 B2 m2 l2 c2 d2 _ hs2 hr2 (Here.later hl2 hbx.1) (Here.later hl3 hbx.1))
        have HS := Lib.hid (HQ.out.trans (cmpL_on hx hy))
        have HB2 := Lib.hid (HBL.out.trans (hbx.1.mono HBL.out.size))
        simp only [Ty.name, Ty.off] at C
        obtain ⟨_, ⟨x0, x1, x2⟩, y0, y1, y2⟩ := hbx
        have b0' := elem_later b0 (.cells #[.string s2, .slice A2 m2 c2, .int .i64 o2] 24)
        have b1' := elem_later b1 (.cells #[.string s2, .slice A2 m2 c2, .int .i64 o2] 24)
        have b2' := elem_later b2 (.cells #[.string s2, .slice A2 m2 c2, .int .i64 o2] 24)
        clear hx hy hl2 hl3 hbel HQ b0 b1 b2
        go_wp2_with fail
        refine C.out.mono ?_
        rintro e w1 ⟨rfl, hb1⟩
        have HB1 := Lib.hid (HB2.out.trans (hb1.mono HB2.out.size))
        clear hb1 x0 x1 x2 y0 y1 y2 b0' b1' b2' a0 a1 a2
        by_cases hz : Ty.cmp (.mk s2 as2 o2) (.mk r2 bs2 p2) = 0
        · have HS2 := Lib.hid (HS.out.trans (if_pos hz))
          have q1 : (Ty.cmp (.mk s2 as2 o2) (.mk r2 bs2 p2) != 0) = false := by simp [hz]
          clear hz
          go_wp2_with fail
          go_roundw
          case rel => exact ⟨k + 1, by omega, by omega, by go_num, HS2.out, HB1.out⟩
          case measure => simp [intOf]; omega
        · have HS2 := Lib.hid (HS.out.trans (if_neg hz))
          have q1 : (Ty.cmp (.mk s2 as2 o2) (.mk r2 bs2 p2) != 0) = true := by simp [hz]
          clear hz
          go_wp2_with fail
          go_ret
          exact ⟨ret_int (by rw [HS2.out]), HB1.out⟩
      · have z2 : (l : Int) ≤ k := by omega
        have hq := HQ.out.trans (cmpL_off (by rw [H1.out.len, H2.out.len]; omega))
        rw [H1.out.len, H2.out.len, if_neg (by omega), if_pos (by omega)] at hq
        have HQ2 := Lib.hid hq
        have HB2 := Lib.hid (HBL.out.alloc HBL.out.size (.cells #[.string s2, .slice A2 m2 c2, .int .i64 o2] 24))
        clear hq hbel hx hl2
        go_wp2_with fail
        go_ret
        exact ⟨ret_int (by rw [HQ2.out]), HB2.out⟩
    · have z1 : (m : Int) ≤ k := by omega
      have hq := HQ.out.trans (cmpL_off (by rw [H1.out.len, H2.out.len]; omega))
      rw [H1.out.len, H2.out.len] at hq
      have HQ2 := Lib.hid hq
      clear hq hbel
      by_cases h3 : m < l
      · have q1 : (m : Int) < l := by omega
        go_wp2_with fail
        go_ret
        exact ⟨ret_int (by rw [HQ2.out, if_pos h3]), HBL.out⟩
      · have q1 : (l : Int) ≤ m := by omega
        go_wp2_with fail
        go_ret
        exact ⟨ret_int (by rw [HQ2.out, if_neg h3, if_neg (by omega)]), HBL.out⟩

set_option maxRecDepth 100000 in
set_option maxHeartbeats 4000000 in
theorem cmp_any : ∀ t : Ty, CmpAt t := by
  refine Ty.ind fun s xs o ih u A B m l c d w hs hu h1 h2 => ?_
  obtain ⟨r, ys, p⟩ := u
  simp only [Ty.name, Ty.args, Ty.off] at hs hu h1 h2 ⊢
  have hbx := box_pair w s r A B m l c d o p 24
  have H1 := Lib.hid (Here.later h1 hbx.1)
  have H2 := Lib.hid (Here.later h2 hbx.1)
  have HB := Lib.hid hbx.1
  have IH := Lib.hid ih
  obtain ⟨_, ⟨x0, x1, x2⟩, y0, y1, y2⟩ := hbx
  have hcc := Nm.cmp_zero s.data.toList r.data.toList
  clear ih h1 h2
  by_cases hsr : s.data.toList = r.data.toList
  · have HC := Lib.hid (show Ty.cmp (.mk s xs o) (.mk r ys p) = Ty.cmpL xs ys by rw [Ty.cmp, if_pos hsr])
    have q1 : (Lib.compareBytes s.data.toList r.data.toList != 0) = false := by simp [hcc.2 hsr]
    clear hsr hcc
    go_enter Tryd.func11, Tryd.ntmps11
    go_wp2_with fail
    refine (nm_compare_any s r _).mono ?_
    rintro e w1 ⟨rfl, rfl⟩
    go_wp2_with fail
    refine (cmpFunc_any xs IH.out ys A B m l c d _ H1.out H2.out).mono ?_
    rintro e w1 ⟨rfl, hb⟩
    have HB1 := Lib.hid (HB.out.trans (hb.mono HB.out.size))
    clear hb
    go_wp2_with fail
    go_ret
    exact ⟨ret_int (by rw [HC.out]), HB1.out⟩
  · have HC := Lib.hid (show Ty.cmp (.mk s xs o) (.mk r ys p) = Lib.compareBytes s.data.toList r.data.toList by rw [Ty.cmp, if_neg hsr])
    have q1 : (Lib.compareBytes s.data.toList r.data.toList != 0) = true := by simp only [bne_iff_ne, ne_eq]; exact fun h => hsr (hcc.1 h)
    clear hsr hcc
    go_enter Tryd.func11, Tryd.ntmps11
    go_wp2_with fail
    refine (nm_compare_any s r _).mono ?_
    rintro e w1 ⟨rfl, rfl⟩
    go_wp2_with fail
    go_ret
    exact ⟨ret_int (by rw [HC.out]), HB.out⟩
end Go.Proofs.YtioamnaknjhbpaaDoor
