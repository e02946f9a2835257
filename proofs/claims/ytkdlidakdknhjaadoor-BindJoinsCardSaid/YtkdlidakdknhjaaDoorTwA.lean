/- The walks of types.Compare, Same, Depth and Size. -/
import Derived.Test.YtkdlidakdknhjaaDoorTyL
namespace Go.Proofs.YtkdlidakdknhjaaDoor
open Go.RowKit

/-- Two types boxed one behind the other. -/
theorem box_pair (w : World) (s r : ByteArray) (A B : Option Addr) (m l c d : Nat) (o p : Int) (T : TypeId) :
    Below w.heap.size w ((w.alloc (.cells #[.string s, .slice A m c, .int .i64 o] T)).alloc (.cells #[.string r, .slice B l d, .int .i64 p] T))
      ∧ Box ((w.alloc (.cells #[.string s, .slice A m c, .int .i64 o] T)).alloc (.cells #[.string r, .slice B l d, .int .i64 p] T)) w.heap.size s A m c o
      ∧ Box ((w.alloc (.cells #[.string s, .slice A m c, .int .i64 o] T)).alloc (.cells #[.string r, .slice B l d, .int .i64 p] T)) (w.heap.size + 1) r B l d p := by
  refine ⟨((Below.refl _ _).alloc (Nat.le_refl _) _).alloc (by simp) _, (Box.new w s A m c o T).later ((Below.refl _ _).alloc (Nat.le_refl _) _), ?_⟩
  have h := Box.new (w.alloc (.cells #[.string s, .slice A m c, .int .i64 o] T)) r B l d p T
  rwa [show (w.alloc (.cells #[.string s, .slice A m c, .int .i64 o] T)).heap.size = w.heap.size + 1 by simp] at h

/-- An element of a slice, as the next block leaves it. -/
theorem elem_later {w : World} {a : Addr} {u : Value} (h : w.cell? a = some u) (o : Obj) : (w.alloc o).cell? a = some u :=
  (((Below.refl _ _).alloc (Nat.le_refl _) o : Below w.heap.size w (w.alloc o)).cell (cell_lt h)).trans h

end Go.Proofs.YtkdlidakdknhjaaDoor
namespace Go.Proofs.YtkdlidakdknhjaaDoor
open Go.RowKit

theorem cmpL_len : ∀ {xs ys : List Ty}, xs.length ≠ ys.length → Ty.cmpL xs ys ≠ 0
  | [], [], h => absurd rfl h
  | [], _ :: _, _ => by simp [Ty.cmpL]
  | _ :: _, [], _ => by simp [Ty.cmpL]
  | x :: xs, y :: ys, h => by
    rw [Ty.cmpL]
    split
    · exact cmpL_len (by simpa using h)
    · assumption

/-- What Same gives of t. -/
def SameAt (t : Ty) : Prop := ∀ (u : Ty) (A B : Option Addr) (m l c d : Nat) (w : World), Here w A m t.args → Here w B l u.args →
  Calls Tryd.prog 86 #[.agg #[.string t.name, .slice A m c, .int .i64 t.off], .agg #[.string u.name, .slice B l d, .int .i64 u.off]] w (EqvPost w (t.cmp u == 0))

set_option maxRecDepth 100000 in
set_option maxHeartbeats 4000000 in
theorem eqFunc_any (xs : List Ty) (ih : ∀ t ∈ xs, SameAt t) (ys : List Ty) (A B : Option Addr) (m l c d : Nat) (w : World) (h1 : Here w A m xs) (h2 : Here w B l ys) :
    Calls Tryd.prog 101 #[.slice A m c, .slice B l d, .func (.func 86) #[] #[]] w (EqvPost w (Ty.cmpL xs ys == 0)) := by
  have hm : (m : Int) ≤ 9223372036854775807 := by have := h1.le; omega
  have hl : (l : Int) ≤ 9223372036854775807 := by have := h2.le; omega
  have IH := Lib.hid ih
  have H1 := Lib.hid h1
  have H2 := Lib.hid h2
  have HC := Lib.hid (show Ty.cmpL xs ys = Ty.cmpL (xs.drop 0) (ys.drop 0) by rw [List.drop_zero, List.drop_zero])
  by_cases hml : m = l
  · subst hml
    have e0 : ((m : Int) != (m : Int)) = false := by simp
    clear ih h1 h2
    go_enter Tryd.func101, Tryd.ntmps101
    go_wp2_with fail
    go_loopw [17] (fun i wr => ∃ k : Nat, k ≤ m ∧ i = .int .i64 k ∧ Ty.cmpL xs ys = Ty.cmpL (xs.drop k) (ys.drop k) ∧ Below w.heap.size w wr) (fun i _ => m - (intOf i).toNat)
    case atStart => exact ⟨0, by omega, rfl, HC.out, Below.refl _ _⟩
    case round =>
      obtain ⟨k, hk, rfl, hc, hbel⟩ := hrel
      have HBL := Lib.hid hbel
      have HQ := Lib.hid hc
      clear hc
      have z0 : (0 : Int) ≤ k := by omega
      by_cases hlt1 : k < m
      · have z1 : (k : Int) < m := by omega
        obtain ⟨a, s2, as2, o2, A2, m2, c2, rfl, hx, _, a0, a1, a2, hs2, hl2⟩ := (H1.out.later hbel).get hlt1
        obtain ⟨b, r2, bs2, p2, B2, l2, d2, rfl, hy, _, b0, b1, b2, hr2, hl3⟩ := (H2.out.later hbel).get hlt1
        have hbx := box_pair wr s2 r2 A2 B2 m2 l2 c2 d2 o2 p2 26
        have C := Lib.hid (IH.out _ (List.mem_of_getElem? hx) (.mk r2 bs2 p2) A2 B2 m2 l2 c2 d2 _ (Here.later hl2 hbx.1) (Here.later hl3 hbx.1))
        have HS := Lib.hid (HQ.out.trans (cmpL_on hx hy))
        have HB2 := Lib.hid (HBL.out.trans (hbx.1.mono HBL.out.size))
        simp only [Ty.name, Ty.off] at C
        obtain ⟨_, ⟨x0, x1, x2⟩, y0, y1, y2⟩ := hbx
        have b0' := elem_later b0 (.cells #[.string s2, .slice A2 m2 c2, .int .i64 o2] 26)
        have b1' := elem_later b1 (.cells #[.string s2, .slice A2 m2 c2, .int .i64 o2] 26)
        have b2' := elem_later b2 (.cells #[.string s2, .slice A2 m2 c2, .int .i64 o2] 26)
        clear hx hy hl2 hl3 hbel HQ b0 b1 b2
        go_wp2_with fail
        refine C.out.mono ?_
        rintro e w1 ⟨rfl, hb1⟩
        have HB1 := Lib.hid (HB2.out.trans (hb1.mono HB2.out.size))
        clear hb1 x0 x1 x2 y0 y1 y2 b0' b1' b2' a0 a1 a2
        by_cases hz : Ty.cmp (.mk s2 as2 o2) (.mk r2 bs2 p2) = 0
        · have HS2 := Lib.hid (HS.out.trans (if_pos hz))
          have q1 : (Ty.cmp (.mk s2 as2 o2) (.mk r2 bs2 p2) == 0) = true := by simp [hz]
          clear hz
          go_wp2_with fail
          go_roundw
          case rel => exact ⟨k + 1, by omega, by go_num, HS2.out, HB1.out⟩
          case measure => simp [intOf]; omega
        · have HS2 := Lib.hid (show (Ty.cmpL xs ys == 0) = false by rw [HS.out.trans (if_neg hz)]; simpa using hz)
          have q1 : (Ty.cmp (.mk s2 as2 o2) (.mk r2 bs2 p2) == 0) = false := by simpa using hz
          clear hz
          go_wp2_with fail
          go_ret
          exact ⟨ret_bool (by rw [HS2.out]), HB1.out⟩
      · have z1 : (m : Int) ≤ k := by omega
        have hq := HQ.out
        rw [List.drop_eq_nil_of_le (by rw [H1.out.len]; omega), List.drop_eq_nil_of_le (by rw [H2.out.len]; omega), Ty.cmpL] at hq
        have HQ2 := Lib.hid (show (Ty.cmpL xs ys == 0) = true by rw [hq]; rfl)
        clear hq hbel
        go_wp2_with fail
        go_ret
        exact ⟨ret_bool (by rw [HQ2.out]), HBL.out⟩
  · have e0 : ((m : Int) != (l : Int)) = true := by simp; omega
    have HQ2 := Lib.hid (show (Ty.cmpL xs ys == 0) = false by simpa using cmpL_len (by rw [h1.len, h2.len]; exact hml))
    clear ih h1 h2 hml
    go_enter Tryd.func101, Tryd.ntmps101
    go_wp2_with fail
    go_ret
    exact ⟨ret_bool (by rw [HQ2.out]), Below.refl _ _⟩

set_option maxRecDepth 100000 in
set_option maxHeartbeats 4000000 in
theorem same_any : ∀ t : Ty, SameAt t := by
  refine Ty.ind fun s xs o ih u A B m l c d w h1 h2 => ?_
  obtain ⟨r, ys, p⟩ := u
  simp only [Ty.name, Ty.args, Ty.off] at h1 h2 ⊢
  have hbx := box_pair w s r A B m l c d o p 26
  have H1 := Lib.hid (Here.later h1 hbx.1)
  have H2 := Lib.hid (Here.later h2 hbx.1)
  have HB := Lib.hid hbx.1
  have IH := Lib.hid ih
  obtain ⟨_, ⟨x0, x1, x2⟩, y0, y1, y2⟩ := hbx
  clear ih h1 h2
  by_cases hsr : s.data.toList = r.data.toList
  · have HC := Lib.hid (show Ty.cmp (.mk s xs o) (.mk r ys p) = Ty.cmpL xs ys by rw [Ty.cmp, if_pos hsr])
    have e1 : (s.toList == r.toList) = true := by rw [Lib.toList_data, Lib.toList_data]; simp [hsr]
    clear hsr
    go_enter Tryd.func86, Tryd.ntmps86
    go_wp2_with fail
    refine (eqFunc_any xs IH.out ys A B m l c d _ H1.out H2.out).mono ?_
    rintro e w1 ⟨rfl, hb⟩
    have HB1 := Lib.hid (HB.out.trans (hb.mono HB.out.size))
    clear hb
    go_wp2_with fail
    go_ret
    exact ⟨ret_bool (by rw [HC.out]), HB1.out⟩
  · have HC := Lib.hid (show (Ty.cmp (.mk s xs o) (.mk r ys p) == 0) = false by rw [Ty.cmp, if_neg hsr]; simpa using fun h => hsr ((Nm.cmp_zero _ _).1 h))
    have e1 : (s.toList == r.toList) = false := by rw [Lib.toList_data, Lib.toList_data]; simpa using hsr
    clear hsr
    go_enter Tryd.func86, Tryd.ntmps86
    go_wp2_with fail
    go_ret
    exact ⟨ret_bool (by rw [HC.out]), HB.out⟩
end Go.Proofs.YtkdlidakdknhjaaDoor
namespace Go.Proofs.YtkdlidakdknhjaaDoor
open Go.RowKit

theorem depth_pos (t : Ty) : 1 ≤ t.depth := by cases t; simp only [Ty.depth]; omega

theorem listL_len_step {xs : List Ty} {k : Nat} {x : Ty} (hx : xs[k]? = some x) : (Ty.listL (xs.take (k + 1))).length = (Ty.listL (xs.take k)).length + x.list.length := by
  rw [listL_step hx, List.length_append]

end Go.Proofs.YtkdlidakdknhjaaDoor
