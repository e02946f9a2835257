/- The walks of expr.Same, expr.Depth and what they call. -/
import Derived.Test.YtbeejmlmplgaeaaGreatDoorExG
import Derived.Test.YtbeejmlmplgaeaaGreatDoorTwA
namespace Go.Proofs.YtbeejmlmplgaeaaGreatDoor
open Go.RowKit

theorem sameT_cmpL : ∀ (xs ys : List Ty), Ex.sameT xs ys = (Ty.cmpL xs ys == 0)
  | [], [] => by simp [Ex.sameT, Ty.cmpL]
  | _ :: _, [] => by simp [Ex.sameT, Ty.cmpL]
  | [], _ :: _ => by simp [Ex.sameT, Ty.cmpL]
  | x :: xs, y :: ys => by
    rw [Ex.sameT, Ty.cmpL, sameT_cmpL xs ys]
    by_cases h : Ty.cmp x y = 0
    · rw [if_pos h]; simp [h]
    · rw [if_neg h]
      have : (Ty.cmp x y == 0) = false := by simpa using h
      rw [this]; rfl

theorem CellsAt.later {w w' : World} {p : Addr} {us : List Value} (h : CellsAt w p us) (hb : Below w.heap.size w w') : CellsAt w' p us := fun j u hu => (hb.cell (cell_lt (h j u hu))).trans (h j u hu)
theorem CellsAt.alloc {w : World} {p : Addr} {us : List Value} (h : CellsAt w p us) (o : Obj) : CellsAt (w.alloc o) p us := h.later ((Below.refl _ _).alloc (Nat.le_refl _) o)

/-- What Same gives of e. -/
def XSameAt (e : Ex) : Prop := ∀ (f : Ex) (us vs : List Value) (w : World), e.dat.H w us → f.dat.H w vs →
  Calls Tryz.prog 102 #[.agg us.toArray, .agg vs.toArray] w (EqvPost w (e.same f))

set_option maxRecDepth 100000 in
set_option maxHeartbeats 8000000 in
theorem xeqFunc_any (xs : List Ex) (ih : ∀ e ∈ xs, XSameAt e) (ys : List Ex) (A B : Option Addr) (m l c d : Nat) (w : World) (h1 : RowH w 8 A m (Ex.dats xs)) (h2 : RowH w 8 B l (Ex.dats ys)) :
    Calls Tryz.prog 184 #[.slice A m c, .slice B l d, .func (.func 102) #[] #[]] w (EqvPost w (Ex.sameL xs ys)) := by
  have hm : (m : Int) ≤ 9223372036854775807 := by have := h1.le; omega
  have hl : (l : Int) ≤ 9223372036854775807 := by have := h2.le; omega
  have hxl := h1.len
  have hyl := h2.len
  rw [Ex.dats_len] at hxl hyl
  have IH := Lib.hid ih
  have H1 := Lib.hid h1
  have H2 := Lib.hid h2
  by_cases hml : m = l
  · subst hml
    have e0 : ((m : Int) != (m : Int)) = false := by simp
    clear ih h1 h2
    go_enter Tryz.func184, Tryz.ntmps184
    go_wp2_with fail
    go_loopw [17] (fun i wr => ∃ k : Nat, k ≤ m ∧ i = .int .i64 k ∧ Ex.sameL xs ys = Ex.sameL (xs.drop k) (ys.drop k) ∧ Below w.heap.size w wr) (fun i _ => m - (intOf i).toNat)
    case atStart => exact ⟨0, by omega, rfl, rfl, Below.refl _ _⟩
    case round =>
      obtain ⟨k, hk, rfl, hc, hbel⟩ := hrel
      have HBL := Lib.hid hbel
      have HQ := Lib.hid hc
      clear hc
      have z0 : (0 : Int) ≤ k := by omega
      by_cases hlt1 : k < m
      · have z1 : (k : Int) < m := by omega
        obtain ⟨p, u, ps, rfl, hx, _, _, hu, hcs⟩ := kid_at (RowH.later H1.out hbel) hlt1
        obtain ⟨p2, v, qs, rfl, hy2, _, _, hv, hds⟩ := kid_at (RowH.later H2.out hbel) hlt1
        obtain ⟨hbx, hX, hY⟩ := Boxd.pair wr ps.toArray qs.toArray 28
        have C := Lib.hid (IH.out _ (List.mem_of_getElem? hx) v ps qs _ (Dat.H.later hu hbx) (Dat.H.later hv hbx))
        have HB2 := Lib.hid (HBL.out.trans (hbx.mono HBL.out.size))
        have HS := Lib.hid (HQ.out.trans (Ex.sameL_on hx hy2))
        have hds' := hds.alloc (.cells ps.toArray 28)
        obtain ⟨A1, m1, a1, B1, l1, b1, C1, n1, c1, rfl, _⟩ := ex_open hu
        obtain ⟨A2, m2, a2, B2, l2, b2, C2, n2, c2, rfl, _⟩ := ex_open hv
        obtain ⟨f0, f1, f2, f3, f4, f5, f6, f7⟩ := cells8_at hcs
        obtain ⟨g0, g1, g2, g3, g4, g5, g6, g7⟩ := cells8_at hds'
        obtain ⟨x0, x1, x2, x3, x4, x5, x6, x7⟩ := hX.c8
        obtain ⟨y0, y1, y2, y3, y4, y5, y6, y7⟩ := hY.c8
        clear hx hy2 hu hv hcs hds hds' hbel HQ hbx hX hY
        generalize Ex.same u v = q at *
        go_wp2_with fail
        refine C.out.mono ?_
        rintro e w1 ⟨rfl, hb1⟩
        have HB1 := Lib.hid (HB2.out.trans (hb1.mono HB2.out.size))
        clear hb1 x0 x1 x2 x3 x4 x5 x6 x7 y0 y1 y2 y3 y4 y5 y6 y7 f0 f1 f2 f3 f4 f5 f6 f7 g0 g1 g2 g3 g4 g5 g6 g7 C
        cases q
        · go_wp2_with fail
          go_ret
          exact ⟨ret_bool (by rw [HS.out]; rfl), HB1.out⟩
        · go_wp2_with fail
          go_roundw
          case rel => exact ⟨k + 1, by omega, by go_num, HS.out, HB1.out⟩
          case measure => simp [intOf]; omega
      · have z1 : (m : Int) ≤ k := by omega
        have hq := HQ.out
        rw [List.drop_eq_nil_of_le (by omega), List.drop_eq_nil_of_le (by omega), Ex.sameL] at hq
        have HQ2 := Lib.hid hq
        clear hq hbel
        go_wp2_with fail
        go_ret
        exact ⟨ret_bool (by rw [HQ2.out]), HBL.out⟩
  · have e0 : ((m : Int) != (l : Int)) = true := by simp; omega
    have HQ2 := Lib.hid (show Ex.sameL xs ys = false from Ex.sameL_len (by omega))
    clear ih h1 h2 hml
    go_enter Tryz.func184, Tryz.ntmps184
    go_wp2_with fail
    go_ret
    exact ⟨ret_bool (by rw [HQ2.out]), Below.refl _ _⟩

set_option maxRecDepth 100000 in
set_option maxHeartbeats 8000000 in
theorem xsame_any : ∀ e : Ex, XSameAt e := by
  refine Ex.ind fun k s t ts xs o ih f us vs w h1 h2 => ?_
  obtain ⟨k2, s2, t2, ts2, xs2, o2⟩ := f
  obtain ⟨A, m, a, B, l, b, C, r, c, rfl, hs, ht, ha, hb, hc⟩ := ex_open h1
  obtain ⟨A2, m2, a2, B2, l2, b2, C2, r2, c2, rfl, hs2, ht2, ha2, hb2, hc2⟩ := ex_open h2
  have h := TwoX.new h1 h2 28
  simp only [Ex.kind, Ex.name, Ex.ty, Ex.targs, Ex.kids, Ex.off] at hs ht ha hb hc hs2 ht2 ha2 hb2 hc2 h ⊢
  have hbel := h.bel
  have H := Lib.hid h
  have IH := Lib.hid ih
  have C1 := Lib.hid (same_any t t2 A A2 m m2 a a2 _ (Here.later ha hbel) (Here.later ha2 hbel))
  have HD := Lib.hid (show Ex.same (.mk k s t ts xs o) (.mk k2 s2 t2 ts2 xs2 o2) = ((k == k2) && (s.data.toList == s2.data.toList) && (Ty.cmp t t2 == 0) && (Ty.cmpL ts ts2 == 0) && Ex.sameL xs xs2) by rw [Ex.same, sameT_cmpL])
  have HTB := Lib.hid (Here.later hb hbel)
  have HTB2 := Lib.hid (Here.later hb2 hbel)
  have HK := Lib.hid (RowH.later hc hbel)
  have HK2 := Lib.hid (RowH.later hc2 hbel)
  obtain ⟨x0, x1, x2, x3, x4, x5, x6, x7⟩ := H.out.one.c8
  obtain ⟨y0, y1, y2, y3, y4, y5, y6, y7⟩ := H.out.two.c8
  clear ih h1 h2 ha hb hc ha2 hb2 hc2 h hbel
  by_cases hk : k = k2
  · have e2 : (k == k2) = true := by simp [hk]
    by_cases hsr : s.data.toList = s2.data.toList
    · have e3 : (s.toList == s2.toList) = true := by rw [Lib.toList_data, Lib.toList_data]; simp [hsr]
      have HD2 := Lib.hid (HD.out.trans (by rw [hsr, e2]; simp : _ = ((Ty.cmp t t2 == 0) && (Ty.cmpL ts ts2 == 0) && Ex.sameL xs xs2)))
      clear hk hsr HD
      go_enter Tryz.func102, Tryz.ntmps102
      go_wp2_with fail
      refine C1.out.mono ?_
      rintro e w1 ⟨rfl, hb1⟩
      have H1 := Lib.hid (H.out.later hb1)
      have CX := Lib.hid (eqFunc_any ts (fun t _ => same_any t) ts2 B B2 l l2 b b2 w1 (Here.later HTB.out hb1) (Here.later HTB2.out hb1))
      have HKK := Lib.hid (RowH.later HK.out hb1)
      have HKK2 := Lib.hid (RowH.later HK2.out hb1)
      clear hb1 H C1 HTB HTB2 HK HK2 x0 x1 x2 x3 x4 x5 x6 x7 y0 y1 y2 y3 y4 y5 y6 y7
      obtain ⟨x0, x1, x2, x3, x4, x5, x6, x7⟩ := H1.out.one.c8
      obtain ⟨y0, y1, y2, y3, y4, y5, y6, y7⟩ := H1.out.two.c8
      generalize (Ty.cmp t t2 == 0) = q1 at *
      generalize (Ty.cmpL ts ts2 == 0) = q2 at *
      cases q1
      · have HC := Lib.hid (HD2.out.trans (by simp : _ = false))
        go_wp2_with fail
        go_ret
        exact ⟨ret_bool (by rw [HC.out]), H1.out.bel⟩
      · go_wp2_with fail
        refine CX.out.mono ?_
        rintro e w2 ⟨rfl, hb2⟩
        have H2 := Lib.hid (H1.out.later hb2)
        have CY := Lib.hid (xeqFunc_any xs IH.out xs2 C C2 r r2 c c2 w2 (RowH.later HKK.out hb2) (RowH.later HKK2.out hb2))
        clear hb2 H1 CX HKK HKK2 x0 x1 x2 x3 x4 x5 x6 x7 y0 y1 y2 y3 y4 y5 y6 y7
        obtain ⟨x0, x1, x2, x3, x4, x5, x6, x7⟩ := H2.out.one.c8
        obtain ⟨y0, y1, y2, y3, y4, y5, y6, y7⟩ := H2.out.two.c8
        cases q2
        · have HC := Lib.hid (HD2.out.trans (by simp : _ = false))
          go_wp2_with fail
          go_ret
          exact ⟨ret_bool (by rw [HC.out]), H2.out.bel⟩
        · have HC := Lib.hid (HD2.out.trans (by simp : _ = Ex.sameL xs xs2))
          generalize Ex.sameL xs xs2 = q3 at *
          go_wp2_with fail
          refine CY.out.mono ?_
          rintro e w3 ⟨rfl, hb3⟩
          have HB3 := Lib.hid (H2.out.bel.trans (hb3.mono H2.out.bel.size))
          clear hb3
          go_wp2_with fail
          go_ret
          exact ⟨ret_bool (by rw [HC.out]), HB3.out⟩
    · have e3 : (s.toList == s2.toList) = false := by rw [Lib.toList_data, Lib.toList_data]; simpa using hsr
      have HC := Lib.hid (HD.out.trans (by rw [show (s.data.toList == s2.data.toList) = false by simpa using hsr]; simp : _ = false))
      clear hsr hk
      go_enter Tryz.func102, Tryz.ntmps102
      go_wp2_with fail
      go_ret
      exact ⟨ret_bool (by rw [HC.out]), H.out.bel⟩
  · have e2 : (k == k2) = false := by simp [hk]
    have HC := Lib.hid (HD.out.trans (by rw [e2]; simp : _ = false))
    clear hk
    go_enter Tryz.func102, Tryz.ntmps102
    go_wp2_with fail
    go_ret
    exact ⟨ret_bool (by rw [HC.out]), H.out.bel⟩
end Go.Proofs.YtbeejmlmplgaeaaGreatDoor
