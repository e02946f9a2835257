/- The walks of the reference's Count and Few of expressions.
The walks of the reference's Same and Equal of expressions.
The walk of the reference's Equal of expressions. -/
import Derived.Test.YtjhlehdjdaphcaaDoorQMExB
import Derived.Test.YtjhlehdjdaphcaaDoorQMTyF
import Derived.Deep.RegionHeld3
import Derived.StillTailTactics
namespace Go.Proofs.YtjhlehdjdaphcaaDoor
open Go.RowKit

def Ex.few (e : Ex) : Bool := decide (e.cnt 0 ≤ 250)
end Go.Proofs.YtjhlehdjdaphcaaDoor
namespace Go.Proofs.YtjhlehdjdaphcaaDoor
open Go.RowKit

set_option maxHeartbeats 1000000 in
theorem tsame_any (t u : Ty) (A B : Option Addr) (m l c d : Nat) (w : World) (ht : t.name.size ≤ 9223372036854775807) (hu : u.name.size ≤ 9223372036854775807) (h1 : Here w A m t.args) (h2 : Here w B l u.args) :
    Calls Tryd.prog 64 #[.agg #[.string t.name, .slice A m c, .int .i64 t.off], .agg #[.string u.name, .slice B l d, .int .i64 u.off]] w (EqvPost w (Ty.cmp t u == 0)) := by
  obtain ⟨hb, hX, hY⟩ := Boxd.pair w #[.string t.name, .slice A m c, .int .i64 t.off] #[.string u.name, .slice B l d, .int .i64 u.off] 25
  have CC := Lib.hid (ref_cmp_any t u A B m l c d _ ht hu (Here.later h1 hb) (Here.later h2 hb))
  have HB := Lib.hid hb
  obtain ⟨x0, x1, x2⟩ := hX.c3
  obtain ⟨y0, y1, y2⟩ := hY.c3
  clear hb hX hY h1 h2
  go_enter Tryd.func64, Tryd.ntmps64
  go_wp2_with fail
  refine CC.out.mono ?_
  rintro e w1 ⟨rfl, hb1⟩
  have HB1 := Lib.hid (HB.out.trans (hb1.mono HB.out.size))
  clear hb1
  go_wp2_with fail
  go_ret
  exact ⟨rfl, HB1.out⟩

set_option maxRecDepth 100000 in
set_option maxHeartbeats 2000000 in
theorem tsames_any (xs ys : List Ty) (A B : Option Addr) (m l c d : Nat) (w : World) (h1 : Here w A m xs) (h2 : Here w B l ys) :
    Calls Tryd.prog 66 #[.slice A m c, .slice B l d] w (EqvPost w (Ex.sameT xs ys)) := by
  have hm : (m : Int) ≤ 9223372036854775807 := by have := h1.le; omega
  have hl : (l : Int) ≤ 9223372036854775807 := by have := h2.le; omega
  have hxl := h1.len
  have hyl := h2.len
  have H1 := Lib.hid h1
  have H2 := Lib.hid h2
  clear h1 h2
  by_cases hml : m = l
  · subst hml
    have hnn : (!((m : Int) == (m : Int))) = false := by simp
    go_enter Tryd.func66, Tryd.ntmps66
    go_wp2_with fail
    go_loopw [5] (fun i wr => ∃ k : Nat, k ≤ m ∧ i = .int .i64 k ∧ Ex.sameT xs ys = Ex.sameT (xs.drop k) (ys.drop k) ∧ Below w.heap.size w wr) (fun i _ => m - (intOf i).toNat)
    case atStart => exact ⟨0, by omega, rfl, rfl, Below.refl _ _⟩
    case round =>
      obtain ⟨k, hk, rfl, hc, hbel⟩ := hrel
      have HBL := Lib.hid hbel
      have HQ := Lib.hid hc
      clear hc
      by_cases hlt : k < m
      · have z0 : (0 : Int) ≤ k := by omega
        have z1 : (k : Int) < m := by omega
        obtain ⟨a, s2, as2, o2, A2, m2, c2, rfl, hx, _, a0, a1, a2, hs2, hl2⟩ := (H1.out.later hbel).get hlt
        obtain ⟨b, r2, bs2, p2, B2, l2, d2, rfl, hy, _, b0, b1, b2, hr2, hl3⟩ := (H2.out.later hbel).get hlt
        have C := Lib.hid (fun (V : World) (hV : Below wr.heap.size wr V) => (tsame_any (.mk s2 as2 o2) (.mk r2 bs2 p2) A2 B2 m2 l2 c2 d2 V hs2 hr2 (Here.later hl2 hV) (Here.later hl3 hV)).mono fun e w' (h : _ ∧ _) => (⟨h.1, hV.trans (h.2.mono hV.size)⟩ : _ ∧ Below wr.heap.size wr w'))
        have HS := Lib.hid (HQ.out.trans (Ex.sameT_on hx hy))
        simp only [Ty.name, Ty.off] at C
        clear hx hy hl2 hl3 hbel HQ
        go_wp2_with fail
        go_still_tail 8, (by kernel_rfl)
        change wpList _ _ _ _ _ wr.drew
        go_wp2_with fail
        refine (C.out _ (Below.refl _ _).drew).mono ?_
        rintro e w1 ⟨rfl, hb1⟩
        have HB1 := Lib.hid (HBL.out.trans (hb1.mono HBL.out.size))
        clear hb1
        cases hz : (Ty.cmp (.mk s2 as2 o2) (.mk r2 bs2 p2) == 0)
        · have HS2 := Lib.hid (HS.out.trans (by rw [hz]; rfl : _ = false))
          go_wp2
          go_ret
          exact ⟨ret_bool (by rw [HS2.out]), HB1.out⟩
        · have HS2 := Lib.hid (HS.out.trans (by rw [hz]; rfl : _ = Ex.sameT (xs.drop (k + 1)) (ys.drop (k + 1))))
          go_wp2
          go_roundw
          case rel => exact ⟨k + 1, by omega, by go_num, HS2.out, HB1.out⟩
          case measure => simp [intOf]; omega
      · have hq := HQ.out
        rw [List.drop_eq_nil_of_le (by rw [H1.out.len]; omega), List.drop_eq_nil_of_le (by rw [H2.out.len]; omega), Ex.sameT] at hq
        have HQ2 := Lib.hid hq
        have q1 : (m : Int) ≤ k := by omega
        clear hq hbel
        go_wp2_with fail
        go_ret
        exact ⟨ret_bool (by rw [HQ2.out]), HBL.out⟩
  · have HC := Lib.hid (show Ex.sameT xs ys = false from Ex.sameT_len (by rw [hxl, hyl]; exact hml))
    have e6 : ((m : Int) != (l : Int)) = true := by simp; omega
    have e7 : ((m : Int) == (l : Int)) = false := by simp; omega
    clear hxl hyl hml
    go_enter Tryd.func66, Tryd.ntmps66
    go_wp2_with fail
    go_ret
    exact ⟨ret_bool (by rw [HC.out]), Below.refl _ _⟩

/-- Two boxed expressions, and all that they lead to. -/
structure TwoX (w0 W : World) (a b : Ex) (us vs : List Value) : Prop where
  bel : Below w0.heap.size w0 W
  one : Boxd W w0.heap.size us
  two : Boxd W (w0.heap.size + 1) vs
  da : a.dat.H W us
  db : b.dat.H W vs
theorem TwoX.new {w : World} {a b : Ex} {us vs : List Value} (ha : a.dat.H w us) (hb : b.dat.H w vs) (T : TypeId) : TwoX w ((w.alloc (.cells us.toArray T)).alloc (.cells vs.toArray T)) a b us vs := by
  obtain ⟨h1, h2, h3⟩ := Boxd.pair w us.toArray vs.toArray T
  exact ⟨h1, h2, h3, Dat.H.later ha h1, Dat.H.later hb h1⟩
theorem TwoX.later {w0 W W' : World} {a b : Ex} {us vs : List Value} (h : TwoX w0 W a b us vs) (hb : Below W.heap.size W W') : TwoX w0 W' a b us vs :=
  ⟨h.bel.trans (hb.mono h.bel.size), h.one.later hb, h.two.later hb, Dat.H.later h.da hb, Dat.H.later h.db hb⟩

set_option maxRecDepth 100000 in
set_option maxHeartbeats 8000000 in
theorem xref_same_any : ∀ (e f : Ex) (us vs : List Value) (w : World), e.dat.H w us → f.dat.H w vs →
    Calls Tryd.prog 44 #[.agg us.toArray, .agg vs.toArray] w (EqvPost w (e.same f)) := by
  refine Ex.ind fun k s t ts xs o ih f us vs w h1 h2 => ?_
  obtain ⟨k2, s2, t2, ts2, xs2, o2⟩ := f
  obtain ⟨A, m, a, B, l, b, C, r, c, rfl, hs, ht, ha, hb, hc⟩ := ex_open h1
  obtain ⟨A2, m2, a2, B2, l2, b2, C2, r2, c2, rfl, hs2, ht2, ha2, hb2, hc2⟩ := ex_open h2
  have h := TwoX.new h1 h2 28
  simp only [Ex.kind, Ex.name, Ex.ty, Ex.targs, Ex.kids, Ex.off] at hs ht ha hb hc hs2 ht2 ha2 hb2 hc2 h ⊢
  have hr : (r : Int) ≤ 9223372036854775807 := by have := hc.le; omega
  have hr2 : (r2 : Int) ≤ 9223372036854775807 := by have := hc2.le; omega
  have hxl := hc.len
  have hyl := hc2.len
  rw [Ex.dats_len] at hxl hyl
  have IH := Lib.hid ih
  have H := Lib.hid h
  have hbel := h.bel
  have C1 := Lib.hid (tsame_any t t2 A A2 m m2 a a2 _ ht ht2 (Here.later ha hbel) (Here.later ha2 hbel))
  have HD := Lib.hid (show Ex.same (.mk k s t ts xs o) (.mk k2 s2 t2 ts2 xs2 o2) = ((k == k2) && (s.data.toList == s2.data.toList) && (Ty.cmp t t2 == 0) && Ex.sameT ts ts2 && Ex.sameL xs xs2) by rw [Ex.same])
  have HTB := Lib.hid (Here.later hb hbel)
  have HTB2 := Lib.hid (Here.later hb2 hbel)
  have HK := Lib.hid (RowH.later hc hbel)
  have HK2 := Lib.hid (RowH.later hc2 hbel)
  obtain ⟨x0, x1, x2, x3, x4, x5, x6, x7⟩ := H.out.one.c8
  obtain ⟨y0, y1, y2, y3, y4, y5, y6, y7⟩ := H.out.two.c8
  clear ih h1 h2 ha hb hc ha2 hb2 hc2 h hbel
  by_cases hk : k = k2
  · have e1 : (k != k2) = false := by simp [hk]
    have e2 : (k == k2) = true := by simp [hk]
    by_cases hsr : s.data.toList = s2.data.toList
    · have e3 : (s.toList == s2.toList) = true := by rw [Lib.toList_data, Lib.toList_data]; simp [hsr]
      have e4 : (s.toList != s2.toList) = false := by rw [Lib.toList_data, Lib.toList_data]; simp [hsr]
      have HD2 := Lib.hid (HD.out.trans (by rw [hsr, e2]; simp : _ = ((Ty.cmp t t2 == 0) && Ex.sameT ts ts2 && Ex.sameL xs xs2)))
      clear hk hsr HD
      go_enter Tryd.func44, Tryd.ntmps44
      go_wp2_with fail
      refine C1.out.mono ?_
      rintro e w1 ⟨rfl, hb1⟩
      have H1 := Lib.hid (H.out.later hb1)
      have C2 := Lib.hid (tsames_any ts ts2 B B2 l l2 b b2 w1 (Here.later HTB.out hb1) (Here.later HTB2.out hb1))
      have HKK := Lib.hid (RowH.later HK.out hb1)
      have HKK2 := Lib.hid (RowH.later HK2.out hb1)
      clear hb1 H C1 HTB HTB2 HK HK2 x0 x1 x2 x3 x4 x5 x6 x7 y0 y1 y2 y3 y4 y5 y6 y7
      obtain ⟨x0, x1, x2, x3, x4, x5, x6, x7⟩ := H1.out.one.c8
      obtain ⟨y0, y1, y2, y3, y4, y5, y6, y7⟩ := H1.out.two.c8
      cases hz : (Ty.cmp t t2 == 0)
      · have HC := Lib.hid (HD2.out.trans (by rw [hz]; simp : _ = false))
        go_wp2_with fail
        go_ret
        exact ⟨ret_bool (by rw [HC.out]), H1.out.bel⟩
      · have HD3 := Lib.hid (HD2.out.trans (by rw [hz]; simp : _ = (Ex.sameT ts ts2 && Ex.sameL xs xs2)))
        clear HD2
        go_wp2_with fail
        refine C2.out.mono ?_
        rintro e w2 ⟨rfl, hb2⟩
        have H2 := Lib.hid (H1.out.later hb2)
        have HL := Lib.hid (RowH.later HKK.out hb2)
        have HL2 := Lib.hid (RowH.later HKK2.out hb2)
        clear hb2 H1 C2 HKK HKK2 x0 x1 x2 x3 x4 x5 x6 x7 y0 y1 y2 y3 y4 y5 y6 y7
        obtain ⟨x0, x1, x2, x3, x4, x5, x6, x7⟩ := H2.out.one.c8
        obtain ⟨y0, y1, y2, y3, y4, y5, y6, y7⟩ := H2.out.two.c8
        cases hy : Ex.sameT ts ts2
        · have HC := Lib.hid (HD3.out.trans (by rw [hy]; simp : _ = false))
          go_wp2_with fail
          go_ret
          exact ⟨ret_bool (by rw [HC.out]), H2.out.bel⟩
        · have HD4 := Lib.hid (HD3.out.trans (by rw [hy]; simp : _ = Ex.sameL xs xs2))
          clear HD3
          by_cases hml : r = r2
          · subst hml
            have hnn : (!((r : Int) == (r : Int))) = false := by simp
            clear hxl hyl
            go_wp2_with fail
            clear x0 x1 x2 x3 x4 x5 x6 x7 y0 y1 y2 y3 y4 y5 y6 y7
            go_loopw [5] (fun i wr => ∃ k : Nat, k ≤ r ∧ i = .int .i64 k ∧ Ex.sameL xs xs2 = Ex.sameL (xs.drop k) (xs2.drop k) ∧ Below w2.heap.size w2 wr) (fun i _ => r - (intOf i).toNat)
            case atStart => exact ⟨0, by omega, rfl, rfl, Below.refl _ _⟩
            case round =>
              obtain ⟨j, hj, rfl, hq, hbel⟩ := hrel
              have H3 := Lib.hid (H2.out.later hbel)
              obtain ⟨x0, x1, x2, x3, x4, x5, x6, x7⟩ := H3.out.one.c8
              obtain ⟨y0, y1, y2, y3, y4, y5, y6, y7⟩ := H3.out.two.c8
              have HBL := Lib.hid hbel
              have HQ := Lib.hid hq
              clear hq
              by_cases hlt : j < r
              · have z0 : (0 : Int) ≤ j := by omega
                have z1 : (j : Int) < r := by omega
                obtain ⟨p, u, ps, rfl, hx, _, _, hu, hcs⟩ := kid_at (RowH.later HL.out hbel) hlt
                obtain ⟨p2, v, qs, rfl, hy2, _, _, hv, hds⟩ := kid_at (RowH.later HL2.out hbel) hlt
                have CC := Lib.hid (fun (V : World) (hV : Below wr.heap.size wr V) => (IH.out _ (List.mem_of_getElem? hx) v ps qs V (Dat.H.later hu hV) (Dat.H.later hv hV)).mono fun e w' (h : _ ∧ _) => (⟨h.1, hV.trans (h.2.mono hV.size)⟩ : _ ∧ Below wr.heap.size wr w'))
                obtain ⟨_, _, _, _, _, _, _, _, _, rfl, _⟩ := ex_open hu
                obtain ⟨_, _, _, _, _, _, _, _, _, rfl, _⟩ := ex_open hv
                obtain ⟨c0, c1, c2, c3, c4, c5, c6, c7⟩ := cells8_at hcs
                obtain ⟨d0, d1, d2, d3, d4, d5, d6, d7⟩ := cells8_at hds
                have HS := Lib.hid (HQ.out.trans (Ex.sameL_on hx hy2))
                clear hx hy2 hu hv hcs hds hbel HQ
                go_wp2_with fail
                go_still_tail 10, (by kernel_rfl)
                change wpList _ _ _ _ _ wr.drew
                go_wp2_with fail
                refine (CC.out _ (Below.refl _ _).drew).mono ?_
                rintro e w3 ⟨rfl, hb3⟩
                have HB3 := Lib.hid (HBL.out.trans (hb3.mono HBL.out.size))
                clear hb3
                cases hz3 : Ex.same u v
                · have HC := Lib.hid (HD4.out.trans (HS.out.trans (by rw [hz3]; rfl : _ = false)))
                  go_wp2
                  go_ret
                  exact ⟨ret_bool (by rw [HC.out]), H2.out.bel.trans (HB3.out.mono H2.out.bel.size)⟩
                · have HS2 := Lib.hid (HS.out.trans (by rw [hz3]; rfl : _ = Ex.sameL (xs.drop (j + 1)) (xs2.drop (j + 1))))
                  go_wp2
                  go_roundw
                  case rel => exact ⟨j + 1, by omega, by go_num, HS2.out, HB3.out⟩
                  case measure => simp [intOf]; omega
              · have hq := HD4.out.trans HQ.out
                have n1 := HL.out.len
                have n2 := HL2.out.len
                rw [Ex.dats_len] at n1 n2
                rw [List.drop_eq_nil_of_le (by omega), List.drop_eq_nil_of_le (by omega), Ex.sameL] at hq
                have HQ2 := Lib.hid hq
                have q1 : (r : Int) ≤ j := by omega
                clear hq hbel n1 n2
                go_wp2_with fail
                go_ret
                exact ⟨ret_bool (by rw [HQ2.out]), H2.out.bel.trans (HBL.out.mono H2.out.bel.size)⟩
          · have HC := Lib.hid (HD4.out.trans (Ex.sameL_len (by rw [hxl, hyl]; exact hml)))
            have e6 : ((r : Int) != (r2 : Int)) = true := by simp; omega
            have e7 : ((r : Int) == (r2 : Int)) = false := by simp; omega
            clear hxl hyl hml
            go_wp2_with fail
            go_ret
            exact ⟨ret_bool (by rw [HC.out]), H2.out.bel⟩
    · have e3 : (s.toList == s2.toList) = false := by rw [Lib.toList_data, Lib.toList_data]; simpa using hsr
      have e4 : (s.toList != s2.toList) = true := by rw [Lib.toList_data, Lib.toList_data]; simpa using hsr
      have HC := Lib.hid (HD.out.trans (by rw [show (s.data.toList == s2.data.toList) = false by simpa using hsr]; simp : _ = false))
      clear hsr hxl hyl hk
      go_enter Tryd.func44, Tryd.ntmps44
      go_wp2_with fail
      go_ret
      exact ⟨ret_bool (by rw [HC.out]), H.out.bel⟩
  · have e1 : (k != k2) = true := by simp [hk]
    have e2 : (k == k2) = false := by simp [hk]
    have HC := Lib.hid (HD.out.trans (by rw [e2]; simp : _ = false))
    clear hxl hyl hk
    go_enter Tryd.func44, Tryd.ntmps44
    go_wp2_with fail
    go_ret
    exact ⟨ret_bool (by rw [HC.out]), H.out.bel⟩
end Go.Proofs.YtjhlehdjdaphcaaDoor
namespace Go.Proofs.YtjhlehdjdaphcaaDoor
open Go.RowKit

set_option maxRecDepth 100000 in
set_option maxHeartbeats 8000000 in
theorem xref_equal_any : ∀ (e f : Ex) (us vs : List Value) (w : World), e.dat.H w us → f.dat.H w vs →
    Calls Tryd.prog 45 #[.agg us.toArray, .agg vs.toArray] w (EqvPost w (e.eqv f)) := by
  refine Ex.ind fun k s t ts xs o ih f us vs w h1 h2 => ?_
  obtain ⟨k2, s2, t2, ts2, xs2, o2⟩ := f
  obtain ⟨A, m, a, B, l, b, C, r, c, rfl, hs, ht, ha, hb, hc⟩ := ex_open h1
  obtain ⟨A2, m2, a2, B2, l2, b2, C2, r2, c2, rfl, hs2, ht2, ha2, hb2, hc2⟩ := ex_open h2
  have h := TwoX.new h1 h2 28
  simp only [Ex.kind, Ex.name, Ex.ty, Ex.targs, Ex.kids, Ex.off] at hs ht ha hb hc hs2 ht2 ha2 hb2 hc2 h ⊢
  have hl : (l : Int) ≤ 9223372036854775807 := by have := hb.le; omega
  have hr : (r : Int) ≤ 9223372036854775807 := by have := hc.le; omega
  have hl2 : (l2 : Int) ≤ 9223372036854775807 := by have := hb2.le; omega
  have hr2 : (r2 : Int) ≤ 9223372036854775807 := by have := hc2.le; omega
  have hxl := hc.len
  have hyl := hc2.len
  have htl := hb.len
  have htl2 := hb2.len
  rw [Ex.dats_len] at hxl hyl
  have IH := Lib.hid ih
  have H := Lib.hid h
  have hbel := h.bel
  have C1 := Lib.hid (ref_equal_any t t2 A A2 m m2 a a2 _ ht ht2 (Here.later ha hbel) (Here.later ha2 hbel))
  have HD := Lib.hid (show Ex.eqv (.mk k s t ts xs o) (.mk k2 s2 t2 ts2 xs2 o2) = ((o == o2) && (k == k2) && (s.data.toList == s2.data.toList) && Ty.eqv t t2 && Ty.eqvL ts ts2 && Ex.eqvL xs xs2) by rw [Ex.eqv])
  have HTB := Lib.hid (Here.later hb hbel)
  have HTB2 := Lib.hid (Here.later hb2 hbel)
  have HK := Lib.hid (RowH.later hc hbel)
  have HK2 := Lib.hid (RowH.later hc2 hbel)
  obtain ⟨x0, x1, x2, x3, x4, x5, x6, x7⟩ := H.out.one.c8
  obtain ⟨y0, y1, y2, y3, y4, y5, y6, y7⟩ := H.out.two.c8
  clear ih h1 h2 ha hb hc ha2 hb2 hc2 h hbel
  by_cases hno : o = o2 ∧ k = k2 ∧ s.data.toList = s2.data.toList
  · obtain ⟨ho, hk, hsr⟩ := hno
    have e1 : (o != o2) = false := by simp [ho]
    have e2 : (o == o2) = true := by simp [ho]
    have e3 : (k != k2) = false := by simp [hk]
    have e4 : (k == k2) = true := by simp [hk]
    have e5 : (s.toList == s2.toList) = true := by rw [Lib.toList_data, Lib.toList_data]; simp [hsr]
    have e6 : (s.toList != s2.toList) = false := by rw [Lib.toList_data, Lib.toList_data]; simp [hsr]
    have HD2 := Lib.hid (HD.out.trans (by rw [hsr, e2, e4]; simp : _ = (Ty.eqv t t2 && Ty.eqvL ts ts2 && Ex.eqvL xs xs2)))
    clear ho hk hsr HD
    go_enter Tryd.func45, Tryd.ntmps45
    go_wp2_with fail
    refine C1.out.mono ?_
    rintro e w1 ⟨rfl, hb1⟩
    have H1 := Lib.hid (H.out.later hb1)
    have HT := Lib.hid (Here.later HTB.out hb1)
    have HT2 := Lib.hid (Here.later HTB2.out hb1)
    have HL := Lib.hid (RowH.later HK.out hb1)
    have HL2 := Lib.hid (RowH.later HK2.out hb1)
    clear hb1 H C1 HTB HTB2 HK HK2 x0 x1 x2 x3 x4 x5 x6 x7 y0 y1 y2 y3 y4 y5 y6 y7
    obtain ⟨x0, x1, x2, x3, x4, x5, x6, x7⟩ := H1.out.one.c8
    obtain ⟨y0, y1, y2, y3, y4, y5, y6, y7⟩ := H1.out.two.c8
    cases hz : Ty.eqv t t2
    · have HC := Lib.hid (HD2.out.trans (by rw [hz]; simp : _ = false))
      go_wp2_with fail
      go_ret
      exact ⟨ret_bool (by rw [HC.out]), H1.out.bel⟩
    · have HD3 := Lib.hid (HD2.out.trans (by rw [hz]; simp : _ = (Ty.eqvL ts ts2 && Ex.eqvL xs xs2)))
      clear HD2
      by_cases hml : l = l2
      · subst hml
        by_cases hmr : r = r2
        · subst hmr
          have n1 : (!((l : Int) == (l : Int))) = false := by simp
          have n2 : (!((r : Int) == (r : Int))) = false := by simp
          go_wp2_with fail
          clear x0 x1 x2 x3 x4 x5 x6 x7 y0 y1 y2 y3 y4 y5 y6 y7
          go_loopw [5] (fun i wr => ∃ k : Nat, k ≤ l ∧ i = .int .i64 k ∧ Ty.eqvL ts ts2 = Ty.eqvL (ts.drop k) (ts2.drop k) ∧ Below w1.heap.size w1 wr) (fun i _ => l - (intOf i).toNat)
          case atStart => exact ⟨0, by omega, rfl, rfl, Below.refl _ _⟩
          case round =>
            obtain ⟨j, hj, rfl, hq, hbel⟩ := hrel
            have H3 := Lib.hid (H1.out.later hbel)
            obtain ⟨x0, x1, x2, x3, x4, x5, x6, x7⟩ := H3.out.one.c8
            obtain ⟨y0, y1, y2, y3, y4, y5, y6, y7⟩ := H3.out.two.c8
            have HBL := Lib.hid hbel
            have HQ := Lib.hid hq
            clear hq
            by_cases hlt : j < l
            · have z0 : (0 : Int) ≤ j := by omega
              have z1 : (j : Int) < l := by omega
              obtain ⟨p, u, us2, uo, A5, m5, c5, rfl, hx, _, c0, c1, c2, hu, hul⟩ := (HT.out.later hbel).get hlt
              obtain ⟨p2, v, vs2, vo, A6, m6, c6, rfl, hy, _, d0, d1, d2, hv, hvl⟩ := (HT2.out.later hbel).get hlt
              have CC := Lib.hid (fun (V : World) (hV : Below wr.heap.size wr V) => (ref_equal_any (.mk u us2 uo) (.mk v vs2 vo) A5 A6 m5 m6 c5 c6 V hu hv (Here.later hul hV) (Here.later hvl hV)).mono fun e w' (h : _ ∧ _) => (⟨h.1, hV.trans (h.2.mono hV.size)⟩ : _ ∧ Below wr.heap.size wr w'))
              simp only [Ty.name, Ty.off] at CC
              have HS := Lib.hid (HQ.out.trans (eqvL_on hx hy))
              clear hx hy hul hvl hbel HQ
              go_wp2_with fail
              go_still_tail 10, (by kernel_rfl)
              change wpList _ _ _ _ _ wr.drew
              go_wp2_with fail
              refine (CC.out _ (Below.refl _ _).drew).mono ?_
              rintro e w3 ⟨rfl, hb3⟩
              have HB3 := Lib.hid (HBL.out.trans (hb3.mono HBL.out.size))
              clear hb3
              cases hz3 : Ty.eqv (.mk u us2 uo) (.mk v vs2 vo)
              · have HC := Lib.hid (HD3.out.trans (by rw [HS.out, hz3]; simp : _ = false))
                go_wp2
                go_ret
                exact ⟨ret_bool (by rw [HC.out]), H1.out.bel.trans (HB3.out.mono H1.out.bel.size)⟩
              · have HS2 := Lib.hid (HS.out.trans (by rw [hz3]; rfl : _ = Ty.eqvL (ts.drop (j + 1)) (ts2.drop (j + 1))))
                go_wp2
                go_roundw
                case rel => exact ⟨j + 1, by omega, by go_num, HS2.out, HB3.out⟩
                case measure => simp [intOf]; omega
            · have hq2 := HQ.out
              rw [List.drop_eq_nil_of_le (by omega), List.drop_eq_nil_of_le (by omega), Ty.eqvL] at hq2
              have HD4 := Lib.hid (HD3.out.trans (by rw [hq2]; simp : _ = Ex.eqvL xs xs2))
              have q1 : (l : Int) ≤ j := by omega
              have HM := Lib.hid (RowH.later HL.out hbel)
              have HM2 := Lib.hid (RowH.later HL2.out hbel)
              clear hq2 hbel HD3 HQ HBL H1 HT HT2 HL HL2
              go_wp2_with fail
              generalize hV : wr = V at *
              clear hV x0 x1 x2 x3 x4 x5 x6 x7 y0 y1 y2 y3 y4 y5 y6 y7
              go_loopw [6] (fun i wr => ∃ k : Nat, k ≤ r ∧ i = .int .i64 k ∧ Ex.eqvL xs xs2 = Ex.eqvL (xs.drop k) (xs2.drop k) ∧ Below V.heap.size V wr) (fun i _ => r - (intOf i).toNat)
              case atStart => exact ⟨0, by omega, rfl, rfl, Below.refl _ _⟩
              case round =>
                obtain ⟨i, hi, rfl, hq, hbel⟩ := hrel
                have H4 := Lib.hid (H3.out.later hbel)
                obtain ⟨x0, x1, x2, x3, x4, x5, x6, x7⟩ := H4.out.one.c8
                obtain ⟨y0, y1, y2, y3, y4, y5, y6, y7⟩ := H4.out.two.c8
                have HBL := Lib.hid hbel
                have HQ := Lib.hid hq
                clear hq
                by_cases hlt2 : i < r
                · have z0 : (0 : Int) ≤ i := by omega
                  have z1 : (i : Int) < r := by omega
                  obtain ⟨p, u, ps, rfl, hx, _, _, hu, hcs⟩ := kid_at (RowH.later HM.out hbel) hlt2
                  obtain ⟨p2, v, qs, rfl, hy2, _, _, hv, hds⟩ := kid_at (RowH.later HM2.out hbel) hlt2
                  have CC := Lib.hid (fun (V : World) (hV : Below wr.heap.size wr V) => (IH.out _ (List.mem_of_getElem? hx) v ps qs V (Dat.H.later hu hV) (Dat.H.later hv hV)).mono fun e w' (h : _ ∧ _) => (⟨h.1, hV.trans (h.2.mono hV.size)⟩ : _ ∧ Below wr.heap.size wr w'))
                  obtain ⟨_, _, _, _, _, _, _, _, _, rfl, _⟩ := ex_open hu
                  obtain ⟨_, _, _, _, _, _, _, _, _, rfl, _⟩ := ex_open hv
                  obtain ⟨c0, c1, c2, c3, c4, c5, c6, c7⟩ := cells8_at hcs
                  obtain ⟨d0, d1, d2, d3, d4, d5, d6, d7⟩ := cells8_at hds
                  have HS := Lib.hid (HQ.out.trans (Ex.eqvL_on hx hy2))
                  clear hx hy2 hu hv hcs hds hbel HQ
                  go_wp2_with fail
                  go_still_tail 10, (by kernel_rfl)
                  change wpList _ _ _ _ _ wr.drew
                  go_wp2_with fail
                  refine (CC.out _ (Below.refl _ _).drew).mono ?_
                  rintro e w3 ⟨rfl, hb3⟩
                  have HB3 := Lib.hid (HBL.out.trans (hb3.mono HBL.out.size))
                  clear hb3
                  cases hz3 : Ex.eqv u v
                  · have HC := Lib.hid (HD4.out.trans (HS.out.trans (by rw [hz3]; rfl : _ = false)))
                    go_wp2
                    go_ret
                    exact ⟨ret_bool (by rw [HC.out]), H3.out.bel.trans (HB3.out.mono H3.out.bel.size)⟩
                  · have HS2 := Lib.hid (HS.out.trans (by rw [hz3]; rfl : _ = Ex.eqvL (xs.drop (i + 1)) (xs2.drop (i + 1))))
                    go_wp2
                    go_roundw
                    case rel => exact ⟨i + 1, by omega, by go_num, HS2.out, HB3.out⟩
                    case measure => simp [intOf]; omega
                · have hq := HD4.out.trans HQ.out
                  rw [List.drop_eq_nil_of_le (by omega), List.drop_eq_nil_of_le (by omega), Ex.eqvL] at hq
                  have HQ2 := Lib.hid hq
                  have q2 : (r : Int) ≤ i := by omega
                  clear hq hbel
                  go_wp2_with fail
                  go_ret
                  exact ⟨ret_bool (by rw [HQ2.out]), H3.out.bel.trans (HBL.out.mono H3.out.bel.size)⟩
        · have HC := Lib.hid (HD3.out.trans (by rw [Ex.eqvL_len (by rw [hxl, hyl]; exact hmr), Bool.and_false] : _ = false))
          have n1 : (!((l : Int) == (l : Int))) = false := by simp
          have e6 : ((r : Int) != (r2 : Int)) = true := by simp; omega
          have e7 : ((r : Int) == (r2 : Int)) = false := by simp; omega
          clear hxl hyl hmr
          go_wp2_with fail
          go_ret
          exact ⟨ret_bool (by rw [HC.out]), H1.out.bel⟩
      · have HC := Lib.hid (HD3.out.trans (by rw [eqvL_len (by rw [htl, htl2]; exact hml), Bool.false_and] : _ = false))
        have e6 : ((l : Int) != (l2 : Int)) = true := by simp; omega
        have e7 : ((l : Int) == (l2 : Int)) = false := by simp; omega
        clear hxl hyl htl htl2 hml
        go_wp2_with fail
        go_ret
        exact ⟨ret_bool (by rw [HC.out]), H1.out.bel⟩
  · have HC := Lib.hid (HD.out.trans (by
      rw [show ((o == o2) && (k == k2) && (s.data.toList == s2.data.toList)) = false by
        rw [Bool.eq_false_iff]
        intro h
        simp only [Bool.and_eq_true, beq_iff_eq] at h
        exact hno ⟨h.1.1, h.1.2, h.2⟩]
      simp : _ = false))
    have hcond : (o ≠ o2) ∨ (o = o2 ∧ k ≠ k2) ∨ (o = o2 ∧ k = k2 ∧ s.data.toList ≠ s2.data.toList) := by
      by_cases h1 : o = o2
      · by_cases h2 : k = k2
        · exact .inr (.inr ⟨h1, h2, fun h => hno ⟨h1, h2, h⟩⟩)
        · exact .inr (.inl ⟨h1, h2⟩)
      · exact .inl h1
    have hcond2 : ((o != o2) = true ∧ (o == o2) = false) ∨ ((o != o2) = false ∧ (o == o2) = true ∧ (k != k2) = true ∧ (k == k2) = false) ∨ ((o != o2) = false ∧ (o == o2) = true ∧ (k != k2) = false ∧ (k == k2) = true ∧ (s.toList == s2.toList) = false ∧ (s.toList != s2.toList) = true) := by
      rcases hcond with h | ⟨h1, h2⟩ | ⟨h1, h2, h3⟩
      · exact .inl ⟨by simp [h], by simp [h]⟩
      · exact .inr (.inl ⟨by simp [h1], by simp [h1], by simp [h2], by simp [h2]⟩)
      · exact .inr (.inr ⟨by simp [h1], by simp [h1], by simp [h2], by simp [h2], by rw [Lib.toList_data, Lib.toList_data]; simpa using h3, by rw [Lib.toList_data, Lib.toList_data]; simpa using h3⟩)
    clear hcond hno hxl hyl htl htl2
    rcases hcond2 with ⟨e1, e2⟩ | ⟨e1, e2, e3, e4⟩ | ⟨e1, e2, e3, e4, e5, e6⟩
    all_goals
      go_enter Tryd.func45, Tryd.ntmps45
      go_wp2_with fail
      go_ret
      exact ⟨ret_bool (by rw [HC.out]), H.out.bel⟩
end Go.Proofs.YtjhlehdjdaphcaaDoor
