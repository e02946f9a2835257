/- The walks of the reference's Count and Few of expressions. -/
import Derived.Test.YtnfakhohoibkpaaDoorExB
import Derived.Test.YtnfakhohoibkpaaDoorTyC
namespace Go.Proofs.YtnfakhohoibkpaaDoor
open Go.RowKit

set_option maxRecDepth 100000 in
set_option maxHeartbeats 4000000 in
theorem xcount_any : ∀ (e : Ex) (us : List Value) (n : Int) (w : World), 0 ≤ n → n ≤ 300000000000000000 → e.dat.H w us →
    Calls Tryd.prog 30 #[.agg us.toArray, .int .i64 n] w (CntPost w (e.cnt n)) := by
  refine Ex.ind fun k s t ts xs o ih us n w h0 h1 h => ?_
  obtain ⟨A, m, a, B, l, b, C, r, c, rfl, hs, ht, ha, hb, hc⟩ := ex_open h
  simp only [Ex.kind, Ex.name, Ex.ty, Ex.targs, Ex.kids, Ex.off] at hs ht ha hb hc ⊢
  have hbel : Below w.heap.size w (w.alloc (.cells #[.int .i64 k, .string s, .string t.name, .slice A m a, .int .i64 t.off, .slice B l b, .slice C r c, .int .i64 o] 27)) := (Below.refl _ _).alloc (Nat.le_refl _) _
  have hl : (l : Int) ≤ 9223372036854775807 := by have := hb.le; omega
  have hr : (r : Int) ≤ 9223372036854775807 := by have := hc.le; omega
  have z1 : (s.size : Int) / 50 ≤ 190000000000000000 := by omega
  have z2 : 0 ≤ (s.size : Int) / 50 := by omega
  have IH := Lib.hid ih
  have HA := Lib.hid (Here.later ha hbel)
  have HT := Lib.hid (Here.later hb hbel)
  have HK := Lib.hid (RowH.later hc hbel)
  have HX := Lib.hid (Boxd.new w #[.int .i64 k, .string s, .string t.name, .slice A m a, .int .i64 t.off, .slice B l b, .slice C r c, .int .i64 o] 27)
  have HB := Lib.hid hbel
  have HC := Lib.hid (show Ex.cnt (.mk k s t ts xs o) n = Ex.cntL (xs.drop 0) (Ty.cntL (ts.drop 0) (Ty.cnt t (n + s.size / 50))) by rw [List.drop_zero, List.drop_zero, Ex.cnt])
  clear ih h ha hb hc hbel
  have CT := Lib.hid (count_any t A m a (n + s.size / 50) _ ht (by omega) (by omega) HA.out)
  obtain ⟨x0, x1, x2, x3, x4, x5, x6, x7⟩ := HX.out.c8
  go_enter Tryd.func30, Tryd.ntmps30
  go_wp2_with fail
  refine CT.out.mono ?_
  rintro e w1 ⟨rfl, g0, g1, hb1⟩
  have HA1 := Lib.hid (Here.later HT.out hb1)
  have HK1 := Lib.hid (RowH.later HK.out hb1)
  have HX1 := Lib.hid (Boxd.later HX.out hb1)
  have HB1 := Lib.hid (HB.out.trans (hb1.mono HB.out.size))
  clear hb1 CT HX HT HK HA x0 x1 x2 x3 x4 x5 x6 x7
  generalize Ty.cnt t (n + s.size / 50) = q0 at *
  go_wp2_with fail
  go_loopw [1, 5] (fun v i wr => ∃ (j : Nat) (q : Int), j ≤ l ∧ i = .int .i64 j ∧ v = .int .i64 q ∧ 0 ≤ q ∧ q ≤ 1000000000000000000 ∧ Ex.cnt (.mk k s t ts xs o) n = Ex.cntL (xs.drop 0) (Ty.cntL (ts.drop j) q) ∧ Below w1.heap.size w1 wr) (fun _ i _ => l - (intOf i).toNat)
  case atStart => exact ⟨0, _, by omega, rfl, rfl, by omega, by omega, HC.out, Below.refl _ _⟩
  case round =>
    obtain ⟨j, q, hj, rfl, rfl, hq0, hq1, hc, hbel⟩ := hrel
    obtain ⟨x0, x1, x2, x3, x4, x5, x6, x7⟩ := (HX1.out.later hbel).c8
    have HBL := Lib.hid hbel
    have HQ := Lib.hid hc
    clear hc
    by_cases hgo : j < l ∧ q ≤ 2000
    · obtain ⟨hlt, hq⟩ := hgo
      have y0 : (j : Int) < l := by omega
      obtain ⟨p, u, ys, po, A2, m2, d2, rfl, hx, _, c0, c1, c2, hu, hl2⟩ := (HA1.out.later hbel).get hlt
      have CC := Lib.hid (count_any (.mk u ys po) A2 m2 d2 q wr hu hq0 (by omega) hl2)
      have HQ2 := Lib.hid (HQ.out.trans (congrArg (Ex.cntL (xs.drop 0)) (cntL_on hx hq)))
      clear hx hl2 hbel
      simp only [Ty.name, Ty.off] at CC
      go_wp2_with fail
      refine CC.out.mono ?_
      rintro e w2 ⟨rfl, f0, f1, hb2⟩
      have HB2 := Lib.hid (HBL.out.trans (hb2.mono HBL.out.size))
      clear hb2
      go_wp2_with fail
      go_roundw
      case rel => exact ⟨j + 1, _, by omega, by go_num, rfl, f0, f1, HQ2.out, HB2.out⟩
      case measure => simp [intOf]; omega
    · have hend : Ty.cntL (ts.drop j) q = q := by
        by_cases hlt : j < l
        · exact cntL_off (fun h => hgo ⟨hlt, h⟩)
        · exact cntL_end (by have := HA1.out.len; omega)
      have hcond : ((l : Int) ≤ j) ∨ ((j : Int) < l ∧ 2000 < q) := by omega
      rw [hend] at HQ
      have HK2 := Lib.hid (RowH.later HK1.out hbel)
      have HX2 := Lib.hid (Boxd.later HX1.out hbel)
      have HB2 := Lib.hid (HB1.out.trans (hbel.mono HB1.out.size))
      clear hend hgo hbel HA1 HX1 HK1
      generalize hV : wr = V at *
      clear hV
      rcases hcond with y0 | ⟨y0, y1⟩
      all_goals
        go_wp2_with fail
        go_loopw [1, 6] (fun v i wr => ∃ (j : Nat) (q : Int), j ≤ r ∧ i = .int .i64 j ∧ v = .int .i64 q ∧ 0 ≤ q ∧ q ≤ 1000000000000000000 ∧ Ex.cnt (.mk k s t ts xs o) n = Ex.cntL (xs.drop j) q ∧ Below V.heap.size V wr) (fun _ i _ => r - (intOf i).toNat)
        case atStart => exact ⟨0, _, by omega, rfl, rfl, by omega, by omega, HQ.out, Below.refl _ _⟩
        case round =>
          obtain ⟨i, q2, hi, rfl, rfl, hp0, hp1, hc2, hbel⟩ := hrel
          obtain ⟨x0, x1, x2, x3, x4, x5, x6, x7⟩ := (HX2.out.later hbel).c8
          have HBM := Lib.hid hbel
          have HQ3 := Lib.hid hc2
          clear hc2
          by_cases hgo : i < r ∧ q2 ≤ 2000
          · obtain ⟨hlt, hq⟩ := hgo
            have yy : (i : Int) < r := by omega
            obtain ⟨p, u, vs, rfl, hx, _, _, hu, hcs⟩ := kid_at (RowH.later HK2.out hbel) hlt
            obtain ⟨A3, m3, a3, B3, l3, b3, C3, n3, c3, rfl, _⟩ := ex_open hu
            obtain ⟨c0, c1, c2, c4, c5, c6, c7, c8⟩ := cells8_at hcs
            have CC := Lib.hid (IH.out _ (List.mem_of_getElem? hx) _ q2 wr hp0 (by omega) hu)
            have HQ4 := Lib.hid (HQ3.out.trans (Ex.cntL_on hx hq))
            clear hx hu hbel hcs
            go_wp2_with fail
            refine CC.out.mono ?_
            rintro e w2 ⟨rfl, f0, f1, hb2⟩
            have HB5 := Lib.hid (HBM.out.trans (hb2.mono HBM.out.size))
            clear hb2
            go_wp2_with fail
            go_roundw
            case rel => exact ⟨i + 1, _, by omega, by go_num, rfl, f0, f1, HQ4.out, HB5.out⟩
            case measure => simp [intOf]; omega
          · have hend : Ex.cntL (xs.drop i) q2 = q2 := by
              by_cases hlt : i < r
              · exact Ex.cntL_off (fun h => hgo ⟨hlt, h⟩)
              · exact Ex.cntL_end (by have := HK2.out.len; rw [Ex.dats_len] at this; omega)
            have hcond : ((r : Int) ≤ i) ∨ ((i : Int) < r ∧ 2000 < q2) := by omega
            rw [hend] at HQ3
            clear hend hgo hbel
            rcases hcond with yy | ⟨yy, yz⟩
            all_goals
              go_wp2_with fail
              go_ret
              exact ⟨ret_int (by rw [HQ3.out]), by rw [HQ3.out]; omega, by rw [HQ3.out]; omega, HB2.out.trans (HBM.out.mono HB2.out.size)⟩

def Ex.few (e : Ex) : Bool := decide (e.cnt 0 ≤ 250)
set_option maxHeartbeats 1000000 in
theorem xfew_any (e : Ex) (us : List Value) (w : World) (h : e.dat.H w us) :
    Calls Tryd.prog 9 #[.agg us.toArray] w (EqvPost w e.few) := by
  obtain ⟨A, m, a, B, l, b, C, r, c, rfl, _⟩ := ex_open h
  have hbel : Below w.heap.size w (w.alloc (.cells #[.int .i64 e.kind, .string e.name, .string e.ty.name, .slice A m a, .int .i64 e.ty.off, .slice B l b, .slice C r c, .int .i64 e.off] 27)) := (Below.refl _ _).alloc (Nat.le_refl _) _
  have HX := Lib.hid (Boxd.new w #[.int .i64 e.kind, .string e.name, .string e.ty.name, .slice A m a, .int .i64 e.ty.off, .slice B l b, .slice C r c, .int .i64 e.off] 27)
  have CC := Lib.hid (xcount_any e _ 0 _ (by omega) (by omega) (Dat.H.later h hbel))
  have HB := Lib.hid hbel
  obtain ⟨x0, x1, x2, x3, x4, x5, x6, x7⟩ := HX.out.c8
  clear h hbel
  go_enter Tryd.func9, Tryd.ntmps9
  go_wp2_with fail
  refine CC.out.mono ?_
  rintro e1 w1 ⟨rfl, g0, g1, hb1⟩
  have HB1 := Lib.hid (HB.out.trans (hb1.mono HB.out.size))
  have hd : e.few = decide (e.cnt 0 ≤ 250) := rfl
  generalize e.cnt 0 = q at *
  clear hb1
  go_wp2_with fail
  go_ret
  exact ⟨ret_bool hd.symm, HB1.out⟩
end Go.Proofs.YtnfakhohoibkpaaDoor
