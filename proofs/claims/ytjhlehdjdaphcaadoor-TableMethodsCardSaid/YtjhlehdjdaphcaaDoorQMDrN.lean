/- The walks of the reference's counts, up to signatures, with narrower bounds. No condition.
The walk of the reference's countSig. No condition.
The walks of the reference's Count and Few. No condition. -/
import Derived.Test.YtjhlehdjdaphcaaDoorQMDcF
import Derived.StillTailTactics
import Derived.Deep.RegionHeld3
namespace Go.Proofs.YtjhlehdjdaphcaaDoor
open Go.RowKit

/-- What a count returns that began at n. -/
def CntB (w : World) (n k c : Int) (e : Ending) (w' : World) : Prop := e = .returned (.int .i64 c) ∧ 0 ≤ c ∧ c ≤ max n 2000 + k ∧ Below w.heap.size w w'
theorem fcntL_on {xs : List Fo} {k : Nat} {x : Fo} {n : Int} (hx : xs[k]? = some x) (hn : n ≤ 2000) : Fo.cntL (xs.drop k) n = Fo.cntL (xs.drop (k + 1)) (Ty.cnt x.ty (n + 1 + x.name.size / 50)) := by
  rw [Ex.drop_at hx, Fo.cntL, if_pos hn]
theorem fcntL_off {xs : List Fo} {k : Nat} {n : Int} (hn : ¬ n ≤ 2000) : Fo.cntL (xs.drop k) n = n := by
  cases xs.drop k with
  | nil => rw [Fo.cntL]
  | cons a r => rw [Fo.cntL, if_neg hn]
theorem fcntL_end {xs : List Fo} {k : Nat} {n : Int} (hk : xs.length ≤ k) : Fo.cntL (xs.drop k) n = n := by
  rw [List.drop_eq_nil_of_le hk, Fo.cntL]

set_option maxHeartbeats 2000000 in
theorem rcount_any : ∀ (t : Ty) (A : Option Addr) (m c : Nat) (n : Int) (w : World), t.name.size ≤ 9223372036854775807 → 0 ≤ n → n ≤ 4000000000000000000 → Here w A m t.args →
    Calls Tryd.prog 31 #[.agg #[.string t.name, .slice A m c, .int .i64 t.off], .int .i64 n] w (CntB w n 190000000000000001 (t.cnt n)) := by
  refine Ty.ind fun s xs o ih A m c n w hs h0 h1 h => ?_
  simp only [Ty.name, Ty.args, Ty.off] at hs h ⊢
  have hb : Below w.heap.size w (w.alloc (.cells #[.string s, .slice A m c, .int .i64 o] 25)) := (Below.refl _ _).alloc (Nat.le_refl _) _
  have hm : (m : Int) ≤ 9223372036854775807 := by have := h.le; omega
  have z1 : (s.size : Int) / 50 ≤ 190000000000000000 := by omega
  have z2 : 0 ≤ (s.size : Int) / 50 := by omega
  have IH := Lib.hid ih
  have H := Lib.hid (Here.later h hb)
  have HX := Lib.hid (Box.new w s A m c o 25)
  have HB := Lib.hid hb
  have HC := Lib.hid (show Ty.cnt (.mk s xs o) n = Ty.cntL (xs.drop 0) (n + 1 + s.size / 50) by rw [List.drop_zero, Ty.cnt])
  clear ih h hb
  go_enter Tryd.func31, Tryd.ntmps31
  go_wp2_with fail
  generalize hW : w.alloc (.cells #[.string s, .slice A m c, .int .i64 o] 25) = W at *
  clear hW
  go_loopw [1, 5] (fun v i wr => ∃ (k : Nat) (q : Int), k ≤ m ∧ i = .int .i64 k ∧ v = .int .i64 q ∧ 0 ≤ q ∧ q ≤ max n 2000 + 190000000000000001 ∧ Ty.cnt (.mk s xs o) n = Ty.cntL (xs.drop k) q ∧ Below W.heap.size W wr) (fun _ i _ => m - (intOf i).toNat)
  case atStart => exact ⟨0, _, by omega, rfl, rfl, by omega, by omega, HC.out, Below.refl _ _⟩
  case round =>
    obtain ⟨k, q, hk, rfl, rfl, hq0, hq1, hc, hbel⟩ := hrel
    obtain ⟨x0, x1, x2⟩ := HX.out.later hbel
    have HBL := Lib.hid hbel
    have HQ := Lib.hid hc
    clear hc
    by_cases hlt : k < m
    · have y0 : (k : Int) < m := by omega
      by_cases hq : q ≤ 2000
      · obtain ⟨a, u, ys, p, B, l, d, rfl, hx, _, c0, c1, c2, hu, hl⟩ := (H.out.later hbel).get hlt
        have C := Lib.hid (IH.out _ (List.mem_of_getElem? hx) B l d q wr hu hq0 (by omega) hl)
        have HQ2 := Lib.hid (HQ.out.trans (cntL_on hx hq))
        clear hx hl hbel
        simp only [Ty.name, Ty.off] at C
        go_wp2_with fail
        refine C.out.mono ?_
        rintro e w1 ⟨rfl, g0, g1, hb1⟩
        have HB1 := Lib.hid (HBL.out.trans (hb1.mono HBL.out.size))
        clear hb1
        go_wp2_with fail
        go_roundw
        case rel => exact ⟨k + 1, _, by omega, by go_num, rfl, g0, by omega, HQ2.out, HB1.out⟩
        case measure => simp [intOf]; omega
      · have HQ2 := Lib.hid (HQ.out.trans (cntL_off hq))
        have y1 : 2000 < q := by omega
        clear hq hbel
        go_wp2_with fail
        go_ret
        exact ⟨ret_int (by rw [HQ2.out]), by rw [HQ2.out]; omega, by rw [HQ2.out]; omega, HB.out.trans (HBL.out.mono HB.out.size)⟩
    · have y0 : (m : Int) ≤ k := by omega
      have HQ2 := Lib.hid (HQ.out.trans (cntL_end (by rw [H.out.len]; omega)))
      clear hbel
      go_wp2_with fail
      go_ret
      exact ⟨ret_int (by rw [HQ2.out]), by rw [HQ2.out]; omega, by rw [HQ2.out]; omega, HB.out.trans (HBL.out.mono HB.out.size)⟩

set_option maxRecDepth 100000 in
set_option maxHeartbeats 4000000 in
theorem rxcount_any : ∀ (e : Ex) (us : List Value) (n : Int) (w : World), 0 ≤ n → n ≤ 2000000000000000000 → e.dat.H w us →
    Calls Tryd.prog 52 #[.agg us.toArray, .int .i64 n] w (CntB w n 380000000000000001 (e.cnt n)) := by
  refine Ex.ind fun k s t ts xs o ih us n w h0 h1 h => ?_
  obtain ⟨A, m, a, B, l, b, C, r, c, rfl, hs, ht, ha, hb, hc⟩ := ex_open h
  simp only [Ex.kind, Ex.name, Ex.ty, Ex.targs, Ex.kids, Ex.off] at hs ht ha hb hc ⊢
  have hbel : Below w.heap.size w (w.alloc (.cells #[.int .i64 k, .string s, .string t.name, .slice A m a, .int .i64 t.off, .slice B l b, .slice C r c, .int .i64 o] 28)) := (Below.refl _ _).alloc (Nat.le_refl _) _
  have hl : (l : Int) ≤ 9223372036854775807 := by have := hb.le; omega
  have hr : (r : Int) ≤ 9223372036854775807 := by have := hc.le; omega
  have z1 : (s.size : Int) / 50 ≤ 190000000000000000 := by omega
  have z2 : 0 ≤ (s.size : Int) / 50 := by omega
  have IH := Lib.hid ih
  have HA := Lib.hid (Here.later ha hbel)
  have HT := Lib.hid (Here.later hb hbel)
  have HK := Lib.hid (RowH.later hc hbel)
  have HX := Lib.hid (Boxd.new w #[.int .i64 k, .string s, .string t.name, .slice A m a, .int .i64 t.off, .slice B l b, .slice C r c, .int .i64 o] 28)
  have HB := Lib.hid hbel
  have HC := Lib.hid (show Ex.cnt (.mk k s t ts xs o) n = Ex.cntL (xs.drop 0) (Ty.cntL (ts.drop 0) (Ty.cnt t (n + s.size / 50))) by rw [List.drop_zero, List.drop_zero, Ex.cnt])
  clear ih h ha hb hc hbel
  have CT := Lib.hid (rcount_any t A m a (n + s.size / 50) _ ht (by omega) (by omega) HA.out)
  obtain ⟨x0, x1, x2, x3, x4, x5, x6, x7⟩ := HX.out.c8
  go_enter Tryd.func52, Tryd.ntmps52
  go_wp2_with fail
  refine CT.out.mono ?_
  rintro e w1 ⟨rfl, g0, g1, hb1⟩
  have HA1 := Lib.hid (Here.later HT.out hb1)
  have HK1 := Lib.hid (RowH.later HK.out hb1)
  have HX1 := Lib.hid (Boxd.later HX.out hb1)
  have HB1 := Lib.hid (HB.out.trans (hb1.mono HB.out.size))
  clear hb1 CT HX HT HK HA x0 x1 x2 x3 x4 x5 x6 x7
  generalize Ty.cnt t (n + s.size / 50) = q0 at *
  go_wp2_with fail
  go_loopw [1, 5] (fun v i wr => ∃ (j : Nat) (q : Int), j ≤ l ∧ i = .int .i64 j ∧ v = .int .i64 q ∧ 0 ≤ q ∧ q ≤ max n 2000 + 380000000000000001 ∧ Ex.cnt (.mk k s t ts xs o) n = Ex.cntL (xs.drop 0) (Ty.cntL (ts.drop j) q) ∧ Below w1.heap.size w1 wr) (fun _ i _ => l - (intOf i).toNat)
  case atStart => exact ⟨0, _, by omega, rfl, rfl, by omega, by omega, HC.out, Below.refl _ _⟩
  case round =>
    obtain ⟨j, q, hj, rfl, rfl, hq0, hq1, hc, hbel⟩ := hrel
    obtain ⟨x0, x1, x2, x3, x4, x5, x6, x7⟩ := (HX1.out.later hbel).c8
    have HBL := Lib.hid hbel
    have HQ := Lib.hid hc
    clear hc
    by_cases hgo : j < l ∧ q ≤ 2000
    · obtain ⟨hlt, hq⟩ := hgo
      have y0 : (j : Int) < l := by omega
      obtain ⟨p, u, ys, po, A2, m2, d2, rfl, hx, _, c0, c1, c2, hu, hl2⟩ := (HA1.out.later hbel).get hlt
      have CC := Lib.hid (rcount_any (.mk u ys po) A2 m2 d2 q wr hu hq0 (by omega) hl2)
      have HQ2 := Lib.hid (HQ.out.trans (congrArg (Ex.cntL (xs.drop 0)) (cntL_on hx hq)))
      clear hx hl2 hbel
      simp only [Ty.name, Ty.off] at CC
      go_wp2_with fail
      refine CC.out.mono ?_
      rintro e w2 ⟨rfl, f0, f1, hb2⟩
      have HB2 := Lib.hid (HBL.out.trans (hb2.mono HBL.out.size))
      clear hb2
      go_wp2_with fail
      go_roundw
      case rel => exact ⟨j + 1, _, by omega, by go_num, rfl, f0, by omega, HQ2.out, HB2.out⟩
      case measure => simp [intOf]; omega
    · have hend : Ty.cntL (ts.drop j) q = q := by
        by_cases hlt : j < l
        · exact cntL_off (fun h => hgo ⟨hlt, h⟩)
        · exact cntL_end (by have := HA1.out.len; omega)
      have hcond : ((l : Int) ≤ j) ∨ ((j : Int) < l ∧ 2000 < q) := by omega
      rw [hend] at HQ
      have HK2 := Lib.hid (RowH.later HK1.out hbel)
      have HX2 := Lib.hid (Boxd.later HX1.out hbel)
      have HB2 := Lib.hid (HB1.out.trans (hbel.mono HB1.out.size))
      clear hend hgo hbel HA1 HX1 HK1
      generalize hV : wr = V at *
      clear hV
      rcases hcond with y0 | ⟨y0, y1⟩
      all_goals
        go_wp2_with fail
        go_loopw [1, 6] (fun v i wr => ∃ (j : Nat) (q : Int), j ≤ r ∧ i = .int .i64 j ∧ v = .int .i64 q ∧ 0 ≤ q ∧ q ≤ max n 2000 + 380000000000000001 ∧ Ex.cnt (.mk k s t ts xs o) n = Ex.cntL (xs.drop j) q ∧ Below V.heap.size V wr) (fun _ i _ => r - (intOf i).toNat)
        case atStart => exact ⟨0, _, by omega, rfl, rfl, by omega, by omega, HQ.out, Below.refl _ _⟩
        case round =>
          obtain ⟨i, q2, hi, rfl, rfl, hp0, hp1, hc2, hbel⟩ := hrel
          obtain ⟨x0, x1, x2, x3, x4, x5, x6, x7⟩ := (HX2.out.later hbel).c8
          have HBM := Lib.hid hbel
          have HQ3 := Lib.hid hc2
          clear hc2
          by_cases hgo : i < r ∧ q2 ≤ 2000
          · obtain ⟨hlt, hq⟩ := hgo
            have yy : (i : Int) < r := by omega
            obtain ⟨p, u, vs, rfl, hx, _, _, hu, hcs⟩ := kid_at (RowH.later HK2.out hbel) hlt
            obtain ⟨A3, m3, a3, B3, l3, b3, C3, n3, c3, rfl, _⟩ := ex_open hu
            obtain ⟨c0, c1, c2, c4, c5, c6, c7, c8⟩ := cells8_at hcs
            have CC := Lib.hid (IH.out _ (List.mem_of_getElem? hx) _ q2 wr hp0 (by omega) hu)
            have HQ4 := Lib.hid (HQ3.out.trans (Ex.cntL_on hx hq))
            clear hx hu hbel hcs
            go_wp2_with fail
            refine CC.out.mono ?_
            rintro e w2 ⟨rfl, f0, f1, hb2⟩
            have HB5 := Lib.hid (HBM.out.trans (hb2.mono HBM.out.size))
            clear hb2
            go_wp2_with fail
            go_roundw
            case rel => exact ⟨i + 1, _, by omega, by go_num, rfl, f0, by omega, HQ4.out, HB5.out⟩
            case measure => simp [intOf]; omega
          · have hend : Ex.cntL (xs.drop i) q2 = q2 := by
              by_cases hlt : i < r
              · exact Ex.cntL_off (fun h => hgo ⟨hlt, h⟩)
              · exact Ex.cntL_end (by have := HK2.out.len; rw [Ex.dats_len] at this; omega)
            have hcond : ((r : Int) ≤ i) ∨ ((i : Int) < r ∧ 2000 < q2) := by omega
            rw [hend] at HQ3
            clear hend hgo hbel
            rcases hcond with yy | ⟨yy, yz⟩
            all_goals
              go_wp2_with fail
              go_ret
              exact ⟨ret_int (by rw [HQ3.out]), by rw [HQ3.out]; omega, by rw [HQ3.out]; omega, HB2.out.trans (HBM.out.mono HB2.out.size)⟩

set_option maxRecDepth 100000 in
set_option maxHeartbeats 8000000 in
theorem rcountFormals_any (xs : List Fo) (A : Option Addr) (m c : Nat) (n : Int) (w : World) (h0 : 0 ≤ n) (h1 : n ≤ 4000000000000000000) (h : RowH w 5 A m (xs.map Fo.dat)) :
    Calls Tryd.prog 54 #[.slice A m c, .int .i64 n] w (CntB w n 390000000000000000 (Fo.cntL xs n)) := by
  have hm : (m : Int) ≤ 9223372036854775807 := by have := h.le; omega
  have hxl := h.len
  rw [List.length_map] at hxl
  have H1 := Lib.hid h
  clear h
  go_enter Tryd.func54, Tryd.ntmps54
  go_wp2_with fail
  go_loopw [1, 5] (fun v i wr => ∃ (k : Nat) (q : Int), k ≤ m ∧ i = .int .i64 k ∧ v = .int .i64 q ∧ 0 ≤ q ∧ q ≤ max n 2000 + 390000000000000000 ∧ Fo.cntL xs n = Fo.cntL (xs.drop k) q ∧ Below w.heap.size w wr) (fun _ i _ => m - (intOf i).toNat)
  case atStart => exact ⟨0, n, by omega, rfl, rfl, h0, by omega, rfl, Below.refl _ _⟩
  case round =>
    obtain ⟨k, q, hk, rfl, rfl, hq0, hq1, hc, hbel⟩ := hrel
    have HBL := Lib.hid hbel
    have HQ := Lib.hid hc
    clear hc
    have z0 : (0 : Int) ≤ k := by omega
    by_cases hlt : k < m
    · have y0 : (k : Int) < m := by omega
      by_cases hq : q ≤ 2000
      · obtain ⟨pu, u, ps, rfl, hx, _, _, hu, hcs⟩ := dat_at (RowH.later H1.out hbel) hlt
        obtain ⟨Au, mu, au, rfl, hn, htu, hau⟩ := fo_open hu
        obtain ⟨f0, f1, f2, f3, f4⟩ := cells5_at hcs
        have z1 : (u.name.size : Int) / 50 ≤ 190000000000000000 := by omega
        have z2 : 0 ≤ (u.name.size : Int) / 50 := by omega
        have C := Lib.hid (fun (V : World) (hV : Below wr.heap.size wr V) => (rcount_any u.ty Au mu au (q + 1 + u.name.size / 50) V htu (by omega) (by omega) (Here.later hau hV)).mono fun e w' (h : _ ∧ _ ∧ _ ∧ _) => (⟨h.1, h.2.1, h.2.2.1, hV.trans (h.2.2.2.mono hV.size)⟩ : CntB wr _ _ _ e w'))
        have HQ2 := Lib.hid (HQ.out.trans (fcntL_on hx hq))
        clear hx hu hcs hbel HQ hau
        go_wp2_with fail
        go_still_tail 15, (by kernel_rfl)
        change wpList _ _ _ _ _ wr.drew
        go_wp2_with fail
        refine (C.out _ (Below.refl _ _).drew).mono ?_
        rintro e w1 ⟨rfl, g0, g1, hb1⟩
        have HB1 := Lib.hid (HBL.out.trans (hb1.mono HBL.out.size))
        clear hb1
        go_wp2_with fail
        go_roundw
        case rel => exact ⟨k + 1, _, by omega, by go_num, rfl, g0, by omega, HQ2.out, HB1.out⟩
        case measure => simp [intOf]; omega
      · have HQ2 := Lib.hid (HQ.out.trans (fcntL_off hq))
        have y1 : 2000 < q := by omega
        clear hq hbel
        go_wp2_with fail
        go_ret
        exact ⟨ret_int (by rw [HQ2.out]), by rw [HQ2.out]; omega, by rw [HQ2.out]; omega, HBL.out⟩
    · have y0 : (m : Int) ≤ k := by omega
      have HQ2 := Lib.hid (HQ.out.trans (fcntL_end (by omega)))
      clear hbel
      go_wp2_with fail
      go_ret
      exact ⟨ret_int (by rw [HQ2.out]), by rw [HQ2.out]; omega, by rw [HQ2.out]; omega, HBL.out⟩
set_option maxRecDepth 100000 in
set_option maxHeartbeats 8000000 in
theorem rcountParams_any (xs : List Fo) (A : Option Addr) (m c : Nat) (n : Int) (w : World) (h0 : 0 ≤ n) (h1 : n ≤ 4000000000000000000) (h : RowH w 5 A m (xs.map Fo.dat)) :
    Calls Tryd.prog 53 #[.slice A m c, .int .i64 n] w (CntB w n 390000000000000000 (Fo.cntL xs n)) := by
  have hm : (m : Int) ≤ 9223372036854775807 := by have := h.le; omega
  have hxl := h.len
  rw [List.length_map] at hxl
  have H1 := Lib.hid h
  clear h
  go_enter Tryd.func53, Tryd.ntmps53
  go_wp2_with fail
  go_loopw [1, 5] (fun v i wr => ∃ (k : Nat) (q : Int), k ≤ m ∧ i = .int .i64 k ∧ v = .int .i64 q ∧ 0 ≤ q ∧ q ≤ max n 2000 + 390000000000000000 ∧ Fo.cntL xs n = Fo.cntL (xs.drop k) q ∧ Below w.heap.size w wr) (fun _ i _ => m - (intOf i).toNat)
  case atStart => exact ⟨0, n, by omega, rfl, rfl, h0, by omega, rfl, Below.refl _ _⟩
  case round =>
    obtain ⟨k, q, hk, rfl, rfl, hq0, hq1, hc, hbel⟩ := hrel
    have HBL := Lib.hid hbel
    have HQ := Lib.hid hc
    clear hc
    have z0 : (0 : Int) ≤ k := by omega
    by_cases hlt : k < m
    · have y0 : (k : Int) < m := by omega
      by_cases hq : q ≤ 2000
      · obtain ⟨pu, u, ps, rfl, hx, _, _, hu, hcs⟩ := dat_at (RowH.later H1.out hbel) hlt
        obtain ⟨Au, mu, au, rfl, hn, htu, hau⟩ := fo_open hu
        obtain ⟨f0, f1, f2, f3, f4⟩ := cells5_at hcs
        have z1 : (u.name.size : Int) / 50 ≤ 190000000000000000 := by omega
        have z2 : 0 ≤ (u.name.size : Int) / 50 := by omega
        have C := Lib.hid (fun (V : World) (hV : Below wr.heap.size wr V) => (rcount_any u.ty Au mu au (q + 1 + u.name.size / 50) V htu (by omega) (by omega) (Here.later hau hV)).mono fun e w' (h : _ ∧ _ ∧ _ ∧ _) => (⟨h.1, h.2.1, h.2.2.1, hV.trans (h.2.2.2.mono hV.size)⟩ : CntB wr _ _ _ e w'))
        have HQ2 := Lib.hid (HQ.out.trans (fcntL_on hx hq))
        clear hx hu hcs hbel HQ hau
        go_wp2_with fail
        go_still_tail 15, (by kernel_rfl)
        change wpList _ _ _ _ _ wr.drew
        go_wp2_with fail
        refine (C.out _ (Below.refl _ _).drew).mono ?_
        rintro e w1 ⟨rfl, g0, g1, hb1⟩
        have HB1 := Lib.hid (HBL.out.trans (hb1.mono HBL.out.size))
        clear hb1
        go_wp2_with fail
        go_roundw
        case rel => exact ⟨k + 1, _, by omega, by go_num, rfl, g0, by omega, HQ2.out, HB1.out⟩
        case measure => simp [intOf]; omega
      · have HQ2 := Lib.hid (HQ.out.trans (fcntL_off hq))
        have y1 : 2000 < q := by omega
        clear hq hbel
        go_wp2_with fail
        go_ret
        exact ⟨ret_int (by rw [HQ2.out]), by rw [HQ2.out]; omega, by rw [HQ2.out]; omega, HBL.out⟩
    · have y0 : (m : Int) ≤ k := by omega
      have HQ2 := Lib.hid (HQ.out.trans (fcntL_end (by omega)))
      clear hbel
      go_wp2_with fail
      go_ret
      exact ⟨ret_int (by rw [HQ2.out]), by rw [HQ2.out]; omega, by rw [HQ2.out]; omega, HBL.out⟩
end Go.Proofs.YtjhlehdjdaphcaaDoor
namespace Go.Proofs.YtjhlehdjdaphcaaDoor
open Go.RowKit

set_option maxRecDepth 100000 in
set_option maxHeartbeats 8000000 in
theorem rcountSig_any (s : Sg) (us : List Value) (n : Int) (w : World) (h0 : 0 ≤ n) (h1 : n ≤ 2000000000000000000) (h : s.dat.H w us) :
    Calls Tryd.prog 55 #[.agg us.toArray, .int .i64 n] w (CntB w n 1200000000000000000 (s.cnt n)) := by
  have hb : Below w.heap.size w (w.alloc (.cells us.toArray 50)) := (Below.refl _ _).alloc (Nat.le_refl _) _
  have hx := Boxd.new w us.toArray 50
  have h2 : s.dat.H (w.alloc (.cells us.toArray 50)) us := Dat.H.later h hb
  obtain ⟨F, nf, cf, P, np, cp, A, m, a, rfl, hn, hf, hp, ht, ha⟩ := sg_open h2
  have z1 : (s.name.size : Int) / 50 ≤ 190000000000000000 := by omega
  have z2 : 0 ≤ (s.name.size : Int) / 50 := by omega
  have HC := Lib.hid (show s.cnt n = Ty.cnt s.res (Fo.cntL s.ps (Fo.cntL s.fs (n + s.name.size / 50))) from rfl)
  obtain ⟨g, hg⟩ : ∃ g, (s.name.size : Int) / 50 = g := ⟨_, rfl⟩
  rw [hg] at z1 z2 HC
  have e1 : IntKind.i64.wrap ((s.name.size : Int) / 50) = g := by rw [hg]; exact IntWalk.i64_in _ (by omega)
  obtain ⟨q, hq⟩ : ∃ q, n + g = q := ⟨_, rfl⟩
  have e2 : IntKind.i64.wrap (n + g) = q := by rw [hq]; exact IntWalk.i64_in _ (by omega)
  rw [hq] at HC
  have y1 : 0 ≤ q := by omega
  have y2 : q ≤ n + 190000000000000000 := by omega
  have HF := Lib.hid hf
  have HP := Lib.hid hp
  have HA := Lib.hid ha
  have HX := Lib.hid hx
  have HB := Lib.hid hb
  clear hg hq z1 z2
  clear h h2 hx hb hf hp ha
  go_enter Tryd.func55, Tryd.ntmps55
  go_wp2_with fail
  generalize hW : w.alloc (.cells #[.string s.name, .slice F nf cf, .slice P np cp, .string s.res.name, .slice A m a, .int .i64 s.res.off, .int .i64 s.off] 50) = W at *
  clear hW
  have SS : Below W.heap.size W W ∧ W.cell? ⟨w.heap.size, 0, none⟩ = some (.string s.name) ∧ W.cell? ⟨w.heap.size, 1, none⟩ = some (.slice F nf cf) ∧ W.cell? ⟨w.heap.size, 2, none⟩ = some (.slice P np cp) ∧ W.cell? ⟨w.heap.size, 3, none⟩ = some (.string s.res.name) ∧ W.cell? ⟨w.heap.size, 4, none⟩ = some (.slice A m a) ∧ W.cell? ⟨w.heap.size, 5, none⟩ = some (.int .i64 s.res.off) := ⟨Below.refl _ _, HX.out 0 _ rfl, HX.out 1 _ rfl, HX.out 2 _ rfl, HX.out 3 _ rfl, HX.out 4 _ rfl, HX.out 5 _ rfl⟩
  have C1 := Lib.hid (fun (V : World) (hV : Below W.heap.size W V) => rcountFormals_any s.fs F nf cf q V (by omega) (by omega) (RowH.later HF.out hV))
  have C2 := Lib.hid (fun (V : World) (q : Int) (hq : 0 ≤ q) (hq1 : q ≤ 4000000000000000000) (hV : Below W.heap.size W V) => rcountParams_any s.ps P np cp q V hq hq1 (RowH.later HP.out hV))
  have C3 := Lib.hid (fun (V : World) (q : Int) (hq : 0 ≤ q) (hq1 : q ≤ 4000000000000000000) (hV : Below W.heap.size W V) => rcount_any s.res A m a q V ht hq hq1 (Here.later HA.out hV))
  refine wp_region_held_drew (S := fun V => Below W.heap.size W V ∧ V.cell? ⟨w.heap.size, 0, none⟩ = some (.string s.name) ∧ V.cell? ⟨w.heap.size, 1, none⟩ = some (.slice F nf cf) ∧ V.cell? ⟨w.heap.size, 2, none⟩ = some (.slice P np cp) ∧ V.cell? ⟨w.heap.size, 3, none⟩ = some (.string s.res.name) ∧ V.cell? ⟨w.heap.size, 4, none⟩ = some (.slice A m a) ∧ V.cell? ⟨w.heap.size, 5, none⟩ = some (.int .i64 s.res.off)) (by kernel_rfl) (by first | exact SS | exact ⟨SS.1.drew, SS.2⟩) (fun hS => ?_)
  first
  | (refine wpAnyH_take (i := 0) (v := ?_) rfl (by kernel_rfl) (by kernel_rfl) (by kernel_rfl) (fun _ _ _ h => h) (Or.inl ⟨by rfl, ?_⟩) (by assumption) ?_
     rotate_left
     · (intro V hV; obtain ⟨_, x0, x1, x2, x3, x4, x5⟩ := hV; go_simp; try with_reducible rfl)
     try simp only [Act.put, List.getElem_toArray, List.getElem_cons_zero, List.setIfInBounds_toArray, List.set_cons_zero, List.set_cons_succ])
  | (refine wpAnyH_take (i := 0) (v := undef) rfl (by kernel_rfl) (by kernel_rfl) (by kernel_rfl) (fun _ _ _ h => h) (Or.inr ⟨by rfl, rfl⟩) (by assumption) ?_
     try simp only [Act.put, List.getElem_toArray, List.getElem_cons_zero, List.setIfInBounds_toArray, List.set_cons_zero, List.set_cons_succ])
  | fail "take 0"
  first
  | (refine wpAnyH_take (i := 1) (v := ?_) rfl (by kernel_rfl) (by kernel_rfl) (by kernel_rfl) (fun _ _ _ h => h) (Or.inl ⟨by rfl, ?_⟩) (by assumption) ?_
     rotate_left
     · (intro V hV; obtain ⟨_, x0, x1, x2, x3, x4, x5⟩ := hV; go_simp; try with_reducible rfl)
     try simp only [Act.put, List.getElem_toArray, List.getElem_cons_zero, List.getElem_cons_succ, List.setIfInBounds_toArray, List.set_cons_zero, List.set_cons_succ])
  | (refine wpAnyH_take (i := 1) (v := undef) rfl (by kernel_rfl) (by kernel_rfl) (by kernel_rfl) (fun _ _ _ h => h) (Or.inr ⟨by rfl, rfl⟩) (by assumption) ?_
     try simp only [Act.put, List.getElem_toArray, List.getElem_cons_zero, List.getElem_cons_succ, List.setIfInBounds_toArray, List.set_cons_zero, List.set_cons_succ])
  | fail "take 1"
  first
  | (refine wpAnyH_take (i := 2) (v := ?_) rfl (by kernel_rfl) (by kernel_rfl) (by kernel_rfl) (fun _ _ _ h => h) (Or.inl ⟨by rfl, ?_⟩) (by assumption) ?_
     rotate_left
     · (intro V hV; obtain ⟨_, x0, x1, x2, x3, x4, x5⟩ := hV; go_simp; try with_reducible rfl)
     try simp only [Act.put, List.getElem_toArray, List.getElem_cons_zero, List.getElem_cons_succ, List.setIfInBounds_toArray, List.set_cons_zero, List.set_cons_succ])
  | (refine wpAnyH_take (i := 2) (v := undef) rfl (by kernel_rfl) (by kernel_rfl) (by kernel_rfl) (fun _ _ _ h => h) (Or.inr ⟨by rfl, rfl⟩) (by assumption) ?_
     try simp only [Act.put, List.getElem_toArray, List.getElem_cons_zero, List.getElem_cons_succ, List.setIfInBounds_toArray, List.set_cons_zero, List.set_cons_succ])
  | fail "take 2"
  first
  | (refine wpAnyH_take (i := 3) (v := ?_) rfl (by kernel_rfl) (by kernel_rfl) (by kernel_rfl) (fun _ _ _ h => h) (Or.inl ⟨by rfl, ?_⟩) (by assumption) ?_
     rotate_left
     · (intro V hV; obtain ⟨_, x0, x1, x2, x3, x4, x5⟩ := hV; go_simp; try with_reducible rfl)
     try simp only [Act.put, List.getElem_toArray, List.getElem_cons_zero, List.getElem_cons_succ, List.setIfInBounds_toArray, List.set_cons_zero, List.set_cons_succ])
  | (refine wpAnyH_take (i := 3) (v := undef) rfl (by kernel_rfl) (by kernel_rfl) (by kernel_rfl) (fun _ _ _ h => h) (Or.inr ⟨by rfl, rfl⟩) (by assumption) ?_
     try simp only [Act.put, List.getElem_toArray, List.getElem_cons_zero, List.getElem_cons_succ, List.setIfInBounds_toArray, List.set_cons_zero, List.set_cons_succ])
  | fail "take 3"
  first
  | (refine wpAnyH_take (i := 4) (v := ?_) rfl (by kernel_rfl) (by kernel_rfl) (by kernel_rfl) (fun _ _ _ h => h) (Or.inl ⟨by rfl, ?_⟩) (by assumption) ?_
     rotate_left
     · (intro V hV; obtain ⟨_, x0, x1, x2, x3, x4, x5⟩ := hV; go_simp; try with_reducible rfl)
     try simp only [Act.put, List.getElem_toArray, List.getElem_cons_zero, List.getElem_cons_succ, List.setIfInBounds_toArray, List.set_cons_zero, List.set_cons_succ])
  | (refine wpAnyH_take (i := 4) (v := undef) rfl (by kernel_rfl) (by kernel_rfl) (by kernel_rfl) (fun _ _ _ h => h) (Or.inr ⟨by rfl, rfl⟩) (by assumption) ?_
     try simp only [Act.put, List.getElem_toArray, List.getElem_cons_zero, List.getElem_cons_succ, List.setIfInBounds_toArray, List.set_cons_zero, List.set_cons_succ])
  | fail "take 4"
  first
  | (refine wpAnyH_take (i := 5) (v := ?_) rfl (by kernel_rfl) (by kernel_rfl) (by kernel_rfl) (fun _ _ _ h => h) (Or.inl ⟨by rfl, ?_⟩) (by assumption) ?_
     rotate_left
     · (intro V hV; obtain ⟨_, x0, x1, x2, x3, x4, x5⟩ := hV; go_simp; try with_reducible rfl)
     try simp only [Act.put, List.getElem_toArray, List.getElem_cons_zero, List.getElem_cons_succ, List.setIfInBounds_toArray, List.set_cons_zero, List.set_cons_succ])
  | (refine wpAnyH_take (i := 5) (v := undef) rfl (by kernel_rfl) (by kernel_rfl) (by kernel_rfl) (fun _ _ _ h => h) (Or.inr ⟨by rfl, rfl⟩) (by assumption) ?_
     try simp only [Act.put, List.getElem_toArray, List.getElem_cons_zero, List.getElem_cons_succ, List.setIfInBounds_toArray, List.set_cons_zero, List.set_cons_succ])
  | fail "take 5"
  first
  | (refine wpAnyH_take (i := 6) (v := ?_) rfl (by kernel_rfl) (by kernel_rfl) (by kernel_rfl) (fun _ _ _ h => h) (Or.inl ⟨by rfl, ?_⟩) (by assumption) ?_
     rotate_left
     · (intro V hV; obtain ⟨_, x0, x1, x2, x3, x4, x5⟩ := hV; go_simp; try with_reducible rfl)
     try simp only [Act.put, List.getElem_toArray, List.getElem_cons_zero, List.getElem_cons_succ, List.setIfInBounds_toArray, List.set_cons_zero, List.set_cons_succ])
  | (refine wpAnyH_take (i := 6) (v := undef) rfl (by kernel_rfl) (by kernel_rfl) (by kernel_rfl) (fun _ _ _ h => h) (Or.inr ⟨by rfl, rfl⟩) (by assumption) ?_
     try simp only [Act.put, List.getElem_toArray, List.getElem_cons_zero, List.getElem_cons_succ, List.setIfInBounds_toArray, List.set_cons_zero, List.set_cons_succ])
  | fail "take 6"
  first
  | (refine wpAnyH_take (i := 7) (v := ?_) rfl (by kernel_rfl) (by kernel_rfl) (by kernel_rfl) (fun _ _ _ h => h) (Or.inl ⟨by rfl, ?_⟩) (by assumption) ?_
     rotate_left
     · (intro V hV; obtain ⟨_, x0, x1, x2, x3, x4, x5⟩ := hV; go_simp; try with_reducible rfl)
     try simp only [Act.put, List.getElem_toArray, List.getElem_cons_zero, List.getElem_cons_succ, List.setIfInBounds_toArray, List.set_cons_zero, List.set_cons_succ])
  | (refine wpAnyH_take (i := 7) (v := undef) rfl (by kernel_rfl) (by kernel_rfl) (by kernel_rfl) (fun _ _ _ h => h) (Or.inr ⟨by rfl, rfl⟩) (by assumption) ?_
     try simp only [Act.put, List.getElem_toArray, List.getElem_cons_zero, List.getElem_cons_succ, List.setIfInBounds_toArray, List.set_cons_zero, List.set_cons_succ])
  | fail "take 7"
  first
  | (refine wpAnyH_take (i := 8) (v := ?_) rfl (by kernel_rfl) (by kernel_rfl) (by kernel_rfl) (fun _ _ _ h => h) (Or.inl ⟨by rfl, ?_⟩) (by assumption) ?_
     rotate_left
     · (intro V hV; obtain ⟨_, x0, x1, x2, x3, x4, x5⟩ := hV; go_simp; try with_reducible rfl)
     try simp only [Act.put, List.getElem_toArray, List.getElem_cons_zero, List.getElem_cons_succ, List.setIfInBounds_toArray, List.set_cons_zero, List.set_cons_succ])
  | (refine wpAnyH_take (i := 8) (v := undef) rfl (by kernel_rfl) (by kernel_rfl) (by kernel_rfl) (fun _ _ _ h => h) (Or.inr ⟨by rfl, rfl⟩) (by assumption) ?_
     try simp only [Act.put, List.getElem_toArray, List.getElem_cons_zero, List.getElem_cons_succ, List.setIfInBounds_toArray, List.set_cons_zero, List.set_cons_succ])
  | fail "take 8"
  first
  | (refine wpAnyH_take (i := 9) (v := ?_) rfl (by kernel_rfl) (by kernel_rfl) (by kernel_rfl) (fun _ _ _ h => h) (Or.inl ⟨by rfl, ?_⟩) (by assumption) ?_
     rotate_left
     · (intro V hV; obtain ⟨_, x0, x1, x2, x3, x4, x5⟩ := hV; go_simp; try with_reducible rfl)
     try simp only [Act.put, List.getElem_toArray, List.getElem_cons_zero, List.getElem_cons_succ, List.setIfInBounds_toArray, List.set_cons_zero, List.set_cons_succ])
  | (refine wpAnyH_take (i := 9) (v := undef) rfl (by kernel_rfl) (by kernel_rfl) (by kernel_rfl) (fun _ _ _ h => h) (Or.inr ⟨by rfl, rfl⟩) (by assumption) ?_
     try simp only [Act.put, List.getElem_toArray, List.getElem_cons_zero, List.getElem_cons_succ, List.setIfInBounds_toArray, List.set_cons_zero, List.set_cons_succ])
  | fail "take 9"
  first
  | (refine wpAnyH_take (i := 10) (v := ?_) rfl (by kernel_rfl) (by kernel_rfl) (by kernel_rfl) (fun _ _ _ h => h) (Or.inl ⟨by rfl, ?_⟩) (by assumption) ?_
     rotate_left
     · (intro V hV; obtain ⟨_, x0, x1, x2, x3, x4, x5⟩ := hV; go_simp; try with_reducible rfl)
     try simp only [Act.put, List.getElem_toArray, List.getElem_cons_zero, List.getElem_cons_succ, List.setIfInBounds_toArray, List.set_cons_zero, List.set_cons_succ])
  | (refine wpAnyH_take (i := 10) (v := undef) rfl (by kernel_rfl) (by kernel_rfl) (by kernel_rfl) (fun _ _ _ h => h) (Or.inr ⟨by rfl, rfl⟩) (by assumption) ?_
     try simp only [Act.put, List.getElem_toArray, List.getElem_cons_zero, List.getElem_cons_succ, List.setIfInBounds_toArray, List.set_cons_zero, List.set_cons_succ])
  | fail "take 10"
  first
  | (refine wpAnyH_take (i := 11) (v := ?_) rfl (by kernel_rfl) (by kernel_rfl) (by kernel_rfl) (fun _ _ _ h => h) (Or.inl ⟨by rfl, ?_⟩) (by assumption) ?_
     rotate_left
     · (intro V hV; obtain ⟨_, x0, x1, x2, x3, x4, x5⟩ := hV; go_simp; try with_reducible rfl)
     try simp only [Act.put, List.getElem_toArray, List.getElem_cons_zero, List.getElem_cons_succ, List.setIfInBounds_toArray, List.set_cons_zero, List.set_cons_succ])
  | (refine wpAnyH_take (i := 11) (v := undef) rfl (by kernel_rfl) (by kernel_rfl) (by kernel_rfl) (fun _ _ _ h => h) (Or.inr ⟨by rfl, rfl⟩) (by assumption) ?_
     try simp only [Act.put, List.getElem_toArray, List.getElem_cons_zero, List.getElem_cons_succ, List.setIfInBounds_toArray, List.set_cons_zero, List.set_cons_succ])
  | fail "take 11"
  refine wpAnyH_ready (rs := [12]) (by kernel_rfl) (by simp) ?_
  refine AllReadyH.cons rfl (fun K hK => ?_) AllReadyH.nil
  go_simp
  refine (C1.out _ hS.1).mono ?_
  rintro e Wv ⟨rfl, pa, pb, hb⟩
  have SS : Below W.heap.size W Wv ∧ Wv.cell? ⟨w.heap.size, 0, none⟩ = some (.string s.name) ∧ Wv.cell? ⟨w.heap.size, 1, none⟩ = some (.slice F nf cf) ∧ Wv.cell? ⟨w.heap.size, 2, none⟩ = some (.slice P np cp) ∧ Wv.cell? ⟨w.heap.size, 3, none⟩ = some (.string s.res.name) ∧ Wv.cell? ⟨w.heap.size, 4, none⟩ = some (.slice A m a) ∧ Wv.cell? ⟨w.heap.size, 5, none⟩ = some (.int .i64 s.res.off) := ⟨hS.1.trans (hb.mono hS.1.size), (hb.cell (cell_lt (And.left (And.right hS)))).trans (And.left (And.right hS)), (hb.cell (cell_lt (And.left (And.right (And.right hS))))).trans (And.left (And.right (And.right hS))), (hb.cell (cell_lt (And.left (And.right (And.right (And.right hS)))))).trans (And.left (And.right (And.right (And.right hS)))), (hb.cell (cell_lt (And.left (And.right (And.right (And.right (And.right hS))))))).trans (And.left (And.right (And.right (And.right (And.right hS))))), (hb.cell (cell_lt (And.left (And.right (And.right (And.right (And.right (And.right hS)))))))).trans (And.left (And.right (And.right (And.right (And.right (And.right hS)))))), (hb.cell (cell_lt (And.right (And.right (And.right (And.right (And.right (And.right hS)))))))).trans (And.right (And.right (And.right (And.right (And.right (And.right hS))))))⟩
  clear hS hb
  refine hK.out _ _ SS (fun hS => ?_)
  clear hK K
  try simp only [Act.put, List.getElem_toArray, List.getElem_cons_zero, List.getElem_cons_succ, List.setIfInBounds_toArray, List.set_cons_zero, List.set_cons_succ]
  refine wpAnyH_ready (rs := [13]) (by kernel_rfl) (by simp) ?_
  refine AllReadyH.cons rfl (fun K hK => ?_) AllReadyH.nil
  go_simp
  refine (C2.out _ _ pa (by omega) hS.1).mono ?_
  rintro e Wv ⟨rfl, ra, rb, hb⟩
  have SS : Below W.heap.size W Wv ∧ Wv.cell? ⟨w.heap.size, 0, none⟩ = some (.string s.name) ∧ Wv.cell? ⟨w.heap.size, 1, none⟩ = some (.slice F nf cf) ∧ Wv.cell? ⟨w.heap.size, 2, none⟩ = some (.slice P np cp) ∧ Wv.cell? ⟨w.heap.size, 3, none⟩ = some (.string s.res.name) ∧ Wv.cell? ⟨w.heap.size, 4, none⟩ = some (.slice A m a) ∧ Wv.cell? ⟨w.heap.size, 5, none⟩ = some (.int .i64 s.res.off) := ⟨hS.1.trans (hb.mono hS.1.size), (hb.cell (cell_lt (And.left (And.right hS)))).trans (And.left (And.right hS)), (hb.cell (cell_lt (And.left (And.right (And.right hS))))).trans (And.left (And.right (And.right hS))), (hb.cell (cell_lt (And.left (And.right (And.right (And.right hS)))))).trans (And.left (And.right (And.right (And.right hS)))), (hb.cell (cell_lt (And.left (And.right (And.right (And.right (And.right hS))))))).trans (And.left (And.right (And.right (And.right (And.right hS))))), (hb.cell (cell_lt (And.left (And.right (And.right (And.right (And.right (And.right hS)))))))).trans (And.left (And.right (And.right (And.right (And.right (And.right hS)))))), (hb.cell (cell_lt (And.right (And.right (And.right (And.right (And.right (And.right hS)))))))).trans (And.right (And.right (And.right (And.right (And.right (And.right hS))))))⟩
  clear hS hb
  refine hK.out _ _ SS (fun hS => ?_)
  clear hK K
  try simp only [Act.put, List.getElem_toArray, List.getElem_cons_zero, List.getElem_cons_succ, List.setIfInBounds_toArray, List.set_cons_zero, List.set_cons_succ]
  refine wpAnyH_ready (rs := [14]) (by kernel_rfl) (by simp) ?_
  refine AllReadyH.cons rfl (fun K hK => ?_) AllReadyH.nil
  go_simp
  refine (C3.out _ _ ra (by omega) hS.1).mono ?_
  rintro e Wv ⟨rfl, sa, sb, hb⟩
  have SS : Below W.heap.size W Wv ∧ Wv.cell? ⟨w.heap.size, 0, none⟩ = some (.string s.name) ∧ Wv.cell? ⟨w.heap.size, 1, none⟩ = some (.slice F nf cf) ∧ Wv.cell? ⟨w.heap.size, 2, none⟩ = some (.slice P np cp) ∧ Wv.cell? ⟨w.heap.size, 3, none⟩ = some (.string s.res.name) ∧ Wv.cell? ⟨w.heap.size, 4, none⟩ = some (.slice A m a) ∧ Wv.cell? ⟨w.heap.size, 5, none⟩ = some (.int .i64 s.res.off) := ⟨hS.1.trans (hb.mono hS.1.size), (hb.cell (cell_lt (And.left (And.right hS)))).trans (And.left (And.right hS)), (hb.cell (cell_lt (And.left (And.right (And.right hS))))).trans (And.left (And.right (And.right hS))), (hb.cell (cell_lt (And.left (And.right (And.right (And.right hS)))))).trans (And.left (And.right (And.right (And.right hS)))), (hb.cell (cell_lt (And.left (And.right (And.right (And.right (And.right hS))))))).trans (And.left (And.right (And.right (And.right (And.right hS))))), (hb.cell (cell_lt (And.left (And.right (And.right (And.right (And.right (And.right hS)))))))).trans (And.left (And.right (And.right (And.right (And.right (And.right hS)))))), (hb.cell (cell_lt (And.right (And.right (And.right (And.right (And.right (And.right hS)))))))).trans (And.right (And.right (And.right (And.right (And.right (And.right hS))))))⟩
  clear hS hb
  refine hK.out _ _ SS (fun hS => ?_)
  clear hK K
  try simp only [Act.put, List.getElem_toArray, List.getElem_cons_zero, List.getElem_cons_succ, List.setIfInBounds_toArray, List.set_cons_zero, List.set_cons_succ]
  first
  | (refine wpAnyH_take (i := 15) (v := ?_) rfl (by kernel_rfl) (by kernel_rfl) (by kernel_rfl) (fun _ _ _ h => h) (Or.inl ⟨by rfl, ?_⟩) (by assumption) ?_
     rotate_left
     · (intro V hV; obtain ⟨_, x0, x1, x2, x3, x4, x5⟩ := hV; go_simp; try with_reducible rfl)
     try simp only [Act.put, List.getElem_toArray, List.getElem_cons_zero, List.getElem_cons_succ, List.setIfInBounds_toArray, List.set_cons_zero, List.set_cons_succ])
  | (refine wpAnyH_take (i := 15) (v := undef) rfl (by kernel_rfl) (by kernel_rfl) (by kernel_rfl) (fun _ _ _ h => h) (Or.inr ⟨by rfl, rfl⟩) (by assumption) ?_
     try simp only [Act.put, List.getElem_toArray, List.getElem_cons_zero, List.getElem_cons_succ, List.setIfInBounds_toArray, List.set_cons_zero, List.set_cons_succ])
  | fail "take 15"
  refine wpAnyH_done (by kernel_rfl) ?_ _
  go_wp2_with fail
  go_ret
  exact ⟨ret_int (by rw [HC.out]), by rw [HC.out]; omega, by rw [HC.out]; omega, HB.out.trans (SS.1.mono HB.out.size)⟩
end Go.Proofs.YtjhlehdjdaphcaaDoor
namespace Go.Proofs.YtjhlehdjdaphcaaDoor
open Go.RowKit

theorem scntL_on {xs : List Sg} {k : Nat} {x : Sg} {n : Int} (hx : xs[k]? = some x) (hn : n ≤ 2000) : Sg.cntL (xs.drop k) n = Sg.cntL (xs.drop (k + 1)) (Sg.cnt x n) := by
  rw [Ex.drop_at hx, Sg.cntL, if_pos hn]
theorem scntL_off {xs : List Sg} {k : Nat} {n : Int} (hn : ¬ n ≤ 2000) : Sg.cntL (xs.drop k) n = n := by
  cases xs.drop k with
  | nil => rw [Sg.cntL]
  | cons a r => rw [Sg.cntL, if_neg hn]
theorem scntL_end {xs : List Sg} {k : Nat} {n : Int} (hk : xs.length ≤ k) : Sg.cntL (xs.drop k) n = n := by
  rw [List.drop_eq_nil_of_le hk, Sg.cntL]
theorem vcntL_on {xs : List ByteArray} {k : Nat} {x : ByteArray} {n : Int} (hx : xs[k]? = some x) (hn : n ≤ 2000) : Dc.cntV (xs.drop k) n = Dc.cntV (xs.drop (k + 1)) ((n + 1 + x.size / 50)) := by
  rw [Ex.drop_at hx, Dc.cntV, if_pos hn]
theorem vcntL_off {xs : List ByteArray} {k : Nat} {n : Int} (hn : ¬ n ≤ 2000) : Dc.cntV (xs.drop k) n = n := by
  cases xs.drop k with
  | nil => rw [Dc.cntV]
  | cons a r => rw [Dc.cntV, if_neg hn]
theorem vcntL_end {xs : List ByteArray} {k : Nat} {n : Int} (hk : xs.length ≤ k) : Dc.cntV (xs.drop k) n = n := by
  rw [List.drop_eq_nil_of_le hk, Dc.cntV]
theorem dcntL_on {xs : List Dc} {k : Nat} {x : Dc} {n : Int} (hx : xs[k]? = some x) (hn : n ≤ 2000) : Dc.cntL (xs.drop k) n = Dc.cntL (xs.drop (k + 1)) ((Dc.cnt x n)) := by
  rw [Ex.drop_at hx, Dc.cntL, if_pos hn]
theorem dcntL_off {xs : List Dc} {k : Nat} {n : Int} (hn : ¬ n ≤ 2000) : Dc.cntL (xs.drop k) n = n := by
  cases xs.drop k with
  | nil => rw [Dc.cntL]
  | cons a r => rw [Dc.cntL, if_neg hn]
theorem dcntL_end {xs : List Dc} {k : Nat} {n : Int} (hk : xs.length ≤ k) : Dc.cntL (xs.drop k) n = n := by
  rw [List.drop_eq_nil_of_le hk, Dc.cntL]
set_option maxRecDepth 100000 in
set_option maxHeartbeats 8000000 in
theorem rcountPg_any (p : Pg) (us : List Value) (w : World) (h : p.dat.H w us) : Calls Tryd.prog 30 #[.agg us.toArray] w (CntB w 0 4000000000000000000 p.cnt) := by
  have hb : Below w.heap.size w (w.alloc (.cells us.toArray 30)) := (Below.refl _ _).alloc (Nat.le_refl _) _
  have hx := Boxd.new w us.toArray 30
  have h0 : p.dat.H (w.alloc (.cells us.toArray 30)) us := Dat.H.later h hb
  obtain ⟨W0, hW0⟩ : ∃ W0, w.alloc (.cells us.toArray 30) = W0 := ⟨_, rfl⟩
  rw [hW0] at hb hx h0
  have HW0 := Lib.hid hW0
  obtain ⟨Dp, nd, c, A3, m3, a3, B3, l3, b3, C3, n3, c3, rfl, hd, hm⟩ := pg_full h0
  obtain ⟨x0, x1, x2, x3, x4, x5, x6, x7, x8⟩ := Boxd.c9 hx
  have HX := Lib.hid hx
  have HB := Lib.hid hb
  have HDS := Lib.hid hd
  have hxl := hd.len
  rw [List.length_map] at hxl
  have HXL := Lib.hid hxl
  have hni : (nd : Int) ≤ 9223372036854775807 := by have := hd.le; omega
  have C0 := Lib.hid (rxcount_any p.main _ 0 W0 (by omega) (by omega) hm)
  have HC := Lib.hid (show p.cnt = Dc.cntL (p.ds.drop 0) (p.main.cnt 0) by rw [List.drop_zero]; rfl)
  clear hb hx h h0 hd hm hxl hW0
  go_enter Tryd.func30, Tryd.ntmps30
  go_upto_region 1 with fail
  rw [HW0.out]
  clear HW0
  generalize p.main.cnt 0 = q0 at *
  go_wp2_with fail
  refine C0.out.mono ?_
  rintro e w1 ⟨rfl, g0, g1, hb1⟩
  have HZ1 := Lib.hid hb1
  clear hb1 C0 x0 x1 x2 x3 x4 x5 x6 x7 x8
  go_wp2_with fail
  go_loopw [3, 4] (fun v i wr => ∃ (k : Nat) (q : Int), k ≤ nd ∧ i = .int .i64 k ∧ v = .int .i64 q ∧ 0 ≤ q ∧ q ≤ 4000000000000000000 ∧ p.cnt = Dc.cntL (p.ds.drop k) q ∧ Below w1.heap.size w1 wr) (fun _ i _ => nd - (intOf i).toNat)
  case atStart => exact ⟨0, q0, by omega, rfl, rfl, g0, by omega, HC.out, Below.refl _ _⟩
  case round =>
    obtain ⟨k, q, hk, rfl, rfl, hq0, hq1, hc, hbel⟩ := hrel
    have HBL := Lib.hid hbel
    have HQ := Lib.hid hc
    have HZ := Lib.hid (HZ1.out.trans (hbel.mono HZ1.out.size))
    clear hc hbel
    have z0 : (0 : Int) ≤ k := by omega
    have x0 := (HX.out.later HZ.out) 0 _ rfl
    by_cases hgo : k < nd ∧ q ≤ 2000
    rotate_left
    · have hend : Dc.cntL (p.ds.drop k) q = q := by
        by_cases hlt : k < nd
        · exact dcntL_off (fun h => hgo ⟨hlt, h⟩)
        · exact dcntL_end (by rw [HXL.out]; omega)
      have hcond : ((nd : Int) ≤ k) ∨ ((k : Int) < nd ∧ 2000 < q) := by omega
      rw [hend] at HQ
      clear hend hgo
      rcases hcond with y0 | ⟨y0, y1⟩
      all_goals
        go_wp2_with fail
        go_ret
        exact ⟨ret_int (by rw [HQ.out]), by rw [HQ.out]; omega, by rw [HQ.out]; omega, HB.out.trans (HZ.out.mono HB.out.size)⟩
    obtain ⟨hlt, hq2⟩ := hgo
    have y0 : (k : Int) < nd := by omega
    obtain ⟨pu, u, ps, rfl, hxk, _, _, hu, hcs⟩ := dat_at (RowH.later HDS.out HZ.out) hlt
    have HLU := Lib.hid (dc_len hu)
    have HOU := Lib.hid (dc_cells hu)
    have HFC := Lib.hid hcs
    obtain ⟨W1, hP1⟩ := put23 wr HLU.out
    have HP1 := Lib.hid hP1
    have HS := Lib.hid (HQ.out.trans (dcntL_on hxk hq2))
    obtain ⟨F, nf, cf, P, np, cp, G, ng, cg, V, nv, cv, F2, nf2, cf2, P2, np2, cp2, A2, m2, a2, A4, m4, a4, B4, l4, b4, C4, n4, c4, hps, hn1, hf, hp, hg, hn2, hv, hs, hbd⟩ := dc_full hu
    have HPS := Lib.hid hps
    have HBX := Lib.hid hP1.box
    have hgl := hg.len
    have hvl := hv.len
    rw [List.length_map] at hgl hvl
    have i1 : (ng : Int) ≤ 9223372036854775807 := by have := hg.le; omega
    have i2 : (nv : Int) ≤ 9223372036854775807 := by have := hv.le; omega
    have HF := Lib.hid (RowH.later hf hP1.bel)
    have HP := Lib.hid (RowH.later hp hP1.bel)
    have HG := Lib.hid (RowH.later hg hP1.bel)
    have HV := Lib.hid (RowH.later hv hP1.bel)
    have HSD := Lib.hid (Dat.H.later hs hP1.bel)
    have HBD := Lib.hid (Dat.H.later hbd hP1.bel)
    have HBW := Lib.hid (HBL.out.trans (hP1.bel.mono HBL.out.size))
    have HDC := Lib.hid (show Dc.cnt u q = (let m := Dc.cntV u.vs (Sg.cntL u.gs (Fo.cntL u.ms (Fo.cntL u.fs (q + 1 + u.name.size / 50 + u.recv.size / 50)))); if m ≤ 2000 then u.body.cnt (u.sig.cnt m) else m) from rfl)
    obtain ⟨t1, ht1⟩ : ∃ t, (u.name.size : Int) / 50 = t := ⟨_, rfl⟩
    obtain ⟨t2, ht2⟩ : ∃ t, (u.recv.size : Int) / 50 = t := ⟨_, rfl⟩
    obtain ⟨r1, hr1⟩ : ∃ t, q + 1 = t := ⟨_, rfl⟩
    obtain ⟨r2, hr2⟩ : ∃ t, r1 + t1 = t := ⟨_, rfl⟩
    obtain ⟨r3, hr3⟩ : ∃ t, r2 + t2 = t := ⟨_, rfl⟩
    rw [ht1, ht2, hr1, hr2, hr3] at HDC
    have e1 : IntKind.i64.wrap ((u.name.size : Int) / 50) = t1 := by rw [ht1]; exact IntWalk.i64_in _ (by omega)
    have e2 : IntKind.i64.wrap ((u.recv.size : Int) / 50) = t2 := by rw [ht2]; exact IntWalk.i64_in _ (by omega)
    have e3 : IntKind.i64.wrap (q + 1) = r1 := by rw [hr1]; exact IntWalk.i64_in _ (by omega)
    have e4 : IntKind.i64.wrap (r1 + t1) = r2 := by rw [hr2]; exact IntWalk.i64_in _ (by omega)
    have e5 : IntKind.i64.wrap (r2 + t2) = r3 := by rw [hr3]; exact IntWalk.i64_in _ (by omega)
    have j1 : 0 ≤ r3 := by omega
    have j2 : r3 ≤ 400000000000002001 := by omega
    clear ht1 ht2 hr1 hr2 hr3 hu hcs hP1 hps hf hp hg hv hs hbd hxk hn1 hn2
    go_wp2_with (first
      | (refine loadDc 25 26 rfl HFC.out HLU.out ?_)
      | (refine storeDc 5 26 (b := wr.heap.size) (o := 0) rfl rfl HP1.out.there HOU.out HLU.out ?_; rw [HP1.out.eq]))
    clear x0 HFC HP1
    generalize wr.heap.size = b0 at *
    have C1 := Lib.hid (fun (V : World) (hV : Below W1.heap.size W1 V) => rcountFormals_any u.fs F nf cf r3 V j1 (by omega) (RowH.later HF.out hV))
    have C2 := Lib.hid (fun (V : World) (q : Int) (hq : 0 ≤ q) (hq1 : q ≤ 4000000000000000000) (hV : Below W1.heap.size W1 V) => rcountParams_any u.ms P np cp q V hq hq1 (RowH.later HP.out hV))
    have SS : Below W1.heap.size W1 W1 ∧ W1.cell? ⟨b0, 1, none⟩ = some (.string u.name) ∧ W1.cell? ⟨b0, 2, none⟩ = some (.slice F nf cf) ∧ W1.cell? ⟨b0, 3, none⟩ = some (.slice P np cp) ∧ W1.cell? ⟨b0, 5, none⟩ = some (.string u.recv) := ⟨Below.refl _ _, HBX.out 1 _ (by rw [HPS.out]; rfl), HBX.out 2 _ (by rw [HPS.out]; rfl), HBX.out 3 _ (by rw [HPS.out]; rfl), HBX.out 5 _ (by rw [HPS.out]; rfl)⟩
    go_cut [3] (fun v wx => ∃ q2 : Int, v = .int .i64 q2 ∧ 0 ≤ q2 ∧ q2 ≤ 2000000000000000000 ∧ Fo.cntL u.ms (Fo.cntL u.fs r3) = q2 ∧ Below W1.heap.size W1 wx)
    case first =>
      refine wp_region_held_drew (S := fun V => Below W1.heap.size W1 V ∧ V.cell? ⟨b0, 1, none⟩ = some (.string u.name) ∧ V.cell? ⟨b0, 2, none⟩ = some (.slice F nf cf) ∧ V.cell? ⟨b0, 3, none⟩ = some (.slice P np cp) ∧ V.cell? ⟨b0, 5, none⟩ = some (.string u.recv)) (by kernel_rfl) (by first | exact SS | exact ⟨SS.1.drew, SS.2⟩) (fun hS => ?_)
      first
      | (refine wpAnyH_take (i := 0) (v := ?_) rfl (by kernel_rfl) (by kernel_rfl) (by kernel_rfl) (fun _ _ _ h => h) (Or.inl ⟨by rfl, ?_⟩) (by assumption) ?_
         rotate_left
         · (intro V hV; obtain ⟨_, x0, x1, x2, x3⟩ := hV; go_simp; try with_reducible rfl)
         try simp only [Act.put, List.getElem_toArray, List.getElem_cons_zero, List.setIfInBounds_toArray, List.set_cons_zero, List.set_cons_succ])
      | (refine wpAnyH_take (i := 0) (v := undef) rfl (by kernel_rfl) (by kernel_rfl) (by kernel_rfl) (fun _ _ _ h => h) (Or.inr ⟨by rfl, rfl⟩) (by assumption) ?_
         try simp only [Act.put, List.getElem_toArray, List.getElem_cons_zero, List.setIfInBounds_toArray, List.set_cons_zero, List.set_cons_succ])
      | fail "take 0"
      first
      | (refine wpAnyH_take (i := 1) (v := ?_) rfl (by kernel_rfl) (by kernel_rfl) (by kernel_rfl) (fun _ _ _ h => h) (Or.inl ⟨by rfl, ?_⟩) (by assumption) ?_
         rotate_left
         · (intro V hV; obtain ⟨_, x0, x1, x2, x3⟩ := hV; go_simp; try with_reducible rfl)
         try simp only [Act.put, List.getElem_toArray, List.getElem_cons_zero, List.getElem_cons_succ, List.setIfInBounds_toArray, List.set_cons_zero, List.set_cons_succ])
      | (refine wpAnyH_take (i := 1) (v := undef) rfl (by kernel_rfl) (by kernel_rfl) (by kernel_rfl) (fun _ _ _ h => h) (Or.inr ⟨by rfl, rfl⟩) (by assumption) ?_
         try simp only [Act.put, List.getElem_toArray, List.getElem_cons_zero, List.getElem_cons_succ, List.setIfInBounds_toArray, List.set_cons_zero, List.set_cons_succ])
      | fail "take 1"
      first
      | (refine wpAnyH_take (i := 2) (v := ?_) rfl (by kernel_rfl) (by kernel_rfl) (by kernel_rfl) (fun _ _ _ h => h) (Or.inl ⟨by rfl, ?_⟩) (by assumption) ?_
         rotate_left
         · (intro V hV; obtain ⟨_, x0, x1, x2, x3⟩ := hV; go_simp; try with_reducible rfl)
         try simp only [Act.put, List.getElem_toArray, List.getElem_cons_zero, List.getElem_cons_succ, List.setIfInBounds_toArray, List.set_cons_zero, List.set_cons_succ])
      | (refine wpAnyH_take (i := 2) (v := undef) rfl (by kernel_rfl) (by kernel_rfl) (by kernel_rfl) (fun _ _ _ h => h) (Or.inr ⟨by rfl, rfl⟩) (by assumption) ?_
         try simp only [Act.put, List.getElem_toArray, List.getElem_cons_zero, List.getElem_cons_succ, List.setIfInBounds_toArray, List.set_cons_zero, List.set_cons_succ])
      | fail "take 2"
      first
      | (refine wpAnyH_take (i := 3) (v := ?_) rfl (by kernel_rfl) (by kernel_rfl) (by kernel_rfl) (fun _ _ _ h => h) (Or.inl ⟨by rfl, ?_⟩) (by assumption) ?_
         rotate_left
         · (intro V hV; obtain ⟨_, x0, x1, x2, x3⟩ := hV; go_simp; try with_reducible rfl)
         try simp only [Act.put, List.getElem_toArray, List.getElem_cons_zero, List.getElem_cons_succ, List.setIfInBounds_toArray, List.set_cons_zero, List.set_cons_succ])
      | (refine wpAnyH_take (i := 3) (v := undef) rfl (by kernel_rfl) (by kernel_rfl) (by kernel_rfl) (fun _ _ _ h => h) (Or.inr ⟨by rfl, rfl⟩) (by assumption) ?_
         try simp only [Act.put, List.getElem_toArray, List.getElem_cons_zero, List.getElem_cons_succ, List.setIfInBounds_toArray, List.set_cons_zero, List.set_cons_succ])
      | fail "take 3"
      first
      | (refine wpAnyH_take (i := 4) (v := ?_) rfl (by kernel_rfl) (by kernel_rfl) (by kernel_rfl) (fun _ _ _ h => h) (Or.inl ⟨by rfl, ?_⟩) (by assumption) ?_
         rotate_left
         · (intro V hV; obtain ⟨_, x0, x1, x2, x3⟩ := hV; go_simp; try with_reducible rfl)
         try simp only [Act.put, List.getElem_toArray, List.getElem_cons_zero, List.getElem_cons_succ, List.setIfInBounds_toArray, List.set_cons_zero, List.set_cons_succ])
      | (refine wpAnyH_take (i := 4) (v := undef) rfl (by kernel_rfl) (by kernel_rfl) (by kernel_rfl) (fun _ _ _ h => h) (Or.inr ⟨by rfl, rfl⟩) (by assumption) ?_
         try simp only [Act.put, List.getElem_toArray, List.getElem_cons_zero, List.getElem_cons_succ, List.setIfInBounds_toArray, List.set_cons_zero, List.set_cons_succ])
      | fail "take 4"
      first
      | (refine wpAnyH_take (i := 5) (v := ?_) rfl (by kernel_rfl) (by kernel_rfl) (by kernel_rfl) (fun _ _ _ h => h) (Or.inl ⟨by rfl, ?_⟩) (by assumption) ?_
         rotate_left
         · (intro V hV; obtain ⟨_, x0, x1, x2, x3⟩ := hV; go_simp; try with_reducible rfl)
         try simp only [Act.put, List.getElem_toArray, List.getElem_cons_zero, List.getElem_cons_succ, List.setIfInBounds_toArray, List.set_cons_zero, List.set_cons_succ])
      | (refine wpAnyH_take (i := 5) (v := undef) rfl (by kernel_rfl) (by kernel_rfl) (by kernel_rfl) (fun _ _ _ h => h) (Or.inr ⟨by rfl, rfl⟩) (by assumption) ?_
         try simp only [Act.put, List.getElem_toArray, List.getElem_cons_zero, List.getElem_cons_succ, List.setIfInBounds_toArray, List.set_cons_zero, List.set_cons_succ])
      | fail "take 5"
      first
      | (refine wpAnyH_take (i := 6) (v := ?_) rfl (by kernel_rfl) (by kernel_rfl) (by kernel_rfl) (fun _ _ _ h => h) (Or.inl ⟨by rfl, ?_⟩) (by assumption) ?_
         rotate_left
         · (intro V hV; obtain ⟨_, x0, x1, x2, x3⟩ := hV; go_simp; try with_reducible rfl)
         try simp only [Act.put, List.getElem_toArray, List.getElem_cons_zero, List.getElem_cons_succ, List.setIfInBounds_toArray, List.set_cons_zero, List.set_cons_succ])
      | (refine wpAnyH_take (i := 6) (v := undef) rfl (by kernel_rfl) (by kernel_rfl) (by kernel_rfl) (fun _ _ _ h => h) (Or.inr ⟨by rfl, rfl⟩) (by assumption) ?_
         try simp only [Act.put, List.getElem_toArray, List.getElem_cons_zero, List.getElem_cons_succ, List.setIfInBounds_toArray, List.set_cons_zero, List.set_cons_succ])
      | fail "take 6"
      first
      | (refine wpAnyH_take (i := 7) (v := ?_) rfl (by kernel_rfl) (by kernel_rfl) (by kernel_rfl) (fun _ _ _ h => h) (Or.inl ⟨by rfl, ?_⟩) (by assumption) ?_
         rotate_left
         · (intro V hV; obtain ⟨_, x0, x1, x2, x3⟩ := hV; go_simp; try with_reducible rfl)
         try simp only [Act.put, List.getElem_toArray, List.getElem_cons_zero, List.getElem_cons_succ, List.setIfInBounds_toArray, List.set_cons_zero, List.set_cons_succ])
      | (refine wpAnyH_take (i := 7) (v := undef) rfl (by kernel_rfl) (by kernel_rfl) (by kernel_rfl) (fun _ _ _ h => h) (Or.inr ⟨by rfl, rfl⟩) (by assumption) ?_
         try simp only [Act.put, List.getElem_toArray, List.getElem_cons_zero, List.getElem_cons_succ, List.setIfInBounds_toArray, List.set_cons_zero, List.set_cons_succ])
      | fail "take 7"
      first
      | (refine wpAnyH_take (i := 8) (v := ?_) rfl (by kernel_rfl) (by kernel_rfl) (by kernel_rfl) (fun _ _ _ h => h) (Or.inl ⟨by rfl, ?_⟩) (by assumption) ?_
         rotate_left
         · (intro V hV; obtain ⟨_, x0, x1, x2, x3⟩ := hV; go_simp; try with_reducible rfl)
         try simp only [Act.put, List.getElem_toArray, List.getElem_cons_zero, List.getElem_cons_succ, List.setIfInBounds_toArray, List.set_cons_zero, List.set_cons_succ])
      | (refine wpAnyH_take (i := 8) (v := undef) rfl (by kernel_rfl) (by kernel_rfl) (by kernel_rfl) (fun _ _ _ h => h) (Or.inr ⟨by rfl, rfl⟩) (by assumption) ?_
         try simp only [Act.put, List.getElem_toArray, List.getElem_cons_zero, List.getElem_cons_succ, List.setIfInBounds_toArray, List.set_cons_zero, List.set_cons_succ])
      | fail "take 8"
      first
      | (refine wpAnyH_take (i := 9) (v := ?_) rfl (by kernel_rfl) (by kernel_rfl) (by kernel_rfl) (fun _ _ _ h => h) (Or.inl ⟨by rfl, ?_⟩) (by assumption) ?_
         rotate_left
         · (intro V hV; obtain ⟨_, x0, x1, x2, x3⟩ := hV; go_simp; try with_reducible rfl)
         try simp only [Act.put, List.getElem_toArray, List.getElem_cons_zero, List.getElem_cons_succ, List.setIfInBounds_toArray, List.set_cons_zero, List.set_cons_succ])
      | (refine wpAnyH_take (i := 9) (v := undef) rfl (by kernel_rfl) (by kernel_rfl) (by kernel_rfl) (fun _ _ _ h => h) (Or.inr ⟨by rfl, rfl⟩) (by assumption) ?_
         try simp only [Act.put, List.getElem_toArray, List.getElem_cons_zero, List.getElem_cons_succ, List.setIfInBounds_toArray, List.set_cons_zero, List.set_cons_succ])
      | fail "take 9"
      first
      | (refine wpAnyH_take (i := 10) (v := ?_) rfl (by kernel_rfl) (by kernel_rfl) (by kernel_rfl) (fun _ _ _ h => h) (Or.inl ⟨by rfl, ?_⟩) (by assumption) ?_
         rotate_left
         · (intro V hV; obtain ⟨_, x0, x1, x2, x3⟩ := hV; go_simp; try with_reducible rfl)
         try simp only [Act.put, List.getElem_toArray, List.getElem_cons_zero, List.getElem_cons_succ, List.setIfInBounds_toArray, List.set_cons_zero, List.set_cons_succ])
      | (refine wpAnyH_take (i := 10) (v := undef) rfl (by kernel_rfl) (by kernel_rfl) (by kernel_rfl) (fun _ _ _ h => h) (Or.inr ⟨by rfl, rfl⟩) (by assumption) ?_
         try simp only [Act.put, List.getElem_toArray, List.getElem_cons_zero, List.getElem_cons_succ, List.setIfInBounds_toArray, List.set_cons_zero, List.set_cons_succ])
      | fail "take 10"
      first
      | (refine wpAnyH_take (i := 11) (v := ?_) rfl (by kernel_rfl) (by kernel_rfl) (by kernel_rfl) (fun _ _ _ h => h) (Or.inl ⟨by rfl, ?_⟩) (by assumption) ?_
         rotate_left
         · (intro V hV; obtain ⟨_, x0, x1, x2, x3⟩ := hV; go_simp; try with_reducible rfl)
         try simp only [Act.put, List.getElem_toArray, List.getElem_cons_zero, List.getElem_cons_succ, List.setIfInBounds_toArray, List.set_cons_zero, List.set_cons_succ])
      | (refine wpAnyH_take (i := 11) (v := undef) rfl (by kernel_rfl) (by kernel_rfl) (by kernel_rfl) (fun _ _ _ h => h) (Or.inr ⟨by rfl, rfl⟩) (by assumption) ?_
         try simp only [Act.put, List.getElem_toArray, List.getElem_cons_zero, List.getElem_cons_succ, List.setIfInBounds_toArray, List.set_cons_zero, List.set_cons_succ])
      | fail "take 11"
      first
      | (refine wpAnyH_take (i := 12) (v := ?_) rfl (by kernel_rfl) (by kernel_rfl) (by kernel_rfl) (fun _ _ _ h => h) (Or.inl ⟨by rfl, ?_⟩) (by assumption) ?_
         rotate_left
         · (intro V hV; obtain ⟨_, x0, x1, x2, x3⟩ := hV; go_simp; try with_reducible rfl)
         try simp only [Act.put, List.getElem_toArray, List.getElem_cons_zero, List.getElem_cons_succ, List.setIfInBounds_toArray, List.set_cons_zero, List.set_cons_succ])
      | (refine wpAnyH_take (i := 12) (v := undef) rfl (by kernel_rfl) (by kernel_rfl) (by kernel_rfl) (fun _ _ _ h => h) (Or.inr ⟨by rfl, rfl⟩) (by assumption) ?_
         try simp only [Act.put, List.getElem_toArray, List.getElem_cons_zero, List.getElem_cons_succ, List.setIfInBounds_toArray, List.set_cons_zero, List.set_cons_succ])
      | fail "take 12"
      first
      | (refine wpAnyH_take (i := 13) (v := ?_) rfl (by kernel_rfl) (by kernel_rfl) (by kernel_rfl) (fun _ _ _ h => h) (Or.inl ⟨by rfl, ?_⟩) (by assumption) ?_
         rotate_left
         · (intro V hV; obtain ⟨_, x0, x1, x2, x3⟩ := hV; go_simp; try with_reducible rfl)
         try simp only [Act.put, List.getElem_toArray, List.getElem_cons_zero, List.getElem_cons_succ, List.setIfInBounds_toArray, List.set_cons_zero, List.set_cons_succ])
      | (refine wpAnyH_take (i := 13) (v := undef) rfl (by kernel_rfl) (by kernel_rfl) (by kernel_rfl) (fun _ _ _ h => h) (Or.inr ⟨by rfl, rfl⟩) (by assumption) ?_
         try simp only [Act.put, List.getElem_toArray, List.getElem_cons_zero, List.getElem_cons_succ, List.setIfInBounds_toArray, List.set_cons_zero, List.set_cons_succ])
      | fail "take 13"
      first
      | (refine wpAnyH_take (i := 14) (v := ?_) rfl (by kernel_rfl) (by kernel_rfl) (by kernel_rfl) (fun _ _ _ h => h) (Or.inl ⟨by rfl, ?_⟩) (by assumption) ?_
         rotate_left
         · (intro V hV; obtain ⟨_, x0, x1, x2, x3⟩ := hV; go_simp; try with_reducible rfl)
         try simp only [Act.put, List.getElem_toArray, List.getElem_cons_zero, List.getElem_cons_succ, List.setIfInBounds_toArray, List.set_cons_zero, List.set_cons_succ])
      | (refine wpAnyH_take (i := 14) (v := undef) rfl (by kernel_rfl) (by kernel_rfl) (by kernel_rfl) (fun _ _ _ h => h) (Or.inr ⟨by rfl, rfl⟩) (by assumption) ?_
         try simp only [Act.put, List.getElem_toArray, List.getElem_cons_zero, List.getElem_cons_succ, List.setIfInBounds_toArray, List.set_cons_zero, List.set_cons_succ])
      | fail "take 14"
      first
      | (refine wpAnyH_take (i := 15) (v := ?_) rfl (by kernel_rfl) (by kernel_rfl) (by kernel_rfl) (fun _ _ _ h => h) (Or.inl ⟨by rfl, ?_⟩) (by assumption) ?_
         rotate_left
         · (intro V hV; obtain ⟨_, x0, x1, x2, x3⟩ := hV; go_simp; try with_reducible rfl)
         try simp only [Act.put, List.getElem_toArray, List.getElem_cons_zero, List.getElem_cons_succ, List.setIfInBounds_toArray, List.set_cons_zero, List.set_cons_succ])
      | (refine wpAnyH_take (i := 15) (v := undef) rfl (by kernel_rfl) (by kernel_rfl) (by kernel_rfl) (fun _ _ _ h => h) (Or.inr ⟨by rfl, rfl⟩) (by assumption) ?_
         try simp only [Act.put, List.getElem_toArray, List.getElem_cons_zero, List.getElem_cons_succ, List.setIfInBounds_toArray, List.set_cons_zero, List.set_cons_succ])
      | fail "take 15"
      refine wpAnyH_ready (rs := [16]) (by kernel_rfl) (by simp) ?_
      refine AllReadyH.cons rfl (fun K hK => ?_) AllReadyH.nil
      go_simp
      refine (C1.out _ hS.1).mono ?_
      rintro e Wv ⟨rfl, pa, pb, hb⟩
      have SS : Below W1.heap.size W1 Wv ∧ Wv.cell? ⟨b0, 1, none⟩ = some (.string u.name) ∧ Wv.cell? ⟨b0, 2, none⟩ = some (.slice F nf cf) ∧ Wv.cell? ⟨b0, 3, none⟩ = some (.slice P np cp) ∧ Wv.cell? ⟨b0, 5, none⟩ = some (.string u.recv) := ⟨hS.1.trans (hb.mono hS.1.size), (hb.cell (cell_lt (And.left (And.right hS)))).trans (And.left (And.right hS)), (hb.cell (cell_lt (And.left (And.right (And.right hS))))).trans (And.left (And.right (And.right hS))), (hb.cell (cell_lt (And.left (And.right (And.right (And.right hS)))))).trans (And.left (And.right (And.right (And.right hS)))), (hb.cell (cell_lt (And.right (And.right (And.right (And.right hS)))))).trans (And.right (And.right (And.right (And.right hS))))⟩
      clear hS hb
      refine hK.out _ _ SS (fun hS => ?_)
      clear hK K
      try simp only [Act.put, List.getElem_toArray, List.getElem_cons_zero, List.getElem_cons_succ, List.setIfInBounds_toArray, List.set_cons_zero, List.set_cons_succ]
      refine wpAnyH_ready (rs := [17]) (by kernel_rfl) (by simp) ?_
      refine AllReadyH.cons rfl (fun K hK => ?_) AllReadyH.nil
      go_simp
      refine (C2.out _ _ pa (by omega) hS.1).mono ?_
      rintro e Wv ⟨rfl, ra, rb, hb⟩
      have SS : Below W1.heap.size W1 Wv ∧ Wv.cell? ⟨b0, 1, none⟩ = some (.string u.name) ∧ Wv.cell? ⟨b0, 2, none⟩ = some (.slice F nf cf) ∧ Wv.cell? ⟨b0, 3, none⟩ = some (.slice P np cp) ∧ Wv.cell? ⟨b0, 5, none⟩ = some (.string u.recv) := ⟨hS.1.trans (hb.mono hS.1.size), (hb.cell (cell_lt (And.left (And.right hS)))).trans (And.left (And.right hS)), (hb.cell (cell_lt (And.left (And.right (And.right hS))))).trans (And.left (And.right (And.right hS))), (hb.cell (cell_lt (And.left (And.right (And.right (And.right hS)))))).trans (And.left (And.right (And.right (And.right hS)))), (hb.cell (cell_lt (And.right (And.right (And.right (And.right hS)))))).trans (And.right (And.right (And.right (And.right hS))))⟩
      clear hS hb
      refine hK.out _ _ SS (fun hS => ?_)
      clear hK K
      try simp only [Act.put, List.getElem_toArray, List.getElem_cons_zero, List.getElem_cons_succ, List.setIfInBounds_toArray, List.set_cons_zero, List.set_cons_succ]
      first
      | (refine wpAnyH_take (i := 18) (v := ?_) rfl (by kernel_rfl) (by kernel_rfl) (by kernel_rfl) (fun _ _ _ h => h) (Or.inl ⟨by rfl, ?_⟩) (by assumption) ?_
         rotate_left
         · (intro V hV; obtain ⟨_, x0, x1, x2, x3⟩ := hV; go_simp; try with_reducible rfl)
         try simp only [Act.put, List.getElem_toArray, List.getElem_cons_zero, List.getElem_cons_succ, List.setIfInBounds_toArray, List.set_cons_zero, List.set_cons_succ])
      | (refine wpAnyH_take (i := 18) (v := undef) rfl (by kernel_rfl) (by kernel_rfl) (by kernel_rfl) (fun _ _ _ h => h) (Or.inr ⟨by rfl, rfl⟩) (by assumption) ?_
         try simp only [Act.put, List.getElem_toArray, List.getElem_cons_zero, List.getElem_cons_succ, List.setIfInBounds_toArray, List.set_cons_zero, List.set_cons_succ])
      | fail "take 18"
      refine wpAnyH_done (by kernel_rfl) ?_ _
      go_wp2_with fail
      go_meet
      exact ⟨_, rfl, by omega, by omega, rfl, SS.1⟩
    case rest =>
      obtain ⟨q2, rfl, hq20, hq21, hcc, hbc⟩ := hcut
      have HB2 := Lib.hid hbc
      rw [hcc] at HDC
      clear hcc hbc SS C1 C2 e1 e2 e3 e4 e5 HF HP
      go_wp2_with fail
      go_loopw [3, 6] (fun v i wr => ∃ (j : Nat) (q : Int), j ≤ ng ∧ i = .int .i64 j ∧ v = .int .i64 q ∧ 0 ≤ q ∧ q ≤ 2000000000000000000 ∧ Sg.cntL u.gs q2 = Sg.cntL (u.gs.drop j) q ∧ Below W1.heap.size W1 wr) (fun _ i _ => ng - (intOf i).toNat)
      case atStart => exact ⟨0, q2, by omega, rfl, rfl, hq20, hq21, rfl, HB2.out⟩
      case round =>
        obtain ⟨j, q4, hj, rfl, rfl, hq40, hq41, hc4, hbel⟩ := hrel
        have HBL4 := Lib.hid hbel
        have HQ4 := Lib.hid hc4
        clear hc4 hbel
        have z2 : (0 : Int) ≤ j := by omega
        have b4c := (HBX.out.later HBL4.out) 4 _ (by rw [HPS.out]; rfl)
        by_cases hgo : j < ng ∧ q4 ≤ 2000
        · obtain ⟨hlt, hq5⟩ := hgo
          have y1 : (j : Int) < ng := by omega
          obtain ⟨pu2, t, qs, rfl, hxj, _, _, ht, hcs⟩ := dat_at (RowH.later HG.out HBL4.out) hlt
          have HSJ := Lib.hid (HQ4.out.trans (scntL_on hxj hq5))
          have C5 := Lib.hid (rcountSig_any t qs q4 wr hq40 (by omega) ht)
          obtain ⟨Fu, nfu, cfu, Pu, npu, cpu, Au, mu, au, rfl, _⟩ := sg_open ht
          obtain ⟨f0, f1, f2, f3, f4, f5, f6⟩ := cells7_at hcs
          clear ht hcs hxj
          go_wp2_with fail
          refine C5.out.mono ?_
          rintro e w5 ⟨rfl, g2, g3, hb5⟩
          have HB5 := Lib.hid (HBL4.out.trans (hb5.mono HBL4.out.size))
          clear hb5 C5 f0 f1 f2 f3 f4 f5 f6 b4c
          go_wp2_with fail
          go_roundw
          case rel => exact ⟨j + 1, _, by omega, by go_num, rfl, g2, by omega, HSJ.out, HB5.out⟩
          case measure => simp [intOf]; omega
        · have hend : Sg.cntL (u.gs.drop j) q4 = q4 := by
            by_cases hlt : j < ng
            · exact scntL_off (fun h => hgo ⟨hlt, h⟩)
            · exact scntL_end (by omega)
          have hcond : ((ng : Int) ≤ j) ∨ ((j : Int) < ng ∧ 2000 < q4) := by omega
          rw [hend] at HQ4
          rw [HQ4.out] at HDC
          clear hend hgo HQ4
          generalize hV : wr = X at *
          clear hV
          rcases hcond with y1 | ⟨y1, y2⟩
          all_goals
            go_wp2_with fail
            clear b4c
            go_loopw [3, 7] (fun v i wr => ∃ (i2 : Nat) (q : Int), i2 ≤ nv ∧ i = .int .i64 i2 ∧ v = .int .i64 q ∧ 0 ≤ q ∧ q ≤ 2000000000000000000 ∧ Dc.cntV u.vs q4 = Dc.cntV (u.vs.drop i2) q ∧ wr = X) (fun _ i _ => nv - (intOf i).toNat)
            case atStart => exact ⟨0, q4, by omega, rfl, rfl, hq40, hq41, rfl, rfl⟩
            case round =>
              obtain ⟨i2, q6, hi2, rfl, rfl, hq60, hq61, hc6, rfl⟩ := hrel
              have HQ6 := Lib.hid hc6
              clear hc6
              have z3 : (0 : Int) ≤ i2 := by omega
              have b6c := (HBX.out.later HBL4.out) 6 _ (by rw [HPS.out]; rfl)
              by_cases hgo : i2 < nv ∧ q6 ≤ 2000
              · obtain ⟨hlt, hq7⟩ := hgo
                have y4 : (i2 : Int) < nv := by omega
                obtain ⟨pu2, t, qs, rfl, hxj, _, _, ht, hcs⟩ := dat_at (RowH.later HV.out HBL4.out) hlt
                rw [Dat.In] at ht
                obtain ⟨rfl, htl⟩ := ht
                have f0 := hcs 0 _ rfl
                rw [add_add, Nat.mul_one, Nat.add_zero] at f0
                have HSJ := Lib.hid (HQ6.out.trans (vcntL_on hxj hq7))
                have z4 : (t.size : Int) / 50 ≤ 190000000000000000 := by omega
                have z5 : 0 ≤ (t.size : Int) / 50 := by omega
                clear hcs hxj
                go_wp2_with fail
                go_roundw
                case rel => exact ⟨i2 + 1, _, by omega, by go_num, rfl, by omega, by omega, HSJ.out, trivial⟩
                case measure => simp [intOf]; omega
              · have hend : Dc.cntV (u.vs.drop i2) q6 = q6 := by
                  by_cases hlt : i2 < nv
                  · exact vcntL_off (fun h => hgo ⟨hlt, h⟩)
                  · exact vcntL_end (by omega)
                have hcond : ((nv : Int) ≤ i2) ∨ ((i2 : Int) < nv ∧ 2000 < q6) := by omega
                rw [hend] at HQ6
                rw [HQ6.out] at HDC
                clear hend hgo HQ6
                rcases hcond with y4 | ⟨y4, y5⟩
                · by_cases hq8 : q6 ≤ 2000
                  · have HFIN := Lib.hid (show Dc.cnt u q = u.body.cnt (u.sig.cnt q6) by rw [HDC.out]; exact if_pos hq8)
                    have C3 := Lib.hid (fun (V : World) (hV : Below wr.heap.size wr V) => rcountSig_any u.sig _ q6 V hq60 (by omega) (Dat.H.later HSD.out (HBL4.out.trans (hV.mono HBL4.out.size))))
                    have CB4 := Lib.hid (fun (V : World) (q : Int) (hq : 0 ≤ q) (hq1 : q ≤ 2000000000000000000) (hV : Below wr.heap.size wr V) => rxcount_any u.body _ q V hq hq1 (Dat.H.later HBD.out (HBL4.out.trans (hV.mono HBL4.out.size))))
                    have SS : Below wr.heap.size wr wr ∧ wr.cell? ⟨b0, 7, none⟩ = some (.string u.sig.name) ∧ wr.cell? ⟨b0, 8, none⟩ = some (.slice F2 nf2 cf2) ∧ wr.cell? ⟨b0, 9, none⟩ = some (.slice P2 np2 cp2) ∧ wr.cell? ⟨b0, 10, none⟩ = some (.string u.sig.res.name) ∧ wr.cell? ⟨b0, 11, none⟩ = some (.slice A2 m2 a2) ∧ wr.cell? ⟨b0, 12, none⟩ = some (.int .i64 u.sig.res.off) ∧ wr.cell? ⟨b0, 13, none⟩ = some (.int .i64 u.sig.off) ∧ wr.cell? ⟨b0, 14, none⟩ = some (.int .i64 u.body.kind) ∧ wr.cell? ⟨b0, 15, none⟩ = some (.string u.body.name) ∧ wr.cell? ⟨b0, 16, none⟩ = some (.string u.body.ty.name) ∧ wr.cell? ⟨b0, 17, none⟩ = some (.slice A4 m4 a4) ∧ wr.cell? ⟨b0, 18, none⟩ = some (.int .i64 u.body.ty.off) ∧ wr.cell? ⟨b0, 19, none⟩ = some (.slice B4 l4 b4) ∧ wr.cell? ⟨b0, 20, none⟩ = some (.slice C4 n4 c4) ∧ wr.cell? ⟨b0, 21, none⟩ = some (.int .i64 u.body.off) := ⟨Below.refl _ _, (HBX.out.later HBL4.out) 7 _ (by rw [HPS.out]; rfl), (HBX.out.later HBL4.out) 8 _ (by rw [HPS.out]; rfl), (HBX.out.later HBL4.out) 9 _ (by rw [HPS.out]; rfl), (HBX.out.later HBL4.out) 10 _ (by rw [HPS.out]; rfl), (HBX.out.later HBL4.out) 11 _ (by rw [HPS.out]; rfl), (HBX.out.later HBL4.out) 12 _ (by rw [HPS.out]; rfl), (HBX.out.later HBL4.out) 13 _ (by rw [HPS.out]; rfl), (HBX.out.later HBL4.out) 14 _ (by rw [HPS.out]; rfl), (HBX.out.later HBL4.out) 15 _ (by rw [HPS.out]; rfl), (HBX.out.later HBL4.out) 16 _ (by rw [HPS.out]; rfl), (HBX.out.later HBL4.out) 17 _ (by rw [HPS.out]; rfl), (HBX.out.later HBL4.out) 18 _ (by rw [HPS.out]; rfl), (HBX.out.later HBL4.out) 19 _ (by rw [HPS.out]; rfl), (HBX.out.later HBL4.out) 20 _ (by rw [HPS.out]; rfl), (HBX.out.later HBL4.out) 21 _ (by rw [HPS.out]; rfl)⟩
                    go_wp2_with fail
                    clear b6c
                    refine wp_region_held_drew (S := fun V => Below wr.heap.size wr V ∧ V.cell? ⟨b0, 7, none⟩ = some (.string u.sig.name) ∧ V.cell? ⟨b0, 8, none⟩ = some (.slice F2 nf2 cf2) ∧ V.cell? ⟨b0, 9, none⟩ = some (.slice P2 np2 cp2) ∧ V.cell? ⟨b0, 10, none⟩ = some (.string u.sig.res.name) ∧ V.cell? ⟨b0, 11, none⟩ = some (.slice A2 m2 a2) ∧ V.cell? ⟨b0, 12, none⟩ = some (.int .i64 u.sig.res.off) ∧ V.cell? ⟨b0, 13, none⟩ = some (.int .i64 u.sig.off) ∧ V.cell? ⟨b0, 14, none⟩ = some (.int .i64 u.body.kind) ∧ V.cell? ⟨b0, 15, none⟩ = some (.string u.body.name) ∧ V.cell? ⟨b0, 16, none⟩ = some (.string u.body.ty.name) ∧ V.cell? ⟨b0, 17, none⟩ = some (.slice A4 m4 a4) ∧ V.cell? ⟨b0, 18, none⟩ = some (.int .i64 u.body.ty.off) ∧ V.cell? ⟨b0, 19, none⟩ = some (.slice B4 l4 b4) ∧ V.cell? ⟨b0, 20, none⟩ = some (.slice C4 n4 c4) ∧ V.cell? ⟨b0, 21, none⟩ = some (.int .i64 u.body.off)) (by kernel_rfl) (by first | exact SS | exact ⟨SS.1.drew, SS.2⟩) (fun hS => ?_)
                    first
                    | (refine wpAnyH_take (i := 0) (v := ?_) rfl (by kernel_rfl) (by kernel_rfl) (by kernel_rfl) (fun _ _ _ h => h) (Or.inl ⟨by rfl, ?_⟩) (by assumption) ?_
                       rotate_left
                       · (intro V hV; obtain ⟨_, x0, x1, x2, x3, x4, x5, x6, x7, x8, x9, x10, x11, x12, x13, x14⟩ := hV; go_simp; try with_reducible rfl)
                       try simp only [Act.put, List.getElem_toArray, List.getElem_cons_zero, List.setIfInBounds_toArray, List.set_cons_zero, List.set_cons_succ])
                    | (refine wpAnyH_take (i := 0) (v := undef) rfl (by kernel_rfl) (by kernel_rfl) (by kernel_rfl) (fun _ _ _ h => h) (Or.inr ⟨by rfl, rfl⟩) (by assumption) ?_
                       try simp only [Act.put, List.getElem_toArray, List.getElem_cons_zero, List.setIfInBounds_toArray, List.set_cons_zero, List.set_cons_succ])
                    | fail "take 0"
                    first
                    | (refine wpAnyH_take (i := 1) (v := ?_) rfl (by kernel_rfl) (by kernel_rfl) (by kernel_rfl) (fun _ _ _ h => h) (Or.inl ⟨by rfl, ?_⟩) (by assumption) ?_
                       rotate_left
                       · (intro V hV; obtain ⟨_, x0, x1, x2, x3, x4, x5, x6, x7, x8, x9, x10, x11, x12, x13, x14⟩ := hV; go_simp; try with_reducible rfl)
                       try simp only [Act.put, List.getElem_toArray, List.getElem_cons_zero, List.getElem_cons_succ, List.setIfInBounds_toArray, List.set_cons_zero, List.set_cons_succ])
                    | (refine wpAnyH_take (i := 1) (v := undef) rfl (by kernel_rfl) (by kernel_rfl) (by kernel_rfl) (fun _ _ _ h => h) (Or.inr ⟨by rfl, rfl⟩) (by assumption) ?_
                       try simp only [Act.put, List.getElem_toArray, List.getElem_cons_zero, List.getElem_cons_succ, List.setIfInBounds_toArray, List.set_cons_zero, List.set_cons_succ])
                    | fail "take 1"
                    first
                    | (refine wpAnyH_take (i := 2) (v := ?_) rfl (by kernel_rfl) (by kernel_rfl) (by kernel_rfl) (fun _ _ _ h => h) (Or.inl ⟨by rfl, ?_⟩) (by assumption) ?_
                       rotate_left
                       · (intro V hV; obtain ⟨_, x0, x1, x2, x3, x4, x5, x6, x7, x8, x9, x10, x11, x12, x13, x14⟩ := hV; go_simp; try with_reducible rfl)
                       try simp only [Act.put, List.getElem_toArray, List.getElem_cons_zero, List.getElem_cons_succ, List.setIfInBounds_toArray, List.set_cons_zero, List.set_cons_succ])
                    | (refine wpAnyH_take (i := 2) (v := undef) rfl (by kernel_rfl) (by kernel_rfl) (by kernel_rfl) (fun _ _ _ h => h) (Or.inr ⟨by rfl, rfl⟩) (by assumption) ?_
                       try simp only [Act.put, List.getElem_toArray, List.getElem_cons_zero, List.getElem_cons_succ, List.setIfInBounds_toArray, List.set_cons_zero, List.set_cons_succ])
                    | fail "take 2"
                    first
                    | (refine wpAnyH_take (i := 3) (v := ?_) rfl (by kernel_rfl) (by kernel_rfl) (by kernel_rfl) (fun _ _ _ h => h) (Or.inl ⟨by rfl, ?_⟩) (by assumption) ?_
                       rotate_left
                       · (intro V hV; obtain ⟨_, x0, x1, x2, x3, x4, x5, x6, x7, x8, x9, x10, x11, x12, x13, x14⟩ := hV; go_simp; try with_reducible rfl)
                       try simp only [Act.put, List.getElem_toArray, List.getElem_cons_zero, List.getElem_cons_succ, List.setIfInBounds_toArray, List.set_cons_zero, List.set_cons_succ])
                    | (refine wpAnyH_take (i := 3) (v := undef) rfl (by kernel_rfl) (by kernel_rfl) (by kernel_rfl) (fun _ _ _ h => h) (Or.inr ⟨by rfl, rfl⟩) (by assumption) ?_
                       try simp only [Act.put, List.getElem_toArray, List.getElem_cons_zero, List.getElem_cons_succ, List.setIfInBounds_toArray, List.set_cons_zero, List.set_cons_succ])
                    | fail "take 3"
                    first
                    | (refine wpAnyH_take (i := 4) (v := ?_) rfl (by kernel_rfl) (by kernel_rfl) (by kernel_rfl) (fun _ _ _ h => h) (Or.inl ⟨by rfl, ?_⟩) (by assumption) ?_
                       rotate_left
                       · (intro V hV; obtain ⟨_, x0, x1, x2, x3, x4, x5, x6, x7, x8, x9, x10, x11, x12, x13, x14⟩ := hV; go_simp; try with_reducible rfl)
                       try simp only [Act.put, List.getElem_toArray, List.getElem_cons_zero, List.getElem_cons_succ, List.setIfInBounds_toArray, List.set_cons_zero, List.set_cons_succ])
                    | (refine wpAnyH_take (i := 4) (v := undef) rfl (by kernel_rfl) (by kernel_rfl) (by kernel_rfl) (fun _ _ _ h => h) (Or.inr ⟨by rfl, rfl⟩) (by assumption) ?_
                       try simp only [Act.put, List.getElem_toArray, List.getElem_cons_zero, List.getElem_cons_succ, List.setIfInBounds_toArray, List.set_cons_zero, List.set_cons_succ])
                    | fail "take 4"
                    refine wpAnyH_ready (rs := [5]) (by kernel_rfl) (by simp) ?_
                    refine AllReadyH.cons rfl (fun K hK => ?_) AllReadyH.nil
                    go_simp
                    refine (C3.out _ hS.1).mono ?_
                    rintro e Wv ⟨rfl, pa, pb, hb⟩
                    have SS : Below wr.heap.size wr Wv ∧ Wv.cell? ⟨b0, 7, none⟩ = some (.string u.sig.name) ∧ Wv.cell? ⟨b0, 8, none⟩ = some (.slice F2 nf2 cf2) ∧ Wv.cell? ⟨b0, 9, none⟩ = some (.slice P2 np2 cp2) ∧ Wv.cell? ⟨b0, 10, none⟩ = some (.string u.sig.res.name) ∧ Wv.cell? ⟨b0, 11, none⟩ = some (.slice A2 m2 a2) ∧ Wv.cell? ⟨b0, 12, none⟩ = some (.int .i64 u.sig.res.off) ∧ Wv.cell? ⟨b0, 13, none⟩ = some (.int .i64 u.sig.off) ∧ Wv.cell? ⟨b0, 14, none⟩ = some (.int .i64 u.body.kind) ∧ Wv.cell? ⟨b0, 15, none⟩ = some (.string u.body.name) ∧ Wv.cell? ⟨b0, 16, none⟩ = some (.string u.body.ty.name) ∧ Wv.cell? ⟨b0, 17, none⟩ = some (.slice A4 m4 a4) ∧ Wv.cell? ⟨b0, 18, none⟩ = some (.int .i64 u.body.ty.off) ∧ Wv.cell? ⟨b0, 19, none⟩ = some (.slice B4 l4 b4) ∧ Wv.cell? ⟨b0, 20, none⟩ = some (.slice C4 n4 c4) ∧ Wv.cell? ⟨b0, 21, none⟩ = some (.int .i64 u.body.off) := ⟨hS.1.trans (hb.mono hS.1.size), (hb.cell (cell_lt (And.left (And.right hS)))).trans (And.left (And.right hS)), (hb.cell (cell_lt (And.left (And.right (And.right hS))))).trans (And.left (And.right (And.right hS))), (hb.cell (cell_lt (And.left (And.right (And.right (And.right hS)))))).trans (And.left (And.right (And.right (And.right hS)))), (hb.cell (cell_lt (And.left (And.right (And.right (And.right (And.right hS))))))).trans (And.left (And.right (And.right (And.right (And.right hS))))), (hb.cell (cell_lt (And.left (And.right (And.right (And.right (And.right (And.right hS)))))))).trans (And.left (And.right (And.right (And.right (And.right (And.right hS)))))), (hb.cell (cell_lt (And.left (And.right (And.right (And.right (And.right (And.right (And.right hS))))))))).trans (And.left (And.right (And.right (And.right (And.right (And.right (And.right hS))))))), (hb.cell (cell_lt (And.left (And.right (And.right (And.right (And.right (And.right (And.right (And.right hS)))))))))).trans (And.left (And.right (And.right (And.right (And.right (And.right (And.right (And.right hS)))))))), (hb.cell (cell_lt (And.left (And.right (And.right (And.right (And.right (And.right (And.right (And.right (And.right hS))))))))))).trans (And.left (And.right (And.right (And.right (And.right (And.right (And.right (And.right (And.right hS))))))))), (hb.cell (cell_lt (And.left (And.right (And.right (And.right (And.right (And.right (And.right (And.right (And.right (And.right hS)))))))))))).trans (And.left (And.right (And.right (And.right (And.right (And.right (And.right (And.right (And.right (And.right hS)))))))))), (hb.cell (cell_lt (And.left (And.right (And.right (And.right (And.right (And.right (And.right (And.right (And.right (And.right (And.right hS))))))))))))).trans (And.left (And.right (And.right (And.right (And.right (And.right (And.right (And.right (And.right (And.right (And.right hS))))))))))), (hb.cell (cell_lt (And.left (And.right (And.right (And.right (And.right (And.right (And.right (And.right (And.right (And.right (And.right (And.right hS)))))))))))))).trans (And.left (And.right (And.right (And.right (And.right (And.right (And.right (And.right (And.right (And.right (And.right (And.right hS)))))))))))), (hb.cell (cell_lt (And.left (And.right (And.right (And.right (And.right (And.right (And.right (And.right (And.right (And.right (And.right (And.right (And.right hS))))))))))))))).trans (And.left (And.right (And.right (And.right (And.right (And.right (And.right (And.right (And.right (And.right (And.right (And.right (And.right hS))))))))))))), (hb.cell (cell_lt (And.left (And.right (And.right (And.right (And.right (And.right (And.right (And.right (And.right (And.right (And.right (And.right (And.right (And.right hS)))))))))))))))).trans (And.left (And.right (And.right (And.right (And.right (And.right (And.right (And.right (And.right (And.right (And.right (And.right (And.right (And.right hS)))))))))))))), (hb.cell (cell_lt (And.left (And.right (And.right (And.right (And.right (And.right (And.right (And.right (And.right (And.right (And.right (And.right (And.right (And.right (And.right hS))))))))))))))))).trans (And.left (And.right (And.right (And.right (And.right (And.right (And.right (And.right (And.right (And.right (And.right (And.right (And.right (And.right (And.right hS))))))))))))))), (hb.cell (cell_lt (And.right (And.right (And.right (And.right (And.right (And.right (And.right (And.right (And.right (And.right (And.right (And.right (And.right (And.right (And.right hS))))))))))))))))).trans (And.right (And.right (And.right (And.right (And.right (And.right (And.right (And.right (And.right (And.right (And.right (And.right (And.right (And.right (And.right hS)))))))))))))))⟩
                    clear hS hb
                    refine hK.out _ _ SS (fun hS => ?_)
                    clear hK K
                    try simp only [Act.put, List.getElem_toArray, List.getElem_cons_zero, List.getElem_cons_succ, List.setIfInBounds_toArray, List.set_cons_zero, List.set_cons_succ]
                    refine wpAnyH_ready (rs := [6]) (by kernel_rfl) (by simp) ?_
                    refine AllReadyH.cons rfl (fun K hK => ?_) AllReadyH.nil
                    go_simp
                    refine (CB4.out _ _ pa (by omega) hS.1).mono ?_
                    rintro e Wv ⟨rfl, ra, rb, hb⟩
                    have SS : Below wr.heap.size wr Wv ∧ Wv.cell? ⟨b0, 7, none⟩ = some (.string u.sig.name) ∧ Wv.cell? ⟨b0, 8, none⟩ = some (.slice F2 nf2 cf2) ∧ Wv.cell? ⟨b0, 9, none⟩ = some (.slice P2 np2 cp2) ∧ Wv.cell? ⟨b0, 10, none⟩ = some (.string u.sig.res.name) ∧ Wv.cell? ⟨b0, 11, none⟩ = some (.slice A2 m2 a2) ∧ Wv.cell? ⟨b0, 12, none⟩ = some (.int .i64 u.sig.res.off) ∧ Wv.cell? ⟨b0, 13, none⟩ = some (.int .i64 u.sig.off) ∧ Wv.cell? ⟨b0, 14, none⟩ = some (.int .i64 u.body.kind) ∧ Wv.cell? ⟨b0, 15, none⟩ = some (.string u.body.name) ∧ Wv.cell? ⟨b0, 16, none⟩ = some (.string u.body.ty.name) ∧ Wv.cell? ⟨b0, 17, none⟩ = some (.slice A4 m4 a4) ∧ Wv.cell? ⟨b0, 18, none⟩ = some (.int .i64 u.body.ty.off) ∧ Wv.cell? ⟨b0, 19, none⟩ = some (.slice B4 l4 b4) ∧ Wv.cell? ⟨b0, 20, none⟩ = some (.slice C4 n4 c4) ∧ Wv.cell? ⟨b0, 21, none⟩ = some (.int .i64 u.body.off) := ⟨hS.1.trans (hb.mono hS.1.size), (hb.cell (cell_lt (And.left (And.right hS)))).trans (And.left (And.right hS)), (hb.cell (cell_lt (And.left (And.right (And.right hS))))).trans (And.left (And.right (And.right hS))), (hb.cell (cell_lt (And.left (And.right (And.right (And.right hS)))))).trans (And.left (And.right (And.right (And.right hS)))), (hb.cell (cell_lt (And.left (And.right (And.right (And.right (And.right hS))))))).trans (And.left (And.right (And.right (And.right (And.right hS))))), (hb.cell (cell_lt (And.left (And.right (And.right (And.right (And.right (And.right hS)))))))).trans (And.left (And.right (And.right (And.right (And.right (And.right hS)))))), (hb.cell (cell_lt (And.left (And.right (And.right (And.right (And.right (And.right (And.right hS))))))))).trans (And.left (And.right (And.right (And.right (And.right (And.right (And.right hS))))))), (hb.cell (cell_lt (And.left (And.right (And.right (And.right (And.right (And.right (And.right (And.right hS)))))))))).trans (And.left (And.right (And.right (And.right (And.right (And.right (And.right (And.right hS)))))))), (hb.cell (cell_lt (And.left (And.right (And.right (And.right (And.right (And.right (And.right (And.right (And.right hS))))))))))).trans (And.left (And.right (And.right (And.right (And.right (And.right (And.right (And.right (And.right hS))))))))), (hb.cell (cell_lt (And.left (And.right (And.right (And.right (And.right (And.right (And.right (And.right (And.right (And.right hS)))))))))))).trans (And.left (And.right (And.right (And.right (And.right (And.right (And.right (And.right (And.right (And.right hS)))))))))), (hb.cell (cell_lt (And.left (And.right (And.right (And.right (And.right (And.right (And.right (And.right (And.right (And.right (And.right hS))))))))))))).trans (And.left (And.right (And.right (And.right (And.right (And.right (And.right (And.right (And.right (And.right (And.right hS))))))))))), (hb.cell (cell_lt (And.left (And.right (And.right (And.right (And.right (And.right (And.right (And.right (And.right (And.right (And.right (And.right hS)))))))))))))).trans (And.left (And.right (And.right (And.right (And.right (And.right (And.right (And.right (And.right (And.right (And.right (And.right hS)))))))))))), (hb.cell (cell_lt (And.left (And.right (And.right (And.right (And.right (And.right (And.right (And.right (And.right (And.right (And.right (And.right (And.right hS))))))))))))))).trans (And.left (And.right (And.right (And.right (And.right (And.right (And.right (And.right (And.right (And.right (And.right (And.right (And.right hS))))))))))))), (hb.cell (cell_lt (And.left (And.right (And.right (And.right (And.right (And.right (And.right (And.right (And.right (And.right (And.right (And.right (And.right (And.right hS)))))))))))))))).trans (And.left (And.right (And.right (And.right (And.right (And.right (And.right (And.right (And.right (And.right (And.right (And.right (And.right (And.right hS)))))))))))))), (hb.cell (cell_lt (And.left (And.right (And.right (And.right (And.right (And.right (And.right (And.right (And.right (And.right (And.right (And.right (And.right (And.right (And.right hS))))))))))))))))).trans (And.left (And.right (And.right (And.right (And.right (And.right (And.right (And.right (And.right (And.right (And.right (And.right (And.right (And.right (And.right hS))))))))))))))), (hb.cell (cell_lt (And.right (And.right (And.right (And.right (And.right (And.right (And.right (And.right (And.right (And.right (And.right (And.right (And.right (And.right (And.right hS))))))))))))))))).trans (And.right (And.right (And.right (And.right (And.right (And.right (And.right (And.right (And.right (And.right (And.right (And.right (And.right (And.right (And.right hS)))))))))))))))⟩
                    clear hS hb
                    refine hK.out _ _ SS (fun hS => ?_)
                    clear hK K
                    try simp only [Act.put, List.getElem_toArray, List.getElem_cons_zero, List.getElem_cons_succ, List.setIfInBounds_toArray, List.set_cons_zero, List.set_cons_succ]
                    first
                    | (refine wpAnyH_take (i := 7) (v := ?_) rfl (by kernel_rfl) (by kernel_rfl) (by kernel_rfl) (fun _ _ _ h => h) (Or.inl ⟨by rfl, ?_⟩) (by assumption) ?_
                       rotate_left
                       · (intro V hV; obtain ⟨_, x0, x1, x2, x3, x4, x5, x6, x7, x8, x9, x10, x11, x12, x13, x14⟩ := hV; go_simp; try with_reducible rfl)
                       try simp only [Act.put, List.getElem_toArray, List.getElem_cons_zero, List.getElem_cons_succ, List.setIfInBounds_toArray, List.set_cons_zero, List.set_cons_succ])
                    | (refine wpAnyH_take (i := 7) (v := undef) rfl (by kernel_rfl) (by kernel_rfl) (by kernel_rfl) (fun _ _ _ h => h) (Or.inr ⟨by rfl, rfl⟩) (by assumption) ?_
                       try simp only [Act.put, List.getElem_toArray, List.getElem_cons_zero, List.getElem_cons_succ, List.setIfInBounds_toArray, List.set_cons_zero, List.set_cons_succ])
                    | fail "take 7"
                    refine wpAnyH_done (by kernel_rfl) ?_ _
                    go_wp2_with fail
                    go_roundw
                    case rel => exact ⟨k + 1, _, by omega, by go_num, rfl, ra, by omega, by rw [HS.out, HFIN.out], HBW.out.trans ((HBL4.out.trans (SS.1.mono HBL4.out.size)).mono HBW.out.size)⟩
                    case measure => simp [intOf]; omega
                  · have y6 : 2000 < q6 := by omega
                    have HFIN := Lib.hid (show Dc.cnt u q = q6 by rw [HDC.out]; exact if_neg hq8)
                    clear hq8
                    go_wp2_with fail
                    go_roundw
                    case rel => exact ⟨k + 1, _, by omega, by go_num, rfl, hq60, by omega, by rw [HS.out, HFIN.out], HBW.out.trans (HBL4.out.mono HBW.out.size)⟩
                    case measure => simp [intOf]; omega
                · have HFIN := Lib.hid (show Dc.cnt u q = q6 by rw [HDC.out]; exact if_neg (by omega))
                  go_wp2_with fail
                  go_roundw
                  case rel => exact ⟨k + 1, _, by omega, by go_num, rfl, hq60, by omega, by rw [HS.out, HFIN.out], HBW.out.trans (HBL4.out.mono HBW.out.size)⟩
                  case measure => simp [intOf]; omega
set_option maxRecDepth 100000 in
set_option maxHeartbeats 8000000 in
theorem rfewPg_any (p : Pg) (us : List Value) (w : World) (h : p.dat.H w us) : Calls Tryd.prog 9 #[.agg us.toArray] w (EqvPost w p.few) := by
  have hb : Below w.heap.size w (w.alloc (.cells us.toArray 30)) := (Below.refl _ _).alloc (Nat.le_refl _) _
  have hx := Boxd.new w us.toArray 30
  have h0 : p.dat.H (w.alloc (.cells us.toArray 30)) us := Dat.H.later h hb
  have CC := Lib.hid (rcountPg_any p us _ h0)
  obtain ⟨Dp, nd, c, A3, m3, a3, B3, l3, b3, C3, n3, c3, rfl, _⟩ := pg_full h0
  obtain ⟨x0, x1, x2, x3, x4, x5, x6, x7, x8⟩ := Boxd.c9 hx
  have HB := Lib.hid hb
  clear h h0 hb hx
  go_enter Tryd.func9, Tryd.ntmps9
  go_wp2_with fail
  refine CC.out.mono ?_
  rintro e1 w1 ⟨rfl, g0, g1, hb1⟩
  have HB1 := Lib.hid (HB.out.trans (hb1.mono HB.out.size))
  have hd : p.few = decide (p.cnt ≤ 600) := rfl
  generalize p.cnt = q at *
  clear hb1
  go_wp2_with fail
  go_ret
  exact ⟨ret_bool hd.symm, HB1.out⟩
end Go.Proofs.YtjhlehdjdaphcaaDoor
