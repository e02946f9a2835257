/- The walk of expr.Depth. -/
import Derived.Test.YtaeljknfbanbfaaGreatDoorEkA
namespace Go.Proofs.YtaeljknfbanbfaaGreatDoor
open Go.RowKit

set_option maxRecDepth 100000 in
set_option maxHeartbeats 8000000 in
theorem xdepth_any : ∀ (e : Ex) (us : List Value) (w : World), e.depth ≤ 1000000 → e.dat.H w us → Calls Tryz.prog 71 #[.agg us.toArray] w (NatPost w e.depth) := by
  refine Ex.ind fun k s t ts xs o ih us w hd h => ?_
  obtain ⟨A, m, a, B, l, b, C, r, c, rfl, hs, ht, ha, hb, hc⟩ := ex_open h
  have h1 := OneX.new h 33
  simp only [Ex.kind, Ex.name, Ex.ty, Ex.targs, Ex.kids, Ex.off] at hs ht ha hb hc h1 ⊢
  have hl : (l : Int) ≤ 9223372036854775807 := by have := hb.le; omega
  have hr : (r : Int) ≤ 9223372036854775807 := by have := hc.le; omega
  have hxl := hc.len
  rw [Ex.dats_len] at hxl
  have htl := hb.len
  have IH := Lib.hid ih
  have H := Lib.hid h1
  have HA := Lib.hid (Here.later ha h1.bel)
  have HT := Lib.hid (Here.later hb h1.bel)
  have HK := Lib.hid (RowH.later hc h1.bel)
  obtain ⟨base, hbase⟩ : ∃ n, n = (if Ex.typed k then 1 + t.depth else 1) := ⟨_, rfl⟩
  have hd1 : base ≤ Ex.depth (.mk k s t ts xs o) := by rw [Ex.depth, ← hbase]; omega
  have HD := Lib.hid (show Ex.depth (.mk k s t ts xs o) = max base (max (Ty.depthL ts) (Ex.depthL xs)) by rw [Ex.depth, hbase])
  rw [HD.out] at hd
  have HDD := Lib.hid hd
  obtain ⟨x0, x1, x2, x3, x4, x5, x6, x7⟩ := H.out.one.c8
  have hk : (((k == 3) = true ∧ base = 1 + t.depth) ∨ ((k == 3) = false ∧ (k == 5) = true ∧ base = 1 + t.depth)) ∨ ((k == 3) = false ∧ (k == 5) = false ∧ base = 1) := by
    by_cases h3 : k = 3
    · exact .inl (.inl ⟨by simp [h3], by rw [hbase, h3]; rfl⟩)
    · have e3 : (k == 3) = false := by simp [h3]
      by_cases h5 : k = 5
      · exact .inl (.inr ⟨e3, by simp [h5], by rw [hbase, h5]; rfl⟩)
      · have e5 : (k == 5) = false := by simp [h5]
        exact .inr ⟨e3, e5, by rw [hbase, Ex.typed, e3, e5]; rfl⟩
  have HKK := Lib.hid hk
  clear ih h h1 ha hb hc hbase hd hk
  go_enter Tryz.func71, Tryz.ntmps71
  go_wp2_with fail
  generalize hW : w.alloc (.cells #[.int .i64 k, .string s, .string t.name, .slice A m a, .int .i64 t.off, .slice B l b, .slice C r c, .int .i64 o] 33) = w1 at *
  clear hW x0 x1 x2 x3 x4 x5 x6 x7
  go_loopw [3, 11] (fun v i wr => ∃ (j q : Nat), j ≤ r ∧ i = .int .i64 j ∧ v = .int .i64 q ∧ q + 1 = max 1 (Ex.depthL (xs.take j)) ∧ Below w1.heap.size w1 wr) (fun _ i _ => r - (intOf i).toNat)
  case atStart => exact ⟨0, 0, by omega, rfl, rfl, by simp only [List.take_zero, Ex.depthL]; omega, Below.refl _ _⟩
  case round =>
    obtain ⟨j, q, hj, rfl, rfl, hq, hbel⟩ := hrel
    have HBL := Lib.hid hbel
    have hpk := Ex.depthL_take xs j
    have hq1 : (q : Int) ≤ 1000000 := by have := HDD.out; omega
    have z0 : (0 : Int) ≤ j := by omega
    by_cases hlt : j < r
    · have z1 : (j : Int) < r := by omega
      obtain ⟨p, u, ps, rfl, hx, _, _, hu, hcs⟩ := kid_at (RowH.later HK.out hbel) hlt
      have hdx : u.depth + 1 ≤ Ex.depthL xs := by
        have h1 := Ex.depthL_take xs (j + 1)
        rw [Ex.take_at hx, Ex.depthL_snoc] at h1
        omega
      have hdd := HDD.out
      have hka : Below wr.heap.size wr (wr.alloc (.cells ps.toArray 33)) := (Below.refl _ _).alloc (Nat.le_refl _) _
      have CC := Lib.hid (IH.out _ (List.mem_of_getElem? hx) ps (wr.alloc (.cells ps.toArray 33)) (by omega) (Dat.H.later hu hka))
      have hst : Ex.depthL (xs.take (j + 1)) = max (Ex.depthL (xs.take j)) (u.depth + 1) := by rw [Ex.take_at hx, Ex.depthL_snoc]
      have hX := Boxd.new wr ps.toArray 33
      obtain ⟨_, _, _, _, _, _, _, _, _, rfl, _⟩ := ex_open hu
      obtain ⟨c0, c1, c2, c3, c4, c5, c6, c7⟩ := cells8_at hcs
      obtain ⟨x0, x1, x2, x3, x4, x5, x6, x7⟩ := hX.c8
      generalize u.depth = g at *
      have hdx1 : (g : Int) ≤ 1000000 := by omega
      have HST := Lib.hid hst
      have HQ := Lib.hid hq
      have HK2 := Lib.hid (HBL.out.trans (hka.mono HBL.out.size))
      clear hx hu hcs hbel hst hq hdx hdd hpk hka hX
      obtain ⟨mx, hmx⟩ : ∃ mx : Nat, mx = max q g := ⟨_, rfl⟩
      have z5 : max (q : Int) (g : Int) = (mx : Int) := by omega
      have HMX := Lib.hid hmx
      clear hmx
      go_wp2_with fail
      refine CC.out.mono ?_
      rintro e w2 ⟨rfl, hb2⟩
      have HB2 := Lib.hid (HK2.out.trans (hb2.mono HK2.out.size))
      clear hb2 x0 x1 x2 x3 x4 x5 x6 x7 c0 c1 c2 c3 c4 c5 c6 c7
      go_wp2_with fail
      go_roundw
      case rel => exact ⟨j + 1, mx, by omega, by go_num, by go_num, by rw [HST.out]; have := HQ.out; have := HMX.out; omega, HB2.out⟩
      case measure => simp [intOf]; omega
    · have z1 : (r : Int) ≤ j := by omega
      rw [List.take_of_length_le (by omega)] at hq
      have HQ := Lib.hid hq
      have H1 := Lib.hid (H.out.later hbel)
      have HT1 := Lib.hid (Here.later HT.out hbel)
      have HA1 := Lib.hid (Here.later HA.out hbel)
      obtain ⟨x0, x1, x2, x3, x4, x5, x6, x7⟩ := H1.out.one.c8
      clear hq hbel hpk HBL H HT HA HK
      go_wp2_with fail
      generalize hV : wr = V at *
      clear hV x0 x1 x2 x3 x4 x5 x6 x7
      go_loopw [3, 23] (fun v i wr => ∃ (j q2 : Nat), j ≤ l ∧ i = .int .i64 j ∧ v = .int .i64 q2 ∧ q2 = max q (Ty.depthL (ts.take j) - 1) ∧ Below V.heap.size V wr) (fun _ i _ => l - (intOf i).toNat)
      case atStart => exact ⟨0, q, by omega, rfl, rfl, by simp only [List.take_zero, Ty.depthL]; omega, Below.refl _ _⟩
      case round =>
        obtain ⟨i, q2, hi, rfl, rfl, hq2, hbel⟩ := hrel
        have HBL := Lib.hid hbel
        have hpk := depthL_take ts i
        have hqq := HQ.out
        have hdd := HDD.out
        have hq3 : (q2 : Int) ≤ 1000000 := by omega
        have z2 : (0 : Int) ≤ i := by omega
        by_cases hlt2 : i < l
        · have z3 : (i : Int) < l := by omega
          obtain ⟨p, u, ys, po, A2, m2, d2, rfl, hx, _, c0, c1, c2, hu, hl2⟩ := (HT1.out.later hbel).get hlt2
          have hst : Ty.depthL (ts.take (i + 1)) = max (Ty.depthL (ts.take i)) ((Ty.mk u ys po).depth + 1) := by
            rw [List.take_add_one, hx, show (some (Ty.mk u ys po)).toList = [Ty.mk u ys po] from rfl, depthL_snoc]
          have hdx : (Ty.mk u ys po).depth + 1 ≤ Ty.depthL ts := by
            have h1 := depthL_take ts (i + 1)
            rw [hst] at h1
            omega
          have hka : Below wr.heap.size wr (wr.alloc (.cells #[.string u, .slice A2 m2 d2, .int .i64 po] 28)) := (Below.refl _ _).alloc (Nat.le_refl _) _
          have CC := Lib.hid (depth_any (.mk u ys po) A2 m2 d2 (wr.alloc (.cells #[.string u, .slice A2 m2 d2, .int .i64 po] 28)) (by omega) (Here.later hl2 hka))
          obtain ⟨x0, x1, x2⟩ := Box.new wr u A2 m2 d2 po 28
          simp only [Ty.name, Ty.off] at CC
          generalize (Ty.mk u ys po).depth = g at *
          have hdx1 : (g : Int) ≤ 1000000 := by omega
          have HST := Lib.hid hst
          have HQ2 := Lib.hid hq2
          have HK2 := Lib.hid (HBL.out.trans (hka.mono HBL.out.size))
          clear hx hl2 hbel hst hq2 hdx hdd hpk hka hqq
          obtain ⟨mx, hmx⟩ : ∃ mx : Nat, mx = max q2 g := ⟨_, rfl⟩
          have z5 : max (q2 : Int) (g : Int) = (mx : Int) := by omega
          have HMX := Lib.hid hmx
          clear hmx
          go_wp2_with fail
          refine CC.out.mono ?_
          rintro e w3 ⟨rfl, hb3⟩
          have HB3 := Lib.hid (HK2.out.trans (hb3.mono HK2.out.size))
          clear hb3 x0 x1 x2 c0 c1 c2
          go_wp2_with fail
          go_roundw
          case rel => exact ⟨i + 1, mx, by omega, by go_num, by go_num, by rw [HST.out]; have := HQ2.out; have := HMX.out; omega, HB3.out⟩
          case measure => simp [intOf]; omega
        · have z3 : (l : Int) ≤ i := by omega
          rw [List.take_of_length_le (by omega)] at hq2
          have H4 := Lib.hid (H1.out.later hbel)
          have HA2 := Lib.hid (Here.later HA1.out hbel)
          have HQ2 := Lib.hid hq2
          have CT := Lib.hid (fun (h : t.depth ≤ 1000000) => depth_any t A m a wr h HA2.out)
          obtain ⟨x0, x1, x2, x3, x4, x5, x6, x7⟩ := H4.out.one.c8
          clear hq2 hbel hpk hqq hdd HBL
          rcases HKK.out with hk | ⟨e3, e5, hbase⟩
          · have hbase : base = 1 + t.depth := by rcases hk with ⟨_, h⟩ | ⟨_, _, h⟩ <;> exact h
            obtain ⟨mx, hmx⟩ : ∃ mx : Nat, mx = max q2 t.depth := ⟨_, rfl⟩
            have z5 : max (q2 : Int) (t.depth : Int) = (mx : Int) := by omega
            have hle : t.depth ≤ 1000000 := by have := HDD.out; omega
            have hm1 : (mx : Int) ≤ 1000000 := by omega
            have HF := Lib.hid (show mx + 1 = Ex.depth _ from (by have h1 := HQ.out; have h2 := HQ2.out; rw [HD.out, hbase, hmx, h2]; omega))
            clear hmx hbase
            rcases hk with ⟨e3, _⟩ | ⟨e3, e5, _⟩
            all_goals
              go_wp2_with fail
              refine (CT.out hle).mono ?_
              rintro e w3 ⟨rfl, hb3⟩
              have HB3 := Lib.hid (H4.out.bel.trans (hb3.mono H4.out.bel.size))
              clear hb3 x0 x1 x2 x3 x4 x5 x6 x7
              go_wp2_with fail
              go_ret
              exact ⟨ret_int (by rw [← HF.out]; omega), HB3.out⟩
          · have HF := Lib.hid (show q2 + 1 = Ex.depth _ from (by have h1 := HQ.out; have h2 := HQ2.out; rw [HD.out, hbase, h2]; omega))
            clear hbase
            go_wp2_with fail
            go_ret
            exact ⟨ret_int (by rw [← HF.out]; omega), H4.out.bel⟩
end Go.Proofs.YtaeljknfbanbfaaGreatDoor
