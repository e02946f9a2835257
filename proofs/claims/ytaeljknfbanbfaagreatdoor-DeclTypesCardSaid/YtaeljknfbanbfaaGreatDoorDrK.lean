/- The walk of the reference's Depth. The condition: few parts.
The walk of the reference's Plain. The condition: few parts. -/
import Derived.Test.YtaeljknfbanbfaaGreatDoorDrI
import Derived.Test.YtaeljknfbanbfaaGreatDoorDcVd
import Derived.Test.YtaeljknfbanbfaaGreatDoorExG
namespace Go.Proofs.YtaeljknfbanbfaaGreatDoor
open Go.RowKit

/-- The depth as the reference reckons it. -/
def Pg.depthR (p : Pg) : Nat := (p.ds.map fun d => if d.kind = 3 then d.body.depth else 0).foldl max ((p.types.map Ty.depth).foldl max p.main.depth)

set_option maxRecDepth 100000 in
set_option maxHeartbeats 8000000 in
theorem rdepth_any (p : Pg) (us : List Value) (w : World) (hw : p.wt ≤ 1000) (ht : ∀ t ∈ p.types, t.wt ≤ 1000) (h : p.dat.H w us) : Calls Tryz.prog 22 #[.agg us.toArray] w (NatPost w p.depthR) := by
  have hb : Below w.heap.size w (w.alloc (.cells us.toArray 40)) := (Below.refl _ _).alloc (Nat.le_refl _) _
  have hx := Boxd.new w us.toArray 40
  have hq : p.types.length ≤ 1000 := Nat.le_trans (Pg.types_len p) hw
  have h0 : p.dat.H (w.alloc (.cells us.toArray 40)) us := Dat.H.later h hb
  have HD0 := Lib.hid h0
  obtain ⟨W0, hW0⟩ : ∃ W0, w.alloc (.cells us.toArray 40) = W0 := ⟨_, rfl⟩
  rw [hW0] at hb hx HD0 h0
  have HW0 := Lib.hid hW0
  obtain ⟨Du, nu, cu, A3u, m3u, a3u, B3u, l3u, b3u, C3u, n3u, c3u, rfl, hd, hm⟩ := pg_full h0
  obtain ⟨x0, x1, x2, x3, x4, x5, x6, x7, x8⟩ := Boxd.c9 hx
  have HX := Lib.hid hx
  have HB := Lib.hid hb
  have HQ := Lib.hid hq
  have HT := Lib.hid ht
  have HRD := Lib.hid hd
  have hxl := hd.len
  rw [List.length_map] at hxl
  have HXL := Lib.hid hxl
  have hni : (nu : Int) ≤ 9223372036854775807 := by have := hd.le; omega
  have HWD := Lib.hid (fun (d : Dc) (hd : d ∈ p.ds) => Nat.le_trans (Pg.wt_d (p := p) hd) hw)
  have hmd : p.main.depth ≤ 2000 := by have := Ex.depth_wt p.main; have := Pg.wt_main (p := p); omega
  have HMD := Lib.hid hmd
  have C1 := Lib.hid (xref_depth_any p.main _ W0 (by omega) hm)
  have C3 := Lib.hid (fun (V : World) (hV : Below W0.heap.size W0 V) => rtypes_any p _ V.heap.size V (Nat.le_refl _) hw (Dat.H.later HD0.out hV))
  have HR := Lib.hid (show p.depthR = (p.ds.map fun d => if d.kind = 3 then d.body.depth else 0).foldl max ((p.types.map Ty.depth).foldl max p.main.depth) from rfl)
  have hm9 : (p.main.depth : Int) ≤ 2000 := by omega
  clear hb hx h h0 hq hw ht hd hm hxl hW0 hmd
  go_enter Tryz.func22, Tryz.ntmps22
  go_upto_region 1 with fail
  rw [HW0.out]
  clear HW0
  generalize p.main.depth = md at *
  go_wp2_with fail
  refine C1.out.mono ?_
  rintro e w1 ⟨rfl, hb1⟩
  have HZ := Lib.hid hb1
  have HX1 := Lib.hid (HX.out.later hb1)
  clear hb1 C1 x0 x1 x2 x3 x4 x5 x6 x7 x8
  obtain ⟨x0, x1, x2, x3, x4, x5, x6, x7, x8⟩ := HX1.out.c9
  go_wp2_with fail
  refine (C3.out _ HZ.out).mono ?_
  rintro e w3 ⟨v3, rfl, hr⟩
  have HZ3 := Lib.hid (HZ.out.trans (hr.bel.mono HZ.out.size))
  obtain ⟨A, c, us1, rfl, _⟩ := hr.flat (Nat.le_refl _)
  obtain ⟨_, hrow⟩ := hr.row (by have := HQ.out; omega)
  have HRW := Lib.hid hrow
  have hn9 : (p.types.length : Int) ≤ 1000 := by have := HQ.out; omega
  clear hr hrow C3 HX1 HZ x0 x1 x2 x3 x4 x5 x6 x7 x8
  obtain ⟨nt, hnt⟩ : ∃ n, p.types.length = n := ⟨_, rfl⟩
  have HNT := Lib.hid hnt
  rw [hnt] at hn9 HRW ⊢
  clear hnt
  go_wp2_with fail
  go_loopw [3, 5] (fun v i wr => ∃ (k2 q2 : Nat), k2 ≤ nt ∧ i = .int .i64 k2 ∧ v = .int .i64 q2 ∧ q2 = ((p.types.take k2).map Ty.depth).foldl max md ∧ q2 ≤ 2000 ∧ Below w3.heap.size w3 wr) (fun _ i _ => nt - (intOf i).toNat)
  case atStart => exact ⟨0, md, by omega, rfl, rfl, by rw [List.take_zero]; rfl, HMD.out, Below.refl _ _⟩
  case round =>
    obtain ⟨k2, q2, hk2, rfl, rfl, hqq, hqq9, hbel2⟩ := hrel
    have HBL2 := Lib.hid hbel2
    have HQQ2 := Lib.hid hqq
    have hqi2 : (q2 : Int) ≤ 2000 := by omega
    have y0 : (0 : Int) ≤ k2 := by omega
    by_cases hlt2 : k2 < nt
    · have y1 : (k2 : Int) < nt := by omega
      obtain ⟨pu, u, ps, rfl, hx, _, _, hu, hcs⟩ := dat_at (RowH.later HRW.out hbel2) hlt2
      obtain ⟨Au, mu, au, rfl, _, hau⟩ := ty_open hu
      obtain ⟨f0, f1, f2⟩ := cells3_at.1 hcs
      have hud : u.depth ≤ 2000 := by have := Ty.depth_wt u; have := HT.out u (List.mem_of_getElem? hx); omega
      have C := Lib.hid (ref_depth_any u Au mu au wr (by omega) hau)
      have HS := Lib.hid (fold_step Ty.depth md hx)
      clear hx hu hcs hbel2 hqq hau
      generalize u.depth = g at *
      have hgi : (g : Int) ≤ 2000 := by omega
      obtain ⟨mx, hmx⟩ : ∃ mx : Nat, mx = max q2 g := ⟨_, rfl⟩
      have z5 : max (q2 : Int) (g : Int) = (mx : Int) := by omega
      have HMX := Lib.hid hmx
      have HM9 := Lib.hid (show mx ≤ 2000 by omega)
      clear hmx
      go_wp2_with fail
      refine C.out.mono ?_
      rintro e w4 ⟨rfl, hb4⟩
      have HB3 := Lib.hid (HBL2.out.trans (hb4.mono HBL2.out.size))
      clear hb4 C
      go_wp2_with fail
      go_roundw
      case rel => exact ⟨k2 + 1, mx, by omega, by go_num, by go_num, by rw [HMX.out, HQQ2.out]; exact HS.out.symm, HM9.out, HB3.out⟩
      case measure => simp [intOf]; omega
    · have y1 : (nt : Int) ≤ k2 := by omega
      rw [List.take_of_length_le (by rw [HNT.out]; omega)] at hqq
      have HQ6 := Lib.hid hqq
      have HZ4 := Lib.hid (HZ3.out.trans (hbel2.mono HZ3.out.size))
      have HX4 := Lib.hid (HX.out.later HZ4.out)
      clear hqq hbel2 HQQ2 HRW
      go_wp2_with fail
      generalize hV : wr = X at *
      clear hV
      go_loopw [3, 6] (fun v i wr => ∃ (k q : Nat), k ≤ nu ∧ i = .int .i64 k ∧ v = .int .i64 q ∧ q = ((p.ds.take k).map fun d => if d.kind = 3 then d.body.depth else 0).foldl max q2 ∧ q ≤ 2000 ∧ Below X.heap.size X wr) (fun _ i _ => nu - (intOf i).toNat)
      case atStart => exact ⟨0, q2, by omega, rfl, rfl, by rw [List.take_zero]; rfl, hqq9, Below.refl _ _⟩
      case round =>
        obtain ⟨k, q, hk, rfl, rfl, hq, hq9, hbel⟩ := hrel
        have HBL := Lib.hid hbel
        have HQQ := Lib.hid hq
        have hqi : (q : Int) ≤ 2000 := by omega
        have z0 : (0 : Int) ≤ k := by omega
        have hbz := HZ4.out.trans (hbel.mono HZ4.out.size)
        have x0 := (HX4.out.later hbel) 0 _ rfl
        by_cases hlt1 : k < nu
        · have z1 : (k : Int) < nu := by omega
          obtain ⟨pu, u, ps, rfl, hx, _, _, hu, hcs⟩ := dat_at (RowH.later HRD.out hbz) hlt1
          have HS := Lib.hid (fold_step (fun d : Dc => if d.kind = 3 then d.body.depth else 0) q2 hx)
          have hud : u.body.depth ≤ 2000 := by have := Ex.depth_wt u.body; have := Dc.wt_b (d := u); have := HWD.out u (List.mem_of_getElem? hx); omega
          obtain ⟨F, nf, cf, P, np, cp, G, ng, cg, V, nv, cv, F2, nf2, cf2, P2, np2, cp2, A2, m2, a2, A4, m4, a4, B4, l4, b4, C4, n4, c4, hps, _, hf, hp, hg, _, _, hs, hbd⟩ := dc_full hu
          subst hps
          have f0 : wr.cell? (pu.add (k * 23)) = some (.int .i64 u.kind) := hcs 0 _ rfl
          have f14 : wr.cell? ⟨(pu.add (k * 23)).block, (pu.add (k * 23)).off + 14, none⟩ = some (.int .i64 u.body.kind) := hcs 14 _ rfl
          have f15 : wr.cell? ⟨(pu.add (k * 23)).block, (pu.add (k * 23)).off + 15, none⟩ = some (.string u.body.name) := hcs 15 _ rfl
          have f16 : wr.cell? ⟨(pu.add (k * 23)).block, (pu.add (k * 23)).off + 16, none⟩ = some (.string u.body.ty.name) := hcs 16 _ rfl
          have f17 : wr.cell? ⟨(pu.add (k * 23)).block, (pu.add (k * 23)).off + 17, none⟩ = some (.slice A4 m4 a4) := hcs 17 _ rfl
          have f18 : wr.cell? ⟨(pu.add (k * 23)).block, (pu.add (k * 23)).off + 18, none⟩ = some (.int .i64 u.body.ty.off) := hcs 18 _ rfl
          have f19 : wr.cell? ⟨(pu.add (k * 23)).block, (pu.add (k * 23)).off + 19, none⟩ = some (.slice B4 l4 b4) := hcs 19 _ rfl
          have f20 : wr.cell? ⟨(pu.add (k * 23)).block, (pu.add (k * 23)).off + 20, none⟩ = some (.slice C4 n4 c4) := hcs 20 _ rfl
          have f21 : wr.cell? ⟨(pu.add (k * 23)).block, (pu.add (k * 23)).off + 21, none⟩ = some (.int .i64 u.body.off) := hcs 21 _ rfl
          have C := Lib.hid (xref_depth_any u.body _ wr (by omega) hbd)
          by_cases hk3 : u.kind = 3
          · have e3 : (u.kind == 3) = true := by simp [hk3]
            simp only [hk3, if_true] at HS
            clear hx hu hcs hbel hq hbz hs hbd hf hp hg
            generalize u.body.depth = g at *
            have hgi : (g : Int) ≤ 2000 := by omega
            obtain ⟨mx, hmx⟩ : ∃ mx : Nat, mx = max q g := ⟨_, rfl⟩
            have z5 : max (q : Int) (g : Int) = (mx : Int) := by omega
            have HMX := Lib.hid hmx
            have HM9 := Lib.hid (show mx ≤ 2000 by omega)
            clear hmx
            go_wp2_with fail
            refine C.out.mono ?_
            rintro e w5 ⟨rfl, hb5⟩
            have HB3 := Lib.hid (HBL.out.trans (hb5.mono HBL.out.size))
            clear hb5 C
            go_wp2_with fail
            go_roundw
            case rel => exact ⟨k + 1, mx, by omega, by go_num, by go_num, by rw [HMX.out, HQQ.out]; exact HS.out.symm, HM9.out, HB3.out⟩
            case measure => simp [intOf]; omega
          · have e3 : (u.kind == 3) = false := by simp [hk3]
            simp only [hk3, if_false, Nat.max_zero] at HS
            clear hx hu hcs hbel hq hbz hs hbd hf hp hg C f14 f15 f16 f17 f18 f19 f20 f21
            go_wp2_with fail
            go_roundw
            case rel => exact ⟨k + 1, q, by omega, by go_num, by go_num, by rw [HS.out]; exact HQQ.out, hq9, HBL.out⟩
            case measure => simp [intOf]; omega
        · have z1 : (nu : Int) ≤ k := by omega
          rw [List.take_of_length_le (by rw [HXL.out]; omega)] at hq
          have HPD := Lib.hid (show p.depthR = q by rw [HR.out, ← HQ6.out]; exact hq.symm)
          have HZ5 := Lib.hid hbz
          clear hq hbz hbel HQQ
          go_wp2_with fail
          go_ret
          exact ⟨by rw [HPD.out]; rfl, HB.out.trans (HZ5.out.mono HB.out.size)⟩
end Go.Proofs.YtaeljknfbanbfaaGreatDoor
namespace Go.Proofs.YtaeljknfbanbfaaGreatDoor
open Go.RowKit

set_option maxRecDepth 100000 in
set_option maxHeartbeats 1500000 in
theorem rplain_any (p : Pg) (us : List Value) (w : World) (hw : p.wt ≤ 1000) (h : p.dat.H w us) : Calls Tryz.prog 24 #[.agg us.toArray] w (EqvPost w p.bareP) := by
  have hb : Below w.heap.size w (w.alloc (.cells us.toArray 40)) := (Below.refl _ _).alloc (Nat.le_refl _) _
  have hx := Boxd.new w us.toArray 40
  have hq : p.types.length ≤ 1000 := Nat.le_trans (Pg.types_len p) hw
  have h0 : p.dat.H (w.alloc (.cells us.toArray 40)) us := Dat.H.later h hb
  have C3 := Lib.hid (rtypes_any p us _ _ (Nat.le_refl _) hw h0)
  obtain ⟨W0, hW0⟩ : ∃ W0, w.alloc (.cells us.toArray 40) = W0 := ⟨_, rfl⟩
  rw [hW0] at hb hx h0 C3
  have HW0 := Lib.hid hW0
  obtain ⟨Du, nu, cu, A3u, m3u, a3u, B3u, l3u, b3u, C3u, n3u, c3u, rfl, hd, hm⟩ := pg_full h0
  obtain ⟨x0, x1, x2, x3, x4, x5, x6, x7, x8⟩ := Boxd.c9 hx
  have HX := Lib.hid hx
  have HB := Lib.hid hb
  have HQ := Lib.hid hq
  have HRD := Lib.hid hd
  have HRM := Lib.hid hm
  have hxl := hd.len
  rw [List.length_map] at hxl
  have HXL := Lib.hid hxl
  have hni : (nu : Int) ≤ 9223372036854775807 := by have := hd.le; omega
  have HWD := Lib.hid (fun (d : Dc) (hd : d ∈ p.ds) => Nat.le_trans (Pg.wt_d (p := p) hd) hw)
  have HWM := Lib.hid (Nat.le_trans (Pg.wt_main (p := p)) hw)
  obtain ⟨q0, hq0⟩ : ∃ q : Bool, p.types.all Ty.bare = q := ⟨_, rfl⟩
  obtain ⟨q1, hq1⟩ : ∃ q : Bool, p.ds.all Dc.bare = q := ⟨_, rfl⟩
  obtain ⟨q2, hq2⟩ : ∃ q : Bool, p.main.bare = q := ⟨_, rfl⟩
  have HD := Lib.hid (show p.bareP = (q0 && (q1 && q2)) by rw [Pg.bareP, hq0, hq1, hq2]; cases q0 <;> cases q1 <;> cases q2 <;> rfl)
  have HQ0 := Lib.hid hq0
  have HQ1 := Lib.hid hq1
  have HQ2 := Lib.hid hq2
  clear hb hx h h0 hq hw hd hm hxl hW0 hq0 hq1 hq2
  go_enter Tryz.func24, Tryz.ntmps24
  go_upto_region 1 with fail
  rw [HW0.out]
  clear HW0
  go_wp2_with fail
  refine C3.out.mono ?_
  rintro e w3 ⟨v3, rfl, hr⟩
  have HZ3 := Lib.hid hr.bel
  obtain ⟨A, c, us1, rfl, _⟩ := hr.flat (Nat.le_refl _)
  obtain ⟨_, hrow⟩ := hr.row (by have := HQ.out; omega)
  have HRW := Lib.hid hrow
  have hn9 : (p.types.length : Int) ≤ 1000 := by have := HQ.out; omega
  clear hr hrow C3 x0 x1 x2 x3 x4 x5 x6 x7 x8
  obtain ⟨nt, hnt⟩ : ∃ n, p.types.length = n := ⟨_, rfl⟩
  have HNT := Lib.hid hnt
  rw [hnt] at hn9 HRW ⊢
  clear hnt
  go_wp2_with fail
  go_loopw [4] (fun i wr => ∃ k : Nat, k ≤ nt ∧ i = .int .i64 k ∧ p.types.all Ty.bare = (p.types.drop k).all Ty.bare ∧ wr = w3) (fun i _ => nt - (intOf i).toNat)
  case atStart => exact ⟨0, by omega, rfl, rfl, rfl⟩
  case round =>
    obtain ⟨k, hk, rfl, hq, rfl⟩ := hrel
    have HQQ := Lib.hid hq
    clear hq
    have y0 : (0 : Int) ≤ k := by omega
    by_cases hlt : k < nt
    · have y1 : (k : Int) < nt := by omega
      obtain ⟨pu, u, ps, rfl, hxk, _, _, hu, hcs⟩ := dat_at HRW.out hlt
      have HS := Lib.hid (HQQ.out.trans (allBy_on hxk))
      obtain ⟨Au, mu, au, rfl, _, hau⟩ := ty_open hu
      obtain ⟨f0, f1, f2⟩ := cells3_at.1 hcs
      have hal := hau.len
      obtain ⟨q, hq⟩ : ∃ q : Bool, Ty.bare u = q := ⟨_, rfl⟩
      have hq3 := hq
      rw [Ty.bare, hal] at hq3
      rw [hq] at HS
      clear hu hcs hau hxk hq
      cases q
      · have y3 : (0 : Int) < mu := by simp at hq3; omega
        have HC := Lib.hid (HD.out.trans (by rw [← HQ0.out, HS.out]; rfl : _ = false))
        go_wp2_with fail
        go_ret
        exact ⟨ret_bool (by rw [HC.out]), HB.out.trans (HZ3.out.mono HB.out.size)⟩
      · have y3 : (mu : Int) ≤ 0 := by simp at hq3; omega
        go_wp2_with fail
        go_roundw
        case rel => exact ⟨k + 1, by omega, by go_num, HS.out, trivial⟩
        case measure => simp [intOf]; omega
    · have y1 : (nt : Int) ≤ k := by omega
      have hq := HQQ.out
      rw [List.drop_eq_nil_of_le (by rw [HNT.out]; omega), List.all_nil, HQ0.out] at hq
      subst hq
      clear HQQ HRW
      go_wp2_with fail
      generalize hV : wr = X at *
      clear hV
      go_loopw [5] (fun i wr => ∃ k : Nat, k ≤ nu ∧ i = .int .i64 k ∧ p.ds.all Dc.bare = (p.ds.drop k).all Dc.bare ∧ Below X.heap.size X wr) (fun i _ => nu - (intOf i).toNat)
      case atStart => exact ⟨0, by omega, rfl, rfl, Below.refl _ _⟩
      case round =>
        obtain ⟨k, hk, rfl, hq, hbel⟩ := hrel
        have HBL := Lib.hid hbel
        have HQQ := Lib.hid hq
        clear hq
        have z0 : (0 : Int) ≤ k := by omega
        have hbz := HZ3.out.trans (hbel.mono HZ3.out.size)
        by_cases hlt1 : k < nu
        · have x0 := (HX.out.later hbz) 0 _ rfl
          have z1 : (k : Int) < nu := by omega
          obtain ⟨pu, u, ps, rfl, hxk, _, _, hu, hcs⟩ := dat_at (RowH.later HRD.out hbz) hlt1
          have HS := Lib.hid (HQQ.out.trans (allBy_on hxk))
          have HWU := Lib.hid (HWD.out u (List.mem_of_getElem? hxk))
          have HLU := Lib.hid (dc_len hu)
          have HOU := Lib.hid (dc_cells hu)
          have HFC := Lib.hid hcs
          obtain ⟨W1, hP1⟩ := put23 wr HLU.out
          have HP1 := Lib.hid hP1
          have HBX := Lib.hid hP1.box
          obtain ⟨F, nf, cf, P, np, cp, G, ng, cg, V, nv, cv, F2, nf2, cf2, P2, np2, cp2, A2, m2, a2, A4, m4, a4, B4, l4, b4, C4, n4, c4, hps, _, hf, hp, hg, _, hv, hs, hbd⟩ := dc_full hu
          have HPS := Lib.hid hps
          obtain ⟨_, _, _, _, _, _, _, _, _, e2, _, hf2, _⟩ := sg_open hs
          simp only [List.cons.injEq, Value.slice.injEq, and_true] at e2
          obtain ⟨_, ⟨rfl, rfl, rfl⟩, _⟩ := e2
          have hfl := hf.len
          have hgl := hg.len
          have hvl := hv.len
          have hfl2 := hf2.len
          rw [List.length_map] at hfl hgl hvl hfl2
          have i1 : (nf : Int) ≤ 1000 := by have := u.len_f; have := HWU.out; omega
          have i2 : (nv : Int) ≤ 1000 := by have := u.len_v; have := HWU.out; omega
          have i3 : (ng : Int) ≤ 1000 := by have := u.len_g; have := HWU.out; omega
          have i4 : (nf2 : Int) ≤ 1000 := by have := u.sig.len_f; have := Dc.wt_s (d := u); have := HWU.out; omega
          have HG := Lib.hid (RowH.later hg hP1.bel)
          have C := Lib.hid (rbare_any u.body _ W1 (Nat.le_trans Dc.wt_b HWU.out) (Dat.H.later hbd hP1.bel))
          have HB1 := Lib.hid (HBL.out.trans (hP1.bel.mono HBL.out.size))
          obtain ⟨r0, hr0⟩ : ∃ q : Bool, (u.fs.length == 0 && u.vs.length == 0 && u.sig.fs.length == 0) = q := ⟨_, rfl⟩
          obtain ⟨r1, hr1⟩ : ∃ q : Bool, u.body.bare = q := ⟨_, rfl⟩
          obtain ⟨r2, hr2⟩ : ∃ q : Bool, u.gs.all Sg.bare = q := ⟨_, rfl⟩
          have HDU := Lib.hid (show Dc.bare u = (r0 && (r1 && r2)) by
            rw [Dc.bare, Sg.bare, ← hr0, ← hr1, ← hr2]
            cases (u.fs.length == 0) <;> cases (u.vs.length == 0) <;> cases (u.sig.fs.length == 0) <;> cases u.body.bare <;> cases u.gs.all Sg.bare <;> rfl)
          rw [hr1] at C
          have HR2 := Lib.hid hr2
          rw [hfl, hvl, hfl2] at hr0
          have y5 : (0 : Int) ≤ nf := by omega
          have y6 : (0 : Int) ≤ nv := by omega
          have y7 : (0 : Int) ≤ nf2 := by omega
          have b2 := HBX.out 2 _ (by rw [HPS.out]; rfl)
          have b6 := HBX.out 6 _ (by rw [HPS.out]; rfl)
          have b8 := HBX.out 8 _ (by rw [HPS.out]; rfl)
          have b14 := HBX.out 14 _ (by rw [HPS.out]; rfl)
          have b15 := HBX.out 15 _ (by rw [HPS.out]; rfl)
          have b16 := HBX.out 16 _ (by rw [HPS.out]; rfl)
          have b17 := HBX.out 17 _ (by rw [HPS.out]; rfl)
          have b18 := HBX.out 18 _ (by rw [HPS.out]; rfl)
          have b19 := HBX.out 19 _ (by rw [HPS.out]; rfl)
          have b20 := HBX.out 20 _ (by rw [HPS.out]; rfl)
          have b21 := HBX.out 21 _ (by rw [HPS.out]; rfl)
          clear hu hcs hbel hbz hP1 hps hf hp hg hv hs hbd hf2 hxk hr1 hr2 hfl hvl hfl2
          cases r0
          · have y8 : (0 : Int) < (nf : Int) + nv + nf2 := by
              simp only [Bool.and_eq_false_iff, beq_eq_false_iff_ne, ne_eq] at hr0
              omega
            have HC := Lib.hid (HD.out.trans (by rw [← HQ1.out, HS.out, HDU.out]; rfl : _ = false))
            go_upto_region 11 with (first
              | (refine loadDc 33 34 rfl HFC.out HLU.out ?_)
              | (refine storeDc 6 34 (b := wr.heap.size) (o := 0) rfl rfl HP1.out.there HOU.out HLU.out ?_; rw [HP1.out.eq]))
            go_wp2_with fail
            go_ret
            exact ⟨ret_bool (by rw [HC.out]), HB.out.trans ((HZ3.out.trans (HB1.out.mono HZ3.out.size)).mono HB.out.size)⟩
          · have y8 : (nf : Int) + nv + nf2 ≤ 0 := by
              simp only [Bool.and_eq_true, beq_iff_eq] at hr0
              omega
            go_upto_region 11 with (first
              | (refine loadDc 33 34 rfl HFC.out HLU.out ?_)
              | (refine storeDc 6 34 (b := wr.heap.size) (o := 0) rfl rfl HP1.out.there HOU.out HLU.out ?_; rw [HP1.out.eq]))
            go_wp2_with fail
            refine C.out.mono ?_
            rintro e w4 ⟨rfl, hb4⟩
            have HB4 := Lib.hid (HB1.out.trans (hb4.mono HB1.out.size))
            have HBX4 := Lib.hid (HBX.out.later hb4)
            have HG4 := Lib.hid (RowH.later HG.out hb4)
            clear hb4 C b2 b6 b8 b14 b15 b16 b17 b18 b19 b20 b21 HP1 HFC x0 HG HBX
            cases r1
            · have HC := Lib.hid (HD.out.trans (by rw [← HQ1.out, HS.out, HDU.out]; rfl : _ = false))
              go_wp2_with fail
              go_ret
              exact ⟨ret_bool (by rw [HC.out]), HB.out.trans ((HZ3.out.trans (HB4.out.mono HZ3.out.size)).mono HB.out.size)⟩
            · go_wp2_with fail
              generalize wr.heap.size = b0 at *
              go_loopw [7] (fun i wr => ∃ j : Nat, j ≤ ng ∧ i = .int .i64 j ∧ u.gs.all Sg.bare = (u.gs.drop j).all Sg.bare ∧ wr = w4) (fun i _ => ng - (intOf i).toNat)
              case atStart => exact ⟨0, by omega, rfl, rfl, rfl⟩
              case round =>
                obtain ⟨j, hj, rfl, hq, rfl⟩ := hrel
                have HQJ := Lib.hid hq
                clear hq
                have z2 : (0 : Int) ≤ j := by omega
                have b4 := HBX4.out 4 _ (by rw [HPS.out]; rfl)
                by_cases hlt2 : j < ng
                · have z3 : (j : Int) < ng := by omega
                  obtain ⟨pu2, t, qs, rfl, hxj, _, _, ht, hcs⟩ := dat_at HG4.out hlt2
                  have HSJ := Lib.hid (HQJ.out.trans (allBy_on hxj))
                  obtain ⟨Fu, nfu, cfu, Pu, npu, cpu, Au, mu, au, rfl, _, hfu, _⟩ := sg_open ht
                  obtain ⟨f0, f1, f2, f3, f4, f5, f6⟩ := cells7_at hcs
                  have hful := hfu.len
                  rw [List.length_map] at hful
                  obtain ⟨q, hq⟩ : ∃ q : Bool, Sg.bare t = q := ⟨_, rfl⟩
                  have hq3 := hq
                  rw [Sg.bare, hful] at hq3
                  rw [hq] at HSJ
                  clear ht hcs hfu hxj hq hful
                  cases q
                  · have y9 : (0 : Int) < nfu := by simp at hq3; omega
                    have HC := Lib.hid (HD.out.trans (by rw [← HQ1.out, HS.out, HDU.out, ← HR2.out, HSJ.out]; rfl : _ = false))
                    go_wp2_with fail
                    go_ret
                    exact ⟨ret_bool (by rw [HC.out]), HB.out.trans ((HZ3.out.trans (HB4.out.mono HZ3.out.size)).mono HB.out.size)⟩
                  · have y9 : (nfu : Int) ≤ 0 := by simp at hq3; omega
                    go_wp2_with fail
                    go_roundw
                    case rel => exact ⟨j + 1, by omega, by go_num, HSJ.out, trivial⟩
                    case measure => simp [intOf]; omega
                · have z3 : (ng : Int) ≤ j := by omega
                  have hq := HQJ.out
                  rw [List.drop_eq_nil_of_le (by omega), List.all_nil, HR2.out] at hq
                  subst hq
                  have HSS := Lib.hid (HS.out.trans (by rw [HDU.out]; rfl : _ = (p.ds.drop (k + 1)).all Dc.bare))
                  clear HQJ
                  go_wp2_with fail
                  go_roundw
                  case rel => exact ⟨k + 1, by omega, by go_num, HSS.out, HB4.out⟩
                  case measure => simp [intOf]; omega
        · have z1 : (nu : Int) ≤ k := by omega
          have hq := HQQ.out
          rw [List.drop_eq_nil_of_le (by rw [HXL.out]; omega), List.all_nil, HQ1.out] at hq
          subst hq
          have HX5 := Lib.hid (HX.out.later hbz)
          have HZ5 := Lib.hid hbz
          have C5 := Lib.hid (rbare_any p.main _ wr HWM.out (Dat.H.later HRM.out hbz))
          rw [HQ2.out] at C5
          clear hbz hbel HQQ
          obtain ⟨x0, x1, x2, x3, x4, x5, x6, x7, x8⟩ := HX5.out.c9
          go_wp2_with fail
          refine C5.out.mono ?_
          rintro e w6 ⟨rfl, hb6⟩
          have HB6 := Lib.hid (HZ5.out.trans (hb6.mono HZ5.out.size))
          clear hb6 C5
          go_wp2_with fail
          go_ret
          exact ⟨ret_bool (by rw [HD.out]; rfl), HB.out.trans (HB6.out.mono HB.out.size)⟩
end Go.Proofs.YtaeljknfbanbfaaGreatDoor
