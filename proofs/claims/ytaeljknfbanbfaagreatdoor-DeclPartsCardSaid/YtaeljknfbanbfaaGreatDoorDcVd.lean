/- The walk of decl.Types. The conditions: few parts; the contracts of inSig and of inExpr.
The walks of decl.all at types and of decl.Plain. The conditions: few parts; the contracts of inSig and of inExpr.
The walk of decl.Depth. The conditions: few parts; the contracts of inSig and of inExpr. -/
import Derived.Test.YtaeljknfbanbfaaGreatDoorDcHp
import Derived.Test.YtaeljknfbanbfaaGreatDoorDcNd
import Derived.Test.YtaeljknfbanbfaaGreatDoorEkB
namespace Go.Proofs.YtaeljknfbanbfaaGreatDoor
open Go.RowKit

theorem fo_tys (fs : List Fo) : fs.flatMap Fo.tys = fs.map Fo.ty := by
  induction fs with
  | nil => rfl
  | cons f r ih => rw [List.flatMap_cons, ih]; rfl
theorem Sg.tys_types (s : Sg) : s.tys = s.types := by rw [Sg.tys, Sg.types, fo_tys, fo_tys]
theorem exTys_types (e : Ex) : exTys e = e.types := by
  rw [exTys, Ex.types]
  congr 1
  funext x
  simp only [Ex.own, Ex.typed, Bool.or_eq_true, beq_iff_eq]
theorem Dc.tys_types (d : Dc) : d.tys = d.types := by
  rw [Dc.tys, Dc.types, fo_tys, fo_tys, exTys_types, Sg.tys_types, show (Sg.tys : Sg → List Ty) = Sg.types from funext Sg.tys_types]
theorem Pg.tys_types (p : Pg) : p.tys = p.types := by
  rw [Pg.tys, Pg.types, exTys_types, show (Dc.tys : Dc → List Ty) = Dc.types from funext Dc.tys_types]
set_option maxRecDepth 100000 in
set_option maxHeartbeats 8000000 in
theorem types_any (HSG : InSigOk) (HIE : InExprOk) (p : Pg) (us : List Value) (w : World) (hw : p.wt ≤ 1000) (ht : ∀ t ∈ p.types, t.wt ≤ 1000) (h : p.dat.H w us) : Calls Tryz.prog 18 #[.agg us.toArray] w (RPost w 3 p.types.length (p.types.map Ty.dat)) := by
  have hb : Below w.heap.size w (w.alloc (.cells us.toArray 40)) := (Below.refl _ _).alloc (Nat.le_refl _) _
  have hx := Boxd.new w us.toArray 40
  have hq : p.types.length ≤ 1000 := Nat.le_trans (Pg.types_len p) hw
  have h0 : p.dat.In (w.alloc (.cells us.toArray 40)) False (· < w.heap.size) us := Dat.In.later h hb fun _ hk => hk
  have C1 := Lib.hid (inProgram_any HSG HIE p us w.heap.size _ hb.size hw (by rw [Pg.tys_types]; omega) h0)
  obtain ⟨Du, nu, cu, A3u, m3u, a3u, B3u, l3u, b3u, C3u, n3u, c3u, rfl, _⟩ := pg_full h0
  obtain ⟨x0, x1, x2, x3, x4, x5, x6, x7, x8⟩ := hx.c9
  have HB := Lib.hid hb
  have HQ := Lib.hid hq
  have HT := Lib.hid ht
  clear hb hx h h0 hq ht hw HSG HIE
  go_enter Tryz.func18, Tryz.ntmps18
  go_wp2_with fail
  refine C1.out.mono ?_
  rintro e w1 ⟨v1, rfl, hr⟩
  rw [Pg.tys_types] at hr
  have HB1 := Lib.hid (HB.out.trans (hr.bel.mono HB.out.size))
  obtain ⟨A, c, us1, rfl, _⟩ := hr.flat (Nat.le_refl _)
  obtain ⟨_, hrow⟩ := hr.row (by have := HQ.out; omega)
  have C2 := Lib.hid (eachType_any p.types A p.types.length c w1 HT.out (by have := HQ.out; omega) hrow)
  clear hr hrow C1 x0 x1 x2 x3 x4 x5 x6 x7 x8
  go_wp2_with fail
  refine C2.out.mono ?_
  rintro e w2 ⟨A2, c2, rfl, hrow2, hb2⟩
  have HR := Lib.hid (hrow2.wide (S' := Fresh w w2) fun b hb => ⟨Nat.le_trans HB1.out.size hb.1, hb.2⟩)
  have HB2 := Lib.hid (HB1.out.trans (hb2.mono HB1.out.size))
  clear hrow2 hb2 C2
  go_wp2_with fail
  go_ret
  exact ⟨A2, c2, rfl, HR.out, HB2.out⟩
end Go.Proofs.YtaeljknfbanbfaaGreatDoor
namespace Go.Proofs.YtaeljknfbanbfaaGreatDoor
open Go.RowKit

set_option maxRecDepth 100000 in
set_option maxHeartbeats 8000000 in
theorem allPlainTy_any (xs : List Ty) (A : Option Addr) (m c : Nat) (w : World) (h1 : RowH w 3 A m (xs.map Ty.dat)) :
    Calls Tryz.prog 78 #[.slice A m c, .func (.func 79) #[] #[]] w (EqvPost w (xs.all Ty.bare)) := by
  have hm : (m : Int) ≤ 9223372036854775807 := by have := h1.le; omega
  have hxl := h1.len
  rw [List.length_map] at hxl
  have H1 := Lib.hid h1
  clear h1
  go_enter Tryz.func78, Tryz.ntmps78
  go_wp2_with fail
  go_loopw [9] (fun i wr => ∃ k : Nat, k ≤ m ∧ i = .int .i64 k ∧ xs.all Ty.bare = (xs.drop k).all Ty.bare ∧ Below w.heap.size w wr) (fun i _ => m - (intOf i).toNat)
  case atStart => exact ⟨0, by omega, rfl, rfl, Below.refl _ _⟩
  case round =>
    obtain ⟨k, hk, rfl, hc, hbel⟩ := hrel
    have HBL := Lib.hid hbel
    have HQ := Lib.hid hc
    clear hc
    have z0 : (0 : Int) ≤ k := by omega
    by_cases hlt1 : k < m
    · have z1 : (k : Int) < m := by omega
      obtain ⟨pu, u, ps, rfl, hx, _, _, hu, hcs⟩ := dat_at (RowH.later H1.out hbel) hlt1
      have HLU := Lib.hid (show ps.length = 3 from (Dat.In.len _ _ hu).trans (Ty.dat_size u))
      have HOU := Lib.hid (ty_cells hu)
      obtain ⟨W1, hP1⟩ := putZ #[.string ⟨#[]⟩, .slice none 0 0, .int .i64 0] 28 wr HLU.out
      have hbx := hP1.bel
      have HP1 := Lib.hid hP1
      have HF := Lib.hid hcs
      have HX := Lib.hid hP1.box.at0
      have C := Lib.hid (plainType_any u _ W1 (Dat.H.later hu hbx))
      have HB2 := Lib.hid (HBL.out.trans (hbx.mono HBL.out.size))
      have HS := Lib.hid (HQ.out.trans (allBy_on hx))
      clear hx hu hcs hbel HQ hbx hP1
      generalize Ty.bare u = q at *
      go_wp2_with (first
        | (refine loadOp flatTy3 11 12 rfl HF.out HLU.out ?_)
        | (refine storeOp flatTy3 6 12 (b := wr.heap.size) (o := 0) rfl rfl HP1.out.there HOU.out HLU.out ?_; rw [HP1.out.eq])
        | (refine loadOp flatTy3 6 14 rfl HX.out HLU.out ?_))
      refine C.out.mono ?_
      rintro e w1 ⟨rfl, hb1⟩
      have HB1 := Lib.hid (HB2.out.trans (hb1.mono HB2.out.size))
      clear hb1 C
      cases q
      · go_wp2_with fail
        go_ret
        exact ⟨ret_bool (by rw [HS.out]; rfl), HB1.out⟩
      · go_wp2_with fail
        go_roundw
        case rel => exact ⟨k + 1, by omega, by go_num, HS.out, HB1.out⟩
        case measure => simp [intOf]; omega
    · have z1 : (m : Int) ≤ k := by omega
      have hq := HQ.out
      rw [List.drop_eq_nil_of_le (by omega), List.all_nil] at hq
      have HQ2 := Lib.hid hq
      clear hq hbel
      go_wp2_with fail
      go_ret
      exact ⟨ret_bool (by rw [HQ2.out]), HBL.out⟩
def Pg.bareP (p : Pg) : Bool := p.ds.all Dc.bare && (p.main.bare && p.types.all Ty.bare)
set_option maxRecDepth 100000 in
set_option maxHeartbeats 8000000 in
theorem plain_any (HSG : InSigOk) (HIE : InExprOk) (p : Pg) (us : List Value) (w : World) (hw : p.wt ≤ 1000) (h : p.dat.H w us) : Calls Tryz.prog 23 #[.agg us.toArray] w (EqvPost w p.bareP) := by
  have hb : Below w.heap.size w (w.alloc (.cells us.toArray 40)) := (Below.refl _ _).alloc (Nat.le_refl _) _
  have hx := Boxd.new w us.toArray 40
  have hq : p.types.length ≤ 1000 := Nat.le_trans (Pg.types_len p) hw
  have h0 : p.dat.H (w.alloc (.cells us.toArray 40)) us := Dat.H.later h hb
  have hus := h0
  have HD0 := Lib.hid h0
  obtain ⟨W0, hW0⟩ : ∃ W0, w.alloc (.cells us.toArray 40) = W0 := ⟨_, rfl⟩
  rw [hW0] at hb hx HD0 h0
  have HW0 := Lib.hid hW0
  obtain ⟨Du, nu, cu, A3u, m3u, a3u, B3u, l3u, b3u, C3u, n3u, c3u, rfl, hd, hm⟩ := pg_full h0
  obtain ⟨x0, x1, x2, x3, x4, x5, x6, x7, x8⟩ := Boxd.c9 hx
  have HX := Lib.hid hx
  have HB := Lib.hid hb
  have HQ := Lib.hid hq
  have C1 := Lib.hid (allPlainDecl_any p.ds Du nu cu W0 (fun d hd => Nat.le_trans (Pg.wt_d (p := p) hd) hw) hd)
  have C2 := Lib.hid (fun (V : World) (hV : Below W0.heap.size W0 V) => plainExpr_any p.main _ V (by have := Pg.wt_main (p := p); omega) (Dat.H.later hm hV))
  have C3 := Lib.hid (fun (V : World) (hV : Below W0.heap.size W0 V) => inProgram_any HSG HIE p _ V.heap.size V (Nat.le_refl _) hw (by rw [Pg.tys_types]; omega) (Dat.H.later HD0.out hV))
  obtain ⟨q1, h1⟩ : ∃ q, p.ds.all Dc.bare = q := ⟨_, rfl⟩
  obtain ⟨q2, h2⟩ : ∃ q, p.main.bare = q := ⟨_, rfl⟩
  obtain ⟨q3, h3⟩ : ∃ q, p.types.all Ty.bare = q := ⟨_, rfl⟩
  have HR := Lib.hid (show p.bareP = (q1 && (q2 && q3)) by rw [Pg.bareP, h1, h2, h3])
  rw [h1] at C1
  rw [h2] at C2
  have HQ3 := Lib.hid h3
  clear hb hx h h0 hus hq hw HSG HIE hd hm h1 h2 h3 hW0
  go_enter Tryz.func23, Tryz.ntmps23
  go_upto_region 1 with fail
  rw [HW0.out]
  clear HW0
  go_wp2_with fail
  refine C1.out.mono ?_
  rintro e w1 ⟨rfl, hb1⟩
  have HZ := Lib.hid hb1
  clear hb1 C1
  have HX1 := Lib.hid (HX.out.later HZ.out)
  clear x0 x1 x2 x3 x4 x5 x6 x7 x8
  obtain ⟨x0, x1, x2, x3, x4, x5, x6, x7, x8⟩ := HX1.out.c9
  cases q1
  · go_wp2_with fail
    go_ret
    exact ⟨ret_bool (by rw [HR.out]; rfl), HB.out.trans (HZ.out.mono HB.out.size)⟩
  · skip
    go_wp2_with fail
    refine (C2.out _ HZ.out).mono ?_
    rintro e w2 ⟨rfl, hb2⟩
    have HZ2 := Lib.hid (HZ.out.trans (hb2.mono HZ.out.size))
    have HX2 := Lib.hid (HX1.out.later hb2)
    clear hb2 C2 HX1 HZ x0 x1 x2 x3 x4 x5 x6 x7 x8
    obtain ⟨x0, x1, x2, x3, x4, x5, x6, x7, x8⟩ := HX2.out.c9
    cases q2
    · go_wp2_with fail
      go_ret
      exact ⟨ret_bool (by rw [HR.out]; rfl), HB.out.trans (HZ2.out.mono HB.out.size)⟩
    · skip
      go_wp2_with fail
      refine (C3.out _ HZ2.out).mono ?_
      rintro e w3 ⟨v3, rfl, hr⟩
      rw [Pg.tys_types] at hr
      have HZ3 := Lib.hid (HZ2.out.trans (hr.bel.mono HZ2.out.size))
      obtain ⟨A, c, us1, rfl, _⟩ := hr.flat (Nat.le_refl _)
      obtain ⟨_, hrow⟩ := hr.row (by have := HQ.out; omega)
      have C4 := Lib.hid (allPlainTy_any p.types A p.types.length c w3 hrow)
      rw [HQ3.out] at C4
      clear hr hrow C3 HX2 HZ2 x0 x1 x2 x3 x4 x5 x6 x7 x8
      go_wp2_with fail
      refine C4.out.mono ?_
      rintro e w4 ⟨rfl, hb4⟩
      have HZ4 := Lib.hid (HZ3.out.trans (hb4.mono HZ3.out.size))
      clear hb4 C4
      go_wp2_with fail
      go_ret
      exact ⟨ret_bool (by rw [HR.out]; rfl), HB.out.trans (HZ4.out.mono HB.out.size)⟩
end Go.Proofs.YtaeljknfbanbfaaGreatDoor
namespace Go.Proofs.YtaeljknfbanbfaaGreatDoor
open Go.RowKit

def Pg.depth1 (p : Pg) : Nat := (p.ds.map fun d => d.body.depth).foldl max p.main.depth
/-- The greatest depth of the types and expressions. -/
def Pg.depth (p : Pg) : Nat := (p.types.map Ty.depth).foldl max p.depth1
theorem fold_step {α : Type} (f : α → Nat) {xs : List α} {k : Nat} {x : α} (b : Nat) (h : xs[k]? = some x) : ((xs.take (k + 1)).map f).foldl max b = max (((xs.take k).map f).foldl max b) (f x) := by
  rw [Ex.take_at h, List.map_append, List.foldl_append]; rfl
theorem add_off (b o j : Nat) : (⟨b, o, none⟩ : Addr).add j = ⟨b, o + j, none⟩ := by unfold Addr.add; split <;> simp_all
theorem tyDepth_any (t : Ty) (us : List Value) (w : World) (hd : t.depth ≤ 1000000) (h : t.dat.H w us) : Calls Tryz.prog 72 #[.agg us.toArray] w (NatPost w t.depth) := by
  obtain ⟨A, m, c, rfl, _, hl⟩ := ty_open h
  exact depth_any t A m c w hd hl
/-- The cells of a declaration's body in its box. -/
theorem dc_body {W : World} {b : Nat} {d : Dc} {us : List Value} {w : World} {N : Prop} {S : Nat → Prop} (h : d.dat.In w N S us) (hx : Boxd W b us) : ∃ bv, bv.length = 8 ∧ d.body.dat.In w N S bv ∧ CellsAt W ⟨b, 14, none⟩ bv := by
  obtain ⟨F, nf, cf, P, np, cp, G, ng, cg, V, nv, cv, sv, bv, hus, _, _, _, _, _, _, hs, hbd⟩ := dc_open h
  have hsl : sv.length = 7 := (Dat.In.len _ _ hs).trans (Sg.dat_size _)
  refine ⟨bv, (Dat.In.len _ _ hbd).trans (Ex.dat_size _), hbd, fun j v hv => ?_⟩
  rw [add_off]
  refine hx (14 + j) v ?_
  have h2 := app_mid (a := [.int .i64 d.kind, .string d.name, .slice F nf cf, .slice P np cp, .slice G ng cg, .string d.recv, .slice V nv cv] ++ sv) (c := [.int .i64 d.off]) hv
  rw [List.length_append, hsl] at h2
  rw [hus, ← List.append_assoc]
  exact h2
set_option maxRecDepth 100000 in
set_option maxHeartbeats 8000000 in
theorem pdepth_any (HSG : InSigOk) (HIE : InExprOk) (p : Pg) (us : List Value) (w : World) (hw : p.wt ≤ 1000) (ht : ∀ t ∈ p.types, t.wt ≤ 1000) (h : p.dat.H w us) : Calls Tryz.prog 21 #[.agg us.toArray] w (NatPost w p.depth) := by
  have hb : Below w.heap.size w (w.alloc (.cells us.toArray 40)) := (Below.refl _ _).alloc (Nat.le_refl _) _
  have hx := Boxd.new w us.toArray 40
  have hq : p.types.length ≤ 1000 := Nat.le_trans (Pg.types_len p) hw
  have h0 : p.dat.H (w.alloc (.cells us.toArray 40)) us := Dat.H.later h hb
  have HD0 := Lib.hid h0
  obtain ⟨W0, hW0⟩ : ∃ W0, w.alloc (.cells us.toArray 40) = W0 := ⟨_, rfl⟩
  rw [hW0] at hb hx HD0 h0
  have HW0 := Lib.hid hW0
  obtain ⟨Du, nu, cu, A3u, m3u, a3u, B3u, l3u, b3u, C3u, n3u, c3u, rfl, hd, hm⟩ := pg_full h0
  obtain ⟨x0, x1, x2, x3, x4, x5, x6, x7, x8⟩ := Boxd.c9 hx
  have HX := Lib.hid hx
  have HB := Lib.hid hb
  have HQ := Lib.hid hq
  have HT := Lib.hid ht
  have HRD := Lib.hid hd
  have hxl := hd.len
  rw [List.length_map] at hxl
  have HXL := Lib.hid hxl
  have hni : (nu : Int) ≤ 9223372036854775807 := by have := hd.le; omega
  have HWD := Lib.hid (fun (d : Dc) (hd : d ∈ p.ds) => Nat.le_trans (Pg.wt_d (p := p) hd) hw)
  have hmd : p.main.depth ≤ 2000 := by have := Ex.depth_wt p.main; have := Pg.wt_main (p := p); omega
  have HMD := Lib.hid hmd
  have C1 := Lib.hid (xdepth_any p.main _ W0 (by omega) hm)
  have C3 := Lib.hid (fun (V : World) (hV : Below W0.heap.size W0 V) => inProgram_any HSG HIE p _ V.heap.size V (Nat.le_refl _) hw (by rw [Pg.tys_types]; omega) (Dat.H.later HD0.out hV))
  have HR := Lib.hid (show p.depth = (p.types.map Ty.depth).foldl max ((p.ds.map fun d => d.body.depth).foldl max p.main.depth) from rfl)
  have hm9 : (p.main.depth : Int) ≤ 2000 := by omega
  clear hb hx h h0 hq hw ht HSG HIE hd hm hxl hW0 hmd
  go_enter Tryz.func21, Tryz.ntmps21
  go_upto_region 1 with fail
  rw [HW0.out]
  clear HW0
  generalize p.main.depth = md at *
  go_wp2_with fail
  refine C1.out.mono ?_
  rintro e w1 ⟨rfl, hb1⟩
  have HZ := Lib.hid hb1
  have HX1 := Lib.hid (HX.out.later hb1)
  clear hb1 C1 x0 x1 x2 x3 x4 x5 x6 x7 x8
  have x0 := HX1.out 0 _ rfl
  go_wp2_with fail
  clear x0
  go_loopw [3, 14] (fun v i wr => ∃ (k q : Nat), k ≤ nu ∧ i = .int .i64 k ∧ v = .int .i64 q ∧ q = ((p.ds.take k).map fun d => d.body.depth).foldl max md ∧ q ≤ 2000 ∧ Below w1.heap.size w1 wr) (fun _ i _ => nu - (intOf i).toNat)
  case atStart => exact ⟨0, md, by omega, rfl, rfl, by rw [List.take_zero]; rfl, HMD.out, Below.refl _ _⟩
  case round =>
    obtain ⟨k, q, hk, rfl, rfl, hq, hq9, hbel⟩ := hrel
    have HBL := Lib.hid hbel
    have HQQ := Lib.hid hq
    have hqi : (q : Int) ≤ 2000 := by omega
    have z0 : (0 : Int) ≤ k := by omega
    have hbz := HZ.out.trans (hbel.mono HZ.out.size)
    by_cases hlt1 : k < nu
    · have z1 : (k : Int) < nu := by omega
      obtain ⟨pu, u, ps, rfl, hx, _, _, hu, hcs⟩ := dat_at (RowH.later HRD.out hbz) hlt1
      have HLU := Lib.hid (dc_len hu)
      have HOU := Lib.hid (dc_cells hu)
      obtain ⟨W1, hP1⟩ := put23 wr HLU.out
      have hbx := hP1.bel
      have HP1 := Lib.hid hP1
      have HF := Lib.hid hcs
      obtain ⟨bv, hbl, hbd, hbc⟩ := dc_body hu hP1.box
      have HBC := Lib.hid hbc
      have HBL8 := Lib.hid hbl
      have hud : u.body.depth ≤ 2000 := by have := Ex.depth_wt u.body; have := Dc.wt_b (d := u); have := HWD.out u (List.mem_of_getElem? hx); omega
      have C := Lib.hid (xdepth_any u.body bv W1 (by omega) (Dat.H.later hbd hbx))
      have HB2 := Lib.hid (HBL.out.trans (hbx.mono HBL.out.size))
      have HS := Lib.hid (fold_step (fun d : Dc => d.body.depth) md hx)
      clear hx hu hcs hbel hq hbx hP1 hbc hbl hbd hbz
      generalize u.body.depth = g at *
      have hgi : (g : Int) ≤ 2000 := by omega
      obtain ⟨mx, hmx⟩ : ∃ mx : Nat, mx = max q g := ⟨_, rfl⟩
      have z5 : max (q : Int) (g : Int) = (mx : Int) := by omega
      have HMX := Lib.hid hmx
      have HM9 := Lib.hid (show mx ≤ 2000 by omega)
      clear hmx
      go_wp2_with (first
        | (refine loadDc 16 17 rfl HF.out HLU.out ?_)
        | (refine storeDc 5 17 (b := wr.heap.size) (o := 0) rfl rfl HP1.out.there HOU.out HLU.out ?_; rw [HP1.out.eq])
        | (refine loadOp flatEx 19 20 rfl HBC.out HBL8.out ?_))
      refine C.out.mono ?_
      rintro e w2 ⟨rfl, hb2⟩
      have HB3 := Lib.hid (HB2.out.trans (hb2.mono HB2.out.size))
      clear hb2 C
      go_wp2_with fail
      go_roundw
      case rel => exact ⟨k + 1, mx, by omega, by go_num, by go_num, by rw [HMX.out, HQQ.out]; exact HS.out.symm, HM9.out, HB3.out⟩
      case measure => simp [intOf]; omega
    · have z1 : (nu : Int) ≤ k := by omega
      rw [List.take_of_length_le (by rw [HXL.out]; omega)] at hq
      have HQ4 := Lib.hid hq
      have HZ2 := Lib.hid hbz
      have HX2 := Lib.hid (HX.out.later hbz)
      clear hq hbz hbel HQQ
      obtain ⟨x0, x1, x2, x3, x4, x5, x6, x7, x8⟩ := HX2.out.c9
      go_wp2_with fail
      refine (C3.out _ HZ2.out).mono ?_
      rintro e w3 ⟨v3, rfl, hr⟩
      rw [Pg.tys_types] at hr
      have HZ3 := Lib.hid (HZ2.out.trans (hr.bel.mono HZ2.out.size))
      obtain ⟨A, c, us1, rfl, _⟩ := hr.flat (Nat.le_refl _)
      obtain ⟨_, hrow⟩ := hr.row (by have := HQ.out; omega)
      have HRW := Lib.hid hrow
      have hn9 : (p.types.length : Int) ≤ 1000 := by have := HQ.out; omega
      clear hr hrow C3 HX2 HZ2 x0 x1 x2 x3 x4 x5 x6 x7 x8
      obtain ⟨nt, hnt⟩ : ∃ n, p.types.length = n := ⟨_, rfl⟩
      have HNT := Lib.hid hnt
      rw [hnt] at hn9 HRW ⊢
      clear hnt
      go_wp2_with fail
      go_loopw [3, 27] (fun v i wr => ∃ (k2 q2 : Nat), k2 ≤ nt ∧ i = .int .i64 k2 ∧ v = .int .i64 q2 ∧ q2 = ((p.types.take k2).map Ty.depth).foldl max q ∧ q2 ≤ 2000 ∧ Below w3.heap.size w3 wr) (fun _ i _ => nt - (intOf i).toNat)
      case atStart => exact ⟨0, q, by omega, rfl, rfl, by rw [List.take_zero]; rfl, hq9, Below.refl _ _⟩
      case round =>
        obtain ⟨k2, q2, hk2, rfl, rfl, hqq, hqq9, hbel2⟩ := hrel
        have HBL2 := Lib.hid hbel2
        have HQQ2 := Lib.hid hqq
        have hqi2 : (q2 : Int) ≤ 2000 := by omega
        have y0 : (0 : Int) ≤ k2 := by omega
        by_cases hlt2 : k2 < nt
        · have y1 : (k2 : Int) < nt := by omega
          obtain ⟨pu, u, ps, rfl, hx, _, _, hu, hcs⟩ := dat_at (RowH.later HRW.out hbel2) hlt2
          have HLU := Lib.hid (show ps.length = 3 from (Dat.In.len _ _ hu).trans (Ty.dat_size u))
          have HOU := Lib.hid (ty_cells hu)
          obtain ⟨W1, hP1⟩ := putZ #[.string ⟨#[]⟩, .slice none 0 0, .int .i64 0] 28 wr HLU.out
          have hbx := hP1.bel
          have HP1 := Lib.hid hP1
          have HF := Lib.hid hcs
          have HX5 := Lib.hid hP1.box.at0
          have hud : u.depth ≤ 2000 := by have := Ty.depth_wt u; have := HT.out u (List.mem_of_getElem? hx); omega
          have C := Lib.hid (tyDepth_any u ps W1 (by omega) (Dat.H.later hu hbx))
          have HB2 := Lib.hid (HBL2.out.trans (hbx.mono HBL2.out.size))
          have HS := Lib.hid (fold_step Ty.depth q hx)
          clear hx hu hcs hbel2 hqq hbx hP1
          generalize u.depth = g at *
          have hgi : (g : Int) ≤ 2000 := by omega
          obtain ⟨mx, hmx⟩ : ∃ mx : Nat, mx = max q2 g := ⟨_, rfl⟩
          have z5 : max (q2 : Int) (g : Int) = (mx : Int) := by omega
          have HMX := Lib.hid hmx
          have HM9 := Lib.hid (show mx ≤ 2000 by omega)
          clear hmx
          go_wp2_with (first
            | (refine loadOp flatTy3 29 30 rfl HF.out HLU.out ?_)
            | (refine storeOp flatTy3 7 30 (b := wr.heap.size) (o := 0) rfl rfl HP1.out.there HOU.out HLU.out ?_; rw [HP1.out.eq])
            | (refine loadOp flatTy3 7 32 rfl HX5.out HLU.out ?_))
          refine C.out.mono ?_
          rintro e w4 ⟨rfl, hb4⟩
          have HB3 := Lib.hid (HB2.out.trans (hb4.mono HB2.out.size))
          clear hb4 C
          go_wp2_with fail
          go_roundw
          case rel => exact ⟨k2 + 1, mx, by omega, by go_num, by go_num, by rw [HMX.out, HQQ2.out]; exact HS.out.symm, HM9.out, HB3.out⟩
          case measure => simp [intOf]; omega
        · have y1 : (nt : Int) ≤ k2 := by omega
          rw [List.take_of_length_le (by rw [HNT.out]; omega)] at hqq
          have HQ6 := Lib.hid hqq
          have HZ4 := Lib.hid (HZ3.out.trans (hbel2.mono HZ3.out.size))
          have HPD := Lib.hid (show p.depth = q2 by rw [HR.out, HQ6.out, HQ4.out])
          clear hqq hbel2 HQQ2
          go_wp2_with fail
          go_ret
          exact ⟨by rw [HPD.out]; rfl, HB.out.trans (HZ4.out.mono HB.out.size)⟩
end Go.Proofs.YtaeljknfbanbfaaGreatDoor
