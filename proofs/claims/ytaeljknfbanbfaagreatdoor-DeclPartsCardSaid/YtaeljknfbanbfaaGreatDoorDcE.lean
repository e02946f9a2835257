/- Structs of five, seven, nine and twenty-three cells in memory; two boxed data. No condition.
The walks of decl.SameSig and of what it calls. No condition.
The walks of decl.SameDecl, decl.Same and of what they call. No condition.
The walk of decl.SameDecl. No condition. -/
import Derived.Test.YtaeljknfbanbfaaGreatDoorDcW
import Derived.Test.YtaeljknfbanbfaaGreatDoorEkA
namespace Go.Proofs.YtaeljknfbanbfaaGreatDoor
open Go.RowKit

theorem cells5_at {w : World} {p : Addr} {u0 u1 u2 u3 u4 : Value} (h : CellsAt w p [u0, u1, u2, u3, u4]) : w.cell? p = some u0 ∧ w.cell? ⟨p.block, p.off + 1, none⟩ = some u1 ∧ w.cell? ⟨p.block, p.off + 2, none⟩ = some u2 ∧ w.cell? ⟨p.block, p.off + 3, none⟩ = some u3 ∧ w.cell? ⟨p.block, p.off + 4, none⟩ = some u4 :=
  ⟨h 0 _ rfl, h 1 _ rfl, h 2 _ rfl, h 3 _ rfl, h 4 _ rfl⟩
theorem Boxd.c5 {W : World} {b : Nat} {u0 u1 u2 u3 u4 : Value} (h : Boxd W b [u0, u1, u2, u3, u4]) : W.cell? ⟨b, 0, none⟩ = some u0 ∧ W.cell? ⟨b, 1, none⟩ = some u1 ∧ W.cell? ⟨b, 2, none⟩ = some u2 ∧ W.cell? ⟨b, 3, none⟩ = some u3 ∧ W.cell? ⟨b, 4, none⟩ = some u4 :=
  ⟨h 0 _ rfl, h 1 _ rfl, h 2 _ rfl, h 3 _ rfl, h 4 _ rfl⟩
theorem cells7_at {w : World} {p : Addr} {u0 u1 u2 u3 u4 u5 u6 : Value} (h : CellsAt w p [u0, u1, u2, u3, u4, u5, u6]) : w.cell? p = some u0 ∧ w.cell? ⟨p.block, p.off + 1, none⟩ = some u1 ∧ w.cell? ⟨p.block, p.off + 2, none⟩ = some u2 ∧ w.cell? ⟨p.block, p.off + 3, none⟩ = some u3 ∧ w.cell? ⟨p.block, p.off + 4, none⟩ = some u4 ∧ w.cell? ⟨p.block, p.off + 5, none⟩ = some u5 ∧ w.cell? ⟨p.block, p.off + 6, none⟩ = some u6 :=
  ⟨h 0 _ rfl, h 1 _ rfl, h 2 _ rfl, h 3 _ rfl, h 4 _ rfl, h 5 _ rfl, h 6 _ rfl⟩
theorem Boxd.c7 {W : World} {b : Nat} {u0 u1 u2 u3 u4 u5 u6 : Value} (h : Boxd W b [u0, u1, u2, u3, u4, u5, u6]) : W.cell? ⟨b, 0, none⟩ = some u0 ∧ W.cell? ⟨b, 1, none⟩ = some u1 ∧ W.cell? ⟨b, 2, none⟩ = some u2 ∧ W.cell? ⟨b, 3, none⟩ = some u3 ∧ W.cell? ⟨b, 4, none⟩ = some u4 ∧ W.cell? ⟨b, 5, none⟩ = some u5 ∧ W.cell? ⟨b, 6, none⟩ = some u6 :=
  ⟨h 0 _ rfl, h 1 _ rfl, h 2 _ rfl, h 3 _ rfl, h 4 _ rfl, h 5 _ rfl, h 6 _ rfl⟩
theorem cells9_at {w : World} {p : Addr} {u0 u1 u2 u3 u4 u5 u6 u7 u8 : Value} (h : CellsAt w p [u0, u1, u2, u3, u4, u5, u6, u7, u8]) : w.cell? p = some u0 ∧ w.cell? ⟨p.block, p.off + 1, none⟩ = some u1 ∧ w.cell? ⟨p.block, p.off + 2, none⟩ = some u2 ∧ w.cell? ⟨p.block, p.off + 3, none⟩ = some u3 ∧ w.cell? ⟨p.block, p.off + 4, none⟩ = some u4 ∧ w.cell? ⟨p.block, p.off + 5, none⟩ = some u5 ∧ w.cell? ⟨p.block, p.off + 6, none⟩ = some u6 ∧ w.cell? ⟨p.block, p.off + 7, none⟩ = some u7 ∧ w.cell? ⟨p.block, p.off + 8, none⟩ = some u8 :=
  ⟨h 0 _ rfl, h 1 _ rfl, h 2 _ rfl, h 3 _ rfl, h 4 _ rfl, h 5 _ rfl, h 6 _ rfl, h 7 _ rfl, h 8 _ rfl⟩
theorem Boxd.c9 {W : World} {b : Nat} {u0 u1 u2 u3 u4 u5 u6 u7 u8 : Value} (h : Boxd W b [u0, u1, u2, u3, u4, u5, u6, u7, u8]) : W.cell? ⟨b, 0, none⟩ = some u0 ∧ W.cell? ⟨b, 1, none⟩ = some u1 ∧ W.cell? ⟨b, 2, none⟩ = some u2 ∧ W.cell? ⟨b, 3, none⟩ = some u3 ∧ W.cell? ⟨b, 4, none⟩ = some u4 ∧ W.cell? ⟨b, 5, none⟩ = some u5 ∧ W.cell? ⟨b, 6, none⟩ = some u6 ∧ W.cell? ⟨b, 7, none⟩ = some u7 ∧ W.cell? ⟨b, 8, none⟩ = some u8 :=
  ⟨h 0 _ rfl, h 1 _ rfl, h 2 _ rfl, h 3 _ rfl, h 4 _ rfl, h 5 _ rfl, h 6 _ rfl, h 7 _ rfl, h 8 _ rfl⟩
theorem cells23_at {w : World} {p : Addr} {u0 u1 u2 u3 u4 u5 u6 u7 u8 u9 u10 u11 u12 u13 u14 u15 u16 u17 u18 u19 u20 u21 u22 : Value} (h : CellsAt w p [u0, u1, u2, u3, u4, u5, u6, u7, u8, u9, u10, u11, u12, u13, u14, u15, u16, u17, u18, u19, u20, u21, u22]) : w.cell? p = some u0 ∧ w.cell? ⟨p.block, p.off + 1, none⟩ = some u1 ∧ w.cell? ⟨p.block, p.off + 2, none⟩ = some u2 ∧ w.cell? ⟨p.block, p.off + 3, none⟩ = some u3 ∧ w.cell? ⟨p.block, p.off + 4, none⟩ = some u4 ∧ w.cell? ⟨p.block, p.off + 5, none⟩ = some u5 ∧ w.cell? ⟨p.block, p.off + 6, none⟩ = some u6 ∧ w.cell? ⟨p.block, p.off + 7, none⟩ = some u7 ∧ w.cell? ⟨p.block, p.off + 8, none⟩ = some u8 ∧ w.cell? ⟨p.block, p.off + 9, none⟩ = some u9 ∧ w.cell? ⟨p.block, p.off + 10, none⟩ = some u10 ∧ w.cell? ⟨p.block, p.off + 11, none⟩ = some u11 ∧ w.cell? ⟨p.block, p.off + 12, none⟩ = some u12 ∧ w.cell? ⟨p.block, p.off + 13, none⟩ = some u13 ∧ w.cell? ⟨p.block, p.off + 14, none⟩ = some u14 ∧ w.cell? ⟨p.block, p.off + 15, none⟩ = some u15 ∧ w.cell? ⟨p.block, p.off + 16, none⟩ = some u16 ∧ w.cell? ⟨p.block, p.off + 17, none⟩ = some u17 ∧ w.cell? ⟨p.block, p.off + 18, none⟩ = some u18 ∧ w.cell? ⟨p.block, p.off + 19, none⟩ = some u19 ∧ w.cell? ⟨p.block, p.off + 20, none⟩ = some u20 ∧ w.cell? ⟨p.block, p.off + 21, none⟩ = some u21 ∧ w.cell? ⟨p.block, p.off + 22, none⟩ = some u22 :=
  ⟨h 0 _ rfl, h 1 _ rfl, h 2 _ rfl, h 3 _ rfl, h 4 _ rfl, h 5 _ rfl, h 6 _ rfl, h 7 _ rfl, h 8 _ rfl, h 9 _ rfl, h 10 _ rfl, h 11 _ rfl, h 12 _ rfl, h 13 _ rfl, h 14 _ rfl, h 15 _ rfl, h 16 _ rfl, h 17 _ rfl, h 18 _ rfl, h 19 _ rfl, h 20 _ rfl, h 21 _ rfl, h 22 _ rfl⟩
theorem Boxd.c23 {W : World} {b : Nat} {u0 u1 u2 u3 u4 u5 u6 u7 u8 u9 u10 u11 u12 u13 u14 u15 u16 u17 u18 u19 u20 u21 u22 : Value} (h : Boxd W b [u0, u1, u2, u3, u4, u5, u6, u7, u8, u9, u10, u11, u12, u13, u14, u15, u16, u17, u18, u19, u20, u21, u22]) : W.cell? ⟨b, 0, none⟩ = some u0 ∧ W.cell? ⟨b, 1, none⟩ = some u1 ∧ W.cell? ⟨b, 2, none⟩ = some u2 ∧ W.cell? ⟨b, 3, none⟩ = some u3 ∧ W.cell? ⟨b, 4, none⟩ = some u4 ∧ W.cell? ⟨b, 5, none⟩ = some u5 ∧ W.cell? ⟨b, 6, none⟩ = some u6 ∧ W.cell? ⟨b, 7, none⟩ = some u7 ∧ W.cell? ⟨b, 8, none⟩ = some u8 ∧ W.cell? ⟨b, 9, none⟩ = some u9 ∧ W.cell? ⟨b, 10, none⟩ = some u10 ∧ W.cell? ⟨b, 11, none⟩ = some u11 ∧ W.cell? ⟨b, 12, none⟩ = some u12 ∧ W.cell? ⟨b, 13, none⟩ = some u13 ∧ W.cell? ⟨b, 14, none⟩ = some u14 ∧ W.cell? ⟨b, 15, none⟩ = some u15 ∧ W.cell? ⟨b, 16, none⟩ = some u16 ∧ W.cell? ⟨b, 17, none⟩ = some u17 ∧ W.cell? ⟨b, 18, none⟩ = some u18 ∧ W.cell? ⟨b, 19, none⟩ = some u19 ∧ W.cell? ⟨b, 20, none⟩ = some u20 ∧ W.cell? ⟨b, 21, none⟩ = some u21 ∧ W.cell? ⟨b, 22, none⟩ = some u22 :=
  ⟨h 0 _ rfl, h 1 _ rfl, h 2 _ rfl, h 3 _ rfl, h 4 _ rfl, h 5 _ rfl, h 6 _ rfl, h 7 _ rfl, h 8 _ rfl, h 9 _ rfl, h 10 _ rfl, h 11 _ rfl, h 12 _ rfl, h 13 _ rfl, h 14 _ rfl, h 15 _ rfl, h 16 _ rfl, h 17 _ rfl, h 18 _ rfl, h 19 _ rfl, h 20 _ rfl, h 21 _ rfl, h 22 _ rfl⟩

/-- One boxed datum since a world. -/
structure OneD (w0 W : World) (a : Dat) (us : List Value) : Prop where
  bel : Below w0.heap.size w0 W
  one : Boxd W w0.heap.size us
  da : a.H W us
theorem OneD.new {w : World} {a : Dat} {us : List Value} (ha : a.H w us) (T : TypeId) : OneD w (w.alloc (.cells us.toArray T)) a us := by
  have hb : Below w.heap.size w (w.alloc (.cells us.toArray T)) := (Below.refl _ _).alloc (Nat.le_refl _) _
  exact ⟨hb, Boxd.new w us.toArray T, Dat.H.later ha hb⟩
theorem OneD.later {w0 W W' : World} {a : Dat} {us : List Value} (h : OneD w0 W a us) (hb : Below W.heap.size W W') : OneD w0 W' a us := ⟨h.bel.trans (hb.mono h.bel.size), h.one.later hb, Dat.H.later h.da hb⟩
/-- Two boxed data since a world. -/
structure TwoD (w0 W : World) (a b : Dat) (us vs : List Value) : Prop where
  bel : Below w0.heap.size w0 W
  one : Boxd W w0.heap.size us
  two : Boxd W (w0.heap.size + 1) vs
  da : a.H W us
  db : b.H W vs
theorem TwoD.new {w : World} {a b : Dat} {us vs : List Value} (ha : a.H w us) (hb : b.H w vs) (T : TypeId) : TwoD w ((w.alloc (.cells us.toArray T)).alloc (.cells vs.toArray T)) a b us vs := by
  obtain ⟨h1, h2, h3⟩ := Boxd.pair w us.toArray vs.toArray T
  exact ⟨h1, h2, h3, Dat.H.later ha h1, Dat.H.later hb h1⟩
theorem TwoD.later {w0 W W' : World} {a b : Dat} {us vs : List Value} (h : TwoD w0 W a b us vs) (hb : Below W.heap.size W W') : TwoD w0 W' a b us vs :=
  ⟨h.bel.trans (hb.mono h.bel.size), h.one.later hb, h.two.later hb, Dat.H.later h.da hb, Dat.H.later h.db hb⟩
/-- A declaration, all its cells. -/
theorem dc_full {w : World} {N : Prop} {S : Nat → Prop} {d : Dc} {us : List Value} (h : d.dat.In w N S us) : ∃ F nf cf P np cp G ng cg V nv cv F2 nf2 cf2 P2 np2 cp2 A2 m2 a2 A3 m3 a3 B3 l3 b3 C3 n3 c3,
    us = [.int .i64 d.kind, .string d.name, .slice F nf cf, .slice P np cp, .slice G ng cg, .string d.recv, .slice V nv cv, .string d.sig.name, .slice F2 nf2 cf2, .slice P2 np2 cp2, .string d.sig.res.name, .slice A2 m2 a2, .int .i64 d.sig.res.off, .int .i64 d.sig.off,
      .int .i64 d.body.kind, .string d.body.name, .string d.body.ty.name, .slice A3 m3 a3, .int .i64 d.body.ty.off, .slice B3 l3 b3, .slice C3 n3 c3, .int .i64 d.body.off, .int .i64 d.off]
    ∧ d.name.size ≤ 9223372036854775807 ∧ Row w N S 5 F nf (d.fs.map Fo.dat) ∧ Row w N S 5 P np (d.ms.map Fo.dat) ∧ Row w N S 7 G ng (d.gs.map Sg.dat) ∧ d.recv.size ≤ 9223372036854775807 ∧ Row w N S 1 V nv (d.vs.map Dat.str)
    ∧ d.sig.dat.In w N S [.string d.sig.name, .slice F2 nf2 cf2, .slice P2 np2 cp2, .string d.sig.res.name, .slice A2 m2 a2, .int .i64 d.sig.res.off, .int .i64 d.sig.off]
    ∧ d.body.dat.In w N S [.int .i64 d.body.kind, .string d.body.name, .string d.body.ty.name, .slice A3 m3 a3, .int .i64 d.body.ty.off, .slice B3 l3 b3, .slice C3 n3 c3, .int .i64 d.body.off] := by
  obtain ⟨F, nf, cf, P, np, cp, G, ng, cg, V, nv, cv, sv, bv, rfl, h1, h2, h3, h4, h5, h6, h7, h8⟩ := dc_open h
  obtain ⟨F2, nf2, cf2, P2, np2, cp2, A2, m2, a2, rfl, _⟩ := sg_open h7
  obtain ⟨A3, m3, a3, B3, l3, b3, C3, n3, c3, rfl, _⟩ := ex_open h8
  exact ⟨F, nf, cf, P, np, cp, G, ng, cg, V, nv, cv, F2, nf2, cf2, P2, np2, cp2, A2, m2, a2, A3, m3, a3, B3, l3, b3, C3, n3, c3, rfl, h1, h2, h3, h4, h5, h6, h7, h8⟩
/-- A program, all its cells. -/
theorem pg_full {w : World} {N : Prop} {S : Nat → Prop} {p : Pg} {us : List Value} (h : p.dat.In w N S us) : ∃ D n c A3 m3 a3 B3 l3 b3 C3 n3 c3,
    us = [.slice D n c, .int .i64 p.main.kind, .string p.main.name, .string p.main.ty.name, .slice A3 m3 a3, .int .i64 p.main.ty.off, .slice B3 l3 b3, .slice C3 n3 c3, .int .i64 p.main.off]
    ∧ Row w N S 23 D n (p.ds.map Dc.dat) ∧ p.main.dat.In w N S [.int .i64 p.main.kind, .string p.main.name, .string p.main.ty.name, .slice A3 m3 a3, .int .i64 p.main.ty.off, .slice B3 l3 b3, .slice C3 n3 c3, .int .i64 p.main.off] := by
  obtain ⟨D, n, c, bv, rfl, h1, h2⟩ := pg_open h
  obtain ⟨A3, m3, a3, B3, l3, b3, C3, n3, c3, rfl, _⟩ := ex_open h2
  exact ⟨D, n, c, A3, m3, a3, B3, l3, b3, C3, n3, c3, rfl, h1, h2⟩
end Go.Proofs.YtaeljknfbanbfaaGreatDoor
namespace Go.Proofs.YtaeljknfbanbfaaGreatDoor
open Go.RowKit

set_option maxRecDepth 100000 in
set_option maxHeartbeats 8000000 in
theorem sameFormal_any (f g : Fo) (us vs : List Value) (w : World) (h1 : f.dat.H w us) (h2 : g.dat.H w vs) : Calls Tryz.prog 56 #[.agg us.toArray, .agg vs.toArray] w (EqvPost w (Fo.sameX false f g)) := by
  have h := TwoD.new h1 h2 51
  obtain ⟨Au, mu, au, rfl, _, _, ha1⟩ := fo_open h1
  obtain ⟨Av, mv, av, rfl, _, _, ha2⟩ := fo_open h2
  have H0 := Lib.hid h
  have HZ0 := Lib.hid (Below.refl (((w.alloc (.cells #[.string f.name, .string f.ty.name, .slice Au mu au, .int .i64 f.ty.off, .int .i64 f.off] 51)).alloc (.cells #[.string g.name, .string g.ty.name, .slice Av mv av, .int .i64 g.ty.off, .int .i64 g.off] 51))).heap.size (((w.alloc (.cells #[.string f.name, .string f.ty.name, .slice Au mu au, .int .i64 f.ty.off, .int .i64 f.off] 51)).alloc (.cells #[.string g.name, .string g.ty.name, .slice Av mv av, .int .i64 g.ty.off, .int .i64 g.off] 51))))
  have HA := Lib.hid (Here.later ha1 h.bel)
  have HB := Lib.hid (Here.later ha2 h.bel)
  clear h h1 h2 ha1 ha2
  obtain ⟨q0, hq0⟩ : ∃ q : Bool, bytesEq f.name g.name = q := ⟨_, rfl⟩
  obtain ⟨q1, hq1⟩ : ∃ q : Bool, (Ty.cmp f.ty g.ty == 0) = q := ⟨_, rfl⟩
  have e0 : (f.name.toList == g.name.toList) = q0 := by rw [← hq0, bytesEq, Lib.toList_data, Lib.toList_data]
  have HD := Lib.hid (show Fo.sameX false f g = (q0 && (q1 )) by subst_vars; simp [Fo.sameX])
  have HQ1 := Lib.hid hq1
  clear hq0 hq1
  obtain ⟨x0, x1, x2, x3, x4⟩ := H0.out.one.c5
  obtain ⟨y0, y1, y2, y3, y4⟩ := H0.out.two.c5
  go_enter Tryz.func56, Tryz.ntmps56
  cases q0
  · go_wp2_with fail
    go_ret
    exact ⟨ret_bool (by rw [HD.out]; rfl), H0.out.bel⟩
  · skip
    go_wp2_with fail
    refine (same_any f.ty g.ty Au Av mu mv au av _ (Here.later HA.out HZ0.out) (Here.later HB.out HZ0.out)).mono ?_
    rintro e w1 ⟨rfl, hb⟩
    rw [HQ1.out]
    have H1 := Lib.hid (H0.out.later hb)
    have HZ1 := Lib.hid (HZ0.out.trans (hb.mono HZ0.out.size))
    clear hb H0 HZ0 x0 x1 x2 x3 x4 y0 y1 y2 y3 y4
    go_wp2_with fail
    go_ret
    exact ⟨ret_bool (by rw [HD.out]; rfl), H1.out.bel⟩
set_option maxRecDepth 100000 in
set_option maxHeartbeats 8000000 in
theorem eqFormal_any (xs ys : List Fo) (A B : Option Addr) (m l c d : Nat) (w : World) (h1 : RowH w 5 A m (xs.map Fo.dat)) (h2 : RowH w 5 B l (ys.map Fo.dat)) :
    Calls Tryz.prog 55 #[.slice A m c, .slice B l d, .func (.func 56) #[] #[]] w (EqvPost w (sameBy (Fo.sameX false) xs ys)) := by
  have hm : (m : Int) ≤ 9223372036854775807 := by have := h1.le; omega
  have hl : (l : Int) ≤ 9223372036854775807 := by have := h2.le; omega
  have hxl := h1.len
  have hyl := h2.len
  rw [List.length_map] at hxl hyl
  have H1 := Lib.hid h1
  have H2 := Lib.hid h2
  by_cases hml : m = l
  · subst hml
    have e0 : ((m : Int) != (m : Int)) = false := by simp
    clear h1 h2
    go_enter Tryz.func55, Tryz.ntmps55
    go_wp2_with fail
    go_loopw [17] (fun i wr => ∃ k : Nat, k ≤ m ∧ i = .int .i64 k ∧ sameBy (Fo.sameX false) xs ys = sameBy (Fo.sameX false) (xs.drop k) (ys.drop k) ∧ Below w.heap.size w wr) (fun i _ => m - (intOf i).toNat)
    case atStart => exact ⟨0, by omega, rfl, rfl, Below.refl _ _⟩
    case round =>
      obtain ⟨k, hk, rfl, hc, hbel⟩ := hrel
      have HBL := Lib.hid hbel
      have HQ := Lib.hid hc
      clear hc
      have z0 : (0 : Int) ≤ k := by omega
      by_cases hlt1 : k < m
      · have z1 : (k : Int) < m := by omega
        obtain ⟨pu, u, ps, rfl, hx, _, _, hu, hcs⟩ := dat_at (RowH.later H1.out hbel) hlt1
        obtain ⟨pv, v, qs, rfl, hy2, _, _, hv, hds⟩ := dat_at (RowH.later H2.out hbel) hlt1
        obtain ⟨hbx, hX, hY⟩ := Boxd.pair wr ps.toArray qs.toArray 51
        have C := Lib.hid (sameFormal_any u v ps qs _ (Dat.H.later hu hbx) (Dat.H.later hv hbx))
        have HB2 := Lib.hid (HBL.out.trans (hbx.mono HBL.out.size))
        have HS := Lib.hid (HQ.out.trans (sameBy_on hx hy2))
        have hds' := hds.alloc (.cells ps.toArray 51)
        obtain ⟨Au, mu, au, rfl, _⟩ := fo_open hu
        obtain ⟨Av, mv, av, rfl, _⟩ := fo_open hv
        obtain ⟨f0, f1, f2, f3, f4⟩ := cells5_at hcs
        obtain ⟨g0, g1, g2, g3, g4⟩ := cells5_at hds'
        obtain ⟨x0, x1, x2, x3, x4⟩ := hX.c5
        obtain ⟨y0, y1, y2, y3, y4⟩ := hY.c5
        clear hx hy2 hu hv hcs hds hds' hbel HQ hbx hX hY
        generalize (Fo.sameX false) u v = q at *
        go_wp2_with fail
        refine C.out.mono ?_
        rintro e w1 ⟨rfl, hb1⟩
        have HB1 := Lib.hid (HB2.out.trans (hb1.mono HB2.out.size))
        clear hb1 C f0 f1 f2 f3 f4 g0 g1 g2 g3 g4 x0 x1 x2 x3 x4 y0 y1 y2 y3 y4
        cases q
        · go_wp2_with fail
          go_ret
          exact ⟨ret_bool (by rw [HS.out]; rfl), HB1.out⟩
        · go_wp2_with fail
          go_roundw
          case rel => exact ⟨k + 1, by omega, by go_num, HS.out, HB1.out⟩
          case measure => simp [intOf]; omega
      · have z1 : (m : Int) ≤ k := by omega
        have hq := HQ.out
        rw [List.drop_eq_nil_of_le (by omega), List.drop_eq_nil_of_le (by omega), sameBy] at hq
        have HQ2 := Lib.hid hq
        clear hq hbel
        go_wp2_with fail
        go_ret
        exact ⟨ret_bool (by rw [HQ2.out]), HBL.out⟩
  · have e0 : ((m : Int) != (l : Int)) = true := by simp; omega
    have HQ2 := Lib.hid (show sameBy (Fo.sameX false) xs ys = false from sameBy_len (by omega))
    clear h1 h2 hml
    go_enter Tryz.func55, Tryz.ntmps55
    go_wp2_with fail
    go_ret
    exact ⟨ret_bool (by rw [HQ2.out]), Below.refl _ _⟩
set_option maxRecDepth 100000 in
set_option maxHeartbeats 8000000 in
theorem sameParam_any (f g : Fo) (us vs : List Value) (w : World) (h1 : f.dat.H w us) (h2 : g.dat.H w vs) : Calls Tryz.prog 58 #[.agg us.toArray, .agg vs.toArray] w (EqvPost w (Fo.sameX false f g)) := by
  have h := TwoD.new h1 h2 53
  obtain ⟨Au, mu, au, rfl, _, _, ha1⟩ := fo_open h1
  obtain ⟨Av, mv, av, rfl, _, _, ha2⟩ := fo_open h2
  have H0 := Lib.hid h
  have HZ0 := Lib.hid (Below.refl (((w.alloc (.cells #[.string f.name, .string f.ty.name, .slice Au mu au, .int .i64 f.ty.off, .int .i64 f.off] 53)).alloc (.cells #[.string g.name, .string g.ty.name, .slice Av mv av, .int .i64 g.ty.off, .int .i64 g.off] 53))).heap.size (((w.alloc (.cells #[.string f.name, .string f.ty.name, .slice Au mu au, .int .i64 f.ty.off, .int .i64 f.off] 53)).alloc (.cells #[.string g.name, .string g.ty.name, .slice Av mv av, .int .i64 g.ty.off, .int .i64 g.off] 53))))
  have HA := Lib.hid (Here.later ha1 h.bel)
  have HB := Lib.hid (Here.later ha2 h.bel)
  clear h h1 h2 ha1 ha2
  obtain ⟨q0, hq0⟩ : ∃ q : Bool, bytesEq f.name g.name = q := ⟨_, rfl⟩
  obtain ⟨q1, hq1⟩ : ∃ q : Bool, (Ty.cmp f.ty g.ty == 0) = q := ⟨_, rfl⟩
  have e0 : (f.name.toList == g.name.toList) = q0 := by rw [← hq0, bytesEq, Lib.toList_data, Lib.toList_data]
  have HD := Lib.hid (show Fo.sameX false f g = (q0 && (q1 )) by subst_vars; simp [Fo.sameX])
  have HQ1 := Lib.hid hq1
  clear hq0 hq1
  obtain ⟨x0, x1, x2, x3, x4⟩ := H0.out.one.c5
  obtain ⟨y0, y1, y2, y3, y4⟩ := H0.out.two.c5
  go_enter Tryz.func58, Tryz.ntmps58
  cases q0
  · go_wp2_with fail
    go_ret
    exact ⟨ret_bool (by rw [HD.out]; rfl), H0.out.bel⟩
  · skip
    go_wp2_with fail
    refine (same_any f.ty g.ty Au Av mu mv au av _ (Here.later HA.out HZ0.out) (Here.later HB.out HZ0.out)).mono ?_
    rintro e w1 ⟨rfl, hb⟩
    rw [HQ1.out]
    have H1 := Lib.hid (H0.out.later hb)
    have HZ1 := Lib.hid (HZ0.out.trans (hb.mono HZ0.out.size))
    clear hb H0 HZ0 x0 x1 x2 x3 x4 y0 y1 y2 y3 y4
    go_wp2_with fail
    go_ret
    exact ⟨ret_bool (by rw [HD.out]; rfl), H1.out.bel⟩
set_option maxRecDepth 100000 in
set_option maxHeartbeats 8000000 in
theorem eqParam_any (xs ys : List Fo) (A B : Option Addr) (m l c d : Nat) (w : World) (h1 : RowH w 5 A m (xs.map Fo.dat)) (h2 : RowH w 5 B l (ys.map Fo.dat)) :
    Calls Tryz.prog 57 #[.slice A m c, .slice B l d, .func (.func 58) #[] #[]] w (EqvPost w (sameBy (Fo.sameX false) xs ys)) := by
  have hm : (m : Int) ≤ 9223372036854775807 := by have := h1.le; omega
  have hl : (l : Int) ≤ 9223372036854775807 := by have := h2.le; omega
  have hxl := h1.len
  have hyl := h2.len
  rw [List.length_map] at hxl hyl
  have H1 := Lib.hid h1
  have H2 := Lib.hid h2
  by_cases hml : m = l
  · subst hml
    have e0 : ((m : Int) != (m : Int)) = false := by simp
    clear h1 h2
    go_enter Tryz.func57, Tryz.ntmps57
    go_wp2_with fail
    go_loopw [17] (fun i wr => ∃ k : Nat, k ≤ m ∧ i = .int .i64 k ∧ sameBy (Fo.sameX false) xs ys = sameBy (Fo.sameX false) (xs.drop k) (ys.drop k) ∧ Below w.heap.size w wr) (fun i _ => m - (intOf i).toNat)
    case atStart => exact ⟨0, by omega, rfl, rfl, Below.refl _ _⟩
    case round =>
      obtain ⟨k, hk, rfl, hc, hbel⟩ := hrel
      have HBL := Lib.hid hbel
      have HQ := Lib.hid hc
      clear hc
      have z0 : (0 : Int) ≤ k := by omega
      by_cases hlt1 : k < m
      · have z1 : (k : Int) < m := by omega
        obtain ⟨pu, u, ps, rfl, hx, _, _, hu, hcs⟩ := dat_at (RowH.later H1.out hbel) hlt1
        obtain ⟨pv, v, qs, rfl, hy2, _, _, hv, hds⟩ := dat_at (RowH.later H2.out hbel) hlt1
        obtain ⟨hbx, hX, hY⟩ := Boxd.pair wr ps.toArray qs.toArray 53
        have C := Lib.hid (sameParam_any u v ps qs _ (Dat.H.later hu hbx) (Dat.H.later hv hbx))
        have HB2 := Lib.hid (HBL.out.trans (hbx.mono HBL.out.size))
        have HS := Lib.hid (HQ.out.trans (sameBy_on hx hy2))
        have hds' := hds.alloc (.cells ps.toArray 53)
        obtain ⟨Au, mu, au, rfl, _⟩ := fo_open hu
        obtain ⟨Av, mv, av, rfl, _⟩ := fo_open hv
        obtain ⟨f0, f1, f2, f3, f4⟩ := cells5_at hcs
        obtain ⟨g0, g1, g2, g3, g4⟩ := cells5_at hds'
        obtain ⟨x0, x1, x2, x3, x4⟩ := hX.c5
        obtain ⟨y0, y1, y2, y3, y4⟩ := hY.c5
        clear hx hy2 hu hv hcs hds hds' hbel HQ hbx hX hY
        generalize (Fo.sameX false) u v = q at *
        go_wp2_with fail
        refine C.out.mono ?_
        rintro e w1 ⟨rfl, hb1⟩
        have HB1 := Lib.hid (HB2.out.trans (hb1.mono HB2.out.size))
        clear hb1 C f0 f1 f2 f3 f4 g0 g1 g2 g3 g4 x0 x1 x2 x3 x4 y0 y1 y2 y3 y4
        cases q
        · go_wp2_with fail
          go_ret
          exact ⟨ret_bool (by rw [HS.out]; rfl), HB1.out⟩
        · go_wp2_with fail
          go_roundw
          case rel => exact ⟨k + 1, by omega, by go_num, HS.out, HB1.out⟩
          case measure => simp [intOf]; omega
      · have z1 : (m : Int) ≤ k := by omega
        have hq := HQ.out
        rw [List.drop_eq_nil_of_le (by omega), List.drop_eq_nil_of_le (by omega), sameBy] at hq
        have HQ2 := Lib.hid hq
        clear hq hbel
        go_wp2_with fail
        go_ret
        exact ⟨ret_bool (by rw [HQ2.out]), HBL.out⟩
  · have e0 : ((m : Int) != (l : Int)) = true := by simp; omega
    have HQ2 := Lib.hid (show sameBy (Fo.sameX false) xs ys = false from sameBy_len (by omega))
    clear h1 h2 hml
    go_enter Tryz.func57, Tryz.ntmps57
    go_wp2_with fail
    go_ret
    exact ⟨ret_bool (by rw [HQ2.out]), Below.refl _ _⟩
set_option maxRecDepth 100000 in
set_option maxHeartbeats 8000000 in
theorem sameSig_any (a b : Sg) (us vs : List Value) (w : World) (h1 : a.dat.H w us) (h2 : b.dat.H w vs) : Calls Tryz.prog 15 #[.agg us.toArray, .agg vs.toArray] w (EqvPost w (Sg.sameX false a b)) := by
  have h := TwoD.new h1 h2 30
  obtain ⟨Fu, nfu, cfu, Pu, npu, cpu, Au, mu, au, rfl, _, hf1, hp1, _, ha1⟩ := sg_open h1
  obtain ⟨Fv, nfv, cfv, Pv, npv, cpv, Av, mv, av, rfl, _, hf2, hp2, _, ha2⟩ := sg_open h2
  have H0 := Lib.hid h
  have HZ0 := Lib.hid (Below.refl (((w.alloc (.cells #[.string a.name, .slice Fu nfu cfu, .slice Pu npu cpu, .string a.res.name, .slice Au mu au, .int .i64 a.res.off, .int .i64 a.off] 30)).alloc (.cells #[.string b.name, .slice Fv nfv cfv, .slice Pv npv cpv, .string b.res.name, .slice Av mv av, .int .i64 b.res.off, .int .i64 b.off] 30))).heap.size (((w.alloc (.cells #[.string a.name, .slice Fu nfu cfu, .slice Pu npu cpu, .string a.res.name, .slice Au mu au, .int .i64 a.res.off, .int .i64 a.off] 30)).alloc (.cells #[.string b.name, .slice Fv nfv cfv, .slice Pv npv cpv, .string b.res.name, .slice Av mv av, .int .i64 b.res.off, .int .i64 b.off] 30))))
  have HF1 := Lib.hid (RowH.later hf1 h.bel)
  have HF2 := Lib.hid (RowH.later hf2 h.bel)
  have HP1 := Lib.hid (RowH.later hp1 h.bel)
  have HP2 := Lib.hid (RowH.later hp2 h.bel)
  have HA1 := Lib.hid (Here.later ha1 h.bel)
  have HA2 := Lib.hid (Here.later ha2 h.bel)
  clear h h1 h2 hf1 hf2 hp1 hp2 ha1 ha2
  obtain ⟨q0, hq0⟩ : ∃ q : Bool, bytesEq a.name b.name = q := ⟨_, rfl⟩
  obtain ⟨q1, hq1⟩ : ∃ q : Bool, sameBy (Fo.sameX false) a.fs b.fs = q := ⟨_, rfl⟩
  obtain ⟨q2, hq2⟩ : ∃ q : Bool, sameBy (Fo.sameX false) a.ps b.ps = q := ⟨_, rfl⟩
  obtain ⟨q3, hq3⟩ : ∃ q : Bool, (Ty.cmp a.res b.res == 0) = q := ⟨_, rfl⟩
  have e0 : (a.name.toList == b.name.toList) = q0 := by rw [← hq0, bytesEq, Lib.toList_data, Lib.toList_data]
  have HD := Lib.hid (show Sg.sameX false a b = (q0 && (q1 && (q2 && (q3 )))) by subst_vars; simp [Sg.sameX, Bool.and_assoc])
  have HQ1 := Lib.hid hq1
  have HQ2 := Lib.hid hq2
  have HQ3 := Lib.hid hq3
  clear hq0 hq1 hq2 hq3
  obtain ⟨x0, x1, x2, x3, x4, x5, x6⟩ := H0.out.one.c7
  obtain ⟨y0, y1, y2, y3, y4, y5, y6⟩ := H0.out.two.c7
  go_enter Tryz.func15, Tryz.ntmps15
  cases q0
  · go_wp2_with fail
    go_ret
    exact ⟨ret_bool (by rw [HD.out]; rfl), H0.out.bel⟩
  · skip
    go_wp2_with fail
    refine (eqFormal_any a.fs b.fs Fu Fv nfu nfv cfu cfv _ (RowH.later HF1.out HZ0.out) (RowH.later HF2.out HZ0.out)).mono ?_
    rintro e w1 ⟨rfl, hb⟩
    rw [HQ1.out]
    have H1 := Lib.hid (H0.out.later hb)
    have HZ1 := Lib.hid (HZ0.out.trans (hb.mono HZ0.out.size))
    clear hb H0 HZ0 x0 x1 x2 x3 x4 x5 x6 y0 y1 y2 y3 y4 y5 y6
    obtain ⟨x0, x1, x2, x3, x4, x5, x6⟩ := H1.out.one.c7
    obtain ⟨y0, y1, y2, y3, y4, y5, y6⟩ := H1.out.two.c7
    cases q1
    · go_wp2_with fail
      go_ret
      exact ⟨ret_bool (by rw [HD.out]; rfl), H1.out.bel⟩
    · skip
      go_wp2_with fail
      refine (eqParam_any a.ps b.ps Pu Pv npu npv cpu cpv _ (RowH.later HP1.out HZ1.out) (RowH.later HP2.out HZ1.out)).mono ?_
      rintro e w2 ⟨rfl, hb⟩
      rw [HQ2.out]
      have H2 := Lib.hid (H1.out.later hb)
      have HZ2 := Lib.hid (HZ1.out.trans (hb.mono HZ1.out.size))
      clear hb H1 HZ1 x0 x1 x2 x3 x4 x5 x6 y0 y1 y2 y3 y4 y5 y6
      obtain ⟨x0, x1, x2, x3, x4, x5, x6⟩ := H2.out.one.c7
      obtain ⟨y0, y1, y2, y3, y4, y5, y6⟩ := H2.out.two.c7
      cases q2
      · go_wp2_with fail
        go_ret
        exact ⟨ret_bool (by rw [HD.out]; rfl), H2.out.bel⟩
      · skip
        go_wp2_with fail
        refine (same_any a.res b.res Au Av mu mv au av _ (Here.later HA1.out HZ2.out) (Here.later HA2.out HZ2.out)).mono ?_
        rintro e w3 ⟨rfl, hb⟩
        rw [HQ3.out]
        have H3 := Lib.hid (H2.out.later hb)
        have HZ3 := Lib.hid (HZ2.out.trans (hb.mono HZ2.out.size))
        clear hb H2 HZ2 x0 x1 x2 x3 x4 x5 x6 y0 y1 y2 y3 y4 y5 y6
        go_wp2_with fail
        go_ret
        exact ⟨ret_bool (by rw [HD.out]; rfl), H3.out.bel⟩
end Go.Proofs.YtaeljknfbanbfaaGreatDoor
namespace Go.Proofs.YtaeljknfbanbfaaGreatDoor
open Go.RowKit

set_option maxRecDepth 100000 in
set_option maxHeartbeats 8000000 in
theorem eqSig_any (xs ys : List Sg) (A B : Option Addr) (m l c d : Nat) (w : World) (h1 : RowH w 7 A m (xs.map Sg.dat)) (h2 : RowH w 7 B l (ys.map Sg.dat)) :
    Calls Tryz.prog 59 #[.slice A m c, .slice B l d, .func (.func 15) #[] #[]] w (EqvPost w (sameBy (Sg.sameX false) xs ys)) := by
  have hm : (m : Int) ≤ 9223372036854775807 := by have := h1.le; omega
  have hl : (l : Int) ≤ 9223372036854775807 := by have := h2.le; omega
  have hxl := h1.len
  have hyl := h2.len
  rw [List.length_map] at hxl hyl
  have H1 := Lib.hid h1
  have H2 := Lib.hid h2
  by_cases hml : m = l
  · subst hml
    have e0 : ((m : Int) != (m : Int)) = false := by simp
    clear h1 h2
    go_enter Tryz.func59, Tryz.ntmps59
    go_wp2_with fail
    go_loopw [17] (fun i wr => ∃ k : Nat, k ≤ m ∧ i = .int .i64 k ∧ sameBy (Sg.sameX false) xs ys = sameBy (Sg.sameX false) (xs.drop k) (ys.drop k) ∧ Below w.heap.size w wr) (fun i _ => m - (intOf i).toNat)
    case atStart => exact ⟨0, by omega, rfl, rfl, Below.refl _ _⟩
    case round =>
      obtain ⟨k, hk, rfl, hc, hbel⟩ := hrel
      have HBL := Lib.hid hbel
      have HQ := Lib.hid hc
      clear hc
      have z0 : (0 : Int) ≤ k := by omega
      by_cases hlt1 : k < m
      · have z1 : (k : Int) < m := by omega
        obtain ⟨pu, u, ps, rfl, hx, _, _, hu, hcs⟩ := dat_at (RowH.later H1.out hbel) hlt1
        obtain ⟨pv, v, qs, rfl, hy2, _, _, hv, hds⟩ := dat_at (RowH.later H2.out hbel) hlt1
        obtain ⟨hbx, hX, hY⟩ := Boxd.pair wr ps.toArray qs.toArray 30
        have C := Lib.hid (sameSig_any u v ps qs _ (Dat.H.later hu hbx) (Dat.H.later hv hbx))
        have HB2 := Lib.hid (HBL.out.trans (hbx.mono HBL.out.size))
        have HS := Lib.hid (HQ.out.trans (sameBy_on hx hy2))
        have hds' := hds.alloc (.cells ps.toArray 30)
        obtain ⟨Fu, nfu, cfu, Pu, npu, cpu, Au, mu, au, rfl, _⟩ := sg_open hu
        obtain ⟨Fv, nfv, cfv, Pv, npv, cpv, Av, mv, av, rfl, _⟩ := sg_open hv
        obtain ⟨f0, f1, f2, f3, f4, f5, f6⟩ := cells7_at hcs
        obtain ⟨g0, g1, g2, g3, g4, g5, g6⟩ := cells7_at hds'
        obtain ⟨x0, x1, x2, x3, x4, x5, x6⟩ := hX.c7
        obtain ⟨y0, y1, y2, y3, y4, y5, y6⟩ := hY.c7
        clear hx hy2 hu hv hcs hds hds' hbel HQ hbx hX hY
        generalize (Sg.sameX false) u v = q at *
        go_wp2_with fail
        refine C.out.mono ?_
        rintro e w1 ⟨rfl, hb1⟩
        have HB1 := Lib.hid (HB2.out.trans (hb1.mono HB2.out.size))
        clear hb1 C f0 f1 f2 f3 f4 f5 f6 g0 g1 g2 g3 g4 g5 g6 x0 x1 x2 x3 x4 x5 x6 y0 y1 y2 y3 y4 y5 y6
        cases q
        · go_wp2_with fail
          go_ret
          exact ⟨ret_bool (by rw [HS.out]; rfl), HB1.out⟩
        · go_wp2_with fail
          go_roundw
          case rel => exact ⟨k + 1, by omega, by go_num, HS.out, HB1.out⟩
          case measure => simp [intOf]; omega
      · have z1 : (m : Int) ≤ k := by omega
        have hq := HQ.out
        rw [List.drop_eq_nil_of_le (by omega), List.drop_eq_nil_of_le (by omega), sameBy] at hq
        have HQ2 := Lib.hid hq
        clear hq hbel
        go_wp2_with fail
        go_ret
        exact ⟨ret_bool (by rw [HQ2.out]), HBL.out⟩
  · have e0 : ((m : Int) != (l : Int)) = true := by simp; omega
    have HQ2 := Lib.hid (show sameBy (Sg.sameX false) xs ys = false from sameBy_len (by omega))
    clear h1 h2 hml
    go_enter Tryz.func59, Tryz.ntmps59
    go_wp2_with fail
    go_ret
    exact ⟨ret_bool (by rw [HQ2.out]), Below.refl _ _⟩
set_option maxRecDepth 100000 in
set_option maxHeartbeats 8000000 in
theorem eqStrs_any (xs ys : List ByteArray) (A B : Option Addr) (m l c d : Nat) (w : World) (h1 : RowH w 1 A m (xs.map Dat.str)) (h2 : RowH w 1 B l (ys.map Dat.str)) :
    Calls Tryz.prog 60 #[.slice A m c, .slice B l d] w (EqvPost w (sameBy bytesEq xs ys)) := by
  have hm : (m : Int) ≤ 9223372036854775807 := by have := h1.le; omega
  have hl : (l : Int) ≤ 9223372036854775807 := by have := h2.le; omega
  have hxl := h1.len
  have hyl := h2.len
  rw [List.length_map] at hxl hyl
  have H1 := Lib.hid h1
  have H2 := Lib.hid h2
  by_cases hml : m = l
  · subst hml
    have e0 : ((m : Int) != (m : Int)) = false := by simp
    clear h1 h2
    go_enter Tryz.func60, Tryz.ntmps60
    go_wp2_with fail
    go_loopw [13] (fun i wr => ∃ k : Nat, k ≤ m ∧ i = .int .i64 k ∧ sameBy bytesEq xs ys = sameBy bytesEq (xs.drop k) (ys.drop k) ∧ Below w.heap.size w wr) (fun i _ => m - (intOf i).toNat)
    case atStart => exact ⟨0, by omega, rfl, rfl, Below.refl _ _⟩
    case round =>
      obtain ⟨k, hk, rfl, hc, hbel⟩ := hrel
      have HBL := Lib.hid hbel
      have HQ := Lib.hid hc
      clear hc
      have z0 : (0 : Int) ≤ k := by omega
      by_cases hlt1 : k < m
      · have z1 : (k : Int) < m := by omega
        obtain ⟨pu, u, ps, rfl, hx, _, _, hu, hcs⟩ := dat_at (RowH.later H1.out hbel) hlt1
        obtain ⟨pv, v, qs, rfl, hy2, _, _, hv, hds⟩ := dat_at (RowH.later H2.out hbel) hlt1
        rw [Dat.In] at hu hv
        obtain ⟨rfl, _⟩ := hu
        obtain ⟨rfl, _⟩ := hv
        have HS := Lib.hid (HQ.out.trans (sameBy_on hx hy2))
        have f0 := hcs 0 _ rfl
        have g0 := hds 0 _ rfl
        rw [add_add, Nat.mul_one, Nat.add_zero] at f0 g0
        obtain ⟨q, hq⟩ : ∃ q : Bool, bytesEq u v = q := ⟨_, rfl⟩
        have e1 : (u.toList == v.toList) = q := by rw [← hq, bytesEq, Lib.toList_data, Lib.toList_data]
        have e2 : (u.toList != v.toList) = !q := by rw [← e1]; rfl
        have HQ2 := Lib.hid hq
        clear hx hy2 hcs hds hbel HQ hq
        cases q
        · rw [Bool.not_false] at e2
          have HC := Lib.hid (HS.out.trans (by rw [HQ2.out]; rfl : _ = false))
          go_wp2_with fail
          go_quiet (fail)
          go_wp2_with fail
          go_ret
          exact ⟨ret_bool (by rw [HC.out]), below_drewN HBL.out _⟩
        · rw [Bool.not_true] at e2
          have HC := Lib.hid (HS.out.trans (by rw [HQ2.out, Bool.true_and] : _ = sameBy bytesEq (xs.drop (k + 1)) (ys.drop (k + 1))))
          go_wp2_with fail
          go_quiet (fail)
          go_wp2_with fail
          go_roundw
          case rel => exact ⟨k + 1, by omega, by go_num, HC.out, below_drewN HBL.out _⟩
          case measure => simp [intOf]; omega
      · have z1 : (m : Int) ≤ k := by omega
        have hq := HQ.out
        rw [List.drop_eq_nil_of_le (by omega), List.drop_eq_nil_of_le (by omega), sameBy] at hq
        have HQ2 := Lib.hid hq
        clear hq hbel
        go_wp2_with fail
        go_ret
        exact ⟨ret_bool (by rw [HQ2.out]), HBL.out⟩
  · have e0 : ((m : Int) != (l : Int)) = true := by simp; omega
    have HQ2 := Lib.hid (show sameBy bytesEq xs ys = false from sameBy_len (by omega))
    clear h1 h2 hml
    go_enter Tryz.func60, Tryz.ntmps60
    go_wp2_with fail
    go_ret
    exact ⟨ret_bool (by rw [HQ2.out]), Below.refl _ _⟩
end Go.Proofs.YtaeljknfbanbfaaGreatDoor
namespace Go.Proofs.YtaeljknfbanbfaaGreatDoor
open Go.RowKit

set_option maxRecDepth 100000 in
set_option maxHeartbeats 8000000 in
theorem sameDecl_any (a b : Dc) (us vs : List Value) (w : World) (h1 : a.dat.H w us) (h2 : b.dat.H w vs) : Calls Tryz.prog 13 #[.agg us.toArray, .agg vs.toArray] w (EqvPost w (Dc.sameX false a b)) := by
  have h := TwoD.new h1 h2 35
  obtain ⟨Fu, nfu, cfu, Pu, npu, cpu, Gu, ngu, cgu, Vu, nvu, cvu, F2u, nf2u, cf2u, P2u, np2u, cp2u, A2u, m2u, a2u, A3u, m3u, a3u, B3u, l3u, b3u, C3u, n3u, c3u, rfl, _, hf1, hp1, hg1, _, hv1, hs1, hb1⟩ := dc_full h1
  obtain ⟨Fv, nfv, cfv, Pv, npv, cpv, Gv, ngv, cgv, Vv, nvv, cvv, F2v, nf2v, cf2v, P2v, np2v, cp2v, A2v, m2v, a2v, A3v, m3v, a3v, B3v, l3v, b3v, C3v, n3v, c3v, rfl, _, hf2, hp2, hg2, _, hv2, hs2, hb2⟩ := dc_full h2
  have H0 := Lib.hid h
  have HZ0 := Lib.hid (Below.refl (((w.alloc (.cells #[.int .i64 a.kind, .string a.name, .slice Fu nfu cfu, .slice Pu npu cpu, .slice Gu ngu cgu, .string a.recv, .slice Vu nvu cvu, .string a.sig.name, .slice F2u nf2u cf2u, .slice P2u np2u cp2u, .string a.sig.res.name, .slice A2u m2u a2u, .int .i64 a.sig.res.off, .int .i64 a.sig.off, .int .i64 a.body.kind, .string a.body.name, .string a.body.ty.name, .slice A3u m3u a3u, .int .i64 a.body.ty.off, .slice B3u l3u b3u, .slice C3u n3u c3u, .int .i64 a.body.off, .int .i64 a.off] 35)).alloc (.cells #[.int .i64 b.kind, .string b.name, .slice Fv nfv cfv, .slice Pv npv cpv, .slice Gv ngv cgv, .string b.recv, .slice Vv nvv cvv, .string b.sig.name, .slice F2v nf2v cf2v, .slice P2v np2v cp2v, .string b.sig.res.name, .slice A2v m2v a2v, .int .i64 b.sig.res.off, .int .i64 b.sig.off, .int .i64 b.body.kind, .string b.body.name, .string b.body.ty.name, .slice A3v m3v a3v, .int .i64 b.body.ty.off, .slice B3v l3v b3v, .slice C3v n3v c3v, .int .i64 b.body.off, .int .i64 b.off] 35))).heap.size (((w.alloc (.cells #[.int .i64 a.kind, .string a.name, .slice Fu nfu cfu, .slice Pu npu cpu, .slice Gu ngu cgu, .string a.recv, .slice Vu nvu cvu, .string a.sig.name, .slice F2u nf2u cf2u, .slice P2u np2u cp2u, .string a.sig.res.name, .slice A2u m2u a2u, .int .i64 a.sig.res.off, .int .i64 a.sig.off, .int .i64 a.body.kind, .string a.body.name, .string a.body.ty.name, .slice A3u m3u a3u, .int .i64 a.body.ty.off, .slice B3u l3u b3u, .slice C3u n3u c3u, .int .i64 a.body.off, .int .i64 a.off] 35)).alloc (.cells #[.int .i64 b.kind, .string b.name, .slice Fv nfv cfv, .slice Pv npv cpv, .slice Gv ngv cgv, .string b.recv, .slice Vv nvv cvv, .string b.sig.name, .slice F2v nf2v cf2v, .slice P2v np2v cp2v, .string b.sig.res.name, .slice A2v m2v a2v, .int .i64 b.sig.res.off, .int .i64 b.sig.off, .int .i64 b.body.kind, .string b.body.name, .string b.body.ty.name, .slice A3v m3v a3v, .int .i64 b.body.ty.off, .slice B3v l3v b3v, .slice C3v n3v c3v, .int .i64 b.body.off, .int .i64 b.off] 35))))
  have HF1 := Lib.hid (RowH.later hf1 h.bel)
  have HF2 := Lib.hid (RowH.later hf2 h.bel)
  have HP1 := Lib.hid (RowH.later hp1 h.bel)
  have HP2 := Lib.hid (RowH.later hp2 h.bel)
  have HG1 := Lib.hid (RowH.later hg1 h.bel)
  have HG2 := Lib.hid (RowH.later hg2 h.bel)
  have HV1 := Lib.hid (RowH.later hv1 h.bel)
  have HV2 := Lib.hid (RowH.later hv2 h.bel)
  have HS1 := Lib.hid (Dat.H.later hs1 h.bel)
  have HS2 := Lib.hid (Dat.H.later hs2 h.bel)
  have HB1 := Lib.hid (Dat.H.later hb1 h.bel)
  have HB2 := Lib.hid (Dat.H.later hb2 h.bel)
  clear h h1 h2 hf1 hf2 hp1 hp2 hg1 hg2 hv1 hv2 hs1 hs2 hb1 hb2
  obtain ⟨q0, hq0⟩ : ∃ q : Bool, (a.kind == b.kind) = q := ⟨_, rfl⟩
  obtain ⟨q1, hq1⟩ : ∃ q : Bool, bytesEq a.name b.name = q := ⟨_, rfl⟩
  obtain ⟨q2, hq2⟩ : ∃ q : Bool, bytesEq a.recv b.recv = q := ⟨_, rfl⟩
  obtain ⟨q3, hq3⟩ : ∃ q : Bool, sameBy (Fo.sameX false) a.fs b.fs = q := ⟨_, rfl⟩
  obtain ⟨q4, hq4⟩ : ∃ q : Bool, sameBy (Fo.sameX false) a.ms b.ms = q := ⟨_, rfl⟩
  obtain ⟨q5, hq5⟩ : ∃ q : Bool, sameBy (Sg.sameX false) a.gs b.gs = q := ⟨_, rfl⟩
  obtain ⟨q6, hq6⟩ : ∃ q : Bool, sameBy bytesEq a.vs b.vs = q := ⟨_, rfl⟩
  obtain ⟨q7, hq7⟩ : ∃ q : Bool, Sg.sameX false a.sig b.sig = q := ⟨_, rfl⟩
  obtain ⟨q8, hq8⟩ : ∃ q : Bool, a.body.same b.body = q := ⟨_, rfl⟩
  have e0 : (a.kind == b.kind) = q0 := by exact hq0
  have e1 : (a.name.toList == b.name.toList) = q1 := by rw [← hq1, bytesEq, Lib.toList_data, Lib.toList_data]
  have e2 : (a.recv.toList == b.recv.toList) = q2 := by rw [← hq2, bytesEq, Lib.toList_data, Lib.toList_data]
  have HD := Lib.hid (show Dc.sameX false a b = (q0 && (q1 && (q2 && (q3 && (q4 && (q5 && (q6 && (q7 && (q8 ))))))))) by subst_vars; simp [Dc.sameX, Bool.and_assoc])
  have HQ3 := Lib.hid hq3
  have HQ4 := Lib.hid hq4
  have HQ5 := Lib.hid hq5
  have HQ6 := Lib.hid hq6
  have HQ7 := Lib.hid hq7
  have HQ8 := Lib.hid hq8
  clear hq0 hq1 hq2 hq3 hq4 hq5 hq6 hq7 hq8
  have x0 := H0.out.one 0 _ rfl
  have x1 := H0.out.one 1 _ rfl
  have x2 := H0.out.one 2 _ rfl
  have x5 := H0.out.one 5 _ rfl
  have y0 := H0.out.two 0 _ rfl
  have y1 := H0.out.two 1 _ rfl
  have y2 := H0.out.two 2 _ rfl
  have y5 := H0.out.two 5 _ rfl
  go_enter Tryz.func13, Tryz.ntmps13
  cases q0
  · go_wp2_with fail
    go_ret
    exact ⟨ret_bool (by rw [HD.out]; rfl), H0.out.bel⟩
  · skip
    cases q1
    · go_wp2_with fail
      go_ret
      exact ⟨ret_bool (by rw [HD.out]; rfl), H0.out.bel⟩
    · skip
      cases q2
      · go_wp2_with fail
        go_ret
        exact ⟨ret_bool (by rw [HD.out]; rfl), H0.out.bel⟩
      · skip
        go_wp2_with fail
        refine (eqFormal_any a.fs b.fs Fu Fv nfu nfv cfu cfv _ (RowH.later HF1.out HZ0.out) (RowH.later HF2.out HZ0.out)).mono ?_
        rintro e w1 ⟨rfl, hb⟩
        rw [HQ3.out]
        have H1 := Lib.hid (H0.out.later hb)
        have HZ1 := Lib.hid (HZ0.out.trans (hb.mono HZ0.out.size))
        clear hb H0 HZ0 x0 x1 x2 x5 y0 y1 y2 y5
        have x3 := H1.out.one 3 _ rfl
        have y3 := H1.out.two 3 _ rfl
        cases q3
        · go_wp2_with fail
          go_ret
          exact ⟨ret_bool (by rw [HD.out]; rfl), H1.out.bel⟩
        · skip
          go_wp2_with fail
          refine (eqParam_any a.ms b.ms Pu Pv npu npv cpu cpv _ (RowH.later HP1.out HZ1.out) (RowH.later HP2.out HZ1.out)).mono ?_
          rintro e w2 ⟨rfl, hb⟩
          rw [HQ4.out]
          have H2 := Lib.hid (H1.out.later hb)
          have HZ2 := Lib.hid (HZ1.out.trans (hb.mono HZ1.out.size))
          clear hb H1 HZ1 x3 y3
          have x4 := H2.out.one 4 _ rfl
          have y4 := H2.out.two 4 _ rfl
          cases q4
          · go_wp2_with fail
            go_ret
            exact ⟨ret_bool (by rw [HD.out]; rfl), H2.out.bel⟩
          · skip
            go_wp2_with fail
            refine (eqSig_any a.gs b.gs Gu Gv ngu ngv cgu cgv _ (RowH.later HG1.out HZ2.out) (RowH.later HG2.out HZ2.out)).mono ?_
            rintro e w3 ⟨rfl, hb⟩
            rw [HQ5.out]
            have H3 := Lib.hid (H2.out.later hb)
            have HZ3 := Lib.hid (HZ2.out.trans (hb.mono HZ2.out.size))
            clear hb H2 HZ2 x4 y4
            have x6 := H3.out.one 6 _ rfl
            have y6 := H3.out.two 6 _ rfl
            cases q5
            · go_wp2_with fail
              go_ret
              exact ⟨ret_bool (by rw [HD.out]; rfl), H3.out.bel⟩
            · skip
              go_wp2_with fail
              refine (eqStrs_any a.vs b.vs Vu Vv nvu nvv cvu cvv _ (RowH.later HV1.out HZ3.out) (RowH.later HV2.out HZ3.out)).mono ?_
              rintro e w4 ⟨rfl, hb⟩
              rw [HQ6.out]
              have H4 := Lib.hid (H3.out.later hb)
              have HZ4 := Lib.hid (HZ3.out.trans (hb.mono HZ3.out.size))
              clear hb H3 HZ3 x6 y6
              have x7 := H4.out.one 7 _ rfl
              have x8 := H4.out.one 8 _ rfl
              have x9 := H4.out.one 9 _ rfl
              have x10 := H4.out.one 10 _ rfl
              have x11 := H4.out.one 11 _ rfl
              have x12 := H4.out.one 12 _ rfl
              have x13 := H4.out.one 13 _ rfl
              have y7 := H4.out.two 7 _ rfl
              have y8 := H4.out.two 8 _ rfl
              have y9 := H4.out.two 9 _ rfl
              have y10 := H4.out.two 10 _ rfl
              have y11 := H4.out.two 11 _ rfl
              have y12 := H4.out.two 12 _ rfl
              have y13 := H4.out.two 13 _ rfl
              cases q6
              · go_wp2_with fail
                go_ret
                exact ⟨ret_bool (by rw [HD.out]; rfl), H4.out.bel⟩
              · skip
                go_wp2_with fail
                refine (sameSig_any a.sig b.sig _ _ _ (Dat.H.later HS1.out HZ4.out) (Dat.H.later HS2.out HZ4.out)).mono ?_
                rintro e w5 ⟨rfl, hb⟩
                rw [HQ7.out]
                have H5 := Lib.hid (H4.out.later hb)
                have HZ5 := Lib.hid (HZ4.out.trans (hb.mono HZ4.out.size))
                clear hb H4 HZ4 x7 x8 x9 x10 x11 x12 x13 y7 y8 y9 y10 y11 y12 y13
                have x14 := H5.out.one 14 _ rfl
                have x15 := H5.out.one 15 _ rfl
                have x16 := H5.out.one 16 _ rfl
                have x17 := H5.out.one 17 _ rfl
                have x18 := H5.out.one 18 _ rfl
                have x19 := H5.out.one 19 _ rfl
                have x20 := H5.out.one 20 _ rfl
                have x21 := H5.out.one 21 _ rfl
                have y14 := H5.out.two 14 _ rfl
                have y15 := H5.out.two 15 _ rfl
                have y16 := H5.out.two 16 _ rfl
                have y17 := H5.out.two 17 _ rfl
                have y18 := H5.out.two 18 _ rfl
                have y19 := H5.out.two 19 _ rfl
                have y20 := H5.out.two 20 _ rfl
                have y21 := H5.out.two 21 _ rfl
                cases q7
                · go_wp2_with fail
                  go_ret
                  exact ⟨ret_bool (by rw [HD.out]; rfl), H5.out.bel⟩
                · skip
                  go_wp2_with fail
                  refine (xsame_any a.body b.body _ _ _ (Dat.H.later HB1.out HZ5.out) (Dat.H.later HB2.out HZ5.out)).mono ?_
                  rintro e w6 ⟨rfl, hb⟩
                  rw [HQ8.out]
                  have H6 := Lib.hid (H5.out.later hb)
                  have HZ6 := Lib.hid (HZ5.out.trans (hb.mono HZ5.out.size))
                  clear hb H5 HZ5 x14 x15 x16 x17 x18 x19 x20 x21 y14 y15 y16 y17 y18 y19 y20 y21
                  go_wp2_with fail
                  go_ret
                  exact ⟨ret_bool (by rw [HD.out]; rfl), H6.out.bel⟩
end Go.Proofs.YtaeljknfbanbfaaGreatDoor
