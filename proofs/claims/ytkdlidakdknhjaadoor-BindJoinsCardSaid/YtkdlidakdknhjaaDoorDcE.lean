/- Structs of five, seven, nine and twenty-three cells in memory; two boxed data. No condition.
The walks of decl.SameSig and of what it calls. No condition.
The walks of decl.SameDecl, decl.Same and of what they call. No condition.
The walk of decl.SameDecl. No condition. -/
import Derived.Test.YtkdlidakdknhjaaDoorDcW
import Derived.Test.YtkdlidakdknhjaaDoorEkA
namespace Go.Proofs.YtkdlidakdknhjaaDoor
open Go.RowKit

theorem cells5_at {w : World} {p : Addr} {u0 u1 u2 u3 u4 : Value} (h : CellsAt w p [u0, u1, u2, u3, u4]) : w.cell? p = some u0 ∧ w.cell? ⟨p.block, p.off + 1, none⟩ = some u1 ∧ w.cell? ⟨p.block, p.off + 2, none⟩ = some u2 ∧ w.cell? ⟨p.block, p.off + 3, none⟩ = some u3 ∧ w.cell? ⟨p.block, p.off + 4, none⟩ = some u4 :=
  ⟨h 0 _ rfl, h 1 _ rfl, h 2 _ rfl, h 3 _ rfl, h 4 _ rfl⟩
theorem Boxd.c5 {W : World} {b : Nat} {u0 u1 u2 u3 u4 : Value} (h : Boxd W b [u0, u1, u2, u3, u4]) : W.cell? ⟨b, 0, none⟩ = some u0 ∧ W.cell? ⟨b, 1, none⟩ = some u1 ∧ W.cell? ⟨b, 2, none⟩ = some u2 ∧ W.cell? ⟨b, 3, none⟩ = some u3 ∧ W.cell? ⟨b, 4, none⟩ = some u4 :=
  ⟨h 0 _ rfl, h 1 _ rfl, h 2 _ rfl, h 3 _ rfl, h 4 _ rfl⟩
theorem cells7_at {w : World} {p : Addr} {u0 u1 u2 u3 u4 u5 u6 : Value} (h : CellsAt w p [u0, u1, u2, u3, u4, u5, u6]) : w.cell? p = some u0 ∧ w.cell? ⟨p.block, p.off + 1, none⟩ = some u1 ∧ w.cell? ⟨p.block, p.off + 2, none⟩ = some u2 ∧ w.cell? ⟨p.block, p.off + 3, none⟩ = some u3 ∧ w.cell? ⟨p.block, p.off + 4, none⟩ = some u4 ∧ w.cell? ⟨p.block, p.off + 5, none⟩ = some u5 ∧ w.cell? ⟨p.block, p.off + 6, none⟩ = some u6 :=
  ⟨h 0 _ rfl, h 1 _ rfl, h 2 _ rfl, h 3 _ rfl, h 4 _ rfl, h 5 _ rfl, h 6 _ rfl⟩
theorem Boxd.c7 {W : World} {b : Nat} {u0 u1 u2 u3 u4 u5 u6 : Value} (h : Boxd W b [u0, u1, u2, u3, u4, u5, u6]) : W.cell? ⟨b, 0, none⟩ = some u0 ∧ W.cell? ⟨b, 1, none⟩ = some u1 ∧ W.cell? ⟨b, 2, none⟩ = some u2 ∧ W.cell? ⟨b, 3, none⟩ = some u3 ∧ W.cell? ⟨b, 4, none⟩ = some u4 ∧ W.cell? ⟨b, 5, none⟩ = some u5 ∧ W.cell? ⟨b, 6, none⟩ = some u6 :=
  ⟨h 0 _ rfl, h 1 _ rfl, h 2 _ rfl, h 3 _ rfl, h 4 _ rfl, h 5 _ rfl, h 6 _ rfl⟩
theorem cells9_at {w : World} {p : Addr} {u0 u1 u2 u3 u4 u5 u6 u7 u8 : Value} (h : CellsAt w p [u0, u1, u2, u3, u4, u5, u6, u7, u8]) : w.cell? p = some u0 ∧ w.cell? ⟨p.block, p.off + 1, none⟩ = some u1 ∧ w.cell? ⟨p.block, p.off + 2, none⟩ = some u2 ∧ w.cell? ⟨p.block, p.off + 3, none⟩ = some u3 ∧ w.cell? ⟨p.block, p.off + 4, none⟩ = some u4 ∧ w.cell? ⟨p.block, p.off + 5, none⟩ = some u5 ∧ w.cell? ⟨p.block, p.off + 6, none⟩ = some u6 ∧ w.cell? ⟨p.block, p.off + 7, none⟩ = some u7 ∧ w.cell? ⟨p.block, p.off + 8, none⟩ = some u8 :=
  ⟨h 0 _ rfl, h 1 _ rfl, h 2 _ rfl, h 3 _ rfl, h 4 _ rfl, h 5 _ rfl, h 6 _ rfl, h 7 _ rfl, h 8 _ rfl⟩
theorem Boxd.c9 {W : World} {b : Nat} {u0 u1 u2 u3 u4 u5 u6 u7 u8 : Value} (h : Boxd W b [u0, u1, u2, u3, u4, u5, u6, u7, u8]) : W.cell? ⟨b, 0, none⟩ = some u0 ∧ W.cell? ⟨b, 1, none⟩ = some u1 ∧ W.cell? ⟨b, 2, none⟩ = some u2 ∧ W.cell? ⟨b, 3, none⟩ = some u3 ∧ W.cell? ⟨b, 4, none⟩ = some u4 ∧ W.cell? ⟨b, 5, none⟩ = some u5 ∧ W.cell? ⟨b, 6, none⟩ = some u6 ∧ W.cell? ⟨b, 7, none⟩ = some u7 ∧ W.cell? ⟨b, 8, none⟩ = some u8 :=
  ⟨h 0 _ rfl, h 1 _ rfl, h 2 _ rfl, h 3 _ rfl, h 4 _ rfl, h 5 _ rfl, h 6 _ rfl, h 7 _ rfl, h 8 _ rfl⟩
theorem cells23_at {w : World} {p : Addr} {u0 u1 u2 u3 u4 u5 u6 u7 u8 u9 u10 u11 u12 u13 u14 u15 u16 u17 u18 u19 u20 u21 u22 : Value} (h : CellsAt w p [u0, u1, u2, u3, u4, u5, u6, u7, u8, u9, u10, u11, u12, u13, u14, u15, u16, u17, u18, u19, u20, u21, u22]) : w.cell? p = some u0 ∧ w.cell? ⟨p.block, p.off + 1, none⟩ = some u1 ∧ w.cell? ⟨p.block, p.off + 2, none⟩ = some u2 ∧ w.cell? ⟨p.block, p.off + 3, none⟩ = some u3 ∧ w.cell? ⟨p.block, p.off + 4, none⟩ = some u4 ∧ w.cell? ⟨p.block, p.off + 5, none⟩ = some u5 ∧ w.cell? ⟨p.block, p.off + 6, none⟩ = some u6 ∧ w.cell? ⟨p.block, p.off + 7, none⟩ = some u7 ∧ w.cell? ⟨p.block, p.off + 8, none⟩ = some u8 ∧ w.cell? ⟨p.block, p.off + 9, none⟩ = some u9 ∧ w.cell? ⟨p.block, p.off + 10, none⟩ = some u10 ∧ w.cell? ⟨p.block, p.off + 11, none⟩ = some u11 ∧ w.cell? ⟨p.block, p.off + 12, none⟩ = some u12 ∧ w.cell? ⟨p.block, p.off + 13, none⟩ = some u13 ∧ w.cell? ⟨p.block, p.off + 14, none⟩ = some u14 ∧ w.cell? ⟨p.block, p.off + 15, none⟩ = some u15 ∧ w.cell? ⟨p.block, p.off + 16, none⟩ = some u16 ∧ w.cell? ⟨p.block, p.off + 17, none⟩ = some u17 ∧ w.cell? ⟨p.block, p.off + 18, none⟩ = some u18 ∧ w.cell? ⟨p.block, p.off + 19, none⟩ = some u19 ∧ w.cell? ⟨p.block, p.off + 20, none⟩ = some u20 ∧ w.cell? ⟨p.block, p.off + 21, none⟩ = some u21 ∧ w.cell? ⟨p.block, p.off + 22, none⟩ = some u22 :=
  ⟨h 0 _ rfl, h 1 _ rfl, h 2 _ rfl, h 3 _ rfl, h 4 _ rfl, h 5 _ rfl, h 6 _ rfl, h 7 _ rfl, h 8 _ rfl, h 9 _ rfl, h 10 _ rfl, h 11 _ rfl, h 12 _ rfl, h 13 _ rfl, h 14 _ rfl, h 15 _ rfl, h 16 _ rfl, h 17 _ rfl, h 18 _ rfl, h 19 _ rfl, h 20 _ rfl, h 21 _ rfl, h 22 _ rfl⟩
theorem Boxd.c23 {W : World} {b : Nat} {u0 u1 u2 u3 u4 u5 u6 u7 u8 u9 u10 u11 u12 u13 u14 u15 u16 u17 u18 u19 u20 u21 u22 : Value} (h : Boxd W b [u0, u1, u2, u3, u4, u5, u6, u7, u8, u9, u10, u11, u12, u13, u14, u15, u16, u17, u18, u19, u20, u21, u22]) : W.cell? ⟨b, 0, none⟩ = some u0 ∧ W.cell? ⟨b, 1, none⟩ = some u1 ∧ W.cell? ⟨b, 2, none⟩ = some u2 ∧ W.cell? ⟨b, 3, none⟩ = some u3 ∧ W.cell? ⟨b, 4, none⟩ = some u4 ∧ W.cell? ⟨b, 5, none⟩ = some u5 ∧ W.cell? ⟨b, 6, none⟩ = some u6 ∧ W.cell? ⟨b, 7, none⟩ = some u7 ∧ W.cell? ⟨b, 8, none⟩ = some u8 ∧ W.cell? ⟨b, 9, none⟩ = some u9 ∧ W.cell? ⟨b, 10, none⟩ = some u10 ∧ W.cell? ⟨b, 11, none⟩ = some u11 ∧ W.cell? ⟨b, 12, none⟩ = some u12 ∧ W.cell? ⟨b, 13, none⟩ = some u13 ∧ W.cell? ⟨b, 14, none⟩ = some u14 ∧ W.cell? ⟨b, 15, none⟩ = some u15 ∧ W.cell? ⟨b, 16, none⟩ = some u16 ∧ W.cell? ⟨b, 17, none⟩ = some u17 ∧ W.cell? ⟨b, 18, none⟩ = some u18 ∧ W.cell? ⟨b, 19, none⟩ = some u19 ∧ W.cell? ⟨b, 20, none⟩ = some u20 ∧ W.cell? ⟨b, 21, none⟩ = some u21 ∧ W.cell? ⟨b, 22, none⟩ = some u22 :=
  ⟨h 0 _ rfl, h 1 _ rfl, h 2 _ rfl, h 3 _ rfl, h 4 _ rfl, h 5 _ rfl, h 6 _ rfl, h 7 _ rfl, h 8 _ rfl, h 9 _ rfl, h 10 _ rfl, h 11 _ rfl, h 12 _ rfl, h 13 _ rfl, h 14 _ rfl, h 15 _ rfl, h 16 _ rfl, h 17 _ rfl, h 18 _ rfl, h 19 _ rfl, h 20 _ rfl, h 21 _ rfl, h 22 _ rfl⟩

/-- One boxed datum since a world. -/
structure OneD (w0 W : World) (a : Dat) (us : List Value) : Prop where
  bel : Below w0.heap.size w0 W
  one : Boxd W w0.heap.size us
  da : a.H W us
theorem OneD.new {w : World} {a : Dat} {us : List Value} (ha : a.H w us) (T : TypeId) : OneD w (w.alloc (.cells us.toArray T)) a us := by
  have hb : Below w.heap.size w (w.alloc (.cells us.toArray T)) := (Below.refl _ _).alloc (Nat.le_refl _) _
  exact ⟨hb, Boxd.new w us.toArray T, Dat.H.later ha hb⟩
theorem OneD.later {w0 W W' : World} {a : Dat} {us : List Value} (h : OneD w0 W a us) (hb : Below W.heap.size W W') : OneD w0 W' a us := ⟨h.bel.trans (hb.mono h.bel.size), h.one.later hb, Dat.H.later h.da hb⟩
/-- Two boxed data since a world. -/
structure TwoD (w0 W : World) (a b : Dat) (us vs : List Value) : Prop where
  bel : Below w0.heap.size w0 W
  one : Boxd W w0.heap.size us
  two : Boxd W (w0.heap.size + 1) vs
  da : a.H W us
  db : b.H W vs
theorem TwoD.new {w : World} {a b : Dat} {us vs : List Value} (ha : a.H w us) (hb : b.H w vs) (T : TypeId) : TwoD w ((w.alloc (.cells us.toArray T)).alloc (.cells vs.toArray T)) a b us vs := by
  obtain ⟨h1, h2, h3⟩ := Boxd.pair w us.toArray vs.toArray T
  exact ⟨h1, h2, h3, Dat.H.later ha h1, Dat.H.later hb h1⟩
theorem TwoD.later {w0 W W' : World} {a b : Dat} {us vs : List Value} (h : TwoD w0 W a b us vs) (hb : Below W.heap.size W W') : TwoD w0 W' a b us vs :=
  ⟨h.bel.trans (hb.mono h.bel.size), h.one.later hb, h.two.later hb, Dat.H.later h.da hb, Dat.H.later h.db hb⟩
/-- A declaration, all its cells. -/
theorem dc_full {w : World} {N : Prop} {S : Nat → Prop} {d : Dc} {us : List Value} (h : d.dat.In w N S us) : ∃ F nf cf P np cp G ng cg V nv cv F2 nf2 cf2 P2 np2 cp2 A2 m2 a2 A3 m3 a3 B3 l3 b3 C3 n3 c3,
    us = [.int .i64 d.kind, .string d.name, .slice F nf cf, .slice P np cp, .slice G ng cg, .string d.recv, .slice V nv cv, .string d.sig.name, .slice F2 nf2 cf2, .slice P2 np2 cp2, .string d.sig.res.name, .slice A2 m2 a2, .int .i64 d.sig.res.off, .int .i64 d.sig.off,
      .int .i64 d.body.kind, .string d.body.name, .string d.body.ty.name, .slice A3 m3 a3, .int .i64 d.body.ty.off, .slice B3 l3 b3, .slice C3 n3 c3, .int .i64 d.body.off, .int .i64 d.off]
    ∧ d.name.size ≤ 9223372036854775807 ∧ Row w N S 5 F nf (d.fs.map Fo.dat) ∧ Row w N S 5 P np (d.ms.map Fo.dat) ∧ Row w N S 7 G ng (d.gs.map Sg.dat) ∧ d.recv.size ≤ 9223372036854775807 ∧ Row w N S 1 V nv (d.vs.map Dat.str)
    ∧ d.sig.dat.In w N S [.string d.sig.name, .slice F2 nf2 cf2, .slice P2 np2 cp2, .string d.sig.res.name, .slice A2 m2 a2, .int .i64 d.sig.res.off, .int .i64 d.sig.off]
    ∧ d.body.dat.In w N S [.int .i64 d.body.kind, .string d.body.name, .string d.body.ty.name, .slice A3 m3 a3, .int .i64 d.body.ty.off, .slice B3 l3 b3, .slice C3 n3 c3, .int .i64 d.body.off] := by
  obtain ⟨F, nf, cf, P, np, cp, G, ng, cg, V, nv, cv, sv, bv, rfl, h1, h2, h3, h4, h5, h6, h7, h8⟩ := dc_open h
  obtain ⟨F2, nf2, cf2, P2, np2, cp2, A2, m2, a2, rfl, _⟩ := sg_open h7
  obtain ⟨A3, m3, a3, B3, l3, b3, C3, n3, c3, rfl, _⟩ := ex_open h8
  exact ⟨F, nf, cf, P, np, cp, G, ng, cg, V, nv, cv, F2, nf2, cf2, P2, np2, cp2, A2, m2, a2, A3, m3, a3, B3, l3, b3, C3, n3, c3, rfl, h1, h2, h3, h4, h5, h6, h7, h8⟩
/-- A program, all its cells. -/
theorem pg_full {w : World} {N : Prop} {S : Nat → Prop} {p : Pg} {us : List Value} (h : p.dat.In w N S us) : ∃ D n c A3 m3 a3 B3 l3 b3 C3 n3 c3,
    us = [.slice D n c, .int .i64 p.main.kind, .string p.main.name, .string p.main.ty.name, .slice A3 m3 a3, .int .i64 p.main.ty.off, .slice B3 l3 b3, .slice C3 n3 c3, .int .i64 p.main.off]
    ∧ Row w N S 23 D n (p.ds.map Dc.dat) ∧ p.main.dat.In w N S [.int .i64 p.main.kind, .string p.main.name, .string p.main.ty.name, .slice A3 m3 a3, .int .i64 p.main.ty.off, .slice B3 l3 b3, .slice C3 n3 c3, .int .i64 p.main.off] := by
  obtain ⟨D, n, c, bv, rfl, h1, h2⟩ := pg_open h
  obtain ⟨A3, m3, a3, B3, l3, b3, C3, n3, c3, rfl, _⟩ := ex_open h2
  exact ⟨D, n, c, A3, m3, a3, B3, l3, b3, C3, n3, c3, rfl, h1, h2⟩
end Go.Proofs.YtkdlidakdknhjaaDoor
namespace Go.Proofs.YtkdlidakdknhjaaDoor
open Go.RowKit

set_option maxRecDepth 100000 in
set_option maxHeartbeats 8000000 in
theorem sameFormal_any (f g : Fo) (us vs : List Value) (w : World) (h1 : f.dat.H w us) (h2 : g.dat.H w vs) : Calls Tryd.prog 83 #[.agg us.toArray, .agg vs.toArray] w (EqvPost w (Fo.sameX false f g)) := by
  have h := TwoD.new h1 h2 48
  obtain ⟨Au, mu, au, rfl, _, _, ha1⟩ := fo_open h1
  obtain ⟨Av, mv, av, rfl, _, _, ha2⟩ := fo_open h2
  have H0 := Lib.hid h
  have HZ0 := Lib.hid (Below.refl (((w.alloc (.cells #[.string f.name, .string f.ty.name, .slice Au mu au, .int .i64 f.ty.off, .int .i64 f.off] 48)).alloc (.cells #[.string g.name, .string g.ty.name, .slice Av mv av, .int .i64 g.ty.off, .int .i64 g.off] 48))).heap.size (((w.alloc (.cells #[.string f.name, .string f.ty.name, .slice Au mu au, .int .i64 f.ty.off, .int .i64 f.off] 48)).alloc (.cells #[.string g.name, .string g.ty.name, .slice Av mv av, .int .i64 g.ty.off, .int .i64 g.off] 48))))
  have HA := Lib.hid (Here.later ha1 h.bel)
  have HB := Lib.hid (Here.later ha2 h.bel)
  clear h h1 h2 ha1 ha2
  obtain ⟨q0, hq0⟩ : ∃ q : Bool, bytesEq f.name g.name = q := ⟨_, rfl⟩
  obtain ⟨q1, hq1⟩ : ∃ q : Bool, (Ty.cmp f.ty g.ty == 0) = q := ⟨_, rfl⟩
  have e0 : (f.name.toList == g.name.toList) = q0 := by rw [← hq0, bytesEq, Lib.toList_data, Lib.toList_data]
  have HD := Lib.hid (show Fo.sameX false f g = (q0 && (q1 )) by subst_vars; simp [Fo.sameX])
  have HQ1 := Lib.hid hq1
  clear hq0 hq1
  obtain ⟨x0, x1, x2, x3, x4⟩ := H0.out.one.c5
  obtain ⟨y0, y1, y2, y3, y4⟩ := H0.out.two.c5
  go_enter Tryd.func83, Tryd.ntmps83
  cases q0
  · go_wp2_with fail
    go_ret
    exact ⟨ret_bool (by rw [HD.out]; rfl), H0.out.bel⟩
  · skip
    go_wp2_with fail
    refine (same_any f.ty g.ty Au Av mu mv au av _ (Here.later HA.out HZ0.out) (Here.later HB.out HZ0.out)).mono ?_
    rintro e w1 ⟨rfl, hb⟩
    rw [HQ1.out]
    have H1 := Lib.hid (H0.out.later hb)
    have HZ1 := Lib.hid (HZ0.out.trans (hb.mono HZ0.out.size))
    clear hb H0 HZ0 x0 x1 x2 x3 x4 y0 y1 y2 y3 y4
    go_wp2_with fail
    go_ret
    exact ⟨ret_bool (by rw [HD.out]; rfl), H1.out.bel⟩
set_option maxRecDepth 100000 in
set_option maxHeartbeats 8000000 in
theorem eqFormal_any (xs ys : List Fo) (A B : Option Addr) (m l c d : Nat) (w : World) (h1 : RowH w 5 A m (xs.map Fo.dat)) (h2 : RowH w 5 B l (ys.map Fo.dat)) :
    Calls Tryd.prog 82 #[.slice A m c, .slice B l d, .func (.func 83) #[] #[]] w (EqvPost w (sameBy (Fo.sameX false) xs ys)) := by
  have hm : (m : Int) ≤ 9223372036854775807 := by have := h1.le; omega
  have hl : (l : Int) ≤ 9223372036854775807 := by have := h2.le; omega
  have hxl := h1.len
  have hyl := h2.len
  rw [List.length_map] at hxl hyl
  have H1 := Lib.hid h1
  have H2 := Lib.hid h2
  by_cases hml : m = l
  · subst hml
    have e0 : ((m : Int) != (m : Int)) = false := by simp
    clear h1 h2
    go_enter Tryd.func82, Tryd.ntmps82
    go_wp2_with fail
    go_loopw [17] (fun i wr => ∃ k : Nat, k ≤ m ∧ i = .int .i64 k ∧ sameBy (Fo.sameX false) xs ys = sameBy (Fo.sameX false) (xs.drop k) (ys.drop k) ∧ Below w.heap.size w wr) (fun i _ => m - (intOf i).toNat)
    case atStart => exact ⟨0, by omega, rfl, rfl, Below.refl _ _⟩
    case round =>
      obtain ⟨k, hk, rfl, hc, hbel⟩ := hrel
      have HBL := Lib.hid hbel
      have HQ := Lib.hid hc
      clear hc
      have z0 : (0 : Int) ≤ k := by omega
      by_cases hlt1 : k < m
      · have z1 : (k : Int) < m := by omega
        obtain ⟨pu, u, ps, rfl, hx, _, _, hu, hcs⟩ := dat_at (RowH.later H1.out hbel) hlt1
        obtain ⟨pv, v, qs, rfl, hy2, _, _, hv, hds⟩ := dat_at (RowH.later H2.out hbel) hlt1
        obtain ⟨hbx, hX, hY⟩ := Boxd.pair wr ps.toArray qs.toArray 48
        have C := Lib.hid (sameFormal_any u v ps qs _ (Dat.H.later hu hbx) (Dat.H.later hv hbx))
        have HB2 := Lib.hid (HBL.out.trans (hbx.mono HBL.out.size))
        have HS := Lib.hid (HQ.out.trans (sameBy_on hx hy2))
        have hds' := hds.alloc (.cells ps.toArray 48)
        obtain ⟨Au, mu, au, rfl, _⟩ := fo_open hu
        obtain ⟨Av, mv, av, rfl, _⟩ := fo_open hv
        obtain ⟨f0, f1, f2, f3, f4⟩ := cells5_at hcs
        obtain ⟨g0, g1, g2, g3, g4⟩ := cells5_at hds'
        obtain ⟨x0, x1, x2, x3, x4⟩ := hX.c5
        obtain ⟨y0, y1, y2, y3, y4⟩ := hY.c5
        clear hx hy2 hu hv hcs hds hds' hbel HQ hbx hX hY
        generalize (Fo.sameX false) u v = q at *
        go_wp2_with fail
        refine C.out.mono ?_
        rintro e w1 ⟨rfl, hb1⟩
        have HB1 := Lib.hid (HB2.out.trans (hb1.mono HB2.out.size))
        clear hb1 C f0 f1 f2 f3 f4 g0 g1 g2 g3 g4 x0 x1 x2 x3 x4 y0 y1 y2 y3 y4
        cases q
        · go_wp2_with fail
          go_ret
          exact ⟨ret_bool (by rw [HS.out]; rfl), HB1.out⟩
        · go_wp2_with fail
          go_roundw
          case rel => exact ⟨k + 1, by omega, by go_num, HS.out, HB1.out⟩
          case measure => simp [intOf]; omega
      · have z1 : (m : Int) ≤ k := by omega
        have hq := HQ.out
        rw [List.drop_eq_nil_of_le (by omega), List.drop_eq_nil_of_le (by omega), sameBy] at hq
        have HQ2 := Lib.hid hq
        clear hq hbel
        go_wp2_with fail
        go_ret
        exact ⟨ret_bool (by rw [HQ2.out]), HBL.out⟩
  · have e0 : ((m : Int) != (l : Int)) = true := by simp; omega
    have HQ2 := Lib.hid (show sameBy (Fo.sameX false) xs ys = false from sameBy_len (by omega))
    clear h1 h2 hml
    go_enter Tryd.func82, Tryd.ntmps82
    go_wp2_with fail
    go_ret
    exact ⟨ret_bool (by rw [HQ2.out]), Below.refl _ _⟩
set_option maxRecDepth 100000 in
set_option maxHeartbeats 8000000 in
theorem sameParam_any (f g : Fo) (us vs : List Value) (w : World) (h1 : f.dat.H w us) (h2 : g.dat.H w vs) : Calls Tryd.prog 85 #[.agg us.toArray, .agg vs.toArray] w (EqvPost w (Fo.sameX false f g)) := by
  have h := TwoD.new h1 h2 86
  obtain ⟨Au, mu, au, rfl, _, _, ha1⟩ := fo_open h1
  obtain ⟨Av, mv, av, rfl, _, _, ha2⟩ := fo_open h2
  have H0 := Lib.hid h
  have HZ0 := Lib.hid (Below.refl (((w.alloc (.cells #[.string f.name, .string f.ty.name, .slice Au mu au, .int .i64 f.ty.off, .int .i64 f.off] 86)).alloc (.cells #[.string g.name, .string g.ty.name, .slice Av mv av, .int .i64 g.ty.off, .int .i64 g.off] 86))).heap.size (((w.alloc (.cells #[.string f.name, .string f.ty.name, .slice Au mu au, .int .i64 f.ty.off, .int .i64 f.off] 86)).alloc (.cells #[.string g.name, .string g.ty.name, .slice Av mv av, .int .i64 g.ty.off, .int .i64 g.off] 86))))
  have HA := Lib.hid (Here.later ha1 h.bel)
  have HB := Lib.hid (Here.later ha2 h.bel)
  clear h h1 h2 ha1 ha2
  obtain ⟨q0, hq0⟩ : ∃ q : Bool, bytesEq f.name g.name = q := ⟨_, rfl⟩
  obtain ⟨q1, hq1⟩ : ∃ q : Bool, (Ty.cmp f.ty g.ty == 0) = q := ⟨_, rfl⟩
  have e0 : (f.name.toList == g.name.toList) = q0 := by rw [← hq0, bytesEq, Lib.toList_data, Lib.toList_data]
  have HD := Lib.hid (show Fo.sameX false f g = (q0 && (q1 )) by subst_vars; simp [Fo.sameX])
  have HQ1 := Lib.hid hq1
  clear hq0 hq1
  obtain ⟨x0, x1, x2, x3, x4⟩ := H0.out.one.c5
  obtain ⟨y0, y1, y2, y3, y4⟩ := H0.out.two.c5
  go_enter Tryd.func85, Tryd.ntmps85
  cases q0
  · go_wp2_with fail
    go_ret
    exact ⟨ret_bool (by rw [HD.out]; rfl), H0.out.bel⟩
  · skip
    go_wp2_with fail
    refine (same_any f.ty g.ty Au Av mu mv au av _ (Here.later HA.out HZ0.out) (Here.later HB.out HZ0.out)).mono ?_
    rintro e w1 ⟨rfl, hb⟩
    rw [HQ1.out]
    have H1 := Lib.hid (H0.out.later hb)
    have HZ1 := Lib.hid (HZ0.out.trans (hb.mono HZ0.out.size))
    clear hb H0 HZ0 x0 x1 x2 x3 x4 y0 y1 y2 y3 y4
    go_wp2_with fail
    go_ret
    exact ⟨ret_bool (by rw [HD.out]; rfl), H1.out.bel⟩
set_option maxRecDepth 100000 in
set_option maxHeartbeats 8000000 in
theorem eqParam_any (xs ys : List Fo) (A B : Option Addr) (m l c d : Nat) (w : World) (h1 : RowH w 5 A m (xs.map Fo.dat)) (h2 : RowH w 5 B l (ys.map Fo.dat)) :
    Calls Tryd.prog 84 #[.slice A m c, .slice B l d, .func (.func 85) #[] #[]] w (EqvPost w (sameBy (Fo.sameX false) xs ys)) := by
  have hm : (m : Int) ≤ 9223372036854775807 := by have := h1.le; omega
  have hl : (l : Int) ≤ 9223372036854775807 := by have := h2.le; omega
  have hxl := h1.len
  have hyl := h2.len
  rw [List.length_map] at hxl hyl
  have H1 := Lib.hid h1
  have H2 := Lib.hid h2
  by_cases hml : m = l
  · subst hml
    have e0 : ((m : Int) != (m : Int)) = false := by simp
    clear h1 h2
    go_enter Tryd.func84, Tryd.ntmps84
    go_wp2_with fail
    go_loopw [17] (fun i wr => ∃ k : Nat, k ≤ m ∧ i = .int .i64 k ∧ sameBy (Fo.sameX false) xs ys = sameBy (Fo.sameX false) (xs.drop k) (ys.drop k) ∧ Below w.heap.size w wr) (fun i _ => m - (intOf i).toNat)
    case atStart => exact ⟨0, by omega, rfl, rfl, Below.refl _ _⟩
    case round =>
      obtain ⟨k, hk, rfl, hc, hbel⟩ := hrel
      have HBL := Lib.hid hbel
      have HQ := Lib.hid hc
      clear hc
      have z0 : (0 : Int) ≤ k := by omega
      by_cases hlt1 : k < m
      · have z1 : (k : Int) < m := by omega
        obtain ⟨pu, u, ps, rfl, hx, _, _, hu, hcs⟩ := dat_at (RowH.later H1.out hbel) hlt1
        obtain ⟨pv, v, qs, rfl, hy2, _, _, hv, hds⟩ := dat_at (RowH.later H2.out hbel) hlt1
        obtain ⟨hbx, hX, hY⟩ := Boxd.pair wr ps.toArray qs.toArray 86
        have C := Lib.hid (sameParam_any u v ps qs _ (Dat.H.later hu hbx) (Dat.H.later hv hbx))
        have HB2 := Lib.hid (HBL.out.trans (hbx.mono HBL.out.size))
        have HS := Lib.hid (HQ.out.trans (sameBy_on hx hy2))
        have hds' := hds.alloc (.cells ps.toArray 86)
        obtain ⟨Au, mu, au, rfl, _⟩ := fo_open hu
        obtain ⟨Av, mv, av, rfl, _⟩ := fo_open hv
        obtain ⟨f0, f1, f2, f3, f4⟩ := cells5_at hcs
        obtain ⟨g0, g1, g2, g3, g4⟩ := cells5_at hds'
        obtain ⟨x0, x1, x2, x3, x4⟩ := hX.c5
        obtain ⟨y0, y1, y2, y3, y4⟩ := hY.c5
        clear hx hy2 hu hv hcs hds hds' hbel HQ hbx hX hY
        generalize (Fo.sameX false) u v = q at *
        go_wp2_with fail
        refine C.out.mono ?_
        rintro e w1 ⟨rfl, hb1⟩
        have HB1 := Lib.hid (HB2.out.trans (hb1.mono HB2.out.size))
        clear hb1 C f0 f1 f2 f3 f4 g0 g1 g2 g3 g4 x0 x1 x2 x3 x4 y0 y1 y2 y3 y4
        cases q
        · go_wp2_with fail
          go_ret
          exact ⟨ret_bool (by rw [HS.out]; rfl), HB1.out⟩
        · go_wp2_with fail
          go_roundw
          case rel => exact ⟨k + 1, by omega, by go_num, HS.out, HB1.out⟩
          case measure => simp [intOf]; omega
      · have z1 : (m : Int) ≤ k := by omega
        have hq := HQ.out
        rw [List.drop_eq_nil_of_le (by omega), List.drop_eq_nil_of_le (by omega), sameBy] at hq
        have HQ2 := Lib.hid hq
        clear hq hbel
        go_wp2_with fail
        go_ret
        exact ⟨ret_bool (by rw [HQ2.out]), HBL.out⟩
  · have e0 : ((m : Int) != (l : Int)) = true := by simp; omega
    have HQ2 := Lib.hid (show sameBy (Fo.sameX false) xs ys = false from sameBy_len (by omega))
    clear h1 h2 hml
    go_enter Tryd.func84, Tryd.ntmps84
    go_wp2_with fail
    go_ret
    exact ⟨ret_bool (by rw [HQ2.out]), Below.refl _ _⟩
set_option maxRecDepth 100000 in
set_option maxHeartbeats 8000000 in
theorem sameSig_any (a b : Sg) (us vs : List Value) (w : World) (h1 : a.dat.H w us) (h2 : b.dat.H w vs) : Calls Tryd.prog 59 #[.agg us.toArray, .agg vs.toArray] w (EqvPost w (Sg.sameX false a b)) := by
  have h := TwoD.new h1 h2 28
  obtain ⟨Fu, nfu, cfu, Pu, npu, cpu, Au, mu, au, rfl, _, hf1, hp1, _, ha1⟩ := sg_open h1
  obtain ⟨Fv, nfv, cfv, Pv, npv, cpv, Av, mv, av, rfl, _, hf2, hp2, _, ha2⟩ := sg_open h2
  have H0 := Lib.hid h
  have HZ0 := Lib.hid (Below.refl (((w.alloc (.cells #[.string a.name, .slice Fu nfu cfu, .slice Pu npu cpu, .string a.res.name, .slice Au mu au, .int .i64 a.res.off, .int .i64 a.off] 28)).alloc (.cells #[.string b.name, .slice Fv nfv cfv, .slice Pv npv cpv, .string b.res.name, .slice Av mv av, .int .i64 b.res.off, .int .i64 b.off] 28))).heap.size (((w.alloc (.cells #[.string a.name, .slice Fu nfu cfu, .slice Pu npu cpu, .string a.res.name, .slice Au mu au, .int .i64 a.res.off, .int .i64 a.off] 28)).alloc (.cells #[.string b.name, .slice Fv nfv cfv, .slice Pv npv cpv, .string b.res.name, .slice Av mv av, .int .i64 b.res.off, .int .i64 b.off] 28))))
  have HF1 := Lib.hid (RowH.later hf1 h.bel)
  have HF2 := Lib.hid (RowH.later hf2 h.bel)
  have HP1 := Lib.hid (RowH.later hp1 h.bel)
  have HP2 := Lib.hid (RowH.later hp2 h.bel)
  have HA1 := Lib.hid (Here.later ha1 h.bel)
  have HA2 := Lib.hid (Here.later ha2 h.bel)
  clear h h1 h2 hf1 hf2 hp1 hp2 ha1 ha2
  obtain ⟨q0, hq0⟩ : ∃ q : Bool, bytesEq a.name b.name = q := ⟨_, rfl⟩
  obtain ⟨q1, hq1⟩ : ∃ q : Bool, sameBy (Fo.sameX false) a.fs b.fs = q := ⟨_, rfl⟩
  obtain ⟨q2, hq2⟩ : ∃ q : Bool, sameBy (Fo.sameX false) a.ps b.ps = q := ⟨_, rfl⟩
  obtain ⟨q3, hq3⟩ : ∃ q : Bool, (Ty.cmp a.res b.res == 0) = q := ⟨_, rfl⟩
  have e0 : (a.name.toList == b.name.toList) = q0 := by rw [← hq0, bytesEq, Lib.toList_data, Lib.toList_data]
  have HD := Lib.hid (show Sg.sameX false a b = (q0 && (q1 && (q2 && (q3 )))) by subst_vars; simp [Sg.sameX, Bool.and_assoc])
  have HQ1 := Lib.hid hq1
  have HQ2 := Lib.hid hq2
  have HQ3 := Lib.hid hq3
  clear hq0 hq1 hq2 hq3
  obtain ⟨x0, x1, x2, x3, x4, x5, x6⟩ := H0.out.one.c7
  obtain ⟨y0, y1, y2, y3, y4, y5, y6⟩ := H0.out.two.c7
  go_enter Tryd.func59, Tryd.ntmps59
  cases q0
  · go_wp2_with fail
    go_ret
    exact ⟨ret_bool (by rw [HD.out]; rfl), H0.out.bel⟩
  · skip
    go_wp2_with fail
    refine (eqFormal_any a.fs b.fs Fu Fv nfu nfv cfu cfv _ (RowH.later HF1.out HZ0.out) (RowH.later HF2.out HZ0.out)).mono ?_
    rintro e w1 ⟨rfl, hb⟩
    rw [HQ1.out]
    have H1 := Lib.hid (H0.out.later hb)
    have HZ1 := Lib.hid (HZ0.out.trans (hb.mono HZ0.out.size))
    clear hb H0 HZ0 x0 x1 x2 x3 x4 x5 x6 y0 y1 y2 y3 y4 y5 y6
    obtain ⟨x0, x1, x2, x3, x4, x5, x6⟩ := H1.out.one.c7
    obtain ⟨y0, y1, y2, y3, y4, y5, y6⟩ := H1.out.two.c7
    cases q1
    · go_wp2_with fail
      go_ret
      exact ⟨ret_bool (by rw [HD.out]; rfl), H1.out.bel⟩
    · skip
      go_wp2_with fail
      refine (eqParam_any a.ps b.ps Pu Pv npu npv cpu cpv _ (RowH.later HP1.out HZ1.out) (RowH.later HP2.out HZ1.out)).mono ?_
      rintro e w2 ⟨rfl, hb⟩
      rw [HQ2.out]
      have H2 := Lib.hid (H1.out.later hb)
      have HZ2 := Lib.hid (HZ1.out.trans (hb.mono HZ1.out.size))
      clear hb H1 HZ1 x0 x1 x2 x3 x4 x5 x6 y0 y1 y2 y3 y4 y5 y6
      obtain ⟨x0, x1, x2, x3, x4, x5, x6⟩ := H2.out.one.c7
      obtain ⟨y0, y1, y2, y3, y4, y5, y6⟩ := H2.out.two.c7
      cases q2
      · go_wp2_with fail
        go_ret
        exact ⟨ret_bool (by rw [HD.out]; rfl), H2.out.bel⟩
      · skip
        go_wp2_with fail
        refine (same_any a.res b.res Au Av mu mv au av _ (Here.later HA1.out HZ2.out) (Here.later HA2.out HZ2.out)).mono ?_
        rintro e w3 ⟨rfl, hb⟩
        rw [HQ3.out]
        have H3 := Lib.hid (H2.out.later hb)
        have HZ3 := Lib.hid (HZ2.out.trans (hb.mono HZ2.out.size))
        clear hb H2 HZ2 x0 x1 x2 x3 x4 x5 x6 y0 y1 y2 y3 y4 y5 y6
        go_wp2_with fail
        go_ret
        exact ⟨ret_bool (by rw [HD.out]; rfl), H3.out.bel⟩
end Go.Proofs.YtkdlidakdknhjaaDoor
namespace Go.Proofs.YtkdlidakdknhjaaDoor
open Go.RowKit

end Go.Proofs.YtkdlidakdknhjaaDoor
namespace Go.Proofs.YtkdlidakdknhjaaDoor
open Go.RowKit

end Go.Proofs.YtkdlidakdknhjaaDoor
