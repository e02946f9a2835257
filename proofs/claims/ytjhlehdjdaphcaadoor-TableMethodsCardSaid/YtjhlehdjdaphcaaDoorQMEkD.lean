/- The walks of expr.Same, expr.Depth and what they call.
Structs of five, seven, nine and twenty-three cells in memory; two boxed data. No condition.
The walks of decl.SameSig and of what it calls. No condition.
The walks of decl.SameDecl, decl.Same and of what they call. No condition.
The walk of decl.SameDecl. No condition.
What the laws and types.Right ask of types.Names: an iterator that yields the names, in whatever world behind its making. No condition.
The walks of expr.visit and expr.parts: an iterator over an expression and its kids, by a helper that calls itself and hands yield on. No condition.
The walk of expr.Value: a range over the parts. No condition. -/
import Derived.Test.YtjhlehdjdaphcaaDoorQMDcW
import Derived.Test.YtjhlehdjdaphcaaDoorQMExG
import Derived.Test.YtjhlehdjdaphcaaDoorQMTyL
import Derived.RangeFuncNested
import Derived.RangeFuncBound
import Derived.RangeFuncCalls
import Derived.RangeFuncLeaves
import Derived.RangeFuncFrom
import Derived.Shelf.Abstract
import Derived.Shelf.RegionOpen
import Derived.WalkKit
import Derived.OwnWalkIn
import Derived.TacticsInMore
import Derived.LoopNIn
import Derived.LoopIn
import Derived.RangeFuncKeeps
import Derived.Deep.RegionLaw
namespace Go.Proofs.YtjhlehdjdaphcaaDoor
open Go.RowKit

theorem CellsAt.later {w w' : World} {p : Addr} {us : List Value} (h : CellsAt w p us) (hb : Below w.heap.size w w') : CellsAt w' p us := fun j u hu => (hb.cell (cell_lt (h j u hu))).trans (h j u hu)
end Go.Proofs.YtjhlehdjdaphcaaDoor

namespace Go.Proofs.YtjhlehdjdaphcaaDoor
open Go.RowKit

theorem cells5_at {w : World} {p : Addr} {u0 u1 u2 u3 u4 : Value} (h : CellsAt w p [u0, u1, u2, u3, u4]) : w.cell? p = some u0 ∧ w.cell? ⟨p.block, p.off + 1, none⟩ = some u1 ∧ w.cell? ⟨p.block, p.off + 2, none⟩ = some u2 ∧ w.cell? ⟨p.block, p.off + 3, none⟩ = some u3 ∧ w.cell? ⟨p.block, p.off + 4, none⟩ = some u4 :=
  ⟨h 0 _ rfl, h 1 _ rfl, h 2 _ rfl, h 3 _ rfl, h 4 _ rfl⟩
theorem cells7_at {w : World} {p : Addr} {u0 u1 u2 u3 u4 u5 u6 : Value} (h : CellsAt w p [u0, u1, u2, u3, u4, u5, u6]) : w.cell? p = some u0 ∧ w.cell? ⟨p.block, p.off + 1, none⟩ = some u1 ∧ w.cell? ⟨p.block, p.off + 2, none⟩ = some u2 ∧ w.cell? ⟨p.block, p.off + 3, none⟩ = some u3 ∧ w.cell? ⟨p.block, p.off + 4, none⟩ = some u4 ∧ w.cell? ⟨p.block, p.off + 5, none⟩ = some u5 ∧ w.cell? ⟨p.block, p.off + 6, none⟩ = some u6 :=
  ⟨h 0 _ rfl, h 1 _ rfl, h 2 _ rfl, h 3 _ rfl, h 4 _ rfl, h 5 _ rfl, h 6 _ rfl⟩
theorem Boxd.c9 {W : World} {b : Nat} {u0 u1 u2 u3 u4 u5 u6 u7 u8 : Value} (h : Boxd W b [u0, u1, u2, u3, u4, u5, u6, u7, u8]) : W.cell? ⟨b, 0, none⟩ = some u0 ∧ W.cell? ⟨b, 1, none⟩ = some u1 ∧ W.cell? ⟨b, 2, none⟩ = some u2 ∧ W.cell? ⟨b, 3, none⟩ = some u3 ∧ W.cell? ⟨b, 4, none⟩ = some u4 ∧ W.cell? ⟨b, 5, none⟩ = some u5 ∧ W.cell? ⟨b, 6, none⟩ = some u6 ∧ W.cell? ⟨b, 7, none⟩ = some u7 ∧ W.cell? ⟨b, 8, none⟩ = some u8 :=
  ⟨h 0 _ rfl, h 1 _ rfl, h 2 _ rfl, h 3 _ rfl, h 4 _ rfl, h 5 _ rfl, h 6 _ rfl, h 7 _ rfl, h 8 _ rfl⟩
/-- Two boxed data since a world. -/
structure TwoD (w0 W : World) (a b : Dat) (us vs : List Value) : Prop where
  bel : Below w0.heap.size w0 W
  one : Boxd W w0.heap.size us
  two : Boxd W (w0.heap.size + 1) vs
  da : a.H W us
  db : b.H W vs
theorem TwoD.new {w : World} {a b : Dat} {us vs : List Value} (ha : a.H w us) (hb : b.H w vs) (T : TypeId) : TwoD w ((w.alloc (.cells us.toArray T)).alloc (.cells vs.toArray T)) a b us vs := by
  obtain ⟨h1, h2, h3⟩ := Boxd.pair w us.toArray vs.toArray T
  exact ⟨h1, h2, h3, Dat.H.later ha h1, Dat.H.later hb h1⟩
theorem TwoD.later {w0 W W' : World} {a b : Dat} {us vs : List Value} (h : TwoD w0 W a b us vs) (hb : Below W.heap.size W W') : TwoD w0 W' a b us vs :=
  ⟨h.bel.trans (hb.mono h.bel.size), h.one.later hb, h.two.later hb, Dat.H.later h.da hb, Dat.H.later h.db hb⟩
/-- A declaration, all its cells. -/
theorem dc_full {w : World} {N : Prop} {S : Nat → Prop} {d : Dc} {us : List Value} (h : d.dat.In w N S us) : ∃ F nf cf P np cp G ng cg V nv cv F2 nf2 cf2 P2 np2 cp2 A2 m2 a2 A3 m3 a3 B3 l3 b3 C3 n3 c3,
    us = [.int .i64 d.kind, .string d.name, .slice F nf cf, .slice P np cp, .slice G ng cg, .string d.recv, .slice V nv cv, .string d.sig.name, .slice F2 nf2 cf2, .slice P2 np2 cp2, .string d.sig.res.name, .slice A2 m2 a2, .int .i64 d.sig.res.off, .int .i64 d.sig.off,
      .int .i64 d.body.kind, .string d.body.name, .string d.body.ty.name, .slice A3 m3 a3, .int .i64 d.body.ty.off, .slice B3 l3 b3, .slice C3 n3 c3, .int .i64 d.body.off, .int .i64 d.off]
    ∧ d.name.size ≤ 9223372036854775807 ∧ Row w N S 5 F nf (d.fs.map Fo.dat) ∧ Row w N S 5 P np (d.ms.map Fo.dat) ∧ Row w N S 7 G ng (d.gs.map Sg.dat) ∧ d.recv.size ≤ 9223372036854775807 ∧ Row w N S 1 V nv (d.vs.map Dat.str)
    ∧ d.sig.dat.In w N S [.string d.sig.name, .slice F2 nf2 cf2, .slice P2 np2 cp2, .string d.sig.res.name, .slice A2 m2 a2, .int .i64 d.sig.res.off, .int .i64 d.sig.off]
    ∧ d.body.dat.In w N S [.int .i64 d.body.kind, .string d.body.name, .string d.body.ty.name, .slice A3 m3 a3, .int .i64 d.body.ty.off, .slice B3 l3 b3, .slice C3 n3 c3, .int .i64 d.body.off] := by
  obtain ⟨F, nf, cf, P, np, cp, G, ng, cg, V, nv, cv, sv, bv, rfl, h1, h2, h3, h4, h5, h6, h7, h8⟩ := dc_open h
  obtain ⟨F2, nf2, cf2, P2, np2, cp2, A2, m2, a2, rfl, _⟩ := sg_open h7
  obtain ⟨A3, m3, a3, B3, l3, b3, C3, n3, c3, rfl, _⟩ := ex_open h8
  exact ⟨F, nf, cf, P, np, cp, G, ng, cg, V, nv, cv, F2, nf2, cf2, P2, np2, cp2, A2, m2, a2, A3, m3, a3, B3, l3, b3, C3, n3, c3, rfl, h1, h2, h3, h4, h5, h6, h7, h8⟩
/-- A program, all its cells. -/
theorem pg_full {w : World} {N : Prop} {S : Nat → Prop} {p : Pg} {us : List Value} (h : p.dat.In w N S us) : ∃ D n c A3 m3 a3 B3 l3 b3 C3 n3 c3,
    us = [.slice D n c, .int .i64 p.main.kind, .string p.main.name, .string p.main.ty.name, .slice A3 m3 a3, .int .i64 p.main.ty.off, .slice B3 l3 b3, .slice C3 n3 c3, .int .i64 p.main.off]
    ∧ Row w N S 23 D n (p.ds.map Dc.dat) ∧ p.main.dat.In w N S [.int .i64 p.main.kind, .string p.main.name, .string p.main.ty.name, .slice A3 m3 a3, .int .i64 p.main.ty.off, .slice B3 l3 b3, .slice C3 n3 c3, .int .i64 p.main.off] := by
  obtain ⟨D, n, c, bv, rfl, h1, h2⟩ := pg_open h
  obtain ⟨A3, m3, a3, B3, l3, b3, C3, n3, c3, rfl, _⟩ := ex_open h2
  exact ⟨D, n, c, A3, m3, a3, B3, l3, b3, C3, n3, c3, rfl, h1, h2⟩
end Go.Proofs.YtjhlehdjdaphcaaDoor
namespace Go.Proofs.YtjhlehdjdaphcaaDoor
open Go.RowKit

end Go.Proofs.YtjhlehdjdaphcaaDoor
namespace Go.Proofs.YtjhlehdjdaphcaaDoor
open Go.RowKit

end Go.Proofs.YtjhlehdjdaphcaaDoor
namespace Go.Proofs.YtjhlehdjdaphcaaDoor
open Go.RowKit

end Go.Proofs.YtjhlehdjdaphcaaDoor

namespace Go.Proofs.YtjhlehdjdaphcaaDoor
open Go.RowKit

/-- What a round keeps: every cell but those of the blocks from n to m. -/
def Keep (n m : Nat) (W W' : World) : Prop := W.heap.size ≤ W'.heap.size ∧ ∀ p v, (p.block < n ∨ m ≤ p.block) → W.cell? p = some v → W'.cell? p = some v ∧ W'.frozen? p = W.frozen? p
theorem Keep.refl (n m : Nat) (W : World) : Keep n m W W := ⟨Nat.le_refl _, fun _ _ _ h => ⟨h, rfl⟩⟩
theorem Keep.trans {n m : Nat} {A B C : World} (h : Keep n m A B) (k : Keep n m B C) : Keep n m A C :=
  ⟨Nat.le_trans h.1 k.1, fun p v hp hv => by obtain ⟨h1, h2⟩ := h.2 p v hp hv; obtain ⟨h3, h4⟩ := k.2 p v hp h1; exact ⟨h3, h4.trans h2⟩⟩
theorem Keep.of_below {n m : Nat} {W W' : World} (h : Below W.heap.size W W') : Keep n m W W' :=
  ⟨h.size, fun _ _ _ hv => ⟨(h.cell (cell_lt hv)).trans hv, h.frozen (cell_lt hv)⟩⟩

/-- What Names gives: a function over which a range takes the names, in their order; a round may write what the caller has made since. -/
def NamesPost (w : World) (l : List ByteArray) (e : Ending) (w' : World) : Prop := ∃ g lb, e = .returned (.func (.func g) #[] lb) ∧ Below w.heap.size w w' ∧
  (∀ args W, (callFunc g args).run Tryd.prog W = .ok (.enter g args) W) ∧
  ∀ n w2, 1 ≤ n → Below w'.heap.size w' w2 → SeqStopsK Fence.wide n Tryd.prog g lb (fun s : ByteArray => #[.string s]) (Keep w'.heap.size w2.heap.size) (fun xs => xs = l) (fun pre => pre <+: l) l.length w2
theorem NamesPost.fn {w : World} {l : List ByteArray} {e : Ending} {w' : World} (h : NamesPost w l e w') : FnPost w e w' := let ⟨_, _, h1, h2, _⟩ := h; ⟨_, _, _, h1, h2⟩
end Go.Proofs.YtjhlehdjdaphcaaDoor

namespace Go.Proofs.YtjhlehdjdaphcaaDoor
open Go.RowKit
attribute [local go_sem] Oper.semAt_some

/-! ### data last where the cells that are there last -/
def Lasts (w w' : World) (S : Nat → Prop) : Prop := ∀ (p : Addr) (v : Value), S p.block → w.cell? p = some v → w'.cell? p = some v
mutual
theorem Dat.In.last {w w' : World} {S : Nat → Prop} (hk : Lasts w w' S) : ∀ (d : Dat) (us : List Value), d.In w False S us → d.In w' False S us
  | .cell v, us, h => by rw [Dat.In] at h ⊢; exact h
  | .str s, us, h => by rw [Dat.In] at h ⊢; exact h
  | .tup fs, us, h => by rw [Dat.In] at h ⊢; exact Dat.Ins.last hk fs us h
  | .arr q z xs, us, h => by
    rw [Dat.In] at h ⊢
    obtain ⟨A, c, h1, h2, hq, h3⟩ := h
    exact ⟨A, c, h1, h2, hq, Dat.Elems.last hk z A xs 0 h3⟩
theorem Dat.Ins.last {w w' : World} {S : Nat → Prop} (hk : Lasts w w' S) : ∀ (ds : List Dat) (us : List Value), Dat.Ins w False S ds us → Dat.Ins w' False S ds us
  | [], us, h => by rw [Dat.Ins] at h ⊢; exact h
  | d :: r, us, h => by
    rw [Dat.Ins] at h ⊢
    obtain ⟨u1, u2, h1, h2, h3⟩ := h
    exact ⟨u1, u2, h1, Dat.In.last hk d u1 h2, Dat.Ins.last hk r u2 h3⟩
theorem Dat.Elems.last {w w' : World} {S : Nat → Prop} (hk : Lasts w w' S) (z : Nat) (A : Option Addr) : ∀ (ds : List Dat) (i : Nat), Dat.Elems w False S z A i ds → Dat.Elems w' False S z A i ds
  | [], i, h => by rw [Dat.Elems]; trivial
  | d :: r, i, h => by
    rw [Dat.Elems] at h ⊢
    obtain ⟨⟨a, us, e, h1, h2, h3, h4⟩, h5⟩ := h
    exact ⟨⟨a, us, e, h1, False.elim, Dat.In.last hk d us h3, fun j u hu => hk _ _ (by rw [block_of_add, block_of_add]; exact h1) (h4 j u hu)⟩, Dat.Elems.last hk z A r (i + 1) h5⟩
end
theorem Boxd.kept {w w' : World} {n m b : Nat} {us : List Value} (h : Boxd w b us) (hk : Keep n m w w') (hb : m ≤ b) : Boxd w' b us := fun j u hu => (hk.2 ⟨b, j, none⟩ _ (.inr hb) (h j u hu)).1

/-- A part: an expression of few parts that lies in the blocks below n of a world. -/
abbrev Part (w0 : World) (n : Nat) : Type := {x : Ex × List Value // x.1.wt ≤ 1990 ∧ x.1.dat.In w0 False (· < n) x.2}
def Part.ex {w0 : World} {n : Nat} (x : Part w0 n) : Ex := x.1.1
def Part.enc {w0 : World} {n : Nat} (x : Part w0 n) : Array Value := #[.agg x.1.2.toArray]

end Go.Proofs.YtjhlehdjdaphcaaDoor
namespace Go.Proofs.YtjhlehdjdaphcaaDoor
open Go.RowKit
attribute [local go_sem] Oper.semAt_some

end Go.Proofs.YtjhlehdjdaphcaaDoor
