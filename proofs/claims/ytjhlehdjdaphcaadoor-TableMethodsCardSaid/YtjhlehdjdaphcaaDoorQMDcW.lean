/- Declarations and programs as trees: sameness, being right, their types, depth, plainness, count, in plain words; they as data. No program, no condition.
How many parts declarations and programs have: a weight that bounds all else, and what counting gives of it. No program, no condition. -/
import Derived.Test.YtjhlehdjdaphcaaDoorQMExB
import Derived.Test.YtjhlehdjdaphcaaDoorQMTyF
namespace Go.Proofs.YtjhlehdjdaphcaaDoor
open Go.RowKit

/-- A formal, or a parameter. -/
structure Fo where
  name : ByteArray
  ty : Ty
  off : Int
/-- A signature. -/
structure Sg where
  name : ByteArray
  fs : List Fo
  ps : List Fo
  res : Ty
  off : Int
/-- A declaration. -/
structure Dc where
  kind : Int
  name : ByteArray
  fs : List Fo
  ms : List Fo
  gs : List Sg
  recv : ByteArray
  vs : List ByteArray
  sig : Sg
  body : Ex
  off : Int
/-- A program. -/
structure Pg where
  ds : List Dc
  main : Ex

/-- Two lists, place by place. -/
def sameBy {α : Type} (p : α → α → Bool) : List α → List α → Bool
  | [], [] => true
  | a :: r, b :: q => p a b && sameBy p r q
  | _, _ => false
theorem sameBy_len {α : Type} {p : α → α → Bool} : ∀ {xs ys : List α}, xs.length ≠ ys.length → sameBy p xs ys = false
  | [], [], h => absurd rfl h
  | _ :: _, [], _ => rfl
  | [], _ :: _, _ => rfl
  | a :: r, b :: q, h => by
    rw [sameBy, sameBy_len (xs := r) (ys := q) (by simpa using h), Bool.and_false]
theorem sameBy_on {α : Type} {p : α → α → Bool} {xs ys : List α} {k : Nat} {a b : α} (ha : xs[k]? = some a) (hb : ys[k]? = some b) : sameBy p (xs.drop k) (ys.drop k) = (p a b && sameBy p (xs.drop (k + 1)) (ys.drop (k + 1))) := by
  rw [Ex.drop_at ha, Ex.drop_at hb, sameBy]
theorem sameBy_refl {α : Type} {p : α → α → Bool} (h : ∀ a, p a a = true) : ∀ xs : List α, sameBy p xs xs = true
  | [] => rfl
  | a :: r => by rw [sameBy, h a, sameBy_refl h r]; rfl
def bytesEq (a b : ByteArray) : Bool := a.data.toList == b.data.toList
theorem bytesEq_refl (a : ByteArray) : bytesEq a a = true := by simp [bytesEq]

namespace Fo
def sameX (ex : Bool) (f g : Fo) : Bool := bytesEq f.name g.name && (Ty.cmp f.ty g.ty == 0) && (!ex || ((f.off == g.off) && Ty.eqv f.ty g.ty))
def right (f : Fo) : Bool := Nm.isB f.name.data.toList && f.ty.right
def wt (f : Fo) : Nat := 1 + f.name.size / 50 + f.ty.wt
def dat (f : Fo) : Dat := .tup [.str f.name, f.ty.dat, .cell (.int .i64 f.off)]
theorem dat_size (f : Fo) : f.dat.size = 5 := by simp only [dat, Dat.size, Dat.sizes, Ty.dat_size]
/-- It is counted from n on; beyond 2000 it is not. -/
def cntL : List Fo → Int → Int
  | [], n => n
  | f :: r, n => if n ≤ 2000 then cntL r (Ty.cnt f.ty (n + 1 + f.name.size / 50)) else n
end Fo
namespace Sg
def sameX (ex : Bool) (a b : Sg) : Bool := bytesEq a.name b.name && sameBy (Fo.sameX ex) a.fs b.fs && sameBy (Fo.sameX ex) a.ps b.ps && (Ty.cmp a.res b.res == 0) && (!ex || ((a.off == b.off) && Ty.eqv a.res b.res))
def right (s : Sg) : Bool := Nm.isB s.name.data.toList && s.fs.all Fo.right && s.ps.all Fo.right && s.res.right
def types (s : Sg) : List Ty := s.fs.map Fo.ty ++ s.ps.map Fo.ty ++ [s.res]
def dat (s : Sg) : Dat := .tup [.str s.name, .arr false 5 (s.fs.map Fo.dat), .arr false 5 (s.ps.map Fo.dat), s.res.dat, .cell (.int .i64 s.off)]
theorem dat_size (s : Sg) : s.dat.size = 7 := by simp only [dat, Dat.size, Dat.sizes, Ty.dat_size]
def cnt (s : Sg) (n : Int) : Int := Ty.cnt s.res (Fo.cntL s.ps (Fo.cntL s.fs (n + s.name.size / 50)))
def cntL : List Sg → Int → Int
  | [], n => n
  | s :: r, n => if n ≤ 2000 then cntL r (cnt s n) else n
def none? : Sg := ⟨⟨#[]⟩, [], [], .mk ⟨#[]⟩ [] 0, 0⟩
end Sg
/-- The types of an expression: of a call its arguments, of a literal and an assertion its type; those of its kids. -/
def Ex.own (x : Ex) : List Ty := x.targs ++ if Ex.typed x.kind then [x.ty] else []
def Ex.types (e : Ex) : List Ty := e.list.flatMap Ex.own
def Ex.none? : Ex := .mk 0 ⟨#[]⟩ (.mk ⟨#[]⟩ [] 0) [] [] 0
namespace Dc
def sameX (ex : Bool) (a b : Dc) : Bool := (a.kind == b.kind) && bytesEq a.name b.name && bytesEq a.recv b.recv && sameBy (Fo.sameX ex) a.fs b.fs && sameBy (Fo.sameX ex) a.ms b.ms && sameBy (Sg.sameX ex) a.gs b.gs && sameBy bytesEq a.vs b.vs
  && Sg.sameX ex a.sig b.sig && a.body.same b.body && (!ex || ((a.off == b.off) && a.body.eqv b.body))
def right (d : Dc) : Bool := Nm.isB d.name.data.toList && d.fs.all Fo.right && d.ms.all Fo.right && d.gs.all Sg.right && d.vs.all (fun s => Nm.isB s.data.toList)
  && (if d.kind = 3 then Nm.isB d.recv.data.toList && (d.fs.length + d.ms.length + d.gs.length == 0) && d.sig.right && d.body.right
      else (d.recv.size == 0) && (d.vs.length == 0) && Sg.sameX false d.sig Sg.none? && d.body.same Ex.none? && ((d.kind == 1 && d.gs.length == 0) || (d.kind == 2 && d.ms.length == 0)))
def types (d : Dc) : List Ty := d.fs.map Fo.ty ++ d.ms.map Fo.ty ++ d.gs.flatMap Sg.types ++ if d.kind = 3 then d.sig.types ++ d.body.types else []
def dat (d : Dc) : Dat := .tup [.cell (.int .i64 d.kind), .str d.name, .arr false 5 (d.fs.map Fo.dat), .arr false 5 (d.ms.map Fo.dat), .arr false 7 (d.gs.map Sg.dat), .str d.recv, .arr false 1 (d.vs.map Dat.str), d.sig.dat, d.body.dat, .cell (.int .i64 d.off)]
theorem dat_size (d : Dc) : d.dat.size = 23 := by simp only [dat, Dat.size, Dat.sizes, Sg.dat_size, Ex.dat_size]
def cntV : List ByteArray → Int → Int
  | [], n => n
  | s :: r, n => if n ≤ 2000 then cntV r (n + 1 + s.size / 50) else n
def cnt (d : Dc) (n : Int) : Int :=
  let m := cntV d.vs (Sg.cntL d.gs (Fo.cntL d.ms (Fo.cntL d.fs (n + 1 + d.name.size / 50 + d.recv.size / 50))))
  if m ≤ 2000 then d.body.cnt (d.sig.cnt m) else m
def cntL : List Dc → Int → Int
  | [], n => n
  | d :: r, n => if n ≤ 2000 then cntL r (cnt d n) else n
def none? : Dc := ⟨0, ⟨#[]⟩, [], [], [], ⟨#[]⟩, [], Sg.none?, Ex.none?, 0⟩
end Dc
namespace Pg
def sameX (ex : Bool) (a b : Pg) : Bool := sameBy (Dc.sameX ex) a.ds b.ds && a.main.same b.main && (!ex || a.main.eqv b.main)
def right (p : Pg) : Bool := p.ds.all Dc.right && p.main.right
def types (p : Pg) : List Ty := p.ds.flatMap Dc.types ++ p.main.types
def dat (p : Pg) : Dat := .tup [.arr false 23 (p.ds.map Dc.dat), p.main.dat]
theorem dat_size (p : Pg) : p.dat.size = 9 := by simp only [dat, Dat.size, Dat.sizes, Ex.dat_size]
def cnt (p : Pg) : Int := Dc.cntL p.ds (p.main.cnt 0)
def few (p : Pg) : Bool := decide (p.cnt ≤ 600)
end Pg

/-! ### they as data -/
theorem fo_open {w : World} {N : Prop} {S : Nat → Prop} {f : Fo} {us : List Value} (h : f.dat.In w N S us) : ∃ A m a, us = [.string f.name, .string f.ty.name, .slice A m a, .int .i64 f.ty.off, .int .i64 f.off] ∧ f.name.size ≤ 9223372036854775807 ∧ f.ty.name.size ≤ 9223372036854775807 ∧ LiesN w N S A m f.ty.args := by
  rw [Fo.dat] at h
  simp only [Dat.In, Dat.Ins] at h
  obtain ⟨u1, u2, rfl, ⟨rfl, h1⟩, u3, u4, rfl, h2, u5, u6, rfl, rfl, rfl⟩ := h
  obtain ⟨A, m, a, rfl, h3, h4⟩ := ty_open h2
  exact ⟨A, m, a, rfl, h1, h3, h4⟩
theorem fo_shut {w : World} {N : Prop} {S : Nat → Prop} {f : Fo} {A : Option Addr} {m a : Nat} (h1 : f.name.size ≤ 9223372036854775807) (h2 : f.ty.name.size ≤ 9223372036854775807) (h3 : LiesN w N S A m f.ty.args) : f.dat.In w N S [.string f.name, .string f.ty.name, .slice A m a, .int .i64 f.ty.off, .int .i64 f.off] := by
  rw [Fo.dat]
  simp only [Dat.In, Dat.Ins]
  exact ⟨[_], _, rfl, ⟨rfl, h1⟩, [_, _, _], _, rfl, ty_shut h2 h3, [_], [], rfl, rfl, rfl⟩
theorem sg_open {w : World} {N : Prop} {S : Nat → Prop} {s : Sg} {us : List Value} (h : s.dat.In w N S us) : ∃ F nf cf P np cp A m a, us = [.string s.name, .slice F nf cf, .slice P np cp, .string s.res.name, .slice A m a, .int .i64 s.res.off, .int .i64 s.off]
    ∧ s.name.size ≤ 9223372036854775807 ∧ Row w N S 5 F nf (s.fs.map Fo.dat) ∧ Row w N S 5 P np (s.ps.map Fo.dat) ∧ s.res.name.size ≤ 9223372036854775807 ∧ LiesN w N S A m s.res.args := by
  rw [Sg.dat] at h
  simp only [Dat.In, Dat.Ins] at h
  obtain ⟨u1, u2, rfl, ⟨rfl, h1⟩, u3, u4, rfl, ⟨F, cf, rfl, h2, _, h3⟩, u5, u6, rfl, ⟨P, cp, rfl, h4, _, h5⟩, u7, u8, rfl, h6, u9, u10, rfl, rfl, rfl⟩ := h
  obtain ⟨A, m, a, rfl, h7, h8⟩ := ty_open h6
  exact ⟨F, _, cf, P, _, cp, A, m, a, rfl, h1, ⟨rfl, h2, h3⟩, ⟨rfl, h4, h5⟩, h7, h8⟩
theorem sg_shut {w : World} {N : Prop} {S : Nat → Prop} {s : Sg} {F P A : Option Addr} {nf cf np cp m a : Nat} (h1 : s.name.size ≤ 9223372036854775807) (h2 : Row w N S 5 F nf (s.fs.map Fo.dat)) (h3 : Row w N S 5 P np (s.ps.map Fo.dat)) (h4 : s.res.name.size ≤ 9223372036854775807) (h5 : LiesN w N S A m s.res.args) :
    s.dat.In w N S [.string s.name, .slice F nf cf, .slice P np cp, .string s.res.name, .slice A m a, .int .i64 s.res.off, .int .i64 s.off] := by
  obtain rfl := h2.len
  obtain rfl := h3.len
  rw [Sg.dat]
  simp only [Dat.In, Dat.Ins]
  exact ⟨[_], _, rfl, ⟨rfl, h1⟩, [_], _, rfl, ⟨F, cf, rfl, h2.le, (fun h => by cases h), h2.elems⟩, [_], _, rfl, ⟨P, cp, rfl, h3.le, (fun h => by cases h), h3.elems⟩, [_, _, _], _, rfl, ty_shut h4 h5, [_], [], rfl, rfl, rfl⟩
theorem dc_open {w : World} {N : Prop} {S : Nat → Prop} {d : Dc} {us : List Value} (h : d.dat.In w N S us) : ∃ F nf cf P np cp G ng cg V nv cv sv bv, us = [.int .i64 d.kind, .string d.name, .slice F nf cf, .slice P np cp, .slice G ng cg, .string d.recv, .slice V nv cv] ++ (sv ++ (bv ++ [.int .i64 d.off]))
    ∧ d.name.size ≤ 9223372036854775807 ∧ Row w N S 5 F nf (d.fs.map Fo.dat) ∧ Row w N S 5 P np (d.ms.map Fo.dat) ∧ Row w N S 7 G ng (d.gs.map Sg.dat) ∧ d.recv.size ≤ 9223372036854775807 ∧ Row w N S 1 V nv (d.vs.map Dat.str) ∧ d.sig.dat.In w N S sv ∧ d.body.dat.In w N S bv := by
  rw [Dc.dat] at h
  simp only [Dat.In, Dat.Ins] at h
  obtain ⟨u1, u2, rfl, rfl, u3, u4, rfl, ⟨rfl, h1⟩, u5, u6, rfl, ⟨F, cf, rfl, h2, _, h3⟩, u7, u8, rfl, ⟨P, cp, rfl, h4, _, h5⟩, u9, u10, rfl, ⟨G, cg, rfl, h6, _, h7⟩, u11, u12, rfl, ⟨rfl, h8⟩, u13, u14, rfl, ⟨V, cv, rfl, h9, _, h10⟩, u15, u16, rfl, h11, u17, u18, rfl, h12, u19, u20, rfl, rfl, rfl⟩ := h
  exact ⟨F, _, cf, P, _, cp, G, _, cg, V, _, cv, u15, u17, rfl, h1, ⟨rfl, h2, h3⟩, ⟨rfl, h4, h5⟩, ⟨rfl, h6, h7⟩, h8, ⟨rfl, h9, h10⟩, h11, h12⟩
theorem dc_shut {w : World} {N : Prop} {S : Nat → Prop} {d : Dc} {F P G V : Option Addr} {nf cf np cp ng cg nv cv : Nat} {sv bv : List Value} (h1 : d.name.size ≤ 9223372036854775807) (h2 : Row w N S 5 F nf (d.fs.map Fo.dat)) (h3 : Row w N S 5 P np (d.ms.map Fo.dat)) (h4 : Row w N S 7 G ng (d.gs.map Sg.dat))
    (h5 : d.recv.size ≤ 9223372036854775807) (h6 : Row w N S 1 V nv (d.vs.map Dat.str)) (h7 : d.sig.dat.In w N S sv) (h8 : d.body.dat.In w N S bv) :
    d.dat.In w N S ([.int .i64 d.kind, .string d.name, .slice F nf cf, .slice P np cp, .slice G ng cg, .string d.recv, .slice V nv cv] ++ (sv ++ (bv ++ [.int .i64 d.off]))) := by
  obtain rfl := h2.len
  obtain rfl := h3.len
  obtain rfl := h4.len
  obtain rfl := h6.len
  rw [Dc.dat]
  simp only [Dat.In, Dat.Ins]
  exact ⟨[_], _, rfl, rfl, [_], _, rfl, ⟨rfl, h1⟩, [_], _, rfl, ⟨F, cf, rfl, h2.le, (fun h => by cases h), h2.elems⟩, [_], _, rfl, ⟨P, cp, rfl, h3.le, (fun h => by cases h), h3.elems⟩, [_], _, rfl, ⟨G, cg, rfl, h4.le, (fun h => by cases h), h4.elems⟩, [_], _, rfl, ⟨rfl, h5⟩,
    [_], _, rfl, ⟨V, cv, rfl, h6.le, (fun h => by cases h), h6.elems⟩, sv, _, rfl, h7, bv, _, rfl, h8, [_], [], rfl, rfl, rfl⟩
theorem pg_open {w : World} {N : Prop} {S : Nat → Prop} {p : Pg} {us : List Value} (h : p.dat.In w N S us) : ∃ D n c bv, us = .slice D n c :: bv ∧ Row w N S 23 D n (p.ds.map Dc.dat) ∧ p.main.dat.In w N S bv := by
  rw [Pg.dat] at h
  simp only [Dat.In, Dat.Ins] at h
  obtain ⟨u1, u2, rfl, ⟨D, c, rfl, h1, _, h2⟩, u3, u4, rfl, h3, rfl⟩ := h
  exact ⟨D, _, c, u3, by simp, ⟨rfl, h1, h2⟩, h3⟩
theorem pg_shut {w : World} {N : Prop} {S : Nat → Prop} {p : Pg} {D : Option Addr} {n c : Nat} {bv : List Value} (h1 : Row w N S 23 D n (p.ds.map Dc.dat)) (h2 : p.main.dat.In w N S bv) : p.dat.In w N S (.slice D n c :: bv) := by
  obtain rfl := h1.len
  rw [Pg.dat]
  simp only [Dat.In, Dat.Ins]
  exact ⟨[_], _, rfl, ⟨D, c, rfl, h1.le, (fun h => by cases h), h1.elems⟩, bv, [], by simp, h2, rfl⟩
theorem list5 {l : List Value} (h : l.length = 5) : ∃ a b c d e, l = [a, b, c, d, e] := by
  match l, h with
  | [a, b, c, d, e], _ => exact ⟨a, b, c, d, e, rfl⟩
theorem list7 {l : List Value} (h : l.length = 7) : ∃ a b c d e f g, l = [a, b, c, d, e, f, g] := by
  match l, h with
  | [a, b, c, d, e, f, g], _ => exact ⟨a, b, c, d, e, f, g, rfl⟩
/-- The k-th of a row of data. -/
theorem dat_at {α : Type} {dat : α → Dat} {w : World} {N : Prop} {S : Nat → Prop} {A : Option Addr} {z n k : Nat} {xs : List α} (h : Row w N S z A n (xs.map dat)) (hk : k < n) :
    ∃ p x us, A = some p ∧ xs[k]? = some x ∧ S p.block ∧ (N → p.off = 0 ∧ p.spot = none ∧ ∀ k, w.frozen? ⟨p.block, k, none⟩ = false) ∧ (dat x).In w N S us ∧ CellsAt w (p.add (k * z)) us := by
  have hl : k < xs.length := by have := h.len; rw [List.length_map] at this; omega
  obtain ⟨p, us, h1, h2, h3, h4, h5⟩ := h.at (k := k) (d := dat xs[k]) (by rw [List.getElem?_map, List.getElem?_eq_getElem hl]; rfl)
  exact ⟨p, xs[k], us, h1, List.getElem?_eq_getElem hl, h2, h3, h4, h5⟩
end Go.Proofs.YtjhlehdjdaphcaaDoor
namespace Go.Proofs.YtjhlehdjdaphcaaDoor
open Go.RowKit

def sumBy {α : Type} (g : α → Nat) : List α → Nat
  | [] => 0
  | a :: r => g a + sumBy g r
theorem sumBy_mem {α : Type} {g : α → Nat} : ∀ {l : List α} {a : α}, a ∈ l → g a ≤ sumBy g l
  | b :: r, a, h => by
    rw [sumBy]
    rcases List.mem_cons.1 h with rfl | h
    · omega
    · have := sumBy_mem (g := g) h; omega
theorem sumBy_len {α : Type} {g : α → Nat} (h : ∀ a, 1 ≤ g a) : ∀ l : List α, l.length ≤ sumBy g l
  | [] => Nat.le_refl _
  | a :: r => by
    have h1 := h a
    have h2 := sumBy_len h r
    rw [sumBy, List.length_cons]
    omega
theorem Ty.wt_pos (t : Ty) : 1 ≤ t.wt := by cases t; simp only [Ty.wt]; omega
namespace Fo
theorem wt_pos (f : Fo) : 1 ≤ f.wt := by unfold wt; omega
theorem wt_ty {f : Fo} : f.ty.wt ≤ f.wt := by unfold wt; omega
theorem wt_name {f : Fo} (h : f.wt ≤ 1990) : f.name.size ≤ 100000 := by unfold wt at h; omega
theorem cntL_ge : ∀ (l : List Fo) (n : Int), 0 ≤ n → n ≤ cntL l n
  | [], n, _ => Int.le_refl _
  | f :: r, n, h => by
    rw [cntL]
    split
    · have h1 := Ty.cnt_ge f.ty (n + 1 + f.name.size / 50) (by omega)
      have h2 := cntL_ge r (Ty.cnt f.ty (n + 1 + f.name.size / 50)) (by omega)
      omega
    · exact Int.le_refl _
theorem cntL_wt : ∀ (l : List Fo) (n : Int), 0 ≤ n → cntL l n ≤ 2000 → cntL l n = n + sumBy wt l
  | [], n, _, _ => by simp only [cntL, sumBy]; omega
  | f :: r, n, h, h2 => by
    rw [cntL] at h2 ⊢
    have h3 : n ≤ 2000 := by
      by_cases hn : n ≤ 2000
      · exact hn
      · rw [if_neg hn] at h2; omega
    rw [if_pos h3] at h2 ⊢
    have h4 := Ty.cnt_ge f.ty (n + 1 + f.name.size / 50) (by omega)
    have h5 := cntL_ge r (Ty.cnt f.ty (n + 1 + f.name.size / 50)) (by omega)
    rw [cntL_wt r _ (by omega) h2, Ty.cnt_wt f.ty _ (by omega) (by omega), sumBy, wt]
    omega
end Fo
namespace Sg
def wt (s : Sg) : Nat := s.name.size / 50 + sumBy Fo.wt s.fs + sumBy Fo.wt s.ps + s.res.wt
theorem wt_pos (s : Sg) : 1 ≤ s.wt := by have := Ty.wt_pos s.res; unfold wt; omega
theorem wt_f {s : Sg} {f : Fo} (h : f ∈ s.fs) : f.wt ≤ s.wt := by have := sumBy_mem (g := Fo.wt) h; unfold wt; omega
theorem wt_p {s : Sg} {f : Fo} (h : f ∈ s.ps) : f.wt ≤ s.wt := by have := sumBy_mem (g := Fo.wt) h; unfold wt; omega
theorem wt_res {s : Sg} : s.res.wt ≤ s.wt := by unfold wt; omega
theorem len_f (s : Sg) : s.fs.length ≤ s.wt := by have := sumBy_len Fo.wt_pos s.fs; unfold wt; omega
theorem len_p (s : Sg) : s.ps.length ≤ s.wt := by have := sumBy_len Fo.wt_pos s.ps; unfold wt; omega
theorem types_len (s : Sg) : s.types.length ≤ s.wt := by
  have h1 := sumBy_len Fo.wt_pos s.fs
  have h2 := sumBy_len Fo.wt_pos s.ps
  have h3 := Ty.wt_pos s.res
  simp only [types, List.length_append, List.length_map, List.length_cons, List.length_nil, wt]
  omega
theorem cnt_ge (s : Sg) (n : Int) (h : 0 ≤ n) : n ≤ cnt s n := by
  have h1 := Fo.cntL_ge s.fs (n + s.name.size / 50) (by omega)
  have h2 := Fo.cntL_ge s.ps (Fo.cntL s.fs (n + s.name.size / 50)) (by omega)
  have h3 := Ty.cnt_ge s.res (Fo.cntL s.ps (Fo.cntL s.fs (n + s.name.size / 50))) (by omega)
  unfold cnt
  omega
theorem cnt_wt (s : Sg) (n : Int) (h : 0 ≤ n) (h0 : cnt s n ≤ 2000) : cnt s n = n + wt s := by
  have h1 := Fo.cntL_ge s.fs (n + s.name.size / 50) (by omega)
  have h2 := Fo.cntL_ge s.ps (Fo.cntL s.fs (n + s.name.size / 50)) (by omega)
  have h3 := Ty.cnt_ge s.res (Fo.cntL s.ps (Fo.cntL s.fs (n + s.name.size / 50))) (by omega)
  unfold cnt at h0 ⊢
  rw [Ty.cnt_wt s.res _ (by omega) h0, Fo.cntL_wt s.ps _ (by omega) (by omega), Fo.cntL_wt s.fs _ (by omega) (by omega), wt]
  omega
theorem cntL_ge : ∀ (l : List Sg) (n : Int), 0 ≤ n → n ≤ cntL l n
  | [], n, _ => Int.le_refl _
  | f :: r, n, h => by
    rw [cntL]
    split
    · have h1 := cnt_ge f n h
      have h2 := cntL_ge r (cnt f n) (by omega)
      omega
    · exact Int.le_refl _
theorem cntL_wt : ∀ (l : List Sg) (n : Int), 0 ≤ n → cntL l n ≤ 2000 → cntL l n = n + sumBy wt l
  | [], n, _, _ => by simp only [cntL, sumBy]; omega
  | f :: r, n, h, h2 => by
    rw [cntL] at h2 ⊢
    have h3 : n ≤ 2000 := by
      by_cases hn : n ≤ 2000
      · exact hn
      · rw [if_neg hn] at h2; omega
    rw [if_pos h3] at h2 ⊢
    have h4 := cnt_ge f n h
    have h5 := cntL_ge r (cnt f n) (by omega)
    rw [cntL_wt r _ (by omega) h2, cnt_wt f _ h (by omega), sumBy]
    omega
end Sg
namespace Dc
def vwt (s : ByteArray) : Nat := 1 + s.size / 50
def wt (d : Dc) : Nat := 1 + d.name.size / 50 + d.recv.size / 50 + sumBy Fo.wt d.fs + sumBy Fo.wt d.ms + sumBy Sg.wt d.gs + sumBy vwt d.vs + d.sig.wt + d.body.wt
theorem wt_pos (d : Dc) : 1 ≤ d.wt := by unfold wt; omega
theorem wt_f {d : Dc} {f : Fo} (h : f ∈ d.fs) : f.wt ≤ d.wt := by have := sumBy_mem (g := Fo.wt) h; unfold wt; omega
theorem wt_m {d : Dc} {f : Fo} (h : f ∈ d.ms) : f.wt ≤ d.wt := by have := sumBy_mem (g := Fo.wt) h; unfold wt; omega
theorem wt_g {d : Dc} {s : Sg} (h : s ∈ d.gs) : s.wt ≤ d.wt := by have := sumBy_mem (g := Sg.wt) h; unfold wt; omega
theorem wt_s {d : Dc} : d.sig.wt ≤ d.wt := by unfold wt; omega
theorem wt_b {d : Dc} : d.body.wt ≤ d.wt := by unfold wt; omega
theorem len_f (d : Dc) : d.fs.length ≤ d.wt := by have := sumBy_len Fo.wt_pos d.fs; unfold wt; omega
theorem len_m (d : Dc) : d.ms.length ≤ d.wt := by have := sumBy_len Fo.wt_pos d.ms; unfold wt; omega
theorem len_g (d : Dc) : d.gs.length ≤ d.wt := by have := sumBy_len Sg.wt_pos d.gs; unfold wt; omega
theorem len_v (d : Dc) : d.vs.length ≤ d.wt := by have := sumBy_len (g := vwt) (fun a => by unfold vwt; omega) d.vs; unfold wt; omega
theorem cntV_ge : ∀ (l : List ByteArray) (n : Int), 0 ≤ n → n ≤ cntV l n
  | [], n, _ => Int.le_refl _
  | f :: r, n, h => by
    rw [cntV]
    split
    · have h2 := cntV_ge r (n + 1 + f.size / 50) (by omega)
      omega
    · exact Int.le_refl _
theorem cntV_wt : ∀ (l : List ByteArray) (n : Int), 0 ≤ n → cntV l n ≤ 2000 → cntV l n = n + sumBy vwt l
  | [], n, _, _ => by simp only [cntV, sumBy]; omega
  | f :: r, n, h, h2 => by
    rw [cntV] at h2 ⊢
    have h3 : n ≤ 2000 := by
      by_cases hn : n ≤ 2000
      · exact hn
      · rw [if_neg hn] at h2; omega
    rw [if_pos h3] at h2 ⊢
    rw [cntV_wt r _ (by omega) h2, sumBy, vwt]
    omega
theorem cnt_ge (d : Dc) (n : Int) (h : 0 ≤ n) : n ≤ cnt d n := by
  have h1 := Fo.cntL_ge d.fs (n + 1 + d.name.size / 50 + d.recv.size / 50) (by omega)
  have h2 := Fo.cntL_ge d.ms (Fo.cntL d.fs (n + 1 + d.name.size / 50 + d.recv.size / 50)) (by omega)
  have h3 := Sg.cntL_ge d.gs (Fo.cntL d.ms (Fo.cntL d.fs (n + 1 + d.name.size / 50 + d.recv.size / 50))) (by omega)
  have h4 := cntV_ge d.vs (Sg.cntL d.gs (Fo.cntL d.ms (Fo.cntL d.fs (n + 1 + d.name.size / 50 + d.recv.size / 50)))) (by omega)
  simp only [cnt]
  split
  · have h5 := Sg.cnt_ge d.sig _ (show 0 ≤ cntV d.vs (Sg.cntL d.gs (Fo.cntL d.ms (Fo.cntL d.fs (n + 1 + d.name.size / 50 + d.recv.size / 50)))) by omega)
    have h6 := Ex.cnt_ge d.body _ (show 0 ≤ d.sig.cnt (cntV d.vs (Sg.cntL d.gs (Fo.cntL d.ms (Fo.cntL d.fs (n + 1 + d.name.size / 50 + d.recv.size / 50))))) by omega)
    omega
  · omega
theorem cnt_wt (d : Dc) (n : Int) (h : 0 ≤ n) (h0 : cnt d n ≤ 2000) : cnt d n = n + wt d := by
  have h1 := Fo.cntL_ge d.fs (n + 1 + d.name.size / 50 + d.recv.size / 50) (by omega)
  have h2 := Fo.cntL_ge d.ms (Fo.cntL d.fs (n + 1 + d.name.size / 50 + d.recv.size / 50)) (by omega)
  have h3 := Sg.cntL_ge d.gs (Fo.cntL d.ms (Fo.cntL d.fs (n + 1 + d.name.size / 50 + d.recv.size / 50))) (by omega)
  have h4 := cntV_ge d.vs (Sg.cntL d.gs (Fo.cntL d.ms (Fo.cntL d.fs (n + 1 + d.name.size / 50 + d.recv.size / 50)))) (by omega)
  have h7 : cntV d.vs (Sg.cntL d.gs (Fo.cntL d.ms (Fo.cntL d.fs (n + 1 + d.name.size / 50 + d.recv.size / 50)))) ≤ 2000 := by
    by_cases hn : cntV d.vs (Sg.cntL d.gs (Fo.cntL d.ms (Fo.cntL d.fs (n + 1 + d.name.size / 50 + d.recv.size / 50)))) ≤ 2000
    · exact hn
    · simp only [cnt] at h0
      rw [if_neg hn] at h0
      exact absurd h0 hn
  have h5 := Sg.cnt_ge d.sig _ (show 0 ≤ cntV d.vs (Sg.cntL d.gs (Fo.cntL d.ms (Fo.cntL d.fs (n + 1 + d.name.size / 50 + d.recv.size / 50)))) by omega)
  have h6 := Ex.cnt_ge d.body _ (show 0 ≤ d.sig.cnt (cntV d.vs (Sg.cntL d.gs (Fo.cntL d.ms (Fo.cntL d.fs (n + 1 + d.name.size / 50 + d.recv.size / 50))))) by omega)
  simp only [cnt] at h0 ⊢
  rw [if_pos h7] at h0 ⊢
  rw [Ex.cnt_wt d.body _ (by omega) h0, Sg.cnt_wt d.sig _ (by omega) (by omega), cntV_wt d.vs _ (by omega) h7, Sg.cntL_wt d.gs _ (by omega) (by omega), Fo.cntL_wt d.ms _ (by omega) (by omega), Fo.cntL_wt d.fs _ (by omega) (by omega), wt]
  omega
theorem cntL_ge : ∀ (l : List Dc) (n : Int), 0 ≤ n → n ≤ cntL l n
  | [], n, _ => Int.le_refl _
  | f :: r, n, h => by
    rw [cntL]
    split
    · have h1 := cnt_ge f n h
      have h2 := cntL_ge r (cnt f n) (by omega)
      omega
    · exact Int.le_refl _
theorem cntL_wt : ∀ (l : List Dc) (n : Int), 0 ≤ n → cntL l n ≤ 2000 → cntL l n = n + sumBy wt l
  | [], n, _, _ => by simp only [cntL, sumBy]; omega
  | f :: r, n, h, h2 => by
    rw [cntL] at h2 ⊢
    have h3 : n ≤ 2000 := by
      by_cases hn : n ≤ 2000
      · exact hn
      · rw [if_neg hn] at h2; omega
    rw [if_pos h3] at h2 ⊢
    have h4 := cnt_ge f n h
    have h5 := cntL_ge r (cnt f n) (by omega)
    rw [cntL_wt r _ (by omega) h2, cnt_wt f _ h (by omega), sumBy]
    omega
end Dc
namespace Pg
def wt (p : Pg) : Nat := sumBy Dc.wt p.ds + p.main.wt
theorem wt_d {p : Pg} {d : Dc} (h : d ∈ p.ds) : d.wt ≤ p.wt := by have := sumBy_mem (g := Dc.wt) h; unfold wt; omega
theorem wt_main {p : Pg} : p.main.wt ≤ p.wt := by unfold wt; omega
theorem len_d (p : Pg) : p.ds.length ≤ p.wt := by have := sumBy_len Dc.wt_pos p.ds; unfold wt; omega
theorem wt_few {p : Pg} (h : p.few = true) : p.wt ≤ 600 := by
  unfold few at h
  have h := of_decide_eq_true h
  unfold cnt at h
  have h1 := Ex.cnt_ge p.main 0 (by omega)
  have h2 := Dc.cntL_ge p.ds (p.main.cnt 0) (by omega)
  have h3 := Dc.cntL_wt p.ds (p.main.cnt 0) (by omega) (by omega)
  have h4 := Ex.cnt_wt p.main 0 (by omega) (by omega)
  unfold wt
  omega
end Pg
end Go.Proofs.YtjhlehdjdaphcaaDoor
