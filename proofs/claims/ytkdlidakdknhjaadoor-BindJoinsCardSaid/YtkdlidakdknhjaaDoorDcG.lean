/- The walk of slices.Grow of nothing, at types. The condition: few types.
The walk of slices.Concat at types. The condition: few types. -/
import Derived.Test.YtkdlidakdknhjaaDoorDcI
import Derived.Lib.AppendZerosOnto
namespace Go.Proofs.YtkdlidakdknhjaaDoor
open Go.RowKit

/-- What growing nothing gives: room, which lies in a block of its own. -/
def GrowPost (w : World) (e : Ending) (w' : World) : Prop := ∃ v, e = .returned v ∧ Below w.heap.size w w' ∧ w'.ownsRow w.heap.size 26 3 v 0 []
end Go.Proofs.YtkdlidakdknhjaaDoor
namespace Go.Proofs.YtkdlidakdknhjaaDoor
open Go.RowKit

/-- Rows that are to be put one after the other: slices in a row. -/
structure Cat (S : Nat → Prop) (w : World) (p : Addr) (k : Nat) (tss : List (List Ty)) : Prop where
  len : tss.length = k
  le : k ≤ 1990
  at_ : ∀ j ts, tss[j]? = some ts → ∃ A c us, w.cell? (p.add j) = some (.slice A ts.length c) ∧ Flat3 S w A ts.length ts us
theorem Cat.later {S : Nat → Prop} {k : Nat} {w w' : World} {p : Addr} {tss : List (List Ty)} (h : Cat S w p k tss) (hb : Below w.heap.size w w') : Cat S w' p k tss :=
  ⟨h.len, h.le, fun j ts hj => by
    obtain ⟨A, c, us, h1, h2⟩ := h.at_ j ts hj
    exact ⟨A, c, us, by rw [hb.cell (cell_lt h1)]; exact h1, h2.later hb⟩⟩
theorem take_flatten_le {α : Type} (tss : List (List α)) (k : Nat) : (tss.take k).flatten.length ≤ tss.flatten.length := by
  conv => rhs; rw [← List.take_append_drop k tss, List.flatten_append, List.length_append]
  omega
theorem take_flatten_step {α : Type} {tss : List (List α)} {k : Nat} {x : List α} (h : tss[k]? = some x) : (tss.take (k + 1)).flatten = (tss.take k).flatten ++ x := by
  rw [Ex.take_at h, List.flatten_append]; simp
/-- Slices laid in a row of their own. -/
theorem Cat.mk' {S : Nat → Prop} {V : World} (T : TypeId) (L : List (Option Addr × Nat × List Ty × List Value)) (hn : L.length ≤ 1990) (h : ∀ x ∈ L, Flat3 S V x.1 x.2.2.1.length x.2.2.1 x.2.2.2) :
    Cat S (V.alloc (.cells (L.map fun x => Value.slice x.1 x.2.2.1.length x.2.1).toArray T)) ⟨V.heap.size, 0, none⟩ L.length (L.map fun x => x.2.2.1) :=
  ⟨by simp, hn, fun j ts hj => by
    rw [List.getElem?_map] at hj
    obtain ⟨x, hx, rfl⟩ := Option.map_eq_some_iff.1 hj
    refine ⟨x.1, x.2.1, x.2.2.2, ?_, (h x (List.mem_of_getElem? hx)).later ((Below.refl _ _).alloc (Nat.le_refl _) _)⟩
    rw [add_zero_addr]
    exact Boxd.new V _ T j _ (by simp [hx])⟩
theorem Cat.up {lo t k : Nat} {W W' : World} {p : Addr} {tss : List (List Ty)} (h : Cat (LB lo t W) W' p k tss) (hs : W.heap.size ≤ W'.heap.size) : Cat (LB lo t W') W' p k tss :=
  ⟨h.len, h.le, fun j ts hj => by
    obtain ⟨A, c, us, h1, h2⟩ := h.at_ j ts hj
    exact ⟨A, c, us, h1, h2.wide (LB.up hs (Nat.le_refl _)) fun _ h => h.1⟩⟩
theorem cat2 {S : Nat → Prop} {V : World} (T : TypeId) {A B : Option Addr} {c d : Nat} {t1 t2 : List Ty} {u1 u2 : List Value} (h1 : Flat3 S V A t1.length t1 u1) (h2 : Flat3 S V B t2.length t2 u2) :
    Cat S (V.alloc (.cells #[.slice A t1.length c, .slice B t2.length d] T)) ⟨V.heap.size, 0, none⟩ 2 [t1, t2] :=
  Cat.mk' T [(A, c, t1, u1), (B, d, t2, u2)] (by simp) (by intro x hx; simp only [List.mem_cons, List.not_mem_nil, or_false] at hx; rcases hx with rfl | rfl; exact h1; exact h2)
theorem cat3 {S : Nat → Prop} {V : World} (T : TypeId) {A B C : Option Addr} {c d e : Nat} {t1 t2 t3 : List Ty} {u1 u2 u3 : List Value} (h1 : Flat3 S V A t1.length t1 u1) (h2 : Flat3 S V B t2.length t2 u2) (h3 : Flat3 S V C t3.length t3 u3) :
    Cat S (V.alloc (.cells #[.slice A t1.length c, .slice B t2.length d, .slice C t3.length e] T)) ⟨V.heap.size, 0, none⟩ 3 [t1, t2, t3] :=
  Cat.mk' T [(A, c, t1, u1), (B, d, t2, u2), (C, e, t3, u3)] (by simp) (by intro x hx; simp only [List.mem_cons, List.not_mem_nil, or_false] at hx; rcases hx with rfl | rfl | rfl; exact h1; exact h2; exact h3)
/-- One type laid anew. -/
theorem flat_new {lo : Nat} {V : World} {t : Ty} {us : List Value} (T : TypeId) (h : t.dat.In V False (· < lo) us) (hl : lo ≤ V.heap.size) : Flat3 (· < lo) (V.alloc (.cells us.toArray T)) (some ⟨V.heap.size, 0, none⟩) 1 [t] us :=
  ⟨by
    rw [Ty.dats, Ty.dats, Dat.Ins]
    exact ⟨us, [], by simp, h.later ((Below.refl _ _).alloc (Nat.le_refl _) _) (fun k hk => Nat.lt_of_lt_of_le hk hl), by rw [Dat.Ins]⟩,
   (Dat.In.len _ _ h).trans (Ty.dat_size t), fun a e j u hu => by cases e; rw [add_zero_addr]; exact Boxd.new V us.toArray T j u (by simpa using hu), fun _ => ⟨_, rfl⟩, rfl, fun b hb => by rw [World.size_alloc]; omega⟩
/-- The same row, seen from an earlier world. -/
theorem TRow.from {lo s t : Nat} {w X W : World} {v : Value} {ts : List Ty} (h : TRow lo s X W v ts) (ht : t ≤ s) (hb : Below w.heap.size w X) : TRow lo t w W v ts := by
  obtain ⟨cs, ⟨h1, h2⟩, h3⟩ := h.own
  refine ⟨hb.trans (h.bel.mono hb.size), cs, ⟨h1, ?_⟩, h3.wide' fun b hb => ⟨LB.up (Nat.le_refl _) ht b hb.1, hb.2⟩⟩
  rcases h2 with h2 | ⟨g, cap, cur, e1, e2, e3⟩
  · exact .inl h2
  · exact .inr ⟨g, cap, cur, e1, Nat.le_trans hb.size e2, e3⟩
theorem Appd.bel {w w' : World} {base : Nat} {e : TypeId} {size n m : Nat} {v v' : Value} {xs us : List Value} (h : Appd w w' base e size n m v v' xs us) (hb : base ≤ w.heap.size) (hv : ∀ k, v.ownBlock = some k → base ≤ k) : Below base w w' := (Below.refl _ w).grown h.grow hb hv

theorem flatMap_mem_le {α β : Type} (f : α → List β) : ∀ {xs : List α} {x : α}, x ∈ xs → (f x).length ≤ (xs.flatMap f).length
  | y :: r, x, h => by
    rw [List.flatMap_cons, List.length_append]
    rcases List.mem_cons.1 h with rfl | h
    · omega
    · have := flatMap_mem_le f h
      omega
theorem app_mid {α : Type} {a b c : List α} {j : Nat} {v : α} (h : b[j]? = some v) : (a ++ (b ++ c))[a.length + j]? = some v := by
  rw [List.getElem?_append_right (by omega), Nat.add_sub_cancel_left, List.getElem?_append_left (List.getElem?_eq_some_iff.1 h).1]; exact h
def Sg.tys (s : Sg) : List Ty := s.fs.flatMap Fo.tys ++ s.ps.flatMap Fo.tys ++ [s.res]
/-- The types in the parts of an expression, as decl gathers them. -/
def exTys (e : Ex) : List Ty := e.list.flatMap fun x => x.targs ++ if x.kind = 3 ∨ x.kind = 5 then [x.ty] else []
def Dc.tys (d : Dc) : List Ty := d.fs.flatMap Fo.tys ++ d.ms.flatMap Fo.tys ++ d.gs.flatMap Sg.tys ++ if d.kind = 3 then d.sig.tys ++ exTys d.body else []
def Pg.tys (p : Pg) : List Ty := p.ds.flatMap Dc.tys ++ exTys p.main
end Go.Proofs.YtkdlidakdknhjaaDoor
