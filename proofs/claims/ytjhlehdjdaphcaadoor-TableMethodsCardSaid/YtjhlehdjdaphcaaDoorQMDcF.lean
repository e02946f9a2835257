/- What the program computes of being right, in plain words. No program, no condition.
A struct of many cells is loaded, stored and handed back whole, its cells not spelled out. No condition.
The walks of slices.EqualFunc at declarations and of decl.Same. No condition. -/
import Derived.Test.YtjhlehdjdaphcaaDoorQMEkW
import Derived.Test.YtjhlehdjdaphcaaDoorQMExQ
import Derived.Deep.DeepCutAuto
namespace Go.Proofs.YtjhlehdjdaphcaaDoor
open Go.RowKit

theorem cmp_refl (t : Ty) : Ty.cmp t t = 0 := by have := Ty.cmp_neg t t; omega
theorem Ex.same_refl' : ∀ e : Ex, e.same e = true := by
  refine Ex.ind fun k s t ts xs o ih => ?_
  rw [Ex.same_mk]
  have hL : ∀ l : List Ex, (∀ x ∈ l, x ∈ xs) → Ex.sameL l l = true := by
    intro l
    induction l with
    | nil => intro _; rw [Ex.sameL]
    | cons a r ih2 =>
      intro h
      rw [Ex.sameL, ih a (h a (by simp)), ih2 fun x hx => h x (by simp [hx])]
      rfl
  have hT : ∀ l : List Ty, Ex.sameT l l = true := by
    intro l
    induction l with
    | nil => rw [Ex.sameT]
    | cons a r ih => rw [Ex.sameT, cmp_refl a, ih]; rfl
  exact ⟨rfl, rfl, cmp_refl t, hT ts, hL xs fun _ h => h⟩
end Go.Proofs.YtjhlehdjdaphcaaDoor
namespace Go.Proofs.YtjhlehdjdaphcaaDoor
open Go.RowKit

theorem sizeDc : (Tryd.prog.info? 52).map (·.size) = some 23 := by kernel_rfl
theorem run_loadVar_at (w : World) (p : Addr) (ty : TypeId) (cs : List Value) (d : TypeDesc) (hc : CellsAt w p cs) (hu : Tryd.prog.underlying ty = some d) (hd : d.isRow = true) (hi : (Tryd.prog.info? ty).map (·.size) = some cs.length) :
    (loadVar ty p).run Tryd.prog w = .ok (.agg cs.toArray) w := by
  have hl : (loadCells p cs.length).run Tryd.prog w = .ok cs.toArray w := run_loadCells_list (P := Tryd.prog) w p cs hc
  cases hq : Tryd.prog.info? ty with
  | none => simp [hq] at hi
  | some i =>
    have hs : i.size = cs.length := by simpa [hq] using hi
    have hagg : (isAgg ty).run Tryd.prog w = .ok true w := by
      unfold isAgg
      rw [Sem.run_bind, run_underlying hu w]
      cases d <;> simp_all
    simp [loadVar, Sem.run_bind, hagg, sizeOf, typeInfo, hq, hs, hl]
theorem loadDc {ops : Array Oper} {rest : List Oper} {a : Act} {w : World} {Q : Exit → Act → World → Prop} {ps : String} {af : Array Edge} (i d : Nat) {p : Addr} {us : List Value} (hx : a.eval (.tmp i) = .pointer (some p)) (hc : CellsAt w p us) (hl : us.length = 23)
    (h : wpList Tryd.prog ops Q rest (a.put (some d) (.agg us.toArray)) w) :
    wpList Tryd.prog ops Q ({ dst := some d, op := .load 52 (.tmp i), type := 52, pos := ps, after := af, guard := none } :: rest) a w :=
  wpList_plain rfl fun _ hK => by
    unfold Oper.wp execOp
    simp only [hx, Instr.loadAt, Instr.sureAddr, Sem.run_bind, Sem.run_pure, Result.andThen_ok, run_loadVar_at w p 52 us _ hc Tryd.underlying52 rfl (by rw [hl]; exact sizeDc)]
    exact hK _ _ h
theorem storeDc {ops : Array Oper} {rest : List Oper} {a : Act} {w : World} {Q : Exit → Act → World → Prop} {ps : String} {af : Array Edge} (i j : Nat) {b o : Nat} {us : List Value} (hx : a.eval (.tmp i) = .pointer (some ⟨b, o, none⟩)) (hy : a.eval (.tmp j) = .agg us.toArray)
    (ht : w.there b o us.length) (h1 : ∀ u ∈ us, u.oneCell' = true) (hl : us.length = 23) (h : wpList Tryd.prog ops Q rest (a.put none undef) (w.setCells b o us)) :
    wpList Tryd.prog ops Q ({ dst := none, op := .store 52 (.tmp i) (.tmp j), type := 0, pos := ps, after := af, guard := none } :: rest) a w :=
  wpList_store_mid rfl 52 (.tmp i) (.tmp j) rfl b o us.toArray hx hy (by simpa using ht) (by rw [List.size_toArray, hl]; exact sizeDc) (all_oneCell_toArray h1) (by simpa using h)
theorem set_there {w : World} {k : Nat} {us : List Value} (h : w.there k 0 us.length) : Boxd (w.setCells k 0 us) k us := fun j u hu => by
  have := World.rangeAt_setCells_same w k 0 us h j u hu
  rwa [Nat.zero_add] at this
theorem there_new (w : World) (cs : Array Value) (T : TypeId) : (w.alloc (.cells cs T)).there w.heap.size 0 cs.size := fun j hj => ⟨by
  rw [Nat.zero_add, cell_of_row _ _ j _ _ (0, 0) (heap_alloc_new _ _), Array.getElem?_eq_getElem hj]
  rfl, frozen_of_row (heap_alloc_new _ _) _⟩
theorem Boxd.at0 {w : World} {b : Nat} {us : List Value} (h : Boxd w b us) : CellsAt w ⟨b, 0, none⟩ us := fun j u hu => by rw [add_zero_addr]; exact h j u hu
theorem ty_cells {w : World} {N : Prop} {S : Nat → Prop} {t : Ty} {us : List Value} (h : t.dat.In w N S us) : ∀ u ∈ us, u.oneCell' = true := by
  obtain ⟨B, m, c, rfl, _⟩ := ty_open h
  intro u hu
  simp only [List.mem_cons, List.not_mem_nil, or_false] at hu
  rcases hu with rfl | rfl | rfl <;> rfl
theorem ex_cells' {w : World} {N : Prop} {S : Nat → Prop} {e : Ex} {us : List Value} (h : e.dat.In w N S us) : ∀ u ∈ us, u.oneCell' = true := by
  obtain ⟨A, m, a, B, l, b, C, n, c, rfl, _⟩ := ex_open h
  intro u hu
  simp only [List.mem_cons, List.not_mem_nil, or_false] at hu
  rcases hu with rfl | rfl | rfl | rfl | rfl | rfl | rfl | rfl <;> rfl
theorem sg_cells {w : World} {N : Prop} {S : Nat → Prop} {s : Sg} {us : List Value} (h : s.dat.In w N S us) : ∀ u ∈ us, u.oneCell' = true := by
  obtain ⟨F, nf, cf, P, np, cp, A, m, a, rfl, _⟩ := sg_open h
  intro u hu
  simp only [List.mem_cons, List.not_mem_nil, or_false] at hu
  rcases hu with rfl | rfl | rfl | rfl | rfl | rfl | rfl <;> rfl
theorem dc_cells {w : World} {N : Prop} {S : Nat → Prop} {d : Dc} {us : List Value} (h : d.dat.In w N S us) : ∀ u ∈ us, u.oneCell' = true := by
  obtain ⟨F, nf, cf, P, np, cp, G, ng, cg, V, nv, cv, sv, bv, rfl, _, _, _, _, _, _, h7, h8⟩ := dc_open h
  intro u hu
  rcases List.mem_append.1 hu with hu | hu
  · simp only [List.mem_cons, List.not_mem_nil, or_false] at hu
    rcases hu with rfl | rfl | rfl | rfl | rfl | rfl | rfl <;> rfl
  rcases List.mem_append.1 hu with hu | hu
  · exact sg_cells h7 u hu
  rcases List.mem_append.1 hu with hu | hu
  · exact ex_cells' h8 u hu
  · simp only [List.mem_cons, List.not_mem_nil, or_false] at hu
    rcases hu with rfl
    rfl
theorem dc_len {w : World} {N : Prop} {S : Nat → Prop} {d : Dc} {us : List Value} (h : d.dat.In w N S us) : us.length = 23 := (Dat.In.len _ _ h).trans (Dc.dat_size d)
abbrev z23 : Array Value := #[.int .i64 0, .string ⟨#[]⟩, .slice none 0 0, .slice none 0 0, .slice none 0 0, .string ⟨#[]⟩, .slice none 0 0, .string ⟨#[]⟩, .slice none 0 0, .slice none 0 0, .string ⟨#[]⟩, .slice none 0 0, .int .i64 0, .int .i64 0,
  .int .i64 0, .string ⟨#[]⟩, .string ⟨#[]⟩, .slice none 0 0, .int .i64 0, .slice none 0 0, .slice none 0 0, .int .i64 0, .int .i64 0]
/-- A new block of a declaration, written whole: the world behind, and what lies there. -/
structure Put23 (w W : World) (us : List Value) : Prop where
  eq : (w.alloc (.cells z23 52)).setCells w.heap.size 0 us = W
  bel : Below w.heap.size w W
  box : Boxd W w.heap.size us
  there : (w.alloc (.cells z23 52)).there w.heap.size 0 us.length
theorem put23 (w : World) {us : List Value} (hl : us.length = 23) : ∃ W, Put23 w W us := by
  have ht : (w.alloc (.cells z23 52)).there w.heap.size 0 us.length := by rw [hl]; exact there_new w z23 52
  exact ⟨_, rfl, ((Below.refl _ _).alloc (Nat.le_refl _) _).trans (below_cells (Nat.le_refl _) us 0 _), set_there ht, ht⟩
theorem sgNone_in (w : World) (N : Prop) (S : Nat → Prop) : Sg.none?.dat.In w N S [.string ⟨#[]⟩, .slice none 0 0, .slice none 0 0, .string ⟨#[]⟩, .slice none 0 0, .int .i64 0, .int .i64 0] :=
  sg_shut (s := Sg.none?) (show (0 : Nat) ≤ _ by omega) (Row.nil _ _ _ _ _) (Row.nil _ _ _ _ _) (show (0 : Nat) ≤ _ by omega) (lies_row.2 (Row.nil _ _ _ _ _))
theorem exNone_in (w : World) (N : Prop) (S : Nat → Prop) : Ex.none?.dat.In w N S [.int .i64 0, .string ⟨#[]⟩, .string ⟨#[]⟩, .slice none 0 0, .int .i64 0, .slice none 0 0, .slice none 0 0, .int .i64 0] :=
  ex_shut (e := Ex.none?) (show (0 : Nat) ≤ _ by omega) (show (0 : Nat) ≤ _ by omega) (lies_row.2 (Row.nil _ _ _ _ _)) (lies_row.2 (Row.nil _ _ _ _ _)) (Row.nil _ _ _ _ _) (Nat.le_refl _)
end Go.Proofs.YtjhlehdjdaphcaaDoor
namespace Go.Proofs.YtjhlehdjdaphcaaDoor
open Go.RowKit

end Go.Proofs.YtjhlehdjdaphcaaDoor
