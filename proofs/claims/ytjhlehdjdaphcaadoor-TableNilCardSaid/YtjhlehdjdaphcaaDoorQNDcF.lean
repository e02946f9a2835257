/- What the program computes of being right, in plain words. No program, no condition.
A struct of many cells is loaded, stored and handed back whole, its cells not spelled out. No condition.
The walks of slices.EqualFunc at declarations and of decl.Same. No condition. -/
import Derived.Test.YtjhlehdjdaphcaaDoorQNEkW
import Derived.Deep.DeepCutAuto
namespace Go.Proofs.YtjhlehdjdaphcaaDoor
open Go.RowKit

end Go.Proofs.YtjhlehdjdaphcaaDoor
namespace Go.Proofs.YtjhlehdjdaphcaaDoor
open Go.RowKit

theorem run_loadVar_at (w : World) (p : Addr) (ty : TypeId) (cs : List Value) (d : TypeDesc) (hc : CellsAt w p cs) (hu : Tryd.prog.underlying ty = some d) (hd : d.isRow = true) (hi : (Tryd.prog.info? ty).map (·.size) = some cs.length) :
    (loadVar ty p).run Tryd.prog w = .ok (.agg cs.toArray) w := by
  have hl : (loadCells p cs.length).run Tryd.prog w = .ok cs.toArray w := run_loadCells_list (P := Tryd.prog) w p cs hc
  cases hq : Tryd.prog.info? ty with
  | none => simp [hq] at hi
  | some i =>
    have hs : i.size = cs.length := by simpa [hq] using hi
    have hagg : (isAgg ty).run Tryd.prog w = .ok true w := by
      unfold isAgg
      rw [Sem.run_bind, run_underlying hu w]
      cases d <;> simp_all
    simp [loadVar, Sem.run_bind, hagg, sizeOf, typeInfo, hq, hs, hl]
theorem set_there {w : World} {k : Nat} {us : List Value} (h : w.there k 0 us.length) : Boxd (w.setCells k 0 us) k us := fun j u hu => by
  have := World.rangeAt_setCells_same w k 0 us h j u hu
  rwa [Nat.zero_add] at this
theorem there_new (w : World) (cs : Array Value) (T : TypeId) : (w.alloc (.cells cs T)).there w.heap.size 0 cs.size := fun j hj => ⟨by
  rw [Nat.zero_add, cell_of_row _ _ j _ _ (0, 0) (heap_alloc_new _ _), Array.getElem?_eq_getElem hj]
  rfl, frozen_of_row (heap_alloc_new _ _) _⟩
theorem Boxd.at0 {w : World} {b : Nat} {us : List Value} (h : Boxd w b us) : CellsAt w ⟨b, 0, none⟩ us := fun j u hu => by rw [add_zero_addr]; exact h j u hu
theorem ty_cells {w : World} {N : Prop} {S : Nat → Prop} {t : Ty} {us : List Value} (h : t.dat.In w N S us) : ∀ u ∈ us, u.oneCell' = true := by
  obtain ⟨B, m, c, rfl, _⟩ := ty_open h
  intro u hu
  simp only [List.mem_cons, List.not_mem_nil, or_false] at hu
  rcases hu with rfl | rfl | rfl <;> rfl
theorem ex_cells' {w : World} {N : Prop} {S : Nat → Prop} {e : Ex} {us : List Value} (h : e.dat.In w N S us) : ∀ u ∈ us, u.oneCell' = true := by
  obtain ⟨A, m, a, B, l, b, C, n, c, rfl, _⟩ := ex_open h
  intro u hu
  simp only [List.mem_cons, List.not_mem_nil, or_false] at hu
  rcases hu with rfl | rfl | rfl | rfl | rfl | rfl | rfl | rfl <;> rfl
theorem sg_cells {w : World} {N : Prop} {S : Nat → Prop} {s : Sg} {us : List Value} (h : s.dat.In w N S us) : ∀ u ∈ us, u.oneCell' = true := by
  obtain ⟨F, nf, cf, P, np, cp, A, m, a, rfl, _⟩ := sg_open h
  intro u hu
  simp only [List.mem_cons, List.not_mem_nil, or_false] at hu
  rcases hu with rfl | rfl | rfl | rfl | rfl | rfl | rfl <;> rfl
theorem dc_cells {w : World} {N : Prop} {S : Nat → Prop} {d : Dc} {us : List Value} (h : d.dat.In w N S us) : ∀ u ∈ us, u.oneCell' = true := by
  obtain ⟨F, nf, cf, P, np, cp, G, ng, cg, V, nv, cv, sv, bv, rfl, _, _, _, _, _, _, h7, h8⟩ := dc_open h
  intro u hu
  rcases List.mem_append.1 hu with hu | hu
  · simp only [List.mem_cons, List.not_mem_nil, or_false] at hu
    rcases hu with rfl | rfl | rfl | rfl | rfl | rfl | rfl <;> rfl
  rcases List.mem_append.1 hu with hu | hu
  · exact sg_cells h7 u hu
  rcases List.mem_append.1 hu with hu | hu
  · exact ex_cells' h8 u hu
  · simp only [List.mem_cons, List.not_mem_nil, or_false] at hu
    rcases hu with rfl
    rfl
theorem dc_len {w : World} {N : Prop} {S : Nat → Prop} {d : Dc} {us : List Value} (h : d.dat.In w N S us) : us.length = 23 := (Dat.In.len _ _ h).trans (Dc.dat_size d)
abbrev z23 : Array Value := #[.int .i64 0, .string ⟨#[]⟩, .slice none 0 0, .slice none 0 0, .slice none 0 0, .string ⟨#[]⟩, .slice none 0 0, .string ⟨#[]⟩, .slice none 0 0, .slice none 0 0, .string ⟨#[]⟩, .slice none 0 0, .int .i64 0, .int .i64 0,
  .int .i64 0, .string ⟨#[]⟩, .string ⟨#[]⟩, .slice none 0 0, .int .i64 0, .slice none 0 0, .slice none 0 0, .int .i64 0, .int .i64 0]
theorem sgNone_in (w : World) (N : Prop) (S : Nat → Prop) : Sg.none?.dat.In w N S [.string ⟨#[]⟩, .slice none 0 0, .slice none 0 0, .string ⟨#[]⟩, .slice none 0 0, .int .i64 0, .int .i64 0] :=
  sg_shut (s := Sg.none?) (show (0 : Nat) ≤ _ by omega) (Row.nil _ _ _ _ _) (Row.nil _ _ _ _ _) (show (0 : Nat) ≤ _ by omega) (lies_row.2 (Row.nil _ _ _ _ _))
theorem exNone_in (w : World) (N : Prop) (S : Nat → Prop) : Ex.none?.dat.In w N S [.int .i64 0, .string ⟨#[]⟩, .string ⟨#[]⟩, .slice none 0 0, .int .i64 0, .slice none 0 0, .slice none 0 0, .int .i64 0] :=
  ex_shut (e := Ex.none?) (show (0 : Nat) ≤ _ by omega) (show (0 : Nat) ≤ _ by omega) (lies_row.2 (Row.nil _ _ _ _ _)) (lies_row.2 (Row.nil _ _ _ _ _)) (Row.nil _ _ _ _ _) (Nat.le_refl _)
end Go.Proofs.YtjhlehdjdaphcaaDoor
namespace Go.Proofs.YtjhlehdjdaphcaaDoor
open Go.RowKit

end Go.Proofs.YtjhlehdjdaphcaaDoor
