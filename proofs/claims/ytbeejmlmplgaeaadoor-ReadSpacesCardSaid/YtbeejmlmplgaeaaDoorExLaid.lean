/- Expressions that came in, opened. No condition. -/
import Derived.Test.YtbeejmlmplgaeaaDoorTyLaid
import Derived.Test.YtbeejmlmplgaeaaDoorExB
namespace Go.Proofs.YtbeejmlmplgaeaaDoor
open Go.ChangeShapes Go.WideShapes Go.ChangeAt Go.RowKit

theorem cInt : Tryd.prog.cellsOf 3 = 1 := by kernel_rfl
theorem cTys : Tryd.prog.cellsOf 22 = 1 := by kernel_rfl
theorem cExs : Tryd.prog.cellsOf 25 = 1 := by kernel_rfl
theorem cEx : Tryd.prog.cellsOf 27 = 8 := by kernel_rfl

theorem list8 {l : List Value} (h : l.length = 8) : ∃ a b c d e f g i, l = [a, b, c, d, e, f, g, i] := by
  match l, h with
  | [a, b, c, d, e, f, g, i], _ => exact ⟨a, b, c, d, e, f, g, i, rfl⟩

set_option maxRecDepth 100000 in
/-- The eight cells of an expression that is read, but for its kids. -/
theorem open_ex8 {H : Type} {enc : TypeId × Value → H} {w : World} {base : Nat} {spare : Nat → Bool} {held : Bool} {fuel : Nat} {cs : List Value} {x : DataW H × List MemPlace}
    (h : DataW.trod enc Tryd.prog w base spare held fuel 27 cs = some x) :
    ∃ n k s t A m a B l b ts v o y, fuel = n + 1 ∧ cs = [.int .i64 k, .string s, .string (Ty.name t), .slice A m a, .int .i64 (Ty.off t), .slice B l b, v, .int .i64 o] ∧ s.size ≤ 9223372036854775807 ∧ (Ty.name t).size ≤ 9223372036854775807
      ∧ Here w A m (Ty.args t) ∧ Here w B l ts ∧ DataW.trod enc Tryd.prog w base spare held n 25 [v] = some y := by
  obtain ⟨xs, n, hn, _, hl, hxl, hg⟩ := DataW.trod_struct Tryd.underlying27 h
  obtain ⟨c0, c1, c2, c3, c4, c5, c6, c7, rfl⟩ := list8 (hl.trans cEx)
  have field : ∀ (j : Nat) (f : Field), _ = some f → ∃ y, DataW.trod enc Tryd.prog w base spare held n f.type (([c0, c1, c2, c3, c4, c5, c6, c7].drop f.offset).take (Tryd.prog.cellsOf f.type)) = some y := fun j f hj => by
    have hjx : j < xs.length := by rw [hxl]; exact (Array.getElem?_eq_some_iff.1 hj).1
    exact ⟨_, (hg j f hj).trans (List.getElem?_eq_getElem hjx)⟩
  obtain ⟨y0, t0⟩ : ∃ y, DataW.trod enc Tryd.prog w base spare held n 3 (([c0, c1, c2, c3, c4, c5, c6, c7].drop 0).take (Tryd.prog.cellsOf 3)) = some y := field 0 _ rfl
  obtain ⟨y1, t1⟩ : ∃ y, DataW.trod enc Tryd.prog w base spare held n 9 (([c0, c1, c2, c3, c4, c5, c6, c7].drop 1).take (Tryd.prog.cellsOf 9)) = some y := field 1 _ rfl
  obtain ⟨y2, t2⟩ : ∃ y, DataW.trod enc Tryd.prog w base spare held n 24 (([c0, c1, c2, c3, c4, c5, c6, c7].drop 2).take (Tryd.prog.cellsOf 24)) = some y := field 2 _ rfl
  obtain ⟨y3, t3⟩ : ∃ y, DataW.trod enc Tryd.prog w base spare held n 22 (([c0, c1, c2, c3, c4, c5, c6, c7].drop 5).take (Tryd.prog.cellsOf 22)) = some y := field 3 _ rfl
  obtain ⟨y4, t4⟩ : ∃ y, DataW.trod enc Tryd.prog w base spare held n 25 (([c0, c1, c2, c3, c4, c5, c6, c7].drop 6).take (Tryd.prog.cellsOf 25)) = some y := field 4 _ rfl
  obtain ⟨y5, t5⟩ : ∃ y, DataW.trod enc Tryd.prog w base spare held n 3 (([c0, c1, c2, c3, c4, c5, c6, c7].drop 7).take (Tryd.prog.cellsOf 3)) = some y := field 5 _ rfl
  simp only [cInt, cStr, cTy, cTys, cExs, List.drop_succ_cons, List.drop_zero, List.take_succ_cons, List.take_zero] at t0 t1 t2 t3 t4 t5
  obtain ⟨k, e0, _, _⟩ := DataW.trod_int Tryd.underlying3 t0
  obtain ⟨s, e1, _, hs⟩ := DataW.trod_string Tryd.underlying9 t1
  obtain ⟨n2, r, v2, p, z, _, e2, hr, t2'⟩ := open_ty3 t2
  obtain ⟨A, m, a, us, rfl, hA⟩ := open_tys n2 t2'
  obtain ⟨B, l, b, ts, e3, hB⟩ := open_tys n t3
  obtain ⟨o, e5, _, _⟩ := DataW.trod_int Tryd.underlying3 t5
  simp only [List.cons.injEq, and_true] at e0 e1 e2 e5
  obtain ⟨rfl, rfl, rfl⟩ := e2
  subst e0 e1 e3 e5
  unfold maxLen at hs
  exact ⟨n, k, s, .mk r us p, A, m, a, B, l, b, ts, c6, o, y4, hn, rfl, hs, hr, hA, hB, t4⟩

set_option maxRecDepth 100000 in
/-- A slice of expressions that came in. -/
theorem open_exs {H : Type} {enc : TypeId × Value → H} {w : World} {base : Nat} {spare : Nat → Bool} {held : Bool} : ∀ (fuel : Nat) {v : Value} {x : DataW H × List MemPlace},
    DataW.trod enc Tryd.prog w base spare held fuel 25 [v] = some x → ∃ A n cap xs, v = .slice A n cap ∧ RowH w 8 A n (Ex.dats xs) ∧ n ≤ cap := by
  intro fuel
  induction fuel using Nat.strongRecOn with
  | _ fuel ih =>
    intro v x h
    rcases DataW.trod_slice Tryd.underlying25 h with ⟨hv, _⟩ | ⟨a, len, cap, elems, rest, n, hn, hv, _, _, hl, hm, hlen, hel, _, _⟩
    · obtain rfl : v = .slice none 0 0 := by simpa using hv
      exact ⟨none, 0, 0, [], rfl, Row.nil _ _ _ _ _, Nat.le_refl _⟩
    · obtain rfl : v = .slice (some a) len cap := by simpa using hv
      have hs : ∀ i : Nat, ∃ e : Ex, i < len → ∃ us, a.block < w.heap.size ∧ e.dat.H w us ∧ CellsAt w (a.add (i * 8)) us := fun i => by
        by_cases hlt : i < len
        · have h1 := hel i hlt
          rw [List.getElem?_eq_getElem (by omega), Option.bind_eq_some_iff] at h1
          obtain ⟨cs', hc, ht'⟩ := h1
          rw [cEx] at hc
          obtain ⟨n2, k, s, t, A, m, c, B, l, b, ts, v2, o, y, hn2, rfl, h2, h3, h4, h5, h6⟩ := open_ex8 ht'
          obtain ⟨C, r, d, ys, rfl, h7, h8⟩ := ih n2 (by omega) h6
          obtain ⟨_, _, hat⟩ := World.cells?_some hc
          have h0 := hat 0 (by omega)
          have hb := cell_lt (h0.trans rfl)
          rw [block_of_add, block_of_add] at hb
          refine ⟨.mk k s t ts ys o, fun _ => ⟨_, hb, ex_shut (e := .mk k s t ts ys o) (a := c) (b := b) h2 h3 h4 h5 h7 h8, fun j u hu => ?_⟩⟩
          have hj : j < 8 := (List.getElem?_eq_some_iff.1 hu).1
          rw [hat j hj]
          exact hu
        · exact ⟨.mk 0 ⟨#[]⟩ (.mk ⟨#[]⟩ [] 0) [] [] 0, fun h => absurd h hlt⟩
      obtain ⟨f, hf⟩ := Classical.axiomOfChoice hs
      unfold maxLen at hm
      refine ⟨some a, len, cap, (List.range len).map f, rfl, ⟨by rw [Ex.dats_len]; simp, by omega, Dat.Elems.of fun j d hj => ?_⟩, hl⟩
      rw [Ex.dats_map, List.getElem?_map, Option.map_eq_some_iff] at hj
      obtain ⟨e, he, rfl⟩ := hj
      have hjl : j < len := by
        have := (List.getElem?_eq_some_iff.1 he).1
        simpa using this
      have he2 : f j = e := by simpa [hjl] using he
      obtain ⟨us, h1, h2, h3⟩ := hf j hjl
      rw [he2] at h2
      refine ⟨a, us, rfl, h1, False.elim, h2, ?_⟩
      rw [Nat.zero_add]
      exact h3

set_option maxRecDepth 100000 in
/-- An expression that came in by value. -/
theorem open_exV {H : Type} {enc : TypeId × Value → H} {w : World} {base b0 : Nat} {r : Reach} {spare : Nat → Bool} {held : Bool} {v : Value} {d : DataW H} {p : List MemPlace}
    (hv : Value.okWide Tryd.prog w r b0 27 v) (h : DataW.Trod enc Tryd.prog w base spare held 27 v d p) : ∃ (e : Ex) (us : List Value), v = .agg us.toArray ∧ e.dat.H w us := by
  obtain ⟨cs, rfl, _⟩ := okWide_struct Tryd.underlying27 hv
  obtain ⟨f, hf⟩ := h
  obtain ⟨n, k, s, t, A, m, a, B, l, b, ts, u, o, y, _, hcs, h2, h3, h4, h5, h6⟩ := open_ex8 hf
  obtain ⟨C, r, c, xs, rfl, h7, h8⟩ := open_exs n h6
  refine ⟨.mk k s t ts xs o, _, ?_, ex_shut (e := .mk k s t ts xs o) (a := a) (b := b) h2 h3 h4 h5 h7 h8⟩
  congr 1
  exact Array.toList_inj.1 (by have h9 := hcs; simp only [Value.cells] at h9; exact h9)
set_option maxRecDepth 100000 in
theorem open_exsV {H : Type} {enc : TypeId × Value → H} {w : World} {base b0 : Nat} {r : Reach} {spare : Nat → Bool} {held : Bool} {v : Value} {d : DataW H} {p : List MemPlace}
    (hv : Value.okWide Tryd.prog w r b0 25 v) (h : DataW.Trod enc Tryd.prog w base spare held 25 v d p) : ∃ A n cap xs, v = .slice A n cap ∧ RowH w 8 A n (Ex.dats xs) ∧ n ≤ cap := by
  obtain ⟨a, l, c, rfl⟩ := okWide_slice Tryd.underlying25 hv
  obtain ⟨f, hf⟩ := h
  exact open_exs f (by simpa [Value.cells] using hf)
end Go.Proofs.YtbeejmlmplgaeaaDoor
