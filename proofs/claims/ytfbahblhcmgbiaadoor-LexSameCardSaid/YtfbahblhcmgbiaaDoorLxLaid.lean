/- From what the rows of layer 3 list of package-level variables to what the walks ask (ErrVar); a slice of tokens opened. No condition. -/
import Derived.Test.YtfbahblhcmgbiaaDoorCdKit
import Derived.Test.YtfbahblhcmgbiaaDoorLxB
namespace Go.Proofs.YtfbahblhcmgbiaaDoor
open Go.ChangeShapes Go.WideShapes Go.ChangeAt Go.RowKit

theorem flatTok : flatB Tryd.prog 44 = true := by kernel_rfl
theorem cTok : Tryd.prog.cellsOf 44 = 3 := by kernel_rfl

set_option maxRecDepth 100000 in
theorem open_tok {H : Type} {enc : TypeId × Value → H} {w : World} {base : Nat} {spare : Nat → Bool} {held : Bool} {fuel : Nat} {cs : List Value} {x : DataW H × List MemPlace}
    (h : DataW.trod enc Tryd.prog w base spare held fuel 44 cs = some x) : ∃ t : Tk, cs = cells3 t := by
  obtain ⟨n, hl, hf⟩ := open_cells Tryd.underlying44 flatTok h
  obtain ⟨u0, y0, c0, t0⟩ := hf 0 _ rfl
  obtain ⟨u1, y1, c1, t1⟩ := hf 1 _ rfl
  obtain ⟨u2, y2, c2, t2⟩ := hf 2 _ rfl
  obtain ⟨k, e0, _, _⟩ := DataW.trod_int Tryd.underlying3 t0
  obtain ⟨s, e1, _, _⟩ := DataW.trod_string Tryd.underlying9 t1
  obtain ⟨o, e2, _, _⟩ := DataW.trod_int Tryd.underlying3 t2
  obtain rfl : u0 = .int .i64 k := by simpa using e0
  obtain rfl : u1 = .string s := by simpa using e1
  obtain rfl : u2 = .int .i64 o := by simpa using e2
  have hl3 : cs.length = 3 := hl
  refine ⟨⟨k, s, o⟩, ?_⟩
  apply List.ext_getElem?
  intro j
  match j with
  | 0 => simpa [cells3] using c0
  | 1 => simpa [cells3] using c1
  | 2 => simpa [cells3] using c2
  | j + 3 => rw [List.getElem?_eq_none (by omega), List.getElem?_eq_none (by simp [cells3])]

/-- A slice of tokens that came in. -/
theorem open_toks {H : Type} {enc : TypeId × Value → H} {w : World} {base : Nat} {spare : Nat → Bool} {held : Bool} {fuel : Nat} {v : Value} {x : DataW H × List MemPlace}
    (h : DataW.trod enc Tryd.prog w base spare held fuel 28 [v] = some x) :
    ∃ A n cap ts, v = .slice A n cap ∧ n ≤ 9223372036854775807 ∧ TS w A n ts := by
  rcases Go.Deep.open_slice Tryd.underlying28 h with ⟨hv, _⟩ | ⟨a, len, cap, m, n, D, Pl, hv, _, hl, hm, hmm, _, hi⟩
  · obtain rfl : v = .slice none 0 0 := by simpa using hv
    exact ⟨none, 0, 0, [], rfl, by omega, rfl, fun j p hj => by simp at hj⟩
  · obtain rfl : v = .slice (some a) len cap := by simpa using hv
    have hlm : len ≤ m := by rw [hmm]; split <;> omega
    have hs : ∀ i : Nat, ∃ t : Tk, i < len → w.cell? (a.add (i * 3)) = some (.int .i64 t.k) ∧ w.cell? ⟨(a.add (i * 3)).block, (a.add (i * 3)).off + 1, none⟩ = some (.string t.s) ∧ w.cell? ⟨(a.add (i * 3)).block, (a.add (i * 3)).off + 2, none⟩ = some (.int .i64 t.o) := fun i => by
      by_cases hlt : i < len
      · obtain ⟨cs', hc, ht'⟩ := hi i (by omega)
        rw [cTok] at hc
        obtain ⟨t, rfl⟩ := open_tok ht'
        obtain ⟨_, _, hat⟩ := World.cells?_some hc
        have h0 := hat 0 (by omega)
        have h1 := hat 1 (by omega)
        have h2 := hat 2 (by omega)
        refine ⟨t, fun _ => ⟨?_, ?_, ?_⟩⟩
        · simpa [Addr.add, cells3] using h0
        · exact h1
        · exact h2
      · exact ⟨⟨0, ⟨#[]⟩, 0⟩, fun h => absurd h hlt⟩
    obtain ⟨f, hf⟩ := Classical.axiomOfChoice hs
    unfold maxLen at hm
    refine ⟨some a, len, cap, (List.range len).map f, rfl, by omega, by simp, fun j t hj => ?_⟩
    have hjl : j < len := by
      have := (List.getElem?_eq_some_iff.1 hj).1
      simpa using this
    have he2 : f j = t := by simpa [hjl] using hj
    obtain ⟨h1, h2, h3⟩ := hf j hjl
    rw [he2] at h1 h2 h3
    refine ⟨a, rfl, ?_, h1, h2, h3⟩
    have := cell_lt h1
    rwa [block_of_add] at this

set_option maxRecDepth 100000 in
/-- The same of an argument. -/
theorem open_toksV {H : Type} {enc : TypeId × Value → H} {w : World} {base b0 : Nat} {r : Reach} {spare : Nat → Bool} {held : Bool} {v : Value} {d : DataW H} {p : List MemPlace}
    (hv : Value.okWide Tryd.prog w r b0 28 v) (h : DataW.Trod enc Tryd.prog w base spare held 28 v d p) :
    ∃ A n cap ts, v = .slice A n cap ∧ n ≤ 9223372036854775807 ∧ TS w A n ts := by
  obtain ⟨a, l, c, rfl⟩ := okWide_slice Tryd.underlying28 hv
  obtain ⟨f, hf⟩ := h
  exact open_toks (by simpa [Value.cells] using hf)

theorem rtRow : (Tryd.prog.cutTypes.find? (·.1 == "internal/reflectlite.rtype")).map (·.2) = some 92 := by kernel_rfl
theorem oneRow : ((List.range 136).filter fun t => Tryd.prog.rowNamed t [101, 114, 114, 111, 114]) = [25] := by kernel_rfl
theorem tySize : Tryd.prog.types.size = 136 := by kernel_rfl

/-- The handle among the listed variables. -/
theorem err_of_handles {W : World} {hs : List (String × DataW Unit)} (h : handlesMet Tryd.prog hs W) (hm : ("errors.errorType", Rows.laid_errors_errorType) ∈ hs) : ErrVar W := by
  obtain ⟨name, u, ty, e1, e2, e3, e4, e5⟩ := h _ hm
  have en : name = [101, 114, 114, 111, 114] := (Option.some.inj e1).symm
  subst en
  obtain rfl := Option.some.inj (rtRow.symm.trans e2)
  have hmm : ty ∈ (List.range 136).filter fun t => Tryd.prog.rowNamed t [101, 114, 114, 111, 114] := List.mem_filter.2 ⟨List.mem_range.2 (by rw [← tySize]; exact e3), e4⟩
  rw [oneRow] at hmm
  obtain rfl := List.mem_singleton.1 hmm
  have hh : typeHandle Tryd.prog 25 = .pointer (some ⟨2, 25, none⟩) := by kernel_rfl
  rw [hh] at e5
  unfold ErrVar
  simpa using World.var?_cell gTyp e5 0

theorem env_of_laid {W : World} (h : laidMetH Tryd.prog Rows.lexMatchesReferenceRow.laid W) : ErrVar W := by
  have h' : laidMet Tryd.prog [] W ∧ handlesMet Tryd.prog [("errors.errorType", Rows.laid_errors_errorType)] W := h
  exact err_of_handles h'.2 (List.mem_singleton.2 rfl)
end Go.Proofs.YtfbahblhcmgbiaaDoor
