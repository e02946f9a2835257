/- What the listed variables of layer 7's laws give: the table of words, the variable of package errors. No condition. -/
import Derived.Test.YtbeejmlmplgaeaaDoorTyLaid
import Derived.Test.YtbeejmlmplgaeaaDoorEfA
namespace Go.Proofs.YtbeejmlmplgaeaaDoor.Rd
open Go.RowKit

theorem rtRow : (Tryd.prog.cutTypes.find? (·.1 == "internal/reflectlite.rtype")).map (·.2) = some 118 := by kernel_rfl
theorem oneRow : ((List.range 164).filter fun t => Tryd.prog.rowNamed t [101, 114, 114, 111, 114]) = [32] := by kernel_rfl
theorem tySize : Tryd.prog.types.size = 164 := by kernel_rfl
/-- The handle among the listed variables. -/
theorem err_of_handles {W : World} {hs : List (String × DataW Unit)} (h : handlesMet Tryd.prog hs W) (hm : ("errors.errorType", Rows.laid_errors_errorType) ∈ hs) : ErrVar W := by
  obtain ⟨name, u, ty, e1, e2, e3, e4, e5⟩ := h _ hm
  have en : name = [101, 114, 114, 111, 114] := (Option.some.inj e1).symm
  subst en
  obtain rfl := Option.some.inj (rtRow.symm.trans e2)
  have hmm : ty ∈ (List.range 164).filter fun t => Tryd.prog.rowNamed t [101, 114, 114, 111, 114] := List.mem_filter.2 ⟨List.mem_range.2 (by rw [← tySize]; exact e3), e4⟩
  rw [oneRow] at hmm
  obtain rfl := List.mem_singleton.1 hmm
  have hh : typeHandle Tryd.prog 32 = .pointer (some ⟨3, 32, none⟩) := by kernel_rfl
  rw [hh] at e5
  unfold ErrVar
  simpa using World.var?_cell gTyp e5 0
theorem env_of_laid {W : World} (h : laidMetH Tryd.prog [("errors.errorType", Rows.laid_errors_errorType), ("castings/name.reserved", Rows.laid_castings_name_reserved)] W) : ResVar W ∧ ErrVar W := by
  have h' : laidMet Tryd.prog [("castings/name.reserved", Rows.laid_castings_name_reserved)] W ∧ handlesMet Tryd.prog [("errors.errorType", Rows.laid_errors_errorType)] W := h
  exact ⟨res_of_laid h'.1 (List.mem_singleton.2 rfl), err_of_handles h'.2 (List.mem_singleton.2 rfl)⟩
end Go.Proofs.YtbeejmlmplgaeaaDoor.Rd
