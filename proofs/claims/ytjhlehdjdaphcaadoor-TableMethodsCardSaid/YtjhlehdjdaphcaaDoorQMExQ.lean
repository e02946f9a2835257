/- Texts of right expressions: how long they are, and that they tell them apart. No program, no condition. -/
import Derived.Test.YtjhlehdjdaphcaaDoorQMExA
namespace Go.Proofs.YtjhlehdjdaphcaaDoor
namespace Ex

/-! ### the same expression: the same text -/
theorem same_mk {k l : Int} {s r : ByteArray} {t u : Ty} {ts us : List Ty} {xs ys : List Ex} {o p : Int} :
    same (mk k s t ts xs o) (mk l r u us ys p) = true ↔ k = l ∧ s.data.toList = r.data.toList ∧ Ty.cmp t u = 0 ∧ sameT ts us = true ∧ sameL xs ys = true := by
  rw [same]
  simp only [Bool.and_eq_true, beq_iff_eq, and_assoc]
/-! ### what a text begins with, and how it goes on -/
/-! ### what is asked, read -/
end Ex
end Go.Proofs.YtjhlehdjdaphcaaDoor
