/- The law TableNil: true, at every input. The condition: the table of powers. -/
import Derived.Test.YtjhlehdjdaphcaaDoorQMBdJ
import Derived.Test.YtjhlehdjdaphcaaDoorQMTbM
namespace Go.Proofs.YtjhlehdjdaphcaaDoor
open Go.RowKit

theorem few_wtT {t : Ty} (h : t.few = true) : t.wt ≤ 200 := by
  unfold Ty.few at h
  have := Ty.cnt_wt t 0 (by omega) (by have := of_decide_eq_true h; omega)
  have := of_decide_eq_true h
  omega
theorem loadOpQ {ty : TypeId} {z : Nat} (hf : Flat ty z) {ops : Array Oper} {rest : List Oper} {a : Act} {w : World} {Q : Exit → Act → World → Prop} {ps : String} {af : Array Edge} {g : Option (Nat × Bool)} (i d : Nat) {p : Addr} {us : List Value}
    (hw : Region.wanted { dst := some d, op := .load ty (.tmp i), type := ty, pos := ps, after := af, guard := g } (yielded ops a.tmps) = true) (hx : a.eval (.tmp i) = .pointer (some p)) (hc : CellsAt w p us) (hl : us.length = z)
    (h : wpList Tryd.prog ops Q rest (a.put (some d) (.agg us.toArray)) w) :
    wpList Tryd.prog ops Q ({ dst := some d, op := .load ty (.tmp i), type := ty, pos := ps, after := af, guard := g } :: rest) a w :=
  wpList_step fun K hK => by
    obtain ⟨dsc, h1, h2⟩ := hf.row
    rw [if_pos hw]
    unfold Oper.wp execOp
    simp only [hx, Instr.loadAt, Instr.sureAddr, Sem.run_bind, Sem.run_pure, Result.andThen_ok, run_loadVar_at w p ty us _ hc h1 h2 (by rw [hl]; exact hf.size)]
    exact hK _ _ h
end Go.Proofs.YtjhlehdjdaphcaaDoor
