/- The walk of WholeType of layer 7's reference. The condition: the text is short. -/
import Derived.Test.YtbeejmlmplgaeaaGreatDoorRfC
namespace Go.Proofs.YtbeejmlmplgaeaaGreatDoor.Rd
open Go.RowKit

/-- What the reference reads from a whole text. -/
def RWholePost (s : ByteArray) (w : World) (e : Ending) (w' : World) : Prop := ∃ us, e = .returned (.tuple #[.agg us.toArray, .int .i64 (tyO s).code, .int .i64 (tyO s).at]) ∧ ((tyO s).val tyNone).dat.In w' False (Fr w.heap.size w') us ∧ Below w.heap.size w w'
theorem rwhole_bad {s : ByteArray} {w w' : World} {c a : Int} (h : tyO s = .err c a) (hb : Below w.heap.size w w') : RWholePost s w (.returned (.tuple #[.agg ([.string ⟨#[]⟩, .slice none 0 0, .int .i64 0] : List Value).toArray, .int .i64 c, .int .i64 a])) w' := by
  unfold RWholePost
  rw [h]
  exact ⟨_, rfl, tyNone_in _ _ _, hb⟩
/-- Where reading ends: what Finish tells is the outcome. -/
theorem raft_end {α : Type} {w : World} {A : Option Addr} {n : Nat} {L : List Tk} {p : Nat} {b : Bool} {v : α} {g : Got α} (h : RAft w A n L p b v g) : ∃ q, Pl w A n L p q ∧ ((finC b q = 0 ∧ finO b q = 0 ∧ endO g = .good v) ∨ (finC b q = 2 ∧ endO g = .err 2 (finO b q))) := by
  cases g with
  | ok u q =>
    obtain ⟨rfl, rfl, hp⟩ := h
    refine ⟨q, hp, ?_⟩
    by_cases hk : kind q = 3
    · exact .inl ⟨by simp [finC, hk], by simp [finO, hk], by simp [endO, hk]⟩
    · exact .inr ⟨by simp [finC, hk], by simp [finO, endO, hk]⟩
  | bad q =>
    obtain ⟨rfl, hp⟩ := h
    exact ⟨q, hp, .inr ⟨by simp [finC], by simp [finO, endO]⟩⟩
end Go.Proofs.YtbeejmlmplgaeaaGreatDoor.Rd
