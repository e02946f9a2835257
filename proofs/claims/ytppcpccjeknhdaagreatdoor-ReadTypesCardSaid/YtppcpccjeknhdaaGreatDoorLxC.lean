/- The walks of the reference's Alike, Same and Join. -/
import Derived.Test.YtppcpccjeknhdaaGreatDoorLxB
import Derived.Deep.QuietTactic
import Derived.BigQuiet
import Derived.Lib.SmallJoins
namespace Go.Proofs.YtppcpccjeknhdaaGreatDoor
open Go.RowKit

def sameT (x y : Tk) : Bool := (x.k == y.k) && (x.s.toList == y.s.toList)
def alikeB : List Tk → List Tk → Bool
  | [], [] => true
  | x :: a, y :: b => sameT x y && alikeB a b
  | _, _ => false
theorem alikeB_len : ∀ {a b : List Tk}, a.length ≠ b.length → alikeB a b = false
  | [], [], h => absurd rfl h
  | [], _ :: _, _ => rfl
  | _ :: _, [], _ => rfl
  | x :: a, y :: b, h => by
    rw [alikeB, alikeB_len (a := a) (b := b) (by simp at h; omega), Bool.and_false]
theorem alikeB_step {a b : List Tk} {k : Nat} {x y : Tk} (hx : a[k]? = some x) (hy : b[k]? = some y) : alikeB (a.drop k) (b.drop k) = (sameT x y && alikeB (a.drop (k + 1)) (b.drop (k + 1))) := by
  obtain ⟨h1, e1⟩ := List.getElem?_eq_some_iff.1 hx
  obtain ⟨h2, e2⟩ := List.getElem?_eq_some_iff.1 hy
  rw [List.drop_eq_getElem_cons h1, List.drop_eq_getElem_cons h2, e1, e2, alikeB]

end Go.Proofs.YtppcpccjeknhdaaGreatDoor
