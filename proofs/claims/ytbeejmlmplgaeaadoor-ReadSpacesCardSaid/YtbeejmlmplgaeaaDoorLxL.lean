/- What the walks of the laws of layer 3 ask of package lex: the contract of each of its functions, as one statement. No condition. -/
import Derived.Test.YtbeejmlmplgaeaaDoorLxF
import Derived.Test.YtbeejmlmplgaeaaDoorEfC
namespace Go.Proofs.YtbeejmlmplgaeaaDoor
open Go.RowKit

/-- What lex.Tokens returns for a text that is not too long. -/
def LexPost (w : World) (s : ByteArray) (e : Ending) (w' : World) : Prop :=
  Below w.heap.size w w' ∧ match left s 0 with
    | .bad i => e = .returned (.tuple #[.slice none 0 0, faultV 1 i])
    | .ok ts => ∃ A c, e = .returned (.tuple #[.slice A (ts.length + 1) c, .nilIface]) ∧ TS w' A (ts.length + 1) (full ts s.size)
/-- An offset as Line takes it. -/
def clip (s : ByteArray) (i : Int) : Nat := min (max i 0).toNat s.size

structure LexOk : Prop where
  tokens : ∀ (s : ByteArray) (w : World), s.size ≤ 65536 → Calls Tryd.prog 17 #[.string s] w (LexPost w s)
end Go.Proofs.YtbeejmlmplgaeaaDoor
