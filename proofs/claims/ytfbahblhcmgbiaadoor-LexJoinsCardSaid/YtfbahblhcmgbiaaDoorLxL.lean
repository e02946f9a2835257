/- What the walks of the laws of layer 3 ask of package lex: the contract of each of its functions, as one statement. No condition. -/
import Derived.Test.YtfbahblhcmgbiaaDoorLxF
import Derived.Test.YtfbahblhcmgbiaaDoorEfC
namespace Go.Proofs.YtfbahblhcmgbiaaDoor
open Go.RowKit

/-- What lex.Tokens returns for a text that is not too long. -/
def LexPost (w : World) (s : ByteArray) (e : Ending) (w' : World) : Prop :=
  Below w.heap.size w w' ∧ match left s 0 with
    | .bad i => e = .returned (.tuple #[.slice none 0 0, faultV 1 i])
    | .ok ts => ∃ A c, e = .returned (.tuple #[.slice A (ts.length + 1) c, .nilIface]) ∧ TS w' A (ts.length + 1) (full ts s.size)
/-- An offset as Line takes it. -/
def clip (s : ByteArray) (i : Int) : Nat := min (max i 0).toNat s.size

structure LexOk : Prop where
  tokens : ∀ (s : ByteArray) (w : World), s.size ≤ 65536 → Calls Tryd.prog 9 #[.string s] w (LexPost w s)
  same : ∀ (A B : Option Addr) (n m ca cb : Nat) (a b : List Tk) (w : World), n ≤ 9223372036854775807 → m ≤ 9223372036854775807 → TS w A n a → TS w B m b →
    Calls Tryd.prog 16 #[.slice A n ca, .slice B m cb] w fun e w' => e = .returned (.bool (alikeB a b)) ∧ Below w.heap.size w w'
  join : ∀ (A : Option Addr) (n ca : Nat) (a : List Tk) (w : World), n ≤ 9223372036854775807 → wideT a ≤ 1000000 → (∀ t ∈ a, t.k = 3 ∨ t.s.data.toList ≠ []) → TS w A n a →
    Calls Tryd.prog 14 #[.slice A n ca] w fun e w' => e = .returned (.string ⟨(joinT [] a).toArray⟩) ∧ Below w.heap.size w w'
  line : ∀ (s : ByteArray) (i : Int) (w : World), s.size ≤ 3000 → -9223372036854775808 ≤ i → i ≤ 9223372036854775807 →
    Calls Tryd.prog 18 #[.string s, .int .i64 i] w fun e w' => e = .returned (.tuple #[.int .i64 (lineL 1 1 (s.data.toList.take (clip s i))).1, .int .i64 (lineL 1 1 (s.data.toList.take (clip s i))).2]) ∧ Below w.heap.size w w'
end Go.Proofs.YtfbahblhcmgbiaaDoor
