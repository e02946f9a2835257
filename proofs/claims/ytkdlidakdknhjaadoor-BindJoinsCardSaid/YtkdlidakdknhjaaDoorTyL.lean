/- What the walks of the laws of layer 4 ask of package types: the contract of each of its functions, as one statement; the laws' look at fixed examples. No condition. -/
import Derived.Test.YtkdlidakdknhjaaDoorTyH
import Derived.Test.YtkdlidakdknhjaaDoorTyB
import Derived.Test.YtkdlidakdknhjaaDoorNmR
namespace Go.Proofs.YtkdlidakdknhjaaDoor
open Go.RowKit

/-- A function value that is not nil. -/
def FnPost (w : World) (e : Ending) (w' : World) : Prop := ∃ fn ts cb, e = .returned (.func fn ts cb) ∧ Below w.heap.size w w'

/-- A slice that the call has built is no longer than its array. -/
theorem own_cap {w : World} {base n k c size : Nat} {A : Option Addr} {e : TypeId} {xs : List Value} (h : w.ownsRow base e size (.slice A k c) n xs) : n ≤ c := by
  rcases h.2 with ⟨hv, h0⟩ | ⟨g, cap, cur, hv, _, _, hnc, _⟩
  · omega
  · injection hv with _ _ h3
    omega

/-- Names that a slice may hold: it is no longer than its array, and a name's length is an int. -/
def Fits (ns : List ByteArray) (nl nc : Nat) : Prop := nl ≤ nc ∧ ∀ s ∈ ns, s.size ≤ 9223372036854775807
theorem fits_nil : Fits [] 0 0 := ⟨Nat.le_refl _, fun _ h => by cases h⟩
theorem fits_b (c : UInt8) : Fits [⟨#[c]⟩] 1 1 := ⟨Nat.le_refl _, fun s hs => by rw [List.mem_singleton.1 hs]; show 1 ≤ _; omega⟩

structure TypesOk : Prop where
  same : ∀ (t u : Ty) (A B : Option Addr) (m l c d : Nat) (w : World), t.Small → u.Small → Here w A m t.args → Here w B l u.args →
    Calls Tryd.prog 86 #[.agg #[.string t.name, .slice A m c, .int .i64 t.off], .agg #[.string u.name, .slice B l d, .int .i64 u.off]] w (EqvPost w (t.cmp u == 0))
  all : ∀ (xs : List Ty) (ns : List ByteArray) (us : List Ty) (A N U : Option Addr) (m c nl ul nc uc : Nat) (w : World), (∀ u ∈ us, u.Small) → (∀ x ∈ xs, x.Small) → m ≤ 1000 → nl ≤ 1000 → ul ≤ 1000 → Fits ns nl nc → Here w A m xs → Sl w N nl ns → Here w U ul us →
    Calls Tryd.prog 64 #[.slice A m c, .slice N nl nc, .slice U ul uc] w (AllPost w (xs.map (Ty.subst ns us)))
  clone : ∀ (t : Ty) (A : Option Addr) (m c : Nat) (w : World), t.Small → Here w A m t.args → Calls Tryd.prog 66 #[.agg #[.string t.name, .slice A m c, .int .i64 t.off]] w (TyPost w t)

/-! ### the examples -/
/-- Map[a, List[b]] -/
def exT : Ty := .mk ⟨#[77, 97, 112]⟩ [.mk ⟨#[97]⟩ [] 0, .mk ⟨#[76, 105, 115, 116]⟩ [.mk ⟨#[98]⟩ [] 0] 0] 0
/-- Map[a, List[Int]] -/
def exS : Ty := .mk ⟨#[77, 97, 112]⟩ [.mk ⟨#[97]⟩ [] 0, .mk ⟨#[76, 105, 115, 116]⟩ [.mk ⟨#[73, 110, 116]⟩ [] 0] 0] 0
def exB : Ty := .mk ⟨#[98]⟩ [] 0
def exI : Ty := .mk ⟨#[73, 110, 116]⟩ [] 0
theorem exT_small : exT.Small := Ty.small_of_wt (by simp [exT, Ty.wt, Ty.wtL, ByteArray.size])
theorem exS_small : exS.Small := Ty.small_of_wt (by simp [exS, Ty.wt, Ty.wtL, ByteArray.size])
theorem exB_small : exB.Small := Ty.small_of_wt (by simp [exB, Ty.wt, Ty.wtL, ByteArray.size])
theorem exI_small : exI.Small := Ty.small_of_wt (by simp [exI, Ty.wt, Ty.wtL, ByteArray.size])
theorem exT_subst : exT.subst [⟨#[98]⟩] [exI] = exS := by simp [exT, exS, exI, Ty.subst, Ty.substL, Ty.pick]
theorem exT_text : exT.text = [77, 97, 112, 91, 97, 44, 32, 76, 105, 115, 116, 91, 98, 93, 93] := by simp [exT, Ty.text, Ty.textL]
theorem exS_text : exS.text = [77, 97, 112, 91, 97, 44, 32, 76, 105, 115, 116, 91, 73, 110, 116, 93, 93] := by simp [exS, Ty.text, Ty.textL]
theorem exT_depth : exT.depth = 3 := by simp [exT, Ty.depth, Ty.depthL]
theorem exT_size : exT.list.length = 4 := by simp [exT, Ty.list, Ty.listL]
theorem exT_right : exT.right = true := by simp [exT, Ty.right, Ty.list, Ty.listL]; decide
theorem exTT : exT.cmp exT = 0 := by simp [exT, Ty.cmp, Ty.cmpL]
theorem exTS : (exT.cmp exS == 0) = false := by simp [exT, exS, Ty.cmp, Ty.cmpL, Lib.compareBytes]
theorem exBT : exB.cmp exT = 1 := by simp [exT, exB, Ty.cmp, Lib.compareBytes]
end Go.Proofs.YtkdlidakdknhjaaDoor
