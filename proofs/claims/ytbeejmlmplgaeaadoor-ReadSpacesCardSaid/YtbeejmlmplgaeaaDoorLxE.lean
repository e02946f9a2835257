/- The walks of the reference's Alike, Same and Join.
The walks of the reference's Same, at two slices that read alike, and Join.
The walk of the reference's Tokens: it returns the tokens of the text in the plain words of LxPure. -/
import Derived.Test.YtbeejmlmplgaeaaDoorLxB
import Derived.Deep.QuietTactic
import Derived.BigQuiet
import Derived.Lib.SmallJoins
import Derived.Laws.StructEq
namespace Go.Proofs.YtbeejmlmplgaeaaDoor
open Go.RowKit

def sameT (x y : Tk) : Bool := (x.k == y.k) && (x.s.toList == y.s.toList)
def alikeB : List Tk → List Tk → Bool
  | [], [] => true
  | x :: a, y :: b => sameT x y && alikeB a b
  | _, _ => false
theorem alikeB_len : ∀ {a b : List Tk}, a.length ≠ b.length → alikeB a b = false
  | [], [], h => absurd rfl h
  | [], _ :: _, _ => rfl
  | _ :: _, [], _ => rfl
  | x :: a, y :: b, h => by
    rw [alikeB, alikeB_len (a := a) (b := b) (by simp at h; omega), Bool.and_false]
theorem alikeB_step {a b : List Tk} {k : Nat} {x y : Tk} (hx : a[k]? = some x) (hy : b[k]? = some y) : alikeB (a.drop k) (b.drop k) = (sameT x y && alikeB (a.drop (k + 1)) (b.drop (k + 1))) := by
  obtain ⟨h1, e1⟩ := List.getElem?_eq_some_iff.1 hx
  obtain ⟨h2, e2⟩ := List.getElem?_eq_some_iff.1 hy
  rw [List.drop_eq_getElem_cons h1, List.drop_eq_getElem_cons h2, e1, e2, alikeB]

end Go.Proofs.YtbeejmlmplgaeaaDoor
namespace Go.Proofs.YtbeejmlmplgaeaaDoor
open Go.RowKit

theorem neqTok (k o : Int) (s : ByteArray) (w : World) : (binOp .neq 47 (.agg #[.int .i64 k, .string s, .int .i64 o]) (.agg #[.int .i64 k, .string s, .int .i64 o])).run Tryd.prog w = .ok (.bool false) w := by
  have u1 := Tryd.underlying3
  have u2 := Tryd.underlying9
  have a1 := Tryd.isAgg3
  have z1 := Tryd.sizeOf3
  have a2 := Tryd.isAgg9
  have z2 := Tryd.sizeOf9
  have hS : Tryd.prog.underlying 47 = some (.struct (Tryd.prog.fieldsOf 47)) := by kernel_rfl
  have hp : Tryd.prog.stoodInHeld 47 = false := by kernel_rfl
  rw [run_neq_struct, show (10000 : Nat) = 9999 + 1 from rfl, run_equalIn_agg w 9999 47 _ _ hS hp]
  simp only [Program.fieldsOf, Tryd.underlying47]
  go_simp
theorem guardTok : Tryd.prog.eqGuardType Tryd.prog.depth 47 = false := by kernel_rfl

/-- The joined texts of all but the tokens of kind 3. -/
def joinT : List UInt8 → List Tk → List UInt8
  | s, [] => s
  | s, t :: r => if t.k = 3 then joinT s r else if s = [] then joinT t.s.data.toList r else joinT (s ++ [32] ++ t.s.data.toList) r
theorem joinT_snoc : ∀ (l : List Tk) (s : List UInt8) (t : Tk), joinT s (l ++ [t]) = if t.k = 3 then joinT s l else if joinT s l = [] then t.s.data.toList else joinT s l ++ [32] ++ t.s.data.toList
  | [], s, t => by by_cases h1 : t.k = 3 <;> by_cases h2 : s = [] <;> simp [joinT, h1, h2]
  | x :: r, s, t => by
    simp only [List.cons_append, joinT]
    split
    · exact joinT_snoc r _ _
    · split
      · exact joinT_snoc r _ _
      · exact joinT_snoc r _ _
/-- Its length, at most. -/
def wideT : List Tk → Nat
  | [] => 0
  | t :: r => t.s.size + 1 + wideT r
theorem wideT_take : ∀ (l : List Tk) (k : Nat), wideT (l.take k) ≤ wideT l
  | [], _ => by simp [wideT]
  | _ :: _, 0 => by simp [wideT]
  | t :: l, k + 1 => by
    have := wideT_take l k
    simp only [List.take_succ_cons, wideT]
    omega
theorem joinT_le : ∀ (l : List Tk) (s : List UInt8), (joinT s l).length ≤ s.length + wideT l
  | [], s => by simp [joinT, wideT]
  | t :: r, s => by
    have hs : t.s.data.toList.length = t.s.size := (Lib.size_eq t.s).symm
    simp only [joinT, wideT]
    split
    · have := joinT_le r s; omega
    · split
      · have := joinT_le r t.s.data.toList; omega
      · have := joinT_le r (s ++ [32] ++ t.s.data.toList)
        simp only [List.length_append, List.length_cons, List.length_nil] at this
        omega
theorem wideT_at {l : List Tk} {k : Nat} {t : Tk} (h : l[k]? = some t) : t.s.size + 1 ≤ wideT l := by
  induction l generalizing k with
  | nil => simp at h
  | cons x r ih =>
    cases k with
    | zero =>
      obtain rfl : x = t := by simpa using h
      simp only [wideT]; omega
    | succ k =>
      have := ih (k := k) (by simpa using h)
      simp only [wideT]; omega

end Go.Proofs.YtbeejmlmplgaeaaDoor
namespace Go.Proofs.YtbeejmlmplgaeaaDoor
open Go.RowKit

/-- A token of the plain words, in memory. -/
def tk (t : Lx.Tok) : Tk := ⟨t.kind, ⟨t.text.toArray⟩, t.off⟩
/-- All tokens of a text, End among them. -/
def full (ts : List Lx.Tok) (n : Nat) : List Tk := ts.map tk ++ [⟨3, ⟨#[]⟩, n⟩]

/-! ### positions -/
def runEnd (p : UInt8 → Bool) (l : List UInt8) (k : Nat) : Nat := k + ((l.drop k).takeWhile p).length
theorem at_drop {s : ByteArray} {k : Nat} (hk : k < s.size) : s.data.toList.drop k = s[k] :: s.data.toList.drop (k + 1) := by
  have hl : k < s.data.toList.length := by rw [← Lib.size_eq]; exact hk
  exact List.drop_eq_getElem_cons hl
theorem at_end {s : ByteArray} {k : Nat} (hk : s.size ≤ k) : s.data.toList.drop k = [] := List.drop_eq_nil_of_le (by rw [← Lib.size_eq]; omega)
theorem run_on {p : UInt8 → Bool} {s : ByteArray} {k : Nat} (hk : k < s.size) (h : p s[k] = true) : runEnd p s.data.toList k = runEnd p s.data.toList (k + 1) := by
  unfold runEnd
  rw [at_drop hk, List.takeWhile_cons, h]
  simp only [if_true, List.length_cons]
  omega
theorem run_off {p : UInt8 → Bool} {s : ByteArray} {k : Nat} (hk : k < s.size) (h : p s[k] = false) : runEnd p s.data.toList k = k := by
  unfold runEnd
  rw [at_drop hk, List.takeWhile_cons, h]
  simp
theorem run_end {p : UInt8 → Bool} {s : ByteArray} {k : Nat} (hk : s.size ≤ k) : runEnd p s.data.toList k = k := by
  unfold runEnd
  rw [at_end hk]
  simp
theorem take_run (p : UInt8 → Bool) : ∀ l : List UInt8, l.take (l.takeWhile p).length = l.takeWhile p
  | [] => rfl
  | c :: l => by
    simp only [List.takeWhile_cons]
    split
    · simp [take_run p l]
    · rfl
theorem word_text {s : ByteArray} {i k : Nat} (hi : i < s.size) (hk : runEnd Lx.good s.data.toList (i + 1) = k) : (s.data.toList.drop i).take (k - i) = s[i] :: (s.data.toList.drop (i + 1)).takeWhile Lx.good := by
  unfold runEnd at hk
  rw [at_drop hi, show k - i = ((s.data.toList.drop (i + 1)).takeWhile Lx.good).length + 1 by omega, List.take_succ_cons, take_run]

theorem drop_run {p : UInt8 → Bool} {s : ByteArray} {i k : Nat} (hk : runEnd p s.data.toList (i + 1) = k) : (s.data.toList.drop (i + 1)).drop ((s.data.toList.drop (i + 1)).takeWhile p).length = s.data.toList.drop k ∧ i + 1 + ((s.data.toList.drop (i + 1)).takeWhile p).length = k := by
  unfold runEnd at hk
  rw [List.drop_drop, hk]
  exact ⟨rfl, rfl⟩

/-- What is left of a text at a round. -/
def left (s : ByteArray) (i : Nat) : Lx.Res := Lx.lex (s.data.toList.drop i) i
theorem left_blank {s : ByteArray} {i : Nat} (hi : i < s.size) (h4 : Lx.cls s[i].toNat = 4) : left s i = left s (i + 1) := by
  unfold left
  rw [at_drop hi, Lx.lex_cons, if_pos (show Lx.cl s[i] = 4 from h4)]
theorem head_drop {s : ByteArray} {i : Nat} (c : UInt8) : (s.data.toList.drop (i + 1)).head? = some c ↔ ∃ h : i + 1 < s.size, s[i + 1] = c := by
  by_cases h : i + 1 < s.size
  · rw [at_drop h, List.head?_cons, Option.some.injEq]
    exact ⟨fun e => ⟨h, e⟩, fun ⟨_, e⟩ => e⟩
  · rw [at_end (by omega)]
    simp only [List.head?_nil, reduceCtorEq, false_iff]
    rintro ⟨h2, _⟩
    exact h h2
theorem left_comment {s : ByteArray} {i k : Nat} (hi : i < s.size) (h4 : Lx.cls s[i].toNat ≠ 4) (h1 : s[i] = 47) (h2 : i + 1 < s.size) (h3 : s[i + 1] = 47) (hk : runEnd Lx.inLine s.data.toList (i + 1) = k) : left s i = left s k := by
  unfold left
  rw [at_drop hi, Lx.lex_cons, if_neg (show ¬ Lx.cl s[i] = 4 from h4), if_pos ⟨h1, (head_drop 47).2 ⟨h2, h3⟩⟩, (drop_run hk).1, (drop_run hk).2]
theorem left_word {s : ByteArray} {i k : Nat} (hi : i < s.size) (h1 : Lx.cls s[i].toNat = 1) (hk : runEnd Lx.good s.data.toList (i + 1) = k) :
    left s i = (left s k).app [⟨1, (s.data.toList.drop i).take (k - i), i⟩] := by
  unfold left
  rw [word_text hi hk, at_drop hi, Lx.lex_cons, if_neg (show ¬ Lx.cl s[i] = 4 by unfold Lx.cl; rw [h1]; decide), if_neg (fun h => Lx.cl_word h1 h.1), if_pos (show Lx.cl s[i] = 1 from h1), (drop_run hk).1, (drop_run hk).2]
theorem sgnI_sgn (c : UInt8) : sgnI c.toNat = Lx.sgn c := by
  rw [Bool.eq_iff_iff]
  simp only [sgnI, Lx.sgn, List.any_eq_true, beq_iff_eq]
  constructor
  · rintro ⟨x, hx, h⟩
    exact ⟨x, hx, UInt8.toNat_inj.1 (by omega)⟩
  · rintro ⟨x, hx, rfl⟩
    exact ⟨x, hx, rfl⟩
theorem left_sign {s : ByteArray} {i : Nat} (hi : i < s.size) (hs : sgnI s[i].toNat = true) : left s i = (left s (i + 1)).app [⟨2, (s.data.toList.drop i).take 1, i⟩] := by
  rw [sgnI_sgn] at hs
  obtain ⟨h4, h1, h47⟩ := Lx.cl_sgn hs
  unfold left
  rw [at_drop hi, Lx.lex_cons, if_neg h4, if_neg (fun h => h47 h.1), if_neg h1, if_pos hs]
  rfl
theorem left_bad {s : ByteArray} {i : Nat} (hi : i < s.size) (h4 : Lx.cls s[i].toNat ≠ 4) (hc : ¬ (s[i] = 47 ∧ ∃ h : i + 1 < s.size, s[i + 1] = 47)) (h1 : Lx.cls s[i].toNat ≠ 1) (hs : sgnI s[i].toNat = false) : left s i = .bad i := by
  rw [sgnI_sgn] at hs
  unfold left
  rw [at_drop hi, Lx.lex_cons, if_neg (show ¬ Lx.cl s[i] = 4 from h4), if_neg (fun h => hc ⟨h.1, (head_drop 47).1 h.2⟩), if_neg (show ¬ Lx.cl s[i] = 1 from h1), if_neg (by rw [hs]; decide)]
theorem left_end {s : ByteArray} {i : Nat} (hi : s.size ≤ i) : left s i = .ok [] := by
  unfold left
  rw [at_end hi, Lx.lex_nil]
theorem inLine_int (c : UInt8) : Lx.inLine c = !((c.toNat : Int) == 10) := by
  rw [Bool.eq_iff_iff]
  simp only [Lx.inLine, Bool.not_eq_true', beq_eq_false_iff_ne, ne_eq, eq10]
theorem eq47 (c : UInt8) : (c = 47) ↔ ((c.toNat : Int) = 47) := by
  constructor
  · rintro rfl; rfl
  · intro h
    apply UInt8.toNat_inj.1
    have : (47 : UInt8).toNat = 47 := rfl
    omega
end Go.Proofs.YtbeejmlmplgaeaaDoor
