/- Names, numbers and lists of bytes in plain words. No program, no condition.
Small words that every layer's walks use: the last line of a value, a cell that lies, Below. No condition.
Types as trees, in plain words; their laws. No program, no condition.
Types in memory, and rows of types that a call builds. No condition.
Expressions as trees: sameness, text, depth, substitution, replacing, in plain words. No program, no condition. -/
import Derived.Test.YtjhlehdjdaphcaaDoorRows
import Derived.Lib.Bytealg
import Derived.Lib.TrimUEq
import Derived.Shelf.GgClosure.StringsIndexFunc
import Derived.WalkKit
import Derived.WalkSmall
import Derived.Below
import Derived.LaidEql
import Derived.RowKitTokens
import Derived.Lib.Hide
import Derived.OwnWalk
import Derived.Laws.AppendOwn
import Derived.Laws.OwnMore
import Derived.Laws.NewBlocks
import Derived.Deep.AppendLies
import Derived.Laws.Rows
import Derived.Outline
namespace Go.Proofs.YtjhlehdjdaphcaaDoor.Nm
open Go.Lib

/-- P1.1 -/
def cls (c : Int) : Int :=
  if (65 ≤ c ∧ c ≤ 90) ∨ (97 ≤ c ∧ c ≤ 122) then 1
  else if 48 ≤ c ∧ c ≤ 57 then 2
  else if c = 95 then 3
  else if c = 9 ∨ c = 10 ∨ c = 13 ∨ c = 32 then 4 else 0

def goodB (c : Int) : Bool := cls c == 1 || cls c == 2 || cls c == 3

def words : List (List UInt8) :=
  [[112, 97, 99, 107, 97, 103, 101], [109, 97, 105, 110], [116, 121, 112, 101], [115, 116, 114, 117, 99, 116],
   [105, 110, 116, 101, 114, 102, 97, 99, 101], [102, 117, 110, 99], [114, 101, 116, 117, 114, 110]]

def resB (l : List UInt8) : Bool := words.any (fun w => l == w)

def isB : List UInt8 → Bool
  | [] => false
  | c :: r => (cls c.toNat == 1) && (c :: r).all (fun c => goodB c.toNat) && !resB (c :: r)


end Go.Proofs.YtjhlehdjdaphcaaDoor.Nm
namespace Go.Proofs.YtjhlehdjdaphcaaDoor.Nm
open Go.Lib

end Go.Proofs.YtjhlehdjdaphcaaDoor.Nm
namespace Go.Proofs.YtjhlehdjdaphcaaDoor.Nm
open Go.Lib

theorem u8_tri (a b : UInt8) : a < b ∨ b < a ∨ a = b := by
  rw [UInt8.lt_iff_toNat_lt, UInt8.lt_iff_toNat_lt]
  rcases Nat.lt_trichotomy a.toNat b.toNat with h | h | h
  · exact .inl h
  · exact .inr (.inr (UInt8.toNat.inj h))
  · exact .inr (.inl h)
theorem u8_asymm {a b : UInt8} (h : a < b) : ¬ b < a := by
  rw [UInt8.lt_iff_toNat_lt] at *
  omega
theorem u8_irrefl (a : UInt8) : ¬ a < a := by
  rw [UInt8.lt_iff_toNat_lt]
  omega
theorem cmp_cons (x y : UInt8) (a b : List UInt8) : compareBytes (x :: a) (y :: b) = if x < y then -1 else if y < x then 1 else compareBytes a b := by rw [compareBytes]

theorem cmp_neg : ∀ a b : List UInt8, compareBytes b a = -compareBytes a b
  | [], [] => rfl
  | [], _ :: _ => rfl
  | _ :: _, [] => rfl
  | x :: a, y :: b => by
    rw [cmp_cons, cmp_cons]
    rcases u8_tri x y with h | h | rfl
    · rw [if_neg (u8_asymm h), if_pos h, if_pos h]; rfl
    · rw [if_pos h, if_neg (u8_asymm h), if_pos h]
    · rw [if_neg (u8_irrefl x), if_neg (u8_irrefl x), if_neg (u8_irrefl x), if_neg (u8_irrefl x)]
      exact cmp_neg a b

end Go.Proofs.YtjhlehdjdaphcaaDoor.Nm

namespace Go.Proofs.YtjhlehdjdaphcaaDoor
open Go.RowKit

theorem cell_lt {w : World} {p : Addr} {v : Value} (h : w.cell? p = some v) : p.block < w.heap.size := by
  rcases Nat.lt_or_ge p.block w.heap.size with h1 | h1
  · exact h1
  · simp [World.cell?, Array.getElem?_eq_none h1] at h
theorem bcell {W w1 : World} (hb : Below W.heap.size W w1) : ∀ b o, b < W.heap.size → w1.cell? ⟨b, o, none⟩ = W.cell? ⟨b, o, none⟩ :=
  fun b o h => hb.cell (p := ⟨b, o, none⟩) h
theorem ret_int {k : IntKind} {a b : Int} (h : a = b) : Ending.returned (.int k a) = .returned (.int k b) := by rw [h]
theorem ret_bool {a b : Bool} (h : a = b) : Ending.returned (.bool a) = .returned (.bool b) := by rw [h]
theorem ret_str {a b : ByteArray} (h : a.data.toList = b.data.toList) : Ending.returned (.string a) = .returned (.string b) := by
  have : a = b := by
    obtain ⟨⟨l⟩⟩ := a
    obtain ⟨⟨m⟩⟩ := b
    simp at h
    rw [h]
  rw [this]
theorem below_drewN {B : Nat} {a w : World} (h : Below B a w) (n : Nat) : Below B a (w.drewN n) := ⟨h.os, h.tape, h.output, h.size, h.block⟩
theorem block_of_add (a : Addr) (n : Nat) : (a.add n).block = a.block := by unfold Addr.add; split <;> rfl
theorem bytes_eq {s t : ByteArray} (h : s.data.toList = t.data.toList) : s = t := by
  obtain ⟨⟨l⟩⟩ := s
  obtain ⟨⟨m⟩⟩ := t
  simp at h
  rw [h]

theorem own_base {w : World} {base n size : Nat} {e : TypeId} {v : Value} {xs : List Value} (h : w.ownsRow base e size v n xs) : ∀ k, v.ownBlock = some k → base ≤ k := by
  rcases h.2 with ⟨rfl, _⟩ | ⟨g, cap, cur, rfl, hb, _⟩
  · intro k hk; simp [Value.ownBlock] at hk
  · intro k hk
    simp only [Value.ownBlock, Option.some.injEq] at hk
    omega
theorem heap_alloc_two (w : World) (o1 o2 : Obj) : ((w.alloc o1).alloc o2).heap[w.heap.size + 1]? = some o2 := by
  have h := heap_alloc_new (w.alloc o1) o2
  have e : (w.alloc o1).heap.size = w.heap.size + 1 := by simp
  rwa [e] at h
def boxS (s : ByteArray) : Value := .string s
/-- What the call has built stays so in a later world. -/
theorem own_below {w w1 : World} {base n size : Nat} {e : TypeId} {v : Value} {xs : List Value} (h : w.ownsRow base e size v n xs) (hb : Below w.heap.size w w1) : w1.ownsRow base e size v n xs := by
  refine ⟨h.1, ?_⟩
  rcases h.2 with hn | ⟨g, cap, cur, rfl, hbs, hg, rest⟩
  · exact .inl hn
  · exact .inr ⟨g, cap, cur, rfl, hbs, (hb.block g (Array.getElem?_eq_some_iff.1 hg).1).trans hg, rest⟩
/-- A slice of strings that reads as this list. -/
structure Sl (w : World) (A : Option Addr) (n : Nat) (ps : List ByteArray) : Prop where
  len : ps.length = n
  at_ : ∀ j p, ps[j]? = some p → ∃ a, A = some a ∧ a.block < w.heap.size ∧ w.cell? (a.add j) = some (.string p)
theorem Sl.later {w w' : World} {A : Option Addr} {n : Nat} {ps : List ByteArray} (h : Sl w A n ps) (hb : Below w.heap.size w w') : Sl w' A n ps :=
  ⟨h.len, fun j p hj => by
    obtain ⟨a, e, h1, h2⟩ := h.at_ j p hj
    exact ⟨a, e, Nat.lt_of_lt_of_le h1 hb.size, (hb.cell (by rw [block_of_add]; exact h1)).trans h2⟩⟩
theorem Sl.get {w : World} {A : Option Addr} {n : Nat} {ps : List ByteArray} (h : Sl w A n ps) {k : Nat} (hk : k < n) :
    ∃ a p, A = some a ∧ ps[k]? = some p ∧ w.cell? (a.add k) = some (.string p) := by
  have hl : k < ps.length := by rw [h.len]; exact hk
  obtain ⟨a, e, _, h2⟩ := h.at_ k _ (List.getElem?_eq_getElem hl)
  exact ⟨a, _, e, List.getElem?_eq_getElem hl, h2⟩
theorem sl_of_own {w : World} {base n : Nat} {e : TypeId} {v : Value} {ps : List ByteArray} (hl : ps.length = n) (h : w.ownsRow base e 1 v n (ps.map boxS)) : ∃ A c, v = .slice A n c ∧ Sl w A n ps := by
  rcases h.2 with ⟨rfl, h0⟩ | ⟨g, cap, cur, hv, hb, hg, hn, hc, hs, ht⟩
  · subst h0
    exact ⟨none, 0, rfl, hl, fun j p hj => by
      have : j < ps.length := (List.getElem?_eq_some_iff.1 hj).1
      omega⟩
  · refine ⟨some ⟨g, 0, none⟩, cap, hv, hl, fun j p hj => ⟨_, rfl, (Array.getElem?_eq_some_iff.1 hg).1, ?_⟩⟩
    exact h.cells (g := g) (by rw [hv]; rfl) j _ (by simp [hj, boxS])
end Go.Proofs.YtjhlehdjdaphcaaDoor

namespace Go.Proofs.YtjhlehdjdaphcaaDoor

/-- A type: its name, its arguments, its offset. -/
inductive Ty where
  | mk (name : ByteArray) (args : List Ty) (off : Int)

namespace Ty
def name : Ty → ByteArray | mk s _ _ => s
def args : Ty → List Ty | mk _ xs _ => xs
def off : Ty → Int | mk _ _ o => o
/-- The name's bytes. -/
def nm (t : Ty) : List UInt8 := t.name.data.toList

theorem ind {P : Ty → Prop} (h : ∀ s xs o, (∀ t ∈ xs, P t) → P (mk s xs o)) : ∀ t, P t
  | mk s xs o => h s xs o fun t _ => ind h t
theorem indL {P : List Ty → Prop} (h0 : P []) (h1 : ∀ s xs o r, P xs → P r → P (mk s xs o :: r)) : ∀ l, P l
  | [] => h0
  | mk s xs o :: r => h1 s xs o r (indL h0 h1 xs) (indL h0 h1 r)

mutual
/-- The order. -/
def cmp : Ty → Ty → Int
  | mk s xs _, mk t bs _ => if s.data.toList = t.data.toList then cmpL xs bs else Lib.compareBytes s.data.toList t.data.toList
def cmpL : List Ty → List Ty → Int
  | [], [] => 0
  | [], _ :: _ => -1
  | _ :: _, [] => 1
  | a :: xs, b :: bs => if cmp a b = 0 then cmpL xs bs else cmp a b
end
mutual
/-- The same, with the offsets. -/
def eqv : Ty → Ty → Bool
  | mk s xs o, mk t bs p => (s.data.toList == t.data.toList) && (o == p) && eqvL xs bs
def eqvL : List Ty → List Ty → Bool
  | [], [] => true
  | a :: xs, b :: bs => eqv a b && eqvL xs bs
  | _, _ => false
end
mutual
def text : Ty → List UInt8
  | mk s [] _ => s.data.toList
  | mk s (a :: xs) _ => s.data.toList ++ [91] ++ text a ++ textL xs ++ [93]
/-- The further arguments, each behind a comma and a space. -/
def textL : List Ty → List UInt8
  | [] => []
  | a :: xs => [44, 32] ++ text a ++ textL xs
end
mutual
/-- The names, from left to right. -/
def list : Ty → List ByteArray
  | mk s xs _ => s :: listL xs
def listL : List Ty → List ByteArray
  | [] => []
  | a :: xs => list a ++ listL xs
end
mutual
def depth : Ty → Nat
  | mk _ xs _ => max 1 (depthL xs)
/-- One more than the greatest depth, 0 if there is none. -/
def depthL : List Ty → Nat
  | [] => 0
  | a :: xs => max (depth a + 1) (depthL xs)
end
mutual
/-- The number of parts, where long names count more; it stops soon behind 2000. -/
def cnt : Ty → Int → Int
  | mk s xs _, n => cntL xs (n + 1 + s.size / 50)
def cntL : List Ty → Int → Int
  | [], n => n
  | a :: xs, n => if n ≤ 2000 then cntL xs (cnt a n) else n
end
def right (t : Ty) : Bool := t.list.all fun s => Nm.isB s.data.toList
/-- What stands for a name: the type of the first such name; none if the name is not there or has no type. -/
def pick (s : ByteArray) : List ByteArray → List Ty → Option Ty
  | [], _ => none
  | n :: ns, xs => if n.data.toList = s.data.toList then xs.head? else pick s ns xs.tail
mutual
def subst (ns : List ByteArray) (us : List Ty) : Ty → Ty
  | mk s [] o => match pick s ns us with
    | some (mk t bs _) => mk t bs o
    | none => mk s [] o
  | mk s (a :: xs) o => mk s (subst ns us a :: substL ns us xs) o
def substL (ns : List ByteArray) (us : List Ty) : List Ty → List Ty
  | [] => []
  | a :: xs => subst ns us a :: substL ns us xs
end
theorem substL_map (ns : List ByteArray) (us : List Ty) : ∀ l, substL ns us l = l.map (subst ns us)
  | [] => by simp only [substL, List.map_nil]
  | a :: l => by simp only [substL, List.map_cons, substL_map ns us l]
theorem substL_eq (ns : List ByteArray) (us : List Ty) (s : ByteArray) (xs : List Ty) (o : Int) (h : xs ≠ []) : subst ns us (mk s xs o) = mk s (substL ns us xs) o := by
  cases xs with
  | nil => exact absurd rfl h
  | cons a xs => simp only [subst, substL]

/-! ### the order is one -/
theorem cmp_neg : ∀ a b : Ty, cmp b a = -cmp a b := by
  refine ind fun s xs o ih b => ?_
  obtain ⟨t, bs, p⟩ := b
  simp only [cmp]
  by_cases h : s.data.toList = t.data.toList
  · rw [if_pos h, if_pos h.symm]
    clear h
    induction xs generalizing bs with
    | nil => cases bs <;> simp [cmpL]
    | cons a xs ih2 =>
      cases bs with
      | nil => simp [cmpL]
      | cons c bs =>
        have h1 := ih a (by simp) c
        have h2 := ih2 (fun t ht => ih t (by simp [ht])) bs
        simp only [cmpL, h1, h2]
        by_cases h : cmp a c = 0 <;> simp [h]
  · rw [if_neg h, if_neg (fun e => h e.symm), Nm.cmp_neg]

end Ty
end Go.Proofs.YtjhlehdjdaphcaaDoor
namespace Go.Proofs.YtjhlehdjdaphcaaDoor.Ty

/-! ### sizes -/
mutual
/-- The number of parts, long names counted more; never stopped. -/
def wt : Ty → Nat
  | mk s xs _ => 1 + s.size / 50 + wtL xs
def wtL : List Ty → Nat
  | [] => 0
  | a :: r => wt a + wtL r
end
theorem cnt_ge : ∀ (t : Ty) (n : Int), 0 ≤ n → n ≤ cnt t n := by
  refine ind fun s xs o ih n h0 => ?_
  rw [cnt]
  have h1 : 0 ≤ (s.size : Int) / 50 := by omega
  have hL : ∀ (ys : List Ty) (q : Int), (∀ y ∈ ys, y ∈ xs) → 0 ≤ q → q ≤ cntL ys q := by
    intro ys
    induction ys with
    | nil => intro q _ _; simp only [cntL]; omega
    | cons y r ih2 =>
      intro q hy hq
      rw [cntL]
      split
      · have h2 := ih y (hy y (by simp)) q hq
        have h3 := ih2 (cnt y q) (fun z hz => hy z (by simp [hz])) (by omega)
        omega
      · omega
  have := hL xs (n + 1 + s.size / 50) (fun _ h => h) (by omega)
  omega
theorem cntL_ge : ∀ (xs : List Ty) (n : Int), 0 ≤ n → n ≤ cntL xs n
  | [], n, _ => by simp only [cntL]; omega
  | x :: r, n, h => by
    rw [cntL]
    split
    · have h2 := cnt_ge x n h
      have h3 := cntL_ge r (cnt x n) (by omega)
      omega
    · omega
theorem cntL_wt : ∀ (xs : List Ty) (n : Int), (∀ t ∈ xs, ∀ n : Int, 0 ≤ n → cnt t n ≤ 2000 → cnt t n = n + wt t) → 0 ≤ n → cntL xs n ≤ 2000 → cntL xs n = n + wtL xs
  | [], n, _, _, _ => by simp only [cntL, wtL]; omega
  | x :: r, n, hx, h, h2 => by
    rw [cntL] at h2 ⊢
    split at h2
    · rename_i h3
      rw [if_pos h3]
      have h4 := cnt_ge x n h
      have h5 := cntL_ge r (cnt x n) (by omega)
      have h6 := hx x (by simp) n h (by omega)
      have h7 := cntL_wt r (cnt x n) (fun t ht => hx t (by simp [ht])) (by omega) h2
      rw [wtL, h7, h6]
      omega
    · omega
theorem cnt_wt : ∀ (t : Ty) (n : Int), 0 ≤ n → cnt t n ≤ 2000 → cnt t n = n + wt t := by
  refine ind fun s xs o ih n h0 h => ?_
  rw [cnt] at h ⊢
  have h1 : 0 ≤ (s.size : Int) / 50 := by omega
  rw [cntL_wt xs _ ih (by omega) h, wt]
  omega

/-- Nothing about the type is large. -/
structure Small (t : Ty) : Prop where
  list : t.list.length ≤ 1990
  names : ∀ s ∈ t.list, s.size ≤ 100000
  text : t.text.length ≤ 1000000
  depth : t.depth ≤ 1990

theorem list_wt : ∀ t : Ty, t.list.length ≤ wt t := by
  refine ind fun s xs o ih => ?_
  have hL : ∀ ys : List Ty, (∀ y ∈ ys, y ∈ xs) → (listL ys).length ≤ wtL ys := by
    intro ys
    induction ys with
    | nil => intro _; simp only [listL, wtL, List.length_nil]; omega
    | cons y r ih2 =>
      intro hy
      have h1 := ih y (hy y (by simp))
      have h2 := ih2 (fun z hz => hy z (by simp [hz]))
      simp only [listL, wtL, List.length_append]
      omega
  have := hL xs (fun _ h => h)
  simp only [list, wt, List.length_cons]
  omega
theorem names_wt : ∀ t : Ty, ∀ s ∈ t.list, s.size / 50 ≤ wt t := by
  refine ind fun s xs o ih u hu => ?_
  have hL : ∀ ys : List Ty, (∀ y ∈ ys, y ∈ xs) → ∀ u ∈ listL ys, u.size / 50 ≤ wtL ys := by
    intro ys
    induction ys with
    | nil => intro _ u hu; simp only [listL] at hu; cases hu
    | cons y r ih2 =>
      intro hy u hu
      simp only [listL, List.mem_append] at hu
      simp only [wtL]
      rcases hu with hu | hu
      · have := ih y (hy y (by simp)) u hu; omega
      · have := ih2 (fun z hz => hy z (by simp [hz])) u hu; omega
  simp only [list, List.mem_cons] at hu
  simp only [wt]
  rcases hu with rfl | hu
  · omega
  · have := hL xs (fun _ h => h) u hu; omega
theorem depth_wt : ∀ t : Ty, t.depth ≤ wt t := by
  refine ind fun s xs o ih => ?_
  have hL : ∀ ys : List Ty, (∀ y ∈ ys, y ∈ xs) → depthL ys ≤ 1 + wtL ys := by
    intro ys
    induction ys with
    | nil => intro _; simp only [depthL]; omega
    | cons y r ih2 =>
      intro hy
      have h1 := ih y (hy y (by simp))
      have h2 := ih2 (fun z hz => hy z (by simp [hz]))
      simp only [depthL, wtL]
      omega
  have := hL xs (fun _ h => h)
  simp only [depth, wt]
  omega
theorem text_wt : ∀ t : Ty, t.text.length + 4 ≤ 60 * wt t := by
  refine ind fun s xs o ih => ?_
  have hL : ∀ ys : List Ty, (∀ y ∈ ys, y ∈ xs) → (textL ys).length ≤ 60 * wtL ys := by
    intro ys
    induction ys with
    | nil => intro _; simp [textL]
    | cons y r ih2 =>
      intro hy
      have h1 := ih y (hy y (by simp))
      have h2 := ih2 (fun z hz => hy z (by simp [hz]))
      simp only [textL, wtL, List.length_append, List.length_cons, List.length_nil]
      omega
  have hs := Lib.size_eq s
  cases xs with
  | nil =>
    simp only [text, wt, wtL]
    omega
  | cons a r =>
    have h1 := ih a (by simp)
    have h2 := hL r (fun y hy => by simp [hy])
    simp only [text, wt, wtL, List.length_append, List.length_cons, List.length_nil]
    omega

theorem small_of_wt {t : Ty} (h : wt t ≤ 1990) : t.Small where
  list := by have := list_wt t; omega
  names s hs := by have := names_wt t s hs; omega
  text := by have := text_wt t; omega
  depth := by have := depth_wt t; omega
theorem wtL_mem : ∀ {xs : List Ty} {x : Ty}, x ∈ xs → wt x ≤ wtL xs
  | y :: r, x, h => by
    simp only [wtL]
    rcases List.mem_cons.1 h with rfl | h
    · omega
    · have := wtL_mem h; omega
theorem wtL_len : ∀ xs : List Ty, xs.length ≤ wtL xs
  | [] => Nat.zero_le _
  | .mk s ys o :: r => by
    have := wtL_len r
    simp only [List.length_cons, wtL, wt]
    omega

/-! ### equality with offsets -/
theorem eqv_refl : ∀ t : Ty, eqv t t = true := by
  refine ind fun s xs o ih => ?_
  have hL : ∀ ys : List Ty, (∀ y ∈ ys, y ∈ xs) → eqvL ys ys = true := by
    intro ys
    induction ys with
    | nil => intro _; simp only [eqvL]
    | cons y r ih2 =>
      intro hy
      rw [eqvL, ih y (hy y (by simp)), ih2 (fun z hz => hy z (by simp [hz]))]
      rfl
  rw [eqv, hL xs (fun _ h => h)]
  simp

/-! ### the text of a right type -/
/-! ### each name for itself -/
end Go.Proofs.YtjhlehdjdaphcaaDoor.Ty
namespace Go.Proofs.YtjhlehdjdaphcaaDoor
open Go.RowKit

mutual
/-- A type at the i-th place of a slice whose elements begin at A; all its blocks are in S; under N each slice begins a block that may be written. -/
def TyCells (w : World) (N : Prop) (S : Nat → Prop) (A : Option Addr) (i : Nat) : Ty → Prop
  | .mk s xs o => ∃ a B c, A = some a ∧ S a.block ∧ (N → a.off = 0 ∧ a.spot = none ∧ ∀ k, w.frozen? ⟨a.block, k, none⟩ = false) ∧ w.cell? (a.add (i * 3)) = some (.string s)
      ∧ w.cell? ⟨(a.add (i * 3)).block, (a.add (i * 3)).off + 1, none⟩ = some (.slice B xs.length c) ∧ w.cell? ⟨(a.add (i * 3)).block, (a.add (i * 3)).off + 2, none⟩ = some (.int .i64 o)
      ∧ s.size ≤ 9223372036854775807 ∧ xs.length ≤ 9223372036854775807 ∧ ArgsIn w N S B 0 xs
/-- Types from the i-th place on. -/
def ArgsIn (w : World) (N : Prop) (S : Nat → Prop) (A : Option Addr) (i : Nat) : List Ty → Prop
  | [] => True
  | t :: r => TyCells w N S A i t ∧ ArgsIn w N S A (i + 1) r
end

/-- A slice of types. -/
structure LiesN (w : World) (N : Prop) (S : Nat → Prop) (A : Option Addr) (n : Nat) (xs : List Ty) : Prop where
  len : xs.length = n
  le : n ≤ 9223372036854775807
  args : ArgsIn w N S A 0 xs
abbrev Lies (w : World) (S : Nat → Prop) (A : Option Addr) (n : Nat) (xs : List Ty) : Prop := LiesN w False S A n xs

theorem ArgsIn.at {w : World} {N : Prop} {S : Nat → Prop} {A : Option Addr} : ∀ {xs : List Ty} {i k : Nat} {t : Ty}, ArgsIn w N S A i xs → xs[k]? = some t → TyCells w N S A (i + k) t
  | x :: r, i, 0, t, h, ht => by
    obtain rfl : x = t := by simpa using ht
    rw [ArgsIn] at h
    exact h.1
  | x :: r, i, k + 1, t, h, ht => by
    rw [ArgsIn] at h
    have := ArgsIn.at h.2 (k := k) (by simpa using ht)
    rwa [show i + (k + 1) = i + 1 + k by omega]
theorem ArgsIn.of {w : World} {N : Prop} {S : Nat → Prop} {A : Option Addr} : ∀ {xs : List Ty} {i : Nat}, (∀ k t, xs[k]? = some t → TyCells w N S A (i + k) t) → ArgsIn w N S A i xs
  | [], _, _ => by rw [ArgsIn]; trivial
  | x :: r, i, h => by
    rw [ArgsIn]
    refine ⟨h 0 x rfl, ArgsIn.of fun k t ht => ?_⟩
    have := h (k + 1) t (by simpa using ht)
    rwa [show i + 1 + k = i + (k + 1) by omega]

/-- The k-th type of a slice, with what N gives. -/
theorem LiesN.get {w : World} {N : Prop} {S : Nat → Prop} {A : Option Addr} {n : Nat} {xs : List Ty} (h : LiesN w N S A n xs) {k : Nat} (hk : k < n) :
    ∃ a s ys o B m c, A = some a ∧ xs[k]? = some (.mk s ys o) ∧ S a.block ∧ (N → a.off = 0 ∧ a.spot = none ∧ ∀ k, w.frozen? ⟨a.block, k, none⟩ = false) ∧ w.cell? (a.add (k * 3)) = some (.string s)
      ∧ w.cell? ⟨(a.add (k * 3)).block, (a.add (k * 3)).off + 1, none⟩ = some (.slice B m c) ∧ w.cell? ⟨(a.add (k * 3)).block, (a.add (k * 3)).off + 2, none⟩ = some (.int .i64 o)
      ∧ s.size ≤ 9223372036854775807 ∧ LiesN w N S B m ys := by
  have hl : k < xs.length := by rw [h.len]; exact hk
  have ht := h.args.at (List.getElem?_eq_getElem hl)
  rw [Nat.zero_add] at ht
  cases e : xs[k] with
  | mk s ys o =>
    rw [e, TyCells] at ht
    obtain ⟨a, B, c, h1, h2, h3, h4, h5, h6, h7, h8, h9⟩ := ht
    exact ⟨a, s, ys, o, B, _, c, h1, by rw [List.getElem?_eq_getElem hl, e], h2, h3, h4, h5, h6, h7, rfl, h8, h9⟩
/-- The k-th type of a slice. -/
theorem Lies.get {w : World} {S : Nat → Prop} {A : Option Addr} {n : Nat} {xs : List Ty} (h : Lies w S A n xs) {k : Nat} (hk : k < n) :
    ∃ a s ys o B m c, A = some a ∧ xs[k]? = some (.mk s ys o) ∧ S a.block ∧ w.cell? (a.add (k * 3)) = some (.string s)
      ∧ w.cell? ⟨(a.add (k * 3)).block, (a.add (k * 3)).off + 1, none⟩ = some (.slice B m c) ∧ w.cell? ⟨(a.add (k * 3)).block, (a.add (k * 3)).off + 2, none⟩ = some (.int .i64 o)
      ∧ s.size ≤ 9223372036854775807 ∧ Lies w S B m ys := by
  obtain ⟨a, s, ys, o, B, m, c, h1, h2, h3, _, h4⟩ := LiesN.get h hk
  exact ⟨a, s, ys, o, B, m, c, h1, h2, h3, h4⟩

/-- What lies in these blocks is as it was. -/
def Same (w w' : World) (S : Nat → Prop) : Prop := ∀ p : Addr, S p.block → w'.cell? p = w.cell? p ∧ w'.frozen? p = w.frozen? p

theorem ArgsIn.keep {w w' : World} {N N' : Prop} {S S' : Nat → Prop} (hN : N' → N) (hk : Same w w' S) (hS : ∀ b, S b → S' b) : ∀ (xs : List Ty) (A : Option Addr) (i : Nat), ArgsIn w N S A i xs → ArgsIn w' N' S' A i xs := by
  refine Ty.indL (fun A i _ => by rw [ArgsIn]; trivial) fun s ys o r ih1 ih2 A i h => ?_
  rw [ArgsIn, TyCells] at h ⊢
  obtain ⟨⟨a, B, c, e, hl, hn, c0, c1, c2, b1, b2, ha⟩, hr⟩ := h
  have hb : S (a.add (i * 3)).block := by rw [block_of_add]; exact hl
  refine ⟨⟨a, B, c, e, hS _ hl, fun h => ?_, ?_, ?_, ?_, b1, b2, ih1 B 0 ha⟩, ih2 A (i + 1) hr⟩
  · obtain ⟨h1, h2, h3⟩ := hn (hN h)
    exact ⟨h1, h2, fun k => (hk ⟨a.block, k, none⟩ hl).2.trans (h3 k)⟩
  · rw [(hk _ hb).1]; exact c0
  · rw [(hk ⟨(a.add (i * 3)).block, _, none⟩ hb).1]; exact c1
  · rw [(hk ⟨(a.add (i * 3)).block, _, none⟩ hb).1]; exact c2

theorem LiesN.keep {w w' : World} {N : Prop} {S S' : Nat → Prop} {A : Option Addr} {n : Nat} {xs : List Ty} (h : LiesN w N S A n xs) (hk : Same w w' S) (hS : ∀ b, S b → S' b) : LiesN w' N S' A n xs :=
  ⟨h.len, h.le, ArgsIn.keep id hk hS xs A 0 h.args⟩
theorem LiesN.lies {w : World} {N : Prop} {S : Nat → Prop} {A : Option Addr} {n : Nat} {xs : List Ty} (h : LiesN w N S A n xs) : Lies w S A n xs :=
  ⟨h.len, h.le, ArgsIn.keep False.elim (fun _ _ => ⟨rfl, rfl⟩) (fun _ h => h) xs A 0 h.args⟩
theorem LiesN.wide {w : World} {N : Prop} {S S' : Nat → Prop} {A : Option Addr} {n : Nat} {xs : List Ty} (h : LiesN w N S A n xs) (hS : ∀ b, S b → S' b) : LiesN w N S' A n xs :=
  h.keep (fun _ _ => ⟨rfl, rfl⟩) hS
theorem LiesN.later {w w' : World} {N : Prop} {S : Nat → Prop} {b : Nat} {A : Option Addr} {n : Nat} {xs : List Ty} (h : LiesN w N S A n xs) (hb : Below b w w') (hh : ∀ k, S k → k < b) : LiesN w' N S A n xs :=
  h.keep (fun _ h2 => ⟨hb.cell (hh _ h2), hb.frozen (hh _ h2)⟩) (fun _ h => h)
theorem LiesN.nil (w : World) (N : Prop) (S : Nat → Prop) (A : Option Addr) : LiesN w N S A 0 [] := ⟨rfl, by omega, by rw [ArgsIn]; trivial⟩
theorem Lies.nil (w : World) (S : Nat → Prop) (A : Option Addr) : Lies w S A 0 [] := LiesN.nil _ _ _ _
theorem LiesN.alloc {w : World} {N : Prop} {S : Nat → Prop} {A : Option Addr} {n : Nat} {xs : List Ty} (h : LiesN w N S A n xs) (hh : ∀ k, S k → k < w.heap.size) (o : Obj) : LiesN (w.alloc o) N S A n xs :=
  h.later (b := w.heap.size) ((Below.refl _ _).alloc (Nat.le_refl _) _) hh
theorem LiesN.setCell {w : World} {N : Prop} {S : Nat → Prop} {A : Option Addr} {n : Nat} {xs : List Ty} (h : LiesN w N S A n xs) (p : Addr) (u : Value) (hne : ¬ S p.block) : LiesN (w.setCell p u) N S A n xs :=
  h.keep (fun q h1 => ⟨World.cell?_setCell_other _ _ _ _ (by rintro rfl; exact hne h1), World.frozen?_setCell _ _ _ _⟩) (fun _ h => h)
theorem frozen_of_row {w : World} {g : Nat} {cs : Array Value} {T : TypeId} (h : w.heap[g]? = some (.cells cs T (0, 0))) (k : Nat) : w.frozen? ⟨g, k, none⟩ = false := by
  simp [World.frozen?, h]
/-- As the argument of a call in a world: its blocks lie there. -/
abbrev Here (w : World) (A : Option Addr) (n : Nat) (xs : List Ty) : Prop := Lies w (· < w.heap.size) A n xs
theorem Here.later {w w' : World} {A : Option Addr} {n : Nat} {xs : List Ty} (h : Here w A n xs) (hb : Below w.heap.size w w') : Here w' A n xs :=
  (LiesN.later h hb (fun _ h => h)).wide (fun _ h => Nat.lt_of_lt_of_le h hb.size)
/-- The blocks that were made between two worlds. -/
def Fresh (w w' : World) (b : Nat) : Prop := w.heap.size ≤ b ∧ b < w'.heap.size
/-- A boxed type. -/
def Box (w : World) (b : Nat) (s : ByteArray) (A : Option Addr) (n c : Nat) (o : Int) : Prop :=
  w.cell? ⟨b, 0, none⟩ = some (.string s) ∧ w.cell? ⟨b, 1, none⟩ = some (.slice A n c) ∧ w.cell? ⟨b, 2, none⟩ = some (.int .i64 o)
theorem Box.new (w : World) (s : ByteArray) (A : Option Addr) (n c : Nat) (o : Int) (T : TypeId) : Box (w.alloc (.cells #[.string s, .slice A n c, .int .i64 o] T)) w.heap.size s A n c o := by
  refine ⟨?_, ?_, ?_⟩ <;> (rw [World.cell?_alloc_at _ _ _ _ rfl]; rfl)
theorem Box.later {w w' : World} {b s A n c o} (h : Box w b s A n c o) (hb : Below w.heap.size w w') : Box w' b s A n c o :=
  ⟨(hb.cell (cell_lt h.1)).trans h.1, (hb.cell (cell_lt h.2.1)).trans h.2.1, (hb.cell (cell_lt h.2.2)).trans h.2.2⟩
end Go.Proofs.YtjhlehdjdaphcaaDoor
namespace Go.Proofs.YtjhlehdjdaphcaaDoor
open Go.RowKit

/-- These cells are these types, one after the other. -/
def RowsOf (w : World) (N : Prop) (S : Nat → Prop) : List Value → List Ty → Prop
  | cs, [] => cs = []
  | cs, t :: r => ∃ A c rest, cs = .string t.name :: .slice A t.args.length c :: .int .i64 t.off :: rest ∧ t.name.size ≤ 9223372036854775807 ∧ LiesN w N S A t.args.length t.args ∧ RowsOf w N S rest r

theorem RowsOf.len {w : World} {N : Prop} {S : Nat → Prop} : ∀ {ts : List Ty} {cs : List Value}, RowsOf w N S cs ts → cs.length = ts.length * 3
  | [], cs, h => by
    obtain rfl : cs = [] := h
    rfl
  | t :: r, cs, h => by
    obtain ⟨A, c, rest, rfl, _, _, hr⟩ := h
    have := RowsOf.len hr
    simp only [List.length_cons]
    omega
theorem RowsOf.keep {w w' : World} {N : Prop} {S S' : Nat → Prop} (hk : Same w w' S) (hS : ∀ b, S b → S' b) : ∀ {ts : List Ty} {cs : List Value}, RowsOf w N S cs ts → RowsOf w' N S' cs ts
  | [], cs, h => h
  | t :: r, cs, h => by
    obtain ⟨A, c, rest, rfl, hn, hl, hr⟩ := h
    exact ⟨A, c, rest, rfl, hn, hl.keep hk hS, RowsOf.keep hk hS hr⟩
theorem RowsOf.snoc {w : World} {N : Prop} {S : Nat → Prop} {t : Ty} {A : Option Addr} {m c : Nat} (hn : t.name.size ≤ 9223372036854775807) (hl : LiesN w N S A m t.args) :
    ∀ {ts : List Ty} {cs : List Value}, RowsOf w N S cs ts → RowsOf w N S (cs ++ [.string t.name, .slice A m c, .int .i64 t.off]) (ts ++ [t])
  | [], cs, h => by
    obtain rfl : cs = [] := h
    have e := hl.len
    subst e
    exact ⟨A, c, [], rfl, hn, hl, rfl⟩
  | x :: r, cs, h => by
    obtain ⟨B, d, rest, rfl, hn2, hl2, hr⟩ := h
    exact ⟨B, d, _, rfl, hn2, hl2, RowsOf.snoc hn hl hr⟩
theorem RowsOf.at {w : World} {N : Prop} {S : Nat → Prop} : ∀ {ts : List Ty} {cs : List Value} {j : Nat} {t : Ty}, RowsOf w N S cs ts → ts[j]? = some t →
    ∃ A c, cs[j * 3]? = some (.string t.name) ∧ cs[j * 3 + 1]? = some (.slice A t.args.length c) ∧ cs[j * 3 + 2]? = some (.int .i64 t.off) ∧ t.name.size ≤ 9223372036854775807 ∧ LiesN w N S A t.args.length t.args
  | x :: r, cs, 0, t, h, ht => by
    obtain rfl : x = t := by simpa using ht
    obtain ⟨A, c, rest, rfl, hn, hl, _⟩ := h
    exact ⟨A, c, rfl, rfl, rfl, hn, hl⟩
  | x :: r, cs, j + 1, t, h, ht => by
    obtain ⟨A, c, rest, rfl, hn, hl, hr⟩ := h
    obtain ⟨B, d, h1, h2, h3, h4⟩ := RowsOf.at hr (j := j) (by simpa using ht)
    refine ⟨B, d, ?_, ?_, ?_, h4⟩
    · rw [show (j + 1) * 3 = j * 3 + 3 by omega]; exact h1
    · rw [show (j + 1) * 3 + 1 = j * 3 + 1 + 3 by omega]; exact h2
    · rw [show (j + 1) * 3 + 2 = j * 3 + 2 + 3 by omega]; exact h3

/-- What the call has built is a slice of these types. -/
theorem lies_of_own {w : World} {N : Prop} {base n : Nat} {e : TypeId} {v : Value} {cs : List Value} {ts : List Ty} {S S' : Nat → Prop} (h : w.ownsRow base e 3 v n cs) (hr : RowsOf w N S cs ts) (hS : ∀ b, S b → S' b)
    (hv : ∀ g, v.ownBlock = some g → S' g) (hn : n ≤ 9223372036854775807) : ∃ A c, v = .slice A n c ∧ LiesN w N S' A n ts := by
  have hlen : ts.length = n := by
    have h1 := hr.len
    have h2 := h.1
    omega
  rcases h.2 with ⟨rfl, rfl⟩ | ⟨g, cap, cur, rfl, hb, hg, hnc, hc, hs, ht⟩
  · obtain rfl := List.eq_nil_of_length_eq_zero hlen
    exact ⟨none, 0, rfl, LiesN.nil _ _ _ _⟩
  · refine ⟨some ⟨g, 0, none⟩, cap, rfl, hlen, hn, ArgsIn.of fun k t hk => ?_⟩
    obtain ⟨B, d, c0, c1, c2, hsz, hl⟩ := hr.at hk
    have hcell : ∀ i u, cs[i]? = some u → w.cell? ⟨g, i, none⟩ = some u := fun i u hu => by
      have h2 := h.cells (g := g) rfl i u hu
      rwa [show (⟨g, 0, none⟩ : Addr).add i = ⟨g, i, none⟩ by unfold Addr.add; split <;> simp_all] at h2
    have ha : (⟨g, 0, none⟩ : Addr).add (k * 3) = ⟨g, k * 3, none⟩ := by unfold Addr.add; split <;> simp_all
    cases t with
    | mk s ys o =>
      rw [Nat.zero_add, TyCells]
      refine ⟨⟨g, 0, none⟩, B, d, rfl, hv g rfl, fun _ => ⟨rfl, rfl, frozen_of_row hg⟩, ?_, ?_, ?_, hsz, hl.le, hl.wide hS |>.args⟩
      · rw [ha]; exact hcell _ _ c0
      · rw [ha]; exact hcell _ _ c1
      · rw [ha]; exact hcell _ _ c2

end Go.Proofs.YtjhlehdjdaphcaaDoor

namespace Go.Proofs.YtjhlehdjdaphcaaDoor

/-- An expression: its kind, name, type, type arguments, kids, offset. -/
inductive Ex where
  | mk (kind : Int) (name : ByteArray) (ty : Ty) (targs : List Ty) (kids : List Ex) (off : Int)

namespace Ex
def kind : Ex → Int | mk k _ _ _ _ _ => k
def name : Ex → ByteArray | mk _ s _ _ _ _ => s
def ty : Ex → Ty | mk _ _ t _ _ _ => t
def targs : Ex → List Ty | mk _ _ _ ts _ _ => ts
def kids : Ex → List Ex | mk _ _ _ _ xs _ => xs
def off : Ex → Int | mk _ _ _ _ _ o => o

theorem ind {P : Ex → Prop} (h : ∀ k s t ts xs o, (∀ e ∈ xs, P e) → P (mk k s t ts xs o)) : ∀ e, P e
  | mk k s t ts xs o => h k s t ts xs o fun e _ => ind h e
/-- Lists of types, compared without and with the offsets. -/
def sameT : List Ty → List Ty → Bool
  | [], [] => true
  | a :: xs, b :: ys => (Ty.cmp a b == 0) && sameT xs ys
  | _, _ => false
mutual
def same : Ex → Ex → Bool
  | mk k s t ts xs _, mk l r u us ys _ => (k == l) && (s.data.toList == r.data.toList) && (Ty.cmp t u == 0) && sameT ts us && sameL xs ys
def sameL : List Ex → List Ex → Bool
  | [], [] => true
  | a :: xs, b :: ys => same a b && sameL xs ys
  | _, _ => false
end
mutual
/-- The same, with the offsets. -/
def eqv : Ex → Ex → Bool
  | mk k s t ts xs o, mk l r u us ys p => (o == p) && (k == l) && (s.data.toList == r.data.toList) && Ty.eqv t u && Ty.eqvL ts us && eqvL xs ys
def eqvL : List Ex → List Ex → Bool
  | [], [] => true
  | a :: xs, b :: ys => eqv a b && eqvL xs ys
  | _, _ => false
end
/-- Does the kind bear a type. -/
def typed (k : Int) : Bool := k == 3 || k == 5
/-- What is asked of an expression besides its kids. -/
def fit (k : Int) (s : ByteArray) (t : Ty) (ts : List Ty) (n : Nat) : Bool :=
  (ts.all fun u => k == 2 && u.right) && (typed k == t.right) && (typed k || (t.name.size == 0 && t.args.length == 0)) && (if typed k then s.size == 0 else Nm.isB s.data.toList)
    && (if k = 1 then n == 0 else if k = 2 then decide (1 ≤ n) else if k = 3 then true else if k = 4 ∨ k = 5 then n == 1 else false)
mutual
def right : Ex → Bool
  | mk k s t ts xs _ => rightL xs && fit k s t ts xs.length
def rightL : List Ex → Bool
  | [] => true
  | a :: xs => right a && rightL xs
end
/-- The type arguments' text: nothing, or in brackets. -/
def targText (ts : List Ty) : List UInt8 := Ty.text (.mk ⟨#[]⟩ ts 0)
/-- What stands behind the first kid's text, ahead of the further kids. -/
def tailA (k : Int) (s : ByteArray) (t : Ty) (ts : List Ty) : List UInt8 :=
  if k = 5 then [46] ++ s.data.toList ++ [40] ++ t.text ++ [41] else if k = 4 then [46] ++ s.data.toList else [46] ++ s.data.toList ++ targText ts ++ [40]
mutual
def text : Ex → List UInt8
  | mk k s t _ [] _ => if k = 1 then s.data.toList else t.text ++ [123] ++ [125]
  | mk k s t ts (a :: r) _ => if k = 1 then s.data.toList else if k = 3 then t.text ++ [123] ++ text a ++ textM r ++ [125]
    else if k = 5 ∨ k = 4 then text a ++ tailA k s t ts else text a ++ tailA k s t ts ++ textC r ++ [41]
/-- Further ones, each behind a comma and a space. -/
def textM : List Ex → List UInt8
  | [] => []
  | a :: xs => [44, 32] ++ text a ++ textM xs
/-- A list with commas between. -/
def textC : List Ex → List UInt8
  | [] => []
  | a :: xs => text a ++ textM xs
end
mutual
def depth : Ex → Nat
  | mk k _ t ts xs _ => max (if typed k then 1 + t.depth else 1) (max (Ty.depthL ts) (depthL xs))
/-- One more than the greatest depth, 0 if there is none. -/
def depthL : List Ex → Nat
  | [] => 0
  | a :: xs => max (depth a + 1) (depthL xs)
end
mutual
def value : Ex → Bool
  | mk k _ _ _ xs _ => valueL xs && k == 3
def valueL : List Ex → Bool
  | [] => true
  | a :: xs => value a && valueL xs
end
mutual
def subst (ns : List ByteArray) (us : List Ty) : Ex → Ex
  | mk k s t ts xs o => mk k s (Ty.subst ns us t) (ts.map (Ty.subst ns us)) (substL ns us xs) o
def substL (ns : List ByteArray) (us : List Ty) : List Ex → List Ex
  | [] => []
  | a :: xs => subst ns us a :: substL ns us xs
end
theorem substL_map (ns : List ByteArray) (us : List Ty) : ∀ l, substL ns us l = l.map (subst ns us)
  | [] => by simp only [substL, List.map_nil]
  | a :: l => by simp only [substL, List.map_cons, substL_map ns us l]
/-- What stands for a name: the first such name counts. -/
def pick (s : ByteArray) : List ByteArray → List Ex → Option Ex
  | [], _ => none
  | n :: ns, xs => if n.data.toList = s.data.toList then xs.head? else pick s ns xs.tail
mutual
/-- The expression and its kids, from left to right. -/
def list : Ex → List Ex
  | mk k s t ts xs o => mk k s t ts xs o :: listL xs
def listL : List Ex → List Ex
  | [] => []
  | a :: xs => list a ++ listL xs
end
mutual
/-- The number of parts, where long names count more; it stops soon behind 2000. -/
def cnt : Ex → Int → Int
  | mk _ s t ts xs _, n => cntL xs (Ty.cntL ts (Ty.cnt t (n + s.size / 50)))
def cntL : List Ex → Int → Int
  | [], n => n
  | a :: xs, n => if n ≤ 2000 then cntL xs (cnt a n) else n
end
mutual
/-- The number of parts, long names counted more; never stopped. -/
def wt : Ex → Nat
  | mk _ s t ts xs _ => s.size / 50 + Ty.wt t + Ty.wtL ts + wtL xs
def wtL : List Ex → Nat
  | [] => 0
  | a :: r => wt a + wtL r
end

/-! ### lists -/
theorem sameL_len : ∀ {xs ys : List Ex}, xs.length ≠ ys.length → sameL xs ys = false
  | [], [], h => absurd rfl h
  | [], _ :: _, _ => by simp only [sameL]
  | _ :: _, [], _ => by simp only [sameL]
  | a :: xs, b :: ys, h => by rw [sameL, sameL_len (fun e => h (by simp [e])), Bool.and_false]
theorem eqvL_len : ∀ {xs ys : List Ex}, xs.length ≠ ys.length → eqvL xs ys = false
  | [], [], h => absurd rfl h
  | [], _ :: _, _ => by simp only [eqvL]
  | _ :: _, [], _ => by simp only [eqvL]
  | a :: xs, b :: ys, h => by rw [eqvL, eqvL_len (fun e => h (by simp [e])), Bool.and_false]
theorem sameT_len : ∀ {xs ys : List Ty}, xs.length ≠ ys.length → sameT xs ys = false
  | [], [], h => absurd rfl h
  | [], _ :: _, _ => by simp only [sameT]
  | _ :: _, [], _ => by simp only [sameT]
  | a :: xs, b :: ys, h => by rw [sameT, sameT_len (fun e => h (by simp [e])), Bool.and_false]
theorem drop_at {α : Type} {xs : List α} {k : Nat} {x : α} (hx : xs[k]? = some x) : xs.drop k = x :: xs.drop (k + 1) := by
  obtain ⟨h, e⟩ := List.getElem?_eq_some_iff.1 hx
  rw [List.drop_eq_getElem_cons h, e]
theorem sameL_on {xs ys : List Ex} {k : Nat} {x y : Ex} (hx : xs[k]? = some x) (hy : ys[k]? = some y) : sameL (xs.drop k) (ys.drop k) = (same x y && sameL (xs.drop (k + 1)) (ys.drop (k + 1))) := by
  rw [drop_at hx, drop_at hy, sameL]
theorem eqvL_on {xs ys : List Ex} {k : Nat} {x y : Ex} (hx : xs[k]? = some x) (hy : ys[k]? = some y) : eqvL (xs.drop k) (ys.drop k) = (eqv x y && eqvL (xs.drop (k + 1)) (ys.drop (k + 1))) := by
  rw [drop_at hx, drop_at hy, eqvL]
theorem sameT_on {xs ys : List Ty} {k : Nat} {x y : Ty} (hx : xs[k]? = some x) (hy : ys[k]? = some y) : sameT (xs.drop k) (ys.drop k) = ((Ty.cmp x y == 0) && sameT (xs.drop (k + 1)) (ys.drop (k + 1))) := by
  rw [drop_at hx, drop_at hy, sameT]
theorem take_at {α : Type} {xs : List α} {k : Nat} {x : α} (hx : xs[k]? = some x) : xs.take (k + 1) = xs.take k ++ [x] := by rw [List.take_add_one, hx]; rfl
theorem cntL_on {xs : List Ex} {k : Nat} {x : Ex} {n : Int} (hx : xs[k]? = some x) (hn : n ≤ 2000) : cntL (xs.drop k) n = cntL (xs.drop (k + 1)) (cnt x n) := by
  rw [drop_at hx, cntL, if_pos hn]
theorem cntL_off {xs : List Ex} {k : Nat} {n : Int} (hn : ¬ n ≤ 2000) : cntL (xs.drop k) n = n := by
  cases xs.drop k with
  | nil => simp only [cntL]
  | cons a r => rw [cntL, if_neg hn]
theorem cntL_end {xs : List Ex} {k : Nat} {n : Int} (hk : xs.length ≤ k) : cntL (xs.drop k) n = n := by rw [List.drop_eq_nil_of_le hk]; simp only [cntL]
/-! ### sizes -/
theorem cnt_ge : ∀ (e : Ex) (n : Int), 0 ≤ n → n ≤ cnt e n := by
  refine ind fun k s t ts xs o ih n h0 => ?_
  rw [cnt]
  have h1 : 0 ≤ (s.size : Int) / 50 := by omega
  have hL : ∀ (ys : List Ex) (q : Int), (∀ y ∈ ys, y ∈ xs) → 0 ≤ q → q ≤ cntL ys q := by
    intro ys
    induction ys with
    | nil => intro q _ _; simp only [cntL]; omega
    | cons y r ih2 =>
      intro q hy hq
      rw [cntL]
      split
      · have h2 := ih y (hy y (by simp)) q hq
        have h3 := ih2 (cnt y q) (fun z hz => hy z (by simp [hz])) (by omega)
        omega
      · omega
  have h2 := Ty.cnt_ge t (n + s.size / 50) (by omega)
  have h3 := Ty.cntL_ge ts (Ty.cnt t (n + s.size / 50)) (by omega)
  have := hL xs (Ty.cntL ts (Ty.cnt t (n + s.size / 50))) (fun _ h => h) (by omega)
  omega
theorem cntL_ge : ∀ (xs : List Ex) (n : Int), 0 ≤ n → n ≤ cntL xs n
  | [], n, _ => by simp only [cntL]; omega
  | x :: r, n, h => by
    rw [cntL]
    split
    · have h2 := cnt_ge x n h
      have h3 := cntL_ge r (cnt x n) (by omega)
      omega
    · omega
theorem cntL_wt : ∀ (xs : List Ex) (n : Int), (∀ t ∈ xs, ∀ n : Int, 0 ≤ n → cnt t n ≤ 2000 → cnt t n = n + wt t) → 0 ≤ n → cntL xs n ≤ 2000 → cntL xs n = n + wtL xs
  | [], n, _, _, _ => by simp only [cntL, wtL]; omega
  | x :: r, n, hx, h, h2 => by
    rw [cntL] at h2 ⊢
    split at h2
    · rename_i h3
      rw [if_pos h3]
      have h4 := cnt_ge x n h
      have h5 := cntL_ge r (cnt x n) (by omega)
      have h6 := hx x (by simp) n h (by omega)
      have h7 := cntL_wt r (cnt x n) (fun t ht => hx t (by simp [ht])) (by omega) h2
      rw [wtL, h7, h6]
      omega
    · omega
theorem cnt_wt : ∀ (e : Ex) (n : Int), 0 ≤ n → cnt e n ≤ 2000 → cnt e n = n + wt e := by
  refine ind fun k s t ts xs o ih n h0 h => ?_
  rw [cnt] at h ⊢
  have h1 : 0 ≤ (s.size : Int) / 50 := by omega
  have h2 := Ty.cnt_ge t (n + s.size / 50) (by omega)
  have h3 := Ty.cntL_ge ts (Ty.cnt t (n + s.size / 50)) (by omega)
  have h4 := cntL_ge xs (Ty.cntL ts (Ty.cnt t (n + s.size / 50))) (by omega)
  rw [cntL_wt xs _ ih (by omega) h, Ty.cntL_wt ts _ (fun u _ q h1 h2 => Ty.cnt_wt u q h1 h2) (by omega) (by omega), Ty.cnt_wt t _ (by omega) (by omega), wt]
  omega
theorem wtL_mem : ∀ {xs : List Ex} {x : Ex}, x ∈ xs → wt x ≤ wtL xs
  | y :: r, x, h => by
    simp only [wtL]
    rcases List.mem_cons.1 h with rfl | h
    · omega
    · have := wtL_mem h; omega
theorem wt_pos (e : Ex) : 1 ≤ wt e := by
  obtain ⟨k, s, t, ts, xs, o⟩ := e
  obtain ⟨r, ys, p⟩ := t
  simp only [wt, Ty.wt]; omega
theorem wtL_len : ∀ xs : List Ex, xs.length ≤ wtL xs
  | [] => Nat.zero_le _
  | e :: r => by
    have := wtL_len r
    have := wt_pos e
    simp only [List.length_cons, wtL]
    omega

theorem wt_ty {e : Ex} : Ty.wt e.ty ≤ wt e := by obtain ⟨k, s, t, ts, xs, o⟩ := e; simp only [wt, ty]; omega
theorem wt_targ {e : Ex} {t : Ty} (h : t ∈ e.targs) : Ty.wt t ≤ wt e := by
  obtain ⟨k, s, u, ts, xs, o⟩ := e
  have := Ty.wtL_mem (show t ∈ ts from h)
  simp only [wt]; omega
theorem wt_kid {e x : Ex} (h : x ∈ e.kids) : wt x ≤ wt e := by
  obtain ⟨k, s, u, ts, xs, o⟩ := e
  have := wtL_mem (show x ∈ xs from h)
  simp only [wt]; omega
end Ex
end Go.Proofs.YtjhlehdjdaphcaaDoor
