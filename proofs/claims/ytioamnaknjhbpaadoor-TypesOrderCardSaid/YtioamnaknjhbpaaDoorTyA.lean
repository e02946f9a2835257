/- Types as trees: their order, text, names, depth, size and substitution in plain words; the laws of order. No program, no condition. -/
import Derived.Test.YtioamnaknjhbpaaDoorPureD
namespace Go.Proofs.YtioamnaknjhbpaaDoor

/-- A type: its name, its arguments, its offset. -/
inductive Ty where
  | mk (name : ByteArray) (args : List Ty) (off : Int)

namespace Ty
def name : Ty → ByteArray | mk s _ _ => s
def args : Ty → List Ty | mk _ xs _ => xs
def off : Ty → Int | mk _ _ o => o
/-- The name's bytes. -/
def nm (t : Ty) : List UInt8 := t.name.data.toList

theorem ind {P : Ty → Prop} (h : ∀ s xs o, (∀ t ∈ xs, P t) → P (mk s xs o)) : ∀ t, P t
  | mk s xs o => h s xs o fun t _ => ind h t
theorem indL {P : List Ty → Prop} (h0 : P []) (h1 : ∀ s xs o r, P xs → P r → P (mk s xs o :: r)) : ∀ l, P l
  | [] => h0
  | mk s xs o :: r => h1 s xs o r (indL h0 h1 xs) (indL h0 h1 r)

mutual
/-- The order. -/
def cmp : Ty → Ty → Int
  | mk s xs _, mk t bs _ => if s.data.toList = t.data.toList then cmpL xs bs else Lib.compareBytes s.data.toList t.data.toList
def cmpL : List Ty → List Ty → Int
  | [], [] => 0
  | [], _ :: _ => -1
  | _ :: _, [] => 1
  | a :: xs, b :: bs => if cmp a b = 0 then cmpL xs bs else cmp a b
end
mutual
/-- The same, with the offsets. -/
def eqv : Ty → Ty → Bool
  | mk s xs o, mk t bs p => (s.data.toList == t.data.toList) && (o == p) && eqvL xs bs
def eqvL : List Ty → List Ty → Bool
  | [], [] => true
  | a :: xs, b :: bs => eqv a b && eqvL xs bs
  | _, _ => false
end
mutual
def text : Ty → List UInt8
  | mk s [] _ => s.data.toList
  | mk s (a :: xs) _ => s.data.toList ++ [91] ++ text a ++ textL xs ++ [93]
/-- The further arguments, each behind a comma and a space. -/
def textL : List Ty → List UInt8
  | [] => []
  | a :: xs => [44, 32] ++ text a ++ textL xs
end
mutual
/-- The names, from left to right. -/
def list : Ty → List ByteArray
  | mk s xs _ => s :: listL xs
def listL : List Ty → List ByteArray
  | [] => []
  | a :: xs => list a ++ listL xs
end
mutual
def depth : Ty → Nat
  | mk _ xs _ => max 1 (depthL xs)
/-- One more than the greatest depth, 0 if there is none. -/
def depthL : List Ty → Nat
  | [] => 0
  | a :: xs => max (depth a + 1) (depthL xs)
end
mutual
/-- The number of parts, where long names count more; it stops soon behind 2000. -/
def cnt : Ty → Int → Int
  | mk s xs _, n => cntL xs (n + 1 + s.size / 50)
def cntL : List Ty → Int → Int
  | [], n => n
  | a :: xs, n => if n ≤ 2000 then cntL xs (cnt a n) else n
end
def right (t : Ty) : Bool := t.list.all fun s => Nm.isB s.data.toList
/-- What stands for a name: the type of the first such name; none if the name is not there or has no type. -/
def pick (s : ByteArray) : List ByteArray → List Ty → Option Ty
  | [], _ => none
  | n :: ns, xs => if n.data.toList = s.data.toList then xs.head? else pick s ns xs.tail
mutual
def subst (ns : List ByteArray) (us : List Ty) : Ty → Ty
  | mk s [] o => match pick s ns us with
    | some (mk t bs _) => mk t bs o
    | none => mk s [] o
  | mk s (a :: xs) o => mk s (subst ns us a :: substL ns us xs) o
def substL (ns : List ByteArray) (us : List Ty) : List Ty → List Ty
  | [] => []
  | a :: xs => subst ns us a :: substL ns us xs
end
theorem substL_map (ns : List ByteArray) (us : List Ty) : ∀ l, substL ns us l = l.map (subst ns us)
  | [] => by simp only [substL, List.map_nil]
  | a :: l => by simp only [substL, List.map_cons, substL_map ns us l]
theorem substL_eq (ns : List ByteArray) (us : List Ty) (s : ByteArray) (xs : List Ty) (o : Int) (h : xs ≠ []) : subst ns us (mk s xs o) = mk s (substL ns us xs) o := by
  cases xs with
  | nil => exact absurd rfl h
  | cons a xs => simp only [subst, substL]

/-! ### the order is one -/
theorem cmp_neg : ∀ a b : Ty, cmp b a = -cmp a b := by
  refine ind fun s xs o ih b => ?_
  obtain ⟨t, bs, p⟩ := b
  simp only [cmp]
  by_cases h : s.data.toList = t.data.toList
  · rw [if_pos h, if_pos h.symm]
    clear h
    induction xs generalizing bs with
    | nil => cases bs <;> simp [cmpL]
    | cons a xs ih2 =>
      cases bs with
      | nil => simp [cmpL]
      | cons c bs =>
        have h1 := ih a (by simp) c
        have h2 := ih2 (fun t ht => ih t (by simp [ht])) bs
        simp only [cmpL, h1, h2]
        by_cases h : cmp a c = 0 <;> simp [h]
  · rw [if_neg h, if_neg (fun e => h e.symm), Nm.cmp_neg]

theorem cmp_zero : ∀ a b : Ty, cmp a b = 0 → ∀ c, cmp a c = cmp b c := by
  refine ind fun s xs o ih b h c => ?_
  obtain ⟨t, bs, p⟩ := b
  obtain ⟨u, cs, q⟩ := c
  simp only [cmp] at h ⊢
  by_cases hs : s.data.toList = t.data.toList
  · rw [if_pos hs] at h
    rw [hs]
    split
    · clear hs
      induction xs generalizing bs cs with
      | nil =>
        cases bs with
        | nil => rfl
        | cons => simp [cmpL] at h
      | cons a xs ih2 =>
        cases bs with
        | nil => simp [cmpL] at h
        | cons b bs =>
          simp only [cmpL] at h
          by_cases hab : cmp a b = 0
          · rw [if_pos hab] at h
            cases cs with
            | nil => simp [cmpL]
            | cons c cs =>
              simp only [cmpL]
              rw [ih a (by simp) b hab c, ih2 (fun t ht => ih t (by simp [ht])) bs h cs]
          · rw [if_neg hab] at h
            exact absurd h hab
    · rfl
  · rw [if_neg hs] at h
    exact absurd ((Nm.cmp_zero _ _).1 h) hs

theorem cmp_cases : ∀ a b : Ty, cmp a b = -1 ∨ cmp a b = 0 ∨ cmp a b = 1 := by
  refine ind fun s xs o ih b => ?_
  obtain ⟨t, bs, p⟩ := b
  simp only [cmp]
  split
  · clear o p
    induction xs generalizing bs with
    | nil => cases bs <;> simp [cmpL]
    | cons a xs ih2 =>
      cases bs with
      | nil => simp [cmpL]
      | cons c bs =>
        simp only [cmpL]
        split
        · exact ih2 (fun t ht => ih t (by simp [ht])) bs
        · exact ih a (by simp) c
  · exact Nm.cmp_cases _ _

theorem cmp_trans : ∀ a b c : Ty, cmp a b ≤ 0 → cmp b c ≤ 0 → cmp a c ≤ 0 := by
  refine ind fun s xs o ih b c h1 h2 => ?_
  obtain ⟨t, bs, p⟩ := b
  obtain ⟨u, cs, q⟩ := c
  simp only [cmp] at h1 h2 ⊢
  by_cases hst : s.data.toList = t.data.toList
  · rw [if_pos hst] at h1
    rw [hst]
    by_cases htu : t.data.toList = u.data.toList
    · rw [if_pos htu] at h2 ⊢
      clear hst htu
      induction xs generalizing bs cs with
      | nil => cases cs <;> simp [cmpL]
      | cons a xs ih2 =>
        cases bs with
        | nil => simp [cmpL] at h1
        | cons b bs =>
          cases cs with
          | nil => simp [cmpL] at h2
          | cons c cs =>
            simp only [cmpL] at h1 h2 ⊢
            by_cases hab : cmp a b = 0
            · rw [if_pos hab] at h1
              rw [cmp_zero a b hab c]
              by_cases hbc : cmp b c = 0
              · rw [if_pos hbc] at h2 ⊢
                exact ih2 (fun t ht => ih t (by simp [ht])) bs h1 cs h2
              · rw [if_neg hbc] at h2 ⊢
                exact h2
            · rw [if_neg hab] at h1
              by_cases hbc : cmp b c = 0
              · have e : cmp a c = cmp a b := by
                  have e1 := cmp_zero b c hbc a
                  rw [cmp_neg b a, cmp_neg c a, e1]
                rw [e, if_neg hab]
                exact h1
              · rw [if_neg hbc] at h2
                have hac := ih a (by simp) b c h1 h2
                by_cases hac0 : cmp a c = 0
                · exfalso
                  have e1 := cmp_zero a c hac0 b
                  have e2 := cmp_neg b c
                  rw [← e1] at e2
                  rcases cmp_cases a b with h | h | h <;> rcases cmp_cases b c with h' | h' | h' <;> omega
                · rw [if_neg hac0]
                  exact hac
    · rw [if_neg htu] at h2 ⊢
      exact h2
  · rw [if_neg hst] at h1
    by_cases htu : t.data.toList = u.data.toList
    · rw [← htu, if_neg hst]
      exact h1
    · rw [if_neg htu] at h2
      have h3 := Nm.cmp_trans _ _ _ h1 h2
      by_cases hsu : s.data.toList = u.data.toList
      · exfalso
        rw [← hsu] at h2
        have h4 := Nm.cmp_neg s.data.toList t.data.toList
        have h5 : Lib.compareBytes s.data.toList t.data.toList = 0 := by omega
        exact hst ((Nm.cmp_zero _ _).1 h5)
      · rw [if_neg hsu]
        exact h3
end Ty
end Go.Proofs.YtioamnaknjhbpaaDoor
