/- Types as trees, in plain words; their laws. No program, no condition.
Types in memory, and rows of types that a call builds. No condition. -/
import Derived.Test.YtkdlidakdknhjaaDoorPu
import Derived.Test.YtkdlidakdknhjaaDoorBs
import Derived.OwnWalk
import Derived.Laws.AppendOwn
import Derived.Laws.OwnMore
import Derived.Laws.NewBlocks
namespace Go.Proofs.YtkdlidakdknhjaaDoor

/-- A type: its name, its arguments, its offset. -/
inductive Ty where
  | mk (name : ByteArray) (args : List Ty) (off : Int)

namespace Ty
def name : Ty → ByteArray | mk s _ _ => s
def args : Ty → List Ty | mk _ xs _ => xs
def off : Ty → Int | mk _ _ o => o
/-- The name's bytes. -/
def nm (t : Ty) : List UInt8 := t.name.data.toList

theorem ind {P : Ty → Prop} (h : ∀ s xs o, (∀ t ∈ xs, P t) → P (mk s xs o)) : ∀ t, P t
  | mk s xs o => h s xs o fun t _ => ind h t
theorem indL {P : List Ty → Prop} (h0 : P []) (h1 : ∀ s xs o r, P xs → P r → P (mk s xs o :: r)) : ∀ l, P l
  | [] => h0
  | mk s xs o :: r => h1 s xs o r (indL h0 h1 xs) (indL h0 h1 r)

mutual
/-- The order. -/
def cmp : Ty → Ty → Int
  | mk s xs _, mk t bs _ => if s.data.toList = t.data.toList then cmpL xs bs else Lib.compareBytes s.data.toList t.data.toList
def cmpL : List Ty → List Ty → Int
  | [], [] => 0
  | [], _ :: _ => -1
  | _ :: _, [] => 1
  | a :: xs, b :: bs => if cmp a b = 0 then cmpL xs bs else cmp a b
end
mutual
/-- The same, with the offsets. -/
def eqv : Ty → Ty → Bool
  | mk s xs o, mk t bs p => (s.data.toList == t.data.toList) && (o == p) && eqvL xs bs
def eqvL : List Ty → List Ty → Bool
  | [], [] => true
  | a :: xs, b :: bs => eqv a b && eqvL xs bs
  | _, _ => false
end
mutual
def text : Ty → List UInt8
  | mk s [] _ => s.data.toList
  | mk s (a :: xs) _ => s.data.toList ++ [91] ++ text a ++ textL xs ++ [93]
/-- The further arguments, each behind a comma and a space. -/
def textL : List Ty → List UInt8
  | [] => []
  | a :: xs => [44, 32] ++ text a ++ textL xs
end
mutual
/-- The names, from left to right. -/
def list : Ty → List ByteArray
  | mk s xs _ => s :: listL xs
def listL : List Ty → List ByteArray
  | [] => []
  | a :: xs => list a ++ listL xs
end
mutual
def depth : Ty → Nat
  | mk _ xs _ => max 1 (depthL xs)
/-- One more than the greatest depth, 0 if there is none. -/
def depthL : List Ty → Nat
  | [] => 0
  | a :: xs => max (depth a + 1) (depthL xs)
end
mutual
/-- The number of parts, where long names count more; it stops soon behind 2000. -/
def cnt : Ty → Int → Int
  | mk s xs _, n => cntL xs (n + 1 + s.size / 50)
def cntL : List Ty → Int → Int
  | [], n => n
  | a :: xs, n => if n ≤ 2000 then cntL xs (cnt a n) else n
end
def right (t : Ty) : Bool := t.list.all fun s => Nm.isB s.data.toList
/-- What stands for a name: the type of the first such name; none if the name is not there or has no type. -/
def pick (s : ByteArray) : List ByteArray → List Ty → Option Ty
  | [], _ => none
  | n :: ns, xs => if n.data.toList = s.data.toList then xs.head? else pick s ns xs.tail
mutual
def subst (ns : List ByteArray) (us : List Ty) : Ty → Ty
  | mk s [] o => match pick s ns us with
    | some (mk t bs _) => mk t bs o
    | none => mk s [] o
  | mk s (a :: xs) o => mk s (subst ns us a :: substL ns us xs) o
def substL (ns : List ByteArray) (us : List Ty) : List Ty → List Ty
  | [] => []
  | a :: xs => subst ns us a :: substL ns us xs
end
theorem substL_map (ns : List ByteArray) (us : List Ty) : ∀ l, substL ns us l = l.map (subst ns us)
  | [] => by simp only [substL, List.map_nil]
  | a :: l => by simp only [substL, List.map_cons, substL_map ns us l]
theorem substL_eq (ns : List ByteArray) (us : List Ty) (s : ByteArray) (xs : List Ty) (o : Int) (h : xs ≠ []) : subst ns us (mk s xs o) = mk s (substL ns us xs) o := by
  cases xs with
  | nil => exact absurd rfl h
  | cons a xs => simp only [subst, substL]

/-! ### the order is one -/
theorem cmp_neg : ∀ a b : Ty, cmp b a = -cmp a b := by
  refine ind fun s xs o ih b => ?_
  obtain ⟨t, bs, p⟩ := b
  simp only [cmp]
  by_cases h : s.data.toList = t.data.toList
  · rw [if_pos h, if_pos h.symm]
    clear h
    induction xs generalizing bs with
    | nil => cases bs <;> simp [cmpL]
    | cons a xs ih2 =>
      cases bs with
      | nil => simp [cmpL]
      | cons c bs =>
        have h1 := ih a (by simp) c
        have h2 := ih2 (fun t ht => ih t (by simp [ht])) bs
        simp only [cmpL, h1, h2]
        by_cases h : cmp a c = 0 <;> simp [h]
  · rw [if_neg h, if_neg (fun e => h e.symm), Nm.cmp_neg]

theorem cmp_zero : ∀ a b : Ty, cmp a b = 0 → ∀ c, cmp a c = cmp b c := by
  refine ind fun s xs o ih b h c => ?_
  obtain ⟨t, bs, p⟩ := b
  obtain ⟨u, cs, q⟩ := c
  simp only [cmp] at h ⊢
  by_cases hs : s.data.toList = t.data.toList
  · rw [if_pos hs] at h
    rw [hs]
    split
    · clear hs
      induction xs generalizing bs cs with
      | nil =>
        cases bs with
        | nil => rfl
        | cons => simp [cmpL] at h
      | cons a xs ih2 =>
        cases bs with
        | nil => simp [cmpL] at h
        | cons b bs =>
          simp only [cmpL] at h
          by_cases hab : cmp a b = 0
          · rw [if_pos hab] at h
            cases cs with
            | nil => simp [cmpL]
            | cons c cs =>
              simp only [cmpL]
              rw [ih a (by simp) b hab c, ih2 (fun t ht => ih t (by simp [ht])) bs h cs]
          · rw [if_neg hab] at h
            exact absurd h hab
    · rfl
  · rw [if_neg hs] at h
    exact absurd ((Nm.cmp_zero _ _).1 h) hs

theorem cmp_cases : ∀ a b : Ty, cmp a b = -1 ∨ cmp a b = 0 ∨ cmp a b = 1 := by
  refine ind fun s xs o ih b => ?_
  obtain ⟨t, bs, p⟩ := b
  simp only [cmp]
  split
  · clear o p
    induction xs generalizing bs with
    | nil => cases bs <;> simp [cmpL]
    | cons a xs ih2 =>
      cases bs with
      | nil => simp [cmpL]
      | cons c bs =>
        simp only [cmpL]
        split
        · exact ih2 (fun t ht => ih t (by simp [ht])) bs
        · exact ih a (by simp) c
  · exact Nm.cmp_cases _ _

theorem cmp_trans : ∀ a b c : Ty, cmp a b ≤ 0 → cmp b c ≤ 0 → cmp a c ≤ 0 := by
  refine ind fun s xs o ih b c h1 h2 => ?_
  obtain ⟨t, bs, p⟩ := b
  obtain ⟨u, cs, q⟩ := c
  simp only [cmp] at h1 h2 ⊢
  by_cases hst : s.data.toList = t.data.toList
  · rw [if_pos hst] at h1
    rw [hst]
    by_cases htu : t.data.toList = u.data.toList
    · rw [if_pos htu] at h2 ⊢
      clear hst htu
      induction xs generalizing bs cs with
      | nil => cases cs <;> simp [cmpL]
      | cons a xs ih2 =>
        cases bs with
        | nil => simp [cmpL] at h1
        | cons b bs =>
          cases cs with
          | nil => simp [cmpL] at h2
          | cons c cs =>
            simp only [cmpL] at h1 h2 ⊢
            by_cases hab : cmp a b = 0
            · rw [if_pos hab] at h1
              rw [cmp_zero a b hab c]
              by_cases hbc : cmp b c = 0
              · rw [if_pos hbc] at h2 ⊢
                exact ih2 (fun t ht => ih t (by simp [ht])) bs h1 cs h2
              · rw [if_neg hbc] at h2 ⊢
                exact h2
            · rw [if_neg hab] at h1
              by_cases hbc : cmp b c = 0
              · have e : cmp a c = cmp a b := by
                  have e1 := cmp_zero b c hbc a
                  rw [cmp_neg b a, cmp_neg c a, e1]
                rw [e, if_neg hab]
                exact h1
              · rw [if_neg hbc] at h2
                have hac := ih a (by simp) b c h1 h2
                by_cases hac0 : cmp a c = 0
                · exfalso
                  have e1 := cmp_zero a c hac0 b
                  have e2 := cmp_neg b c
                  rw [← e1] at e2
                  rcases cmp_cases a b with h | h | h <;> rcases cmp_cases b c with h' | h' | h' <;> omega
                · rw [if_neg hac0]
                  exact hac
    · rw [if_neg htu] at h2 ⊢
      exact h2
  · rw [if_neg hst] at h1
    by_cases htu : t.data.toList = u.data.toList
    · rw [← htu, if_neg hst]
      exact h1
    · rw [if_neg htu] at h2
      have h3 := Nm.cmp_trans _ _ _ h1 h2
      by_cases hsu : s.data.toList = u.data.toList
      · exfalso
        rw [← hsu] at h2
        have h4 := Nm.cmp_neg s.data.toList t.data.toList
        have h5 : Lib.compareBytes s.data.toList t.data.toList = 0 := by omega
        exact hst ((Nm.cmp_zero _ _).1 h5)
      · rw [if_neg hsu]
        exact h3
end Ty
end Go.Proofs.YtkdlidakdknhjaaDoor
namespace Go.Proofs.YtkdlidakdknhjaaDoor.Ty

/-! ### sizes -/
mutual
/-- The number of parts, long names counted more; never stopped. -/
def wt : Ty → Nat
  | mk s xs _ => 1 + s.size / 50 + wtL xs
def wtL : List Ty → Nat
  | [] => 0
  | a :: r => wt a + wtL r
end
theorem cnt_ge : ∀ (t : Ty) (n : Int), 0 ≤ n → n ≤ cnt t n := by
  refine ind fun s xs o ih n h0 => ?_
  rw [cnt]
  have h1 : 0 ≤ (s.size : Int) / 50 := by omega
  have hL : ∀ (ys : List Ty) (q : Int), (∀ y ∈ ys, y ∈ xs) → 0 ≤ q → q ≤ cntL ys q := by
    intro ys
    induction ys with
    | nil => intro q _ _; simp only [cntL]; omega
    | cons y r ih2 =>
      intro q hy hq
      rw [cntL]
      split
      · have h2 := ih y (hy y (by simp)) q hq
        have h3 := ih2 (cnt y q) (fun z hz => hy z (by simp [hz])) (by omega)
        omega
      · omega
  have := hL xs (n + 1 + s.size / 50) (fun _ h => h) (by omega)
  omega
theorem cntL_ge : ∀ (xs : List Ty) (n : Int), 0 ≤ n → n ≤ cntL xs n
  | [], n, _ => by simp only [cntL]; omega
  | x :: r, n, h => by
    rw [cntL]
    split
    · have h2 := cnt_ge x n h
      have h3 := cntL_ge r (cnt x n) (by omega)
      omega
    · omega
theorem cntL_wt : ∀ (xs : List Ty) (n : Int), (∀ t ∈ xs, ∀ n : Int, 0 ≤ n → cnt t n ≤ 2000 → cnt t n = n + wt t) → 0 ≤ n → cntL xs n ≤ 2000 → cntL xs n = n + wtL xs
  | [], n, _, _, _ => by simp only [cntL, wtL]; omega
  | x :: r, n, hx, h, h2 => by
    rw [cntL] at h2 ⊢
    split at h2
    · rename_i h3
      rw [if_pos h3]
      have h4 := cnt_ge x n h
      have h5 := cntL_ge r (cnt x n) (by omega)
      have h6 := hx x (by simp) n h (by omega)
      have h7 := cntL_wt r (cnt x n) (fun t ht => hx t (by simp [ht])) (by omega) h2
      rw [wtL, h7, h6]
      omega
    · omega
theorem cnt_wt : ∀ (t : Ty) (n : Int), 0 ≤ n → cnt t n ≤ 2000 → cnt t n = n + wt t := by
  refine ind fun s xs o ih n h0 h => ?_
  rw [cnt] at h ⊢
  have h1 : 0 ≤ (s.size : Int) / 50 := by omega
  rw [cntL_wt xs _ ih (by omega) h, wt]
  omega

/-- Nothing about the type is large. -/
structure Small (t : Ty) : Prop where
  list : t.list.length ≤ 1990
  names : ∀ s ∈ t.list, s.size ≤ 100000
  text : t.text.length ≤ 1000000
  depth : t.depth ≤ 1990

theorem list_wt : ∀ t : Ty, t.list.length ≤ wt t := by
  refine ind fun s xs o ih => ?_
  have hL : ∀ ys : List Ty, (∀ y ∈ ys, y ∈ xs) → (listL ys).length ≤ wtL ys := by
    intro ys
    induction ys with
    | nil => intro _; simp only [listL, wtL, List.length_nil]; omega
    | cons y r ih2 =>
      intro hy
      have h1 := ih y (hy y (by simp))
      have h2 := ih2 (fun z hz => hy z (by simp [hz]))
      simp only [listL, wtL, List.length_append]
      omega
  have := hL xs (fun _ h => h)
  simp only [list, wt, List.length_cons]
  omega
theorem names_wt : ∀ t : Ty, ∀ s ∈ t.list, s.size / 50 ≤ wt t := by
  refine ind fun s xs o ih u hu => ?_
  have hL : ∀ ys : List Ty, (∀ y ∈ ys, y ∈ xs) → ∀ u ∈ listL ys, u.size / 50 ≤ wtL ys := by
    intro ys
    induction ys with
    | nil => intro _ u hu; simp only [listL] at hu; cases hu
    | cons y r ih2 =>
      intro hy u hu
      simp only [listL, List.mem_append] at hu
      simp only [wtL]
      rcases hu with hu | hu
      · have := ih y (hy y (by simp)) u hu; omega
      · have := ih2 (fun z hz => hy z (by simp [hz])) u hu; omega
  simp only [list, List.mem_cons] at hu
  simp only [wt]
  rcases hu with rfl | hu
  · omega
  · have := hL xs (fun _ h => h) u hu; omega
theorem depth_wt : ∀ t : Ty, t.depth ≤ wt t := by
  refine ind fun s xs o ih => ?_
  have hL : ∀ ys : List Ty, (∀ y ∈ ys, y ∈ xs) → depthL ys ≤ 1 + wtL ys := by
    intro ys
    induction ys with
    | nil => intro _; simp only [depthL]; omega
    | cons y r ih2 =>
      intro hy
      have h1 := ih y (hy y (by simp))
      have h2 := ih2 (fun z hz => hy z (by simp [hz]))
      simp only [depthL, wtL]
      omega
  have := hL xs (fun _ h => h)
  simp only [depth, wt]
  omega
theorem text_wt : ∀ t : Ty, t.text.length + 4 ≤ 60 * wt t := by
  refine ind fun s xs o ih => ?_
  have hL : ∀ ys : List Ty, (∀ y ∈ ys, y ∈ xs) → (textL ys).length ≤ 60 * wtL ys := by
    intro ys
    induction ys with
    | nil => intro _; simp [textL]
    | cons y r ih2 =>
      intro hy
      have h1 := ih y (hy y (by simp))
      have h2 := ih2 (fun z hz => hy z (by simp [hz]))
      simp only [textL, wtL, List.length_append, List.length_cons, List.length_nil]
      omega
  have hs := Lib.size_eq s
  cases xs with
  | nil =>
    simp only [text, wt, wtL]
    omega
  | cons a r =>
    have h1 := ih a (by simp)
    have h2 := hL r (fun y hy => by simp [hy])
    simp only [text, wt, wtL, List.length_append, List.length_cons, List.length_nil]
    omega

theorem small_of_wt {t : Ty} (h : wt t ≤ 1990) : t.Small where
  list := by have := list_wt t; omega
  names s hs := by have := names_wt t s hs; omega
  text := by have := text_wt t; omega
  depth := by have := depth_wt t; omega
theorem wt_of_cnt {t : Ty} (h : t.cnt 0 ≤ 200) : wt t ≤ 200 := by
  have := cnt_wt t 0 (by omega) (by omega)
  omega
theorem wtL_of_cnt {xs : List Ty} (h : cntL xs 0 ≤ 200) : wtL xs ≤ 200 := by
  have := cntL_wt xs 0 (fun t _ n h1 h2 => cnt_wt t n h1 h2) (by omega) (by omega)
  omega
theorem wtL_mem : ∀ {xs : List Ty} {x : Ty}, x ∈ xs → wt x ≤ wtL xs
  | y :: r, x, h => by
    simp only [wtL]
    rcases List.mem_cons.1 h with rfl | h
    · omega
    · have := wtL_mem h; omega
theorem wtL_len : ∀ xs : List Ty, xs.length ≤ wtL xs
  | [] => Nat.zero_le _
  | .mk s ys o :: r => by
    have := wtL_len r
    simp only [List.length_cons, wtL, wt]
    omega

/-! ### equality with offsets -/
theorem eqv_refl : ∀ t : Ty, eqv t t = true := by
  refine ind fun s xs o ih => ?_
  have hL : ∀ ys : List Ty, (∀ y ∈ ys, y ∈ xs) → eqvL ys ys = true := by
    intro ys
    induction ys with
    | nil => intro _; simp only [eqvL]
    | cons y r ih2 =>
      intro hy
      rw [eqvL, ih y (hy y (by simp)), ih2 (fun z hz => hy z (by simp [hz]))]
      rfl
  rw [eqv, hL xs (fun _ h => h)]
  simp

/-! ### the text of a right type -/
/-- No byte of a name begins the rest. -/
def Stop (r : List UInt8) : Prop := ∀ c, r.head? = some c → Nm.goodB c.toNat = false ∧ c ≠ 91
def gd (c : UInt8) : Bool := Nm.goodB c.toNat
theorem takeWhile_name {s r : List UInt8} (hs : s.all gd = true) (hr : ∀ c, r.head? = some c → gd c = false) : (s ++ r).takeWhile gd = s := by
  induction s with
  | nil =>
    cases r with
    | nil => rfl
    | cons c r => simp [hr c rfl]
  | cons c s ih =>
    simp only [List.all_cons, Bool.and_eq_true] at hs
    simp only [List.cons_append, List.takeWhile_cons, hs.1, if_true, ih hs.2]
theorem name_split {s t r q : List UInt8} (hs : s.all gd = true) (ht : t.all gd = true) (hr : ∀ c, r.head? = some c → gd c = false) (hq : ∀ c, q.head? = some c → gd c = false) (h : s ++ r = t ++ q) : s = t ∧ r = q := by
  have h1 := takeWhile_name hs hr
  have h2 := takeWhile_name ht hq
  rw [h, h2] at h1
  subst h1
  exact ⟨rfl, List.append_cancel_left h⟩
theorem isB_good {l : List UInt8} (h : Nm.isB l = true) : l.all gd = true := by
  cases l with
  | nil => cases h
  | cons c r =>
    simp only [Nm.isB, Bool.and_eq_true] at h
    exact h.1.2
theorem gd44 : gd 44 = false := by decide
theorem gd93 : gd 93 = false := by decide
theorem gd91 : gd 91 = false := by decide
theorem stop_gd {r : List UInt8} (h : Stop r) : ∀ c, r.head? = some c → gd c = false := fun c hc => (h c hc).1
theorem stop_textL (xs : List Ty) (r : List UInt8) : Stop (textL xs ++ 93 :: r) := by
  intro c hc
  cases xs with
  | nil =>
    simp only [textL, List.nil_append, List.head?_cons, Option.some.injEq] at hc
    subst hc; exact ⟨gd93, by decide⟩
  | cons x xs =>
    simp only [textL, List.cons_append, List.head?_cons, Option.some.injEq] at hc
    subst hc; exact ⟨gd44, by decide⟩

theorem right_mk (s : ByteArray) (xs : List Ty) (o : Int) : right (mk s xs o) = (Nm.isB s.data.toList && (listL xs).all fun s => Nm.isB s.data.toList) := by
  rw [right, list, List.all_cons]
theorem rightL_cons (x : Ty) (xs : List Ty) : ((listL (x :: xs)).all fun s => Nm.isB s.data.toList) = (right x && (listL xs).all fun s => Nm.isB s.data.toList) := by
  rw [listL, List.all_append, right]

/-- The same text: the same type. -/
theorem text_inj : ∀ (a b : Ty) (r q : List UInt8), a.right = true → b.right = true → Stop r → Stop q → a.text ++ r = b.text ++ q → cmp a b = 0 ∧ r = q := by
  refine ind fun s xs o ih b r q ha hb hr hq h => ?_
  obtain ⟨t, ys, p⟩ := b
  rw [right_mk, Bool.and_eq_true] at ha hb
  have gs := isB_good ha.1
  have gt := isB_good hb.1
  have hL : ∀ (us bs : List Ty) (r q : List UInt8), (∀ x ∈ us, x ∈ xs) → ((listL us).all fun s => Nm.isB s.data.toList) = true → ((listL bs).all fun s => Nm.isB s.data.toList) = true →
      textL us ++ 93 :: r = textL bs ++ 93 :: q → cmpL us bs = 0 ∧ r = q := by
    intro us
    induction us with
    | nil =>
      intro bs r q _ _ _ h
      cases bs with
      | nil =>
        simp only [textL, List.nil_append, List.cons.injEq, true_and] at h
        exact ⟨by simp only [cmpL], h⟩
      | cons y bs =>
        simp only [textL, List.nil_append, List.cons_append, List.cons.injEq] at h
        exact absurd h.1 (by decide)
    | cons x us ih2 =>
      intro bs r q hx hra hrb h
      rw [rightL_cons, Bool.and_eq_true] at hra
      cases bs with
      | nil =>
        simp only [textL, List.nil_append, List.cons_append, List.cons.injEq] at h
        exact absurd h.1 (by decide)
      | cons y bs =>
        rw [rightL_cons, Bool.and_eq_true] at hrb
        simp only [textL, List.cons_append, List.nil_append, List.append_assoc, List.cons.injEq, true_and] at h
        obtain ⟨h1, h2⟩ := ih x (hx x (by simp)) y _ _ hra.1 hrb.1 (stop_textL us r) (stop_textL bs q) h
        obtain ⟨h3, h4⟩ := ih2 bs r q (fun z hz => hx z (by simp [hz])) hra.2 hrb.2 h2
        exact ⟨by rw [cmpL, if_pos h1]; exact h3, h4⟩
  cases xs with
  | nil =>
    cases ys with
    | nil =>
      simp only [text] at h
      obtain ⟨h1, h2⟩ := name_split gs gt (stop_gd hr) (stop_gd hq) h
      exact ⟨by rw [cmp, if_pos h1]; simp only [cmpL], h2⟩
    | cons y ys =>
      simp only [text, List.append_assoc] at h
      obtain ⟨_, h2⟩ := name_split gs gt (stop_gd hr) (by intro c hc; simp at hc; rw [← hc]; exact gd91) h
      exact absurd rfl (hr 91 (by rw [h2]; rfl)).2
  | cons x xs =>
    cases ys with
    | nil =>
      simp only [text, List.append_assoc] at h
      obtain ⟨_, h2⟩ := name_split gs gt (by intro c hc; simp at hc; rw [← hc]; exact gd91) (stop_gd hq) h
      exact absurd rfl (hq 91 (by rw [← h2]; rfl)).2
    | cons y ys =>
      simp only [text, List.append_assoc] at h
      obtain ⟨h1, h2⟩ := name_split gs gt (by intro c hc; simp at hc; rw [← hc]; exact gd91) (by intro c hc; simp at hc; rw [← hc]; exact gd91) h
      simp only [List.cons_append, List.nil_append, List.cons.injEq, true_and] at h2
      rw [rightL_cons, Bool.and_eq_true] at ha hb
      obtain ⟨h3, h4⟩ := ih x (by simp) y _ _ ha.2.1 hb.2.1 (stop_textL xs r) (stop_textL ys q) h2
      obtain ⟨h5, h6⟩ := hL xs ys r q (fun z hz => by simp [hz]) ha.2.2 hb.2.2 h4
      exact ⟨by rw [cmp, if_pos h1, cmpL, if_pos h3]; exact h5, h6⟩

/-- The same type: the same text. -/
theorem cmp_text : ∀ a b : Ty, cmp a b = 0 → a.text = b.text := by
  refine ind fun s xs o ih b h => ?_
  obtain ⟨t, ys, p⟩ := b
  rw [cmp] at h
  by_cases hs : s.data.toList = t.data.toList
  · rw [if_pos hs] at h
    have hL : ∀ (us bs : List Ty), (∀ x ∈ us, x ∈ xs) → cmpL us bs = 0 → textL us = textL bs ∧ (us = [] ↔ bs = []) := by
      intro us
      induction us with
      | nil =>
        intro bs _ h
        cases bs with
        | nil => exact ⟨rfl, Iff.rfl⟩
        | cons y bs => simp [cmpL] at h
      | cons x us ih2 =>
        intro bs hx h
        cases bs with
        | nil => simp [cmpL] at h
        | cons y bs =>
          rw [cmpL] at h
          by_cases hxy : cmp x y = 0
          · rw [if_pos hxy] at h
            have h1 := ih x (hx x (by simp)) y hxy
            have h2 := (ih2 bs (fun z hz => hx z (by simp [hz])) h).1
            exact ⟨by simp only [textL, h1, h2], by simp⟩
          · rw [if_neg hxy] at h
            exact absurd h hxy
    cases xs with
    | nil =>
      obtain ⟨_, h2⟩ := hL [] ys (fun _ h => h) h
      obtain rfl := h2.1 rfl
      simp only [text, hs]
    | cons x xs =>
      cases ys with
      | nil => simp [cmpL] at h
      | cons y ys =>
        rw [cmpL] at h
        by_cases hxy : cmp x y = 0
        · rw [if_pos hxy] at h
          have h1 := ih x (by simp) y hxy
          have h2 := (hL xs ys (fun z hz => by simp [hz]) h).1
          simp only [text, hs, h1, h2]
        · rw [if_neg hxy] at h
          exact absurd h hxy
  · rw [if_neg hs] at h
    exact absurd ((Nm.cmp_zero _ _).1 h) hs

theorem text_iff {a b : Ty} (ha : a.right = true) (hb : b.right = true) : (a.text == b.text) = (cmp a b == 0) := by
  rw [Bool.eq_iff_iff, beq_iff_eq, beq_iff_eq]
  constructor
  · intro h
    exact (text_inj a b [] [] ha hb (fun c hc => by cases hc) (fun c hc => by cases hc) (by rw [h])).1
  · exact cmp_text a b

/-! ### each name for itself -/
theorem pick_self (s : ByteArray) : ∀ (ns : List ByteArray), (∃ n ∈ ns, n.data.toList = s.data.toList) → ∃ n, n.data.toList = s.data.toList ∧ pick s ns (ns.map fun n => mk n [] 77) = some (mk n [] 77)
  | [], h => by obtain ⟨n, hn, _⟩ := h; cases hn
  | n :: ns, h => by
    by_cases he : n.data.toList = s.data.toList
    · exact ⟨n, he, by simp only [List.map_cons, pick, if_pos he, List.head?_cons]⟩
    · obtain ⟨m, hm, hm2⟩ := h
      rcases List.mem_cons.1 hm with rfl | hm
      · exact absurd hm2 he
      · obtain ⟨q, h1, h2⟩ := pick_self s ns ⟨m, hm, hm2⟩
        exact ⟨q, h1, by simp only [List.map_cons, pick, if_neg he, List.tail_cons]; exact h2⟩
theorem subst_self (ns : List ByteArray) : ∀ t : Ty, (∀ s ∈ t.list, s ∈ ns) → eqv (subst ns (ns.map fun n => mk n [] 77) t) t = true := by
  refine ind fun s xs o ih h => ?_
  cases xs with
  | nil =>
    obtain ⟨n, h1, h2⟩ := pick_self s ns ⟨s, h s (by simp [list]), rfl⟩
    rw [subst, h2]
    simp only [eqv, eqvL, h1]
    simp
  | cons x xs =>
    have hL : ∀ ys : List Ty, (∀ y ∈ ys, y ∈ x :: xs) → eqvL (substL ns (ns.map fun n => mk n [] 77) ys) ys = true := by
      intro ys
      induction ys with
      | nil => intro _; simp only [substL, eqvL]
      | cons y r ih2 =>
        intro hy
        have hl : ∀ s ∈ y.list, s ∈ ns := fun u hu => by
          refine h u ?_
          have hm := hy y (by simp)
          have : ∀ zs : List Ty, y ∈ zs → u ∈ listL zs := by
            intro zs
            induction zs with
            | nil => intro h; cases h
            | cons z zs ih3 =>
              intro hz
              simp only [listL, List.mem_append]
              rcases List.mem_cons.1 hz with rfl | hz
              · exact .inl hu
              · exact .inr (ih3 hz)
          simp only [list, List.mem_cons]
          exact .inr (this _ hm)
        simp only [substL, eqvL]
        rw [ih y (hy y (by simp)) hl, ih2 (fun z hz => hy z (by simp [hz]))]
        rfl
    rw [substL_eq _ _ _ _ _ (by simp)]
    simp only [eqv, BEq.rfl, Bool.true_and]
    exact hL _ (fun _ h => h)
end Go.Proofs.YtkdlidakdknhjaaDoor.Ty
namespace Go.Proofs.YtkdlidakdknhjaaDoor
open Go.RowKit

mutual
/-- A type at the i-th place of a slice whose elements begin at A; all its blocks are in S; under N each slice begins a block that may be written. -/
def TyCells (w : World) (N : Prop) (S : Nat → Prop) (A : Option Addr) (i : Nat) : Ty → Prop
  | .mk s xs o => ∃ a B c, A = some a ∧ S a.block ∧ (N → a.off = 0 ∧ a.spot = none ∧ ∀ k, w.frozen? ⟨a.block, k, none⟩ = false) ∧ w.cell? (a.add (i * 3)) = some (.string s)
      ∧ w.cell? ⟨(a.add (i * 3)).block, (a.add (i * 3)).off + 1, none⟩ = some (.slice B xs.length c) ∧ w.cell? ⟨(a.add (i * 3)).block, (a.add (i * 3)).off + 2, none⟩ = some (.int .i64 o)
      ∧ s.size ≤ 9223372036854775807 ∧ xs.length ≤ 9223372036854775807 ∧ ArgsIn w N S B 0 xs
/-- Types from the i-th place on. -/
def ArgsIn (w : World) (N : Prop) (S : Nat → Prop) (A : Option Addr) (i : Nat) : List Ty → Prop
  | [] => True
  | t :: r => TyCells w N S A i t ∧ ArgsIn w N S A (i + 1) r
end

/-- A slice of types. -/
structure LiesN (w : World) (N : Prop) (S : Nat → Prop) (A : Option Addr) (n : Nat) (xs : List Ty) : Prop where
  len : xs.length = n
  le : n ≤ 9223372036854775807
  args : ArgsIn w N S A 0 xs
abbrev Lies (w : World) (S : Nat → Prop) (A : Option Addr) (n : Nat) (xs : List Ty) : Prop := LiesN w False S A n xs

theorem ArgsIn.at {w : World} {N : Prop} {S : Nat → Prop} {A : Option Addr} : ∀ {xs : List Ty} {i k : Nat} {t : Ty}, ArgsIn w N S A i xs → xs[k]? = some t → TyCells w N S A (i + k) t
  | x :: r, i, 0, t, h, ht => by
    obtain rfl : x = t := by simpa using ht
    rw [ArgsIn] at h
    exact h.1
  | x :: r, i, k + 1, t, h, ht => by
    rw [ArgsIn] at h
    have := ArgsIn.at h.2 (k := k) (by simpa using ht)
    rwa [show i + (k + 1) = i + 1 + k by omega]
theorem ArgsIn.of {w : World} {N : Prop} {S : Nat → Prop} {A : Option Addr} : ∀ {xs : List Ty} {i : Nat}, (∀ k t, xs[k]? = some t → TyCells w N S A (i + k) t) → ArgsIn w N S A i xs
  | [], _, _ => by rw [ArgsIn]; trivial
  | x :: r, i, h => by
    rw [ArgsIn]
    refine ⟨h 0 x rfl, ArgsIn.of fun k t ht => ?_⟩
    have := h (k + 1) t (by simpa using ht)
    rwa [show i + 1 + k = i + (k + 1) by omega]

/-- The k-th type of a slice, with what N gives. -/
theorem LiesN.get {w : World} {N : Prop} {S : Nat → Prop} {A : Option Addr} {n : Nat} {xs : List Ty} (h : LiesN w N S A n xs) {k : Nat} (hk : k < n) :
    ∃ a s ys o B m c, A = some a ∧ xs[k]? = some (.mk s ys o) ∧ S a.block ∧ (N → a.off = 0 ∧ a.spot = none ∧ ∀ k, w.frozen? ⟨a.block, k, none⟩ = false) ∧ w.cell? (a.add (k * 3)) = some (.string s)
      ∧ w.cell? ⟨(a.add (k * 3)).block, (a.add (k * 3)).off + 1, none⟩ = some (.slice B m c) ∧ w.cell? ⟨(a.add (k * 3)).block, (a.add (k * 3)).off + 2, none⟩ = some (.int .i64 o)
      ∧ s.size ≤ 9223372036854775807 ∧ LiesN w N S B m ys := by
  have hl : k < xs.length := by rw [h.len]; exact hk
  have ht := h.args.at (List.getElem?_eq_getElem hl)
  rw [Nat.zero_add] at ht
  cases e : xs[k] with
  | mk s ys o =>
    rw [e, TyCells] at ht
    obtain ⟨a, B, c, h1, h2, h3, h4, h5, h6, h7, h8, h9⟩ := ht
    exact ⟨a, s, ys, o, B, _, c, h1, by rw [List.getElem?_eq_getElem hl, e], h2, h3, h4, h5, h6, h7, rfl, h8, h9⟩
/-- The k-th type of a slice. -/
theorem Lies.get {w : World} {S : Nat → Prop} {A : Option Addr} {n : Nat} {xs : List Ty} (h : Lies w S A n xs) {k : Nat} (hk : k < n) :
    ∃ a s ys o B m c, A = some a ∧ xs[k]? = some (.mk s ys o) ∧ S a.block ∧ w.cell? (a.add (k * 3)) = some (.string s)
      ∧ w.cell? ⟨(a.add (k * 3)).block, (a.add (k * 3)).off + 1, none⟩ = some (.slice B m c) ∧ w.cell? ⟨(a.add (k * 3)).block, (a.add (k * 3)).off + 2, none⟩ = some (.int .i64 o)
      ∧ s.size ≤ 9223372036854775807 ∧ Lies w S B m ys := by
  obtain ⟨a, s, ys, o, B, m, c, h1, h2, h3, _, h4⟩ := LiesN.get h hk
  exact ⟨a, s, ys, o, B, m, c, h1, h2, h3, h4⟩

/-- What lies in these blocks is as it was. -/
def Same (w w' : World) (S : Nat → Prop) : Prop := ∀ p : Addr, S p.block → w'.cell? p = w.cell? p ∧ w'.frozen? p = w.frozen? p

theorem ArgsIn.keep {w w' : World} {N N' : Prop} {S S' : Nat → Prop} (hN : N' → N) (hk : Same w w' S) (hS : ∀ b, S b → S' b) : ∀ (xs : List Ty) (A : Option Addr) (i : Nat), ArgsIn w N S A i xs → ArgsIn w' N' S' A i xs := by
  refine Ty.indL (fun A i _ => by rw [ArgsIn]; trivial) fun s ys o r ih1 ih2 A i h => ?_
  rw [ArgsIn, TyCells] at h ⊢
  obtain ⟨⟨a, B, c, e, hl, hn, c0, c1, c2, b1, b2, ha⟩, hr⟩ := h
  have hb : S (a.add (i * 3)).block := by rw [block_of_add]; exact hl
  refine ⟨⟨a, B, c, e, hS _ hl, fun h => ?_, ?_, ?_, ?_, b1, b2, ih1 B 0 ha⟩, ih2 A (i + 1) hr⟩
  · obtain ⟨h1, h2, h3⟩ := hn (hN h)
    exact ⟨h1, h2, fun k => (hk ⟨a.block, k, none⟩ hl).2.trans (h3 k)⟩
  · rw [(hk _ hb).1]; exact c0
  · rw [(hk ⟨(a.add (i * 3)).block, _, none⟩ hb).1]; exact c1
  · rw [(hk ⟨(a.add (i * 3)).block, _, none⟩ hb).1]; exact c2

theorem LiesN.keep {w w' : World} {N : Prop} {S S' : Nat → Prop} {A : Option Addr} {n : Nat} {xs : List Ty} (h : LiesN w N S A n xs) (hk : Same w w' S) (hS : ∀ b, S b → S' b) : LiesN w' N S' A n xs :=
  ⟨h.len, h.le, ArgsIn.keep id hk hS xs A 0 h.args⟩
theorem LiesN.lies {w : World} {N : Prop} {S : Nat → Prop} {A : Option Addr} {n : Nat} {xs : List Ty} (h : LiesN w N S A n xs) : Lies w S A n xs :=
  ⟨h.len, h.le, ArgsIn.keep False.elim (fun _ _ => ⟨rfl, rfl⟩) (fun _ h => h) xs A 0 h.args⟩
theorem LiesN.wide {w : World} {N : Prop} {S S' : Nat → Prop} {A : Option Addr} {n : Nat} {xs : List Ty} (h : LiesN w N S A n xs) (hS : ∀ b, S b → S' b) : LiesN w N S' A n xs :=
  h.keep (fun _ _ => ⟨rfl, rfl⟩) hS
theorem LiesN.later {w w' : World} {N : Prop} {S : Nat → Prop} {b : Nat} {A : Option Addr} {n : Nat} {xs : List Ty} (h : LiesN w N S A n xs) (hb : Below b w w') (hh : ∀ k, S k → k < b) : LiesN w' N S A n xs :=
  h.keep (fun _ h2 => ⟨hb.cell (hh _ h2), hb.frozen (hh _ h2)⟩) (fun _ h => h)
theorem LiesN.nil (w : World) (N : Prop) (S : Nat → Prop) (A : Option Addr) : LiesN w N S A 0 [] := ⟨rfl, by omega, by rw [ArgsIn]; trivial⟩
theorem Lies.nil (w : World) (S : Nat → Prop) (A : Option Addr) : Lies w S A 0 [] := LiesN.nil _ _ _ _
theorem LiesN.alloc {w : World} {N : Prop} {S : Nat → Prop} {A : Option Addr} {n : Nat} {xs : List Ty} (h : LiesN w N S A n xs) (hh : ∀ k, S k → k < w.heap.size) (o : Obj) : LiesN (w.alloc o) N S A n xs :=
  h.later (b := w.heap.size) ((Below.refl _ _).alloc (Nat.le_refl _) _) hh
theorem LiesN.setCell {w : World} {N : Prop} {S : Nat → Prop} {A : Option Addr} {n : Nat} {xs : List Ty} (h : LiesN w N S A n xs) (p : Addr) (u : Value) (hne : ¬ S p.block) : LiesN (w.setCell p u) N S A n xs :=
  h.keep (fun q h1 => ⟨World.cell?_setCell_other _ _ _ _ (by rintro rfl; exact hne h1), World.frozen?_setCell _ _ _ _⟩) (fun _ h => h)
theorem frozen_of_row {w : World} {g : Nat} {cs : Array Value} {T : TypeId} (h : w.heap[g]? = some (.cells cs T (0, 0))) (k : Nat) : w.frozen? ⟨g, k, none⟩ = false := by
  simp [World.frozen?, h]
/-- As the argument of a call in a world: its blocks lie there. -/
abbrev Here (w : World) (A : Option Addr) (n : Nat) (xs : List Ty) : Prop := Lies w (· < w.heap.size) A n xs
theorem Here.later {w w' : World} {A : Option Addr} {n : Nat} {xs : List Ty} (h : Here w A n xs) (hb : Below w.heap.size w w') : Here w' A n xs :=
  (LiesN.later h hb (fun _ h => h)).wide (fun _ h => Nat.lt_of_lt_of_le h hb.size)
/-- The blocks that were made between two worlds. -/
def Fresh (w w' : World) (b : Nat) : Prop := w.heap.size ≤ b ∧ b < w'.heap.size
theorem Lies.here {w w' : World} {A : Option Addr} {n : Nat} {xs : List Ty} (h : Lies w' (Fresh w w') A n xs) : Here w' A n xs := h.wide fun _ h => h.2

/-- A boxed type. -/
def Box (w : World) (b : Nat) (s : ByteArray) (A : Option Addr) (n c : Nat) (o : Int) : Prop :=
  w.cell? ⟨b, 0, none⟩ = some (.string s) ∧ w.cell? ⟨b, 1, none⟩ = some (.slice A n c) ∧ w.cell? ⟨b, 2, none⟩ = some (.int .i64 o)
theorem Box.new (w : World) (s : ByteArray) (A : Option Addr) (n c : Nat) (o : Int) (T : TypeId) : Box (w.alloc (.cells #[.string s, .slice A n c, .int .i64 o] T)) w.heap.size s A n c o := by
  refine ⟨?_, ?_, ?_⟩ <;> (rw [World.cell?_alloc_at _ _ _ _ rfl]; rfl)
theorem Box.later {w w' : World} {b s A n c o} (h : Box w b s A n c o) (hb : Below w.heap.size w w') : Box w' b s A n c o :=
  ⟨(hb.cell (cell_lt h.1)).trans h.1, (hb.cell (cell_lt h.2.1)).trans h.2.1, (hb.cell (cell_lt h.2.2)).trans h.2.2⟩
theorem Box.laterB {w w' : World} {b s A n c o} {B : Nat} (h : Box w b s A n c o) (hb : Below B w w') (hB : b < B) : Box w' b s A n c o :=
  ⟨(hb.cell hB).trans h.1, (hb.cell (p := ⟨b, 1, none⟩) hB).trans h.2.1, (hb.cell (p := ⟨b, 2, none⟩) hB).trans h.2.2⟩
end Go.Proofs.YtkdlidakdknhjaaDoor
namespace Go.Proofs.YtkdlidakdknhjaaDoor
open Go.RowKit

/-- These cells are these types, one after the other. -/
def RowsOf (w : World) (N : Prop) (S : Nat → Prop) : List Value → List Ty → Prop
  | cs, [] => cs = []
  | cs, t :: r => ∃ A c rest, cs = .string t.name :: .slice A t.args.length c :: .int .i64 t.off :: rest ∧ t.name.size ≤ 9223372036854775807 ∧ LiesN w N S A t.args.length t.args ∧ RowsOf w N S rest r

theorem RowsOf.len {w : World} {N : Prop} {S : Nat → Prop} : ∀ {ts : List Ty} {cs : List Value}, RowsOf w N S cs ts → cs.length = ts.length * 3
  | [], cs, h => by
    obtain rfl : cs = [] := h
    rfl
  | t :: r, cs, h => by
    obtain ⟨A, c, rest, rfl, _, _, hr⟩ := h
    have := RowsOf.len hr
    simp only [List.length_cons]
    omega
theorem RowsOf.keep {w w' : World} {N : Prop} {S S' : Nat → Prop} (hk : Same w w' S) (hS : ∀ b, S b → S' b) : ∀ {ts : List Ty} {cs : List Value}, RowsOf w N S cs ts → RowsOf w' N S' cs ts
  | [], cs, h => h
  | t :: r, cs, h => by
    obtain ⟨A, c, rest, rfl, hn, hl, hr⟩ := h
    exact ⟨A, c, rest, rfl, hn, hl.keep hk hS, RowsOf.keep hk hS hr⟩
theorem RowsOf.snoc {w : World} {N : Prop} {S : Nat → Prop} {t : Ty} {A : Option Addr} {m c : Nat} (hn : t.name.size ≤ 9223372036854775807) (hl : LiesN w N S A m t.args) :
    ∀ {ts : List Ty} {cs : List Value}, RowsOf w N S cs ts → RowsOf w N S (cs ++ [.string t.name, .slice A m c, .int .i64 t.off]) (ts ++ [t])
  | [], cs, h => by
    obtain rfl : cs = [] := h
    have e := hl.len
    subst e
    exact ⟨A, c, [], rfl, hn, hl, rfl⟩
  | x :: r, cs, h => by
    obtain ⟨B, d, rest, rfl, hn2, hl2, hr⟩ := h
    exact ⟨B, d, _, rfl, hn2, hl2, RowsOf.snoc hn hl hr⟩
theorem RowsOf.at {w : World} {N : Prop} {S : Nat → Prop} : ∀ {ts : List Ty} {cs : List Value} {j : Nat} {t : Ty}, RowsOf w N S cs ts → ts[j]? = some t →
    ∃ A c, cs[j * 3]? = some (.string t.name) ∧ cs[j * 3 + 1]? = some (.slice A t.args.length c) ∧ cs[j * 3 + 2]? = some (.int .i64 t.off) ∧ t.name.size ≤ 9223372036854775807 ∧ LiesN w N S A t.args.length t.args
  | x :: r, cs, 0, t, h, ht => by
    obtain rfl : x = t := by simpa using ht
    obtain ⟨A, c, rest, rfl, hn, hl, _⟩ := h
    exact ⟨A, c, rfl, rfl, rfl, hn, hl⟩
  | x :: r, cs, j + 1, t, h, ht => by
    obtain ⟨A, c, rest, rfl, hn, hl, hr⟩ := h
    obtain ⟨B, d, h1, h2, h3, h4⟩ := RowsOf.at hr (j := j) (by simpa using ht)
    refine ⟨B, d, ?_, ?_, ?_, h4⟩
    · rw [show (j + 1) * 3 = j * 3 + 3 by omega]; exact h1
    · rw [show (j + 1) * 3 + 1 = j * 3 + 1 + 3 by omega]; exact h2
    · rw [show (j + 1) * 3 + 2 = j * 3 + 2 + 3 by omega]; exact h3

/-- What the call has built is a slice of these types. -/
theorem lies_of_own {w : World} {N : Prop} {base n : Nat} {e : TypeId} {v : Value} {cs : List Value} {ts : List Ty} {S S' : Nat → Prop} (h : w.ownsRow base e 3 v n cs) (hr : RowsOf w N S cs ts) (hS : ∀ b, S b → S' b)
    (hv : ∀ g, v.ownBlock = some g → S' g) (hn : n ≤ 9223372036854775807) : ∃ A c, v = .slice A n c ∧ LiesN w N S' A n ts := by
  have hlen : ts.length = n := by
    have h1 := hr.len
    have h2 := h.1
    omega
  rcases h.2 with ⟨rfl, rfl⟩ | ⟨g, cap, cur, rfl, hb, hg, hnc, hc, hs, ht⟩
  · obtain rfl := List.eq_nil_of_length_eq_zero hlen
    exact ⟨none, 0, rfl, LiesN.nil _ _ _ _⟩
  · refine ⟨some ⟨g, 0, none⟩, cap, rfl, hlen, hn, ArgsIn.of fun k t hk => ?_⟩
    obtain ⟨B, d, c0, c1, c2, hsz, hl⟩ := hr.at hk
    have hcell : ∀ i u, cs[i]? = some u → w.cell? ⟨g, i, none⟩ = some u := fun i u hu => by
      have h2 := h.cells (g := g) rfl i u hu
      rwa [show (⟨g, 0, none⟩ : Addr).add i = ⟨g, i, none⟩ by unfold Addr.add; split <;> simp_all] at h2
    have ha : (⟨g, 0, none⟩ : Addr).add (k * 3) = ⟨g, k * 3, none⟩ := by unfold Addr.add; split <;> simp_all
    cases t with
    | mk s ys o =>
      rw [Nat.zero_add, TyCells]
      refine ⟨⟨g, 0, none⟩, B, d, rfl, hv g rfl, fun _ => ⟨rfl, rfl, frozen_of_row hg⟩, ?_, ?_, ?_, hsz, hl.le, hl.wide hS |>.args⟩
      · rw [ha]; exact hcell _ _ c0
      · rw [ha]; exact hcell _ _ c1
      · rw [ha]; exact hcell _ _ c2

/-- A row of types that is being built, in blocks from lo on. -/
def RowRelN (V : World) (N : Prop) (lo : Nat) (v : Value) (k : Nat) (ts : List Ty) : Prop :=
  ∃ cs S, V.ownsRow lo 26 3 v k cs ∧ RowsOf V N S cs ts ∧ ∀ b, S b → lo ≤ b ∧ b < V.heap.size ∧ v.ownBlock ≠ some b
abbrev RowRel (V : World) (lo : Nat) (v : Value) (k : Nat) (ts : List Ty) : Prop := RowRelN V False lo v k ts
theorem RowRelN.nil (V : World) (N : Prop) (lo : Nat) : RowRelN V N lo (.slice none 0 0) 0 [] := ⟨[], fun _ => False, World.ownsRow_nil _ _ _ _, rfl, fun _ h => h.elim⟩
theorem RowRel.nil (V : World) (lo : Nat) : RowRel V lo (.slice none 0 0) 0 [] := ⟨[], fun _ => False, World.ownsRow_nil _ _ _ _, rfl, fun _ h => h.elim⟩
/-- One more type: made by a call (wr to w1), laid in a new block, appended (to w2). -/
theorem row_step {N : Prop} {lo : Nat} {wr w1 w2 : World} {k : Nat} {ts : List Ty} {v : Value} {cs : List Value} {S : Nat → Prop} {t : Ty} {A1 : Option Addr} {m1 cc1 gg cap : Nat} (hlo : lo ≤ wr.heap.size)
    (hown : wr.ownsRow lo 26 3 v k cs) (hrows : RowsOf wr N S cs ts) (hS : ∀ b, S b → lo ≤ b ∧ b < wr.heap.size ∧ v.ownBlock ≠ some b)
    (hb1 : Below wr.heap.size wr w1) (hns : t.name.size ≤ 9223372036854775807) (hl1 : LiesN w1 N (Fresh wr w1) A1 m1 t.args)
    (hown2 : w2.ownsRow lo 26 3 (.slice (some ⟨gg, 0, none⟩) (k + 1) cap) (k + 1) (cs ++ [.string t.name, .slice A1 m1 cc1, .int .i64 t.off]))
    (hgrow : (w1.alloc (.cells #[.string t.name, .slice A1 m1 cc1, .int .i64 t.off] 26)).grownBy w2 v.ownBlock) (hat : v.ownBlock = some gg ∨ gg = w1.heap.size + 1) :
    RowRelN w2 N lo (.slice (some ⟨gg, 0, none⟩) (k + 1) cap) (k + 1) (ts ++ [t]) := by
  have s1 := hb1.size
  have s2 : w1.heap.size + 1 ≤ w2.heap.size := by have := hgrow.size; simpa using this
  have ol : ∀ k, v.ownBlock = some k → k < wr.heap.size := fun k hk => (hown.lt k hk).2
  have far : ∀ p : Addr, p.block < w1.heap.size → v.ownBlock ≠ some p.block → w2.cell? p = w1.cell? p ∧ w2.frozen? p = w1.frozen? p := fun p h1 h2 => by
    rw [hgrow.cell_far p (by simp; omega) (fun h => h2 h.symm), hgrow.frozen_far p (by simp; omega) (fun h => h2 h.symm)]
    exact ⟨((Below.refl w1.heap.size w1).alloc (Nat.le_refl _) _).cell h1, ((Below.refl w1.heap.size w1).alloc (Nat.le_refl _) _).frozen h1⟩
  refine ⟨_, fun b => S b ∨ Fresh wr w1 b, hown2, ?_, ?_⟩
  · refine RowsOf.snoc hns (hl1.keep (fun p hp => ?_) (fun b hb => .inr hb)) (hrows.keep (fun p hp => ?_) (fun b hb => .inl hb))
    · have h1 : wr.heap.size ≤ p.block := hp.1
      exact far p hp.2 (fun h => by have := ol _ h; omega)
    · obtain ⟨h1, h2, h3⟩ := hS _ hp
      obtain ⟨e1, e2⟩ := far p (by omega) h3
      exact ⟨e1.trans (hb1.cell h2), e2.trans (hb1.frozen h2)⟩
  · intro b hb
    rcases hb with hb | hb
    · obtain ⟨h1, h2, h3⟩ := hS _ hb
      refine ⟨h1, by omega, fun h => ?_⟩
      simp only [Value.ownBlock, Option.some.injEq] at h
      rcases hat with h4 | h4
      · exact h3 (by rw [h4, h])
      · omega
    · have h1 : wr.heap.size ≤ b := hb.1
      have h2 : b < w1.heap.size := hb.2
      refine ⟨by omega, by omega, fun h => ?_⟩
      simp only [Value.ownBlock, Option.some.injEq] at h
      rcases hat with h4 | h4
      · have := ol _ h4; omega
      · omega
/-- The row as a slice of types that the call has made. -/
theorem RowRelN.lies {w V : World} {N : Prop} {v : Value} {k : Nat} {ts : List Ty} (h : RowRelN V N w.heap.size v k ts) (hk : k ≤ 9223372036854775807) : ∃ A c, v = .slice A k c ∧ LiesN V N (Fresh w V) A k ts := by
  obtain ⟨cs, S, h1, h2, h3⟩ := h
  exact lies_of_own h1 h2 (fun b hb => ⟨(h3 b hb).1, (h3 b hb).2.1⟩) (fun g hg => ⟨own_base h1 g hg, (h1.lt g hg).2⟩) hk
theorem RowRel.lies {w V : World} {v : Value} {k : Nat} {ts : List Ty} (h : RowRel V w.heap.size v k ts) (hk : k ≤ 9223372036854775807) : ∃ A c, v = .slice A k c ∧ Lies V (Fresh w V) A k ts := RowRelN.lies h hk
end Go.Proofs.YtkdlidakdknhjaaDoor
