/- Types as trees, in plain words; their laws. No program, no condition. -/
import Derived.Test.YtaaemebghkobkaaDoorPu
namespace Go.Proofs.YtaaemebghkobkaaDoor

/-- A type: its name, its arguments, its offset. -/
inductive Ty where
  | mk (name : ByteArray) (args : List Ty) (off : Int)

namespace Ty
def name : Ty → ByteArray | mk s _ _ => s
def args : Ty → List Ty | mk _ xs _ => xs
def off : Ty → Int | mk _ _ o => o
/-- The name's bytes. -/
def nm (t : Ty) : List UInt8 := t.name.data.toList

theorem ind {P : Ty → Prop} (h : ∀ s xs o, (∀ t ∈ xs, P t) → P (mk s xs o)) : ∀ t, P t
  | mk s xs o => h s xs o fun t _ => ind h t
theorem indL {P : List Ty → Prop} (h0 : P []) (h1 : ∀ s xs o r, P xs → P r → P (mk s xs o :: r)) : ∀ l, P l
  | [] => h0
  | mk s xs o :: r => h1 s xs o r (indL h0 h1 xs) (indL h0 h1 r)

mutual
/-- The order. -/
def cmp : Ty → Ty → Int
  | mk s xs _, mk t bs _ => if s.data.toList = t.data.toList then cmpL xs bs else Lib.compareBytes s.data.toList t.data.toList
def cmpL : List Ty → List Ty → Int
  | [], [] => 0
  | [], _ :: _ => -1
  | _ :: _, [] => 1
  | a :: xs, b :: bs => if cmp a b = 0 then cmpL xs bs else cmp a b
end
mutual
/-- The same, with the offsets. -/
def eqv : Ty → Ty → Bool
  | mk s xs o, mk t bs p => (s.data.toList == t.data.toList) && (o == p) && eqvL xs bs
def eqvL : List Ty → List Ty → Bool
  | [], [] => true
  | a :: xs, b :: bs => eqv a b && eqvL xs bs
  | _, _ => false
end
mutual
def text : Ty → List UInt8
  | mk s [] _ => s.data.toList
  | mk s (a :: xs) _ => s.data.toList ++ [91] ++ text a ++ textL xs ++ [93]
/-- The further arguments, each behind a comma and a space. -/
def textL : List Ty → List UInt8
  | [] => []
  | a :: xs => [44, 32] ++ text a ++ textL xs
end
mutual
/-- The names, from left to right. -/
def list : Ty → List ByteArray
  | mk s xs _ => s :: listL xs
def listL : List Ty → List ByteArray
  | [] => []
  | a :: xs => list a ++ listL xs
end
mutual
def depth : Ty → Nat
  | mk _ xs _ => max 1 (depthL xs)
/-- One more than the greatest depth, 0 if there is none. -/
def depthL : List Ty → Nat
  | [] => 0
  | a :: xs => max (depth a + 1) (depthL xs)
end
mutual
/-- The number of parts, where long names count more; it stops soon behind 2000. -/
def cnt : Ty → Int → Int
  | mk s xs _, n => cntL xs (n + 1 + s.size / 50)
def cntL : List Ty → Int → Int
  | [], n => n
  | a :: xs, n => if n ≤ 2000 then cntL xs (cnt a n) else n
end
def right (t : Ty) : Bool := t.list.all fun s => Nm.isB s.data.toList
/-- What stands for a name: the type of the first such name; none if the name is not there or has no type. -/
def pick (s : ByteArray) : List ByteArray → List Ty → Option Ty
  | [], _ => none
  | n :: ns, xs => if n.data.toList = s.data.toList then xs.head? else pick s ns xs.tail
mutual
def subst (ns : List ByteArray) (us : List Ty) : Ty → Ty
  | mk s [] o => match pick s ns us with
    | some (mk t bs _) => mk t bs o
    | none => mk s [] o
  | mk s (a :: xs) o => mk s (subst ns us a :: substL ns us xs) o
def substL (ns : List ByteArray) (us : List Ty) : List Ty → List Ty
  | [] => []
  | a :: xs => subst ns us a :: substL ns us xs
end
theorem substL_map (ns : List ByteArray) (us : List Ty) : ∀ l, substL ns us l = l.map (subst ns us)
  | [] => by simp only [substL, List.map_nil]
  | a :: l => by simp only [substL, List.map_cons, substL_map ns us l]
theorem substL_eq (ns : List ByteArray) (us : List Ty) (s : ByteArray) (xs : List Ty) (o : Int) (h : xs ≠ []) : subst ns us (mk s xs o) = mk s (substL ns us xs) o := by
  cases xs with
  | nil => exact absurd rfl h
  | cons a xs => simp only [subst, substL]

/-! ### the order is one -/
theorem cmp_neg : ∀ a b : Ty, cmp b a = -cmp a b := by
  refine ind fun s xs o ih b => ?_
  obtain ⟨t, bs, p⟩ := b
  simp only [cmp]
  by_cases h : s.data.toList = t.data.toList
  · rw [if_pos h, if_pos h.symm]
    clear h
    induction xs generalizing bs with
    | nil => cases bs <;> simp [cmpL]
    | cons a xs ih2 =>
      cases bs with
      | nil => simp [cmpL]
      | cons c bs =>
        have h1 := ih a (by simp) c
        have h2 := ih2 (fun t ht => ih t (by simp [ht])) bs
        simp only [cmpL, h1, h2]
        by_cases h : cmp a c = 0 <;> simp [h]
  · rw [if_neg h, if_neg (fun e => h e.symm), Nm.cmp_neg]

theorem cmp_zero : ∀ a b : Ty, cmp a b = 0 → ∀ c, cmp a c = cmp b c := by
  refine ind fun s xs o ih b h c => ?_
  obtain ⟨t, bs, p⟩ := b
  obtain ⟨u, cs, q⟩ := c
  simp only [cmp] at h ⊢
  by_cases hs : s.data.toList = t.data.toList
  · rw [if_pos hs] at h
    rw [hs]
    split
    · clear hs
      induction xs generalizing bs cs with
      | nil =>
        cases bs with
        | nil => rfl
        | cons => simp [cmpL] at h
      | cons a xs ih2 =>
        cases bs with
        | nil => simp [cmpL] at h
        | cons b bs =>
          simp only [cmpL] at h
          by_cases hab : cmp a b = 0
          · rw [if_pos hab] at h
            cases cs with
            | nil => simp [cmpL]
            | cons c cs =>
              simp only [cmpL]
              rw [ih a (by simp) b hab c, ih2 (fun t ht => ih t (by simp [ht])) bs h cs]
          · rw [if_neg hab] at h
            exact absurd h hab
    · rfl
  · rw [if_neg hs] at h
    exact absurd ((Nm.cmp_zero _ _).1 h) hs

theorem cmp_cases : ∀ a b : Ty, cmp a b = -1 ∨ cmp a b = 0 ∨ cmp a b = 1 := by
  refine ind fun s xs o ih b => ?_
  obtain ⟨t, bs, p⟩ := b
  simp only [cmp]
  split
  · clear o p
    induction xs generalizing bs with
    | nil => cases bs <;> simp [cmpL]
    | cons a xs ih2 =>
      cases bs with
      | nil => simp [cmpL]
      | cons c bs =>
        simp only [cmpL]
        split
        · exact ih2 (fun t ht => ih t (by simp [ht])) bs
        · exact ih a (by simp) c
  · exact Nm.cmp_cases _ _

theorem cmp_trans : ∀ a b c : Ty, cmp a b ≤ 0 → cmp b c ≤ 0 → cmp a c ≤ 0 := by
  refine ind fun s xs o ih b c h1 h2 => ?_
  obtain ⟨t, bs, p⟩ := b
  obtain ⟨u, cs, q⟩ := c
  simp only [cmp] at h1 h2 ⊢
  by_cases hst : s.data.toList = t.data.toList
  · rw [if_pos hst] at h1
    rw [hst]
    by_cases htu : t.data.toList = u.data.toList
    · rw [if_pos htu] at h2 ⊢
      clear hst htu
      induction xs generalizing bs cs with
      | nil => cases cs <;> simp [cmpL]
      | cons a xs ih2 =>
        cases bs with
        | nil => simp [cmpL] at h1
        | cons b bs =>
          cases cs with
          | nil => simp [cmpL] at h2
          | cons c cs =>
            simp only [cmpL] at h1 h2 ⊢
            by_cases hab : cmp a b = 0
            · rw [if_pos hab] at h1
              rw [cmp_zero a b hab c]
              by_cases hbc : cmp b c = 0
              · rw [if_pos hbc] at h2 ⊢
                exact ih2 (fun t ht => ih t (by simp [ht])) bs h1 cs h2
              · rw [if_neg hbc] at h2 ⊢
                exact h2
            · rw [if_neg hab] at h1
              by_cases hbc : cmp b c = 0
              · have e : cmp a c = cmp a b := by
                  have e1 := cmp_zero b c hbc a
                  rw [cmp_neg b a, cmp_neg c a, e1]
                rw [e, if_neg hab]
                exact h1
              · rw [if_neg hbc] at h2
                have hac := ih a (by simp) b c h1 h2
                by_cases hac0 : cmp a c = 0
                · exfalso
                  have e1 := cmp_zero a c hac0 b
                  have e2 := cmp_neg b c
                  rw [← e1] at e2
                  rcases cmp_cases a b with h | h | h <;> rcases cmp_cases b c with h' | h' | h' <;> omega
                · rw [if_neg hac0]
                  exact hac
    · rw [if_neg htu] at h2 ⊢
      exact h2
  · rw [if_neg hst] at h1
    by_cases htu : t.data.toList = u.data.toList
    · rw [← htu, if_neg hst]
      exact h1
    · rw [if_neg htu] at h2
      have h3 := Nm.cmp_trans _ _ _ h1 h2
      by_cases hsu : s.data.toList = u.data.toList
      · exfalso
        rw [← hsu] at h2
        have h4 := Nm.cmp_neg s.data.toList t.data.toList
        have h5 : Lib.compareBytes s.data.toList t.data.toList = 0 := by omega
        exact hst ((Nm.cmp_zero _ _).1 h5)
      · rw [if_neg hsu]
        exact h3
end Ty
end Go.Proofs.YtaaemebghkobkaaDoor
namespace Go.Proofs.YtaaemebghkobkaaDoor.Ty

/-! ### sizes -/
mutual
/-- The number of parts, long names counted more; never stopped. -/
def wt : Ty → Nat
  | mk s xs _ => 1 + s.size / 50 + wtL xs
def wtL : List Ty → Nat
  | [] => 0
  | a :: r => wt a + wtL r
end
theorem cnt_ge : ∀ (t : Ty) (n : Int), 0 ≤ n → n ≤ cnt t n := by
  refine ind fun s xs o ih n h0 => ?_
  rw [cnt]
  have h1 : 0 ≤ (s.size : Int) / 50 := by omega
  have hL : ∀ (ys : List Ty) (q : Int), (∀ y ∈ ys, y ∈ xs) → 0 ≤ q → q ≤ cntL ys q := by
    intro ys
    induction ys with
    | nil => intro q _ _; simp only [cntL]; omega
    | cons y r ih2 =>
      intro q hy hq
      rw [cntL]
      split
      · have h2 := ih y (hy y (by simp)) q hq
        have h3 := ih2 (cnt y q) (fun z hz => hy z (by simp [hz])) (by omega)
        omega
      · omega
  have := hL xs (n + 1 + s.size / 50) (fun _ h => h) (by omega)
  omega
theorem cntL_ge : ∀ (xs : List Ty) (n : Int), 0 ≤ n → n ≤ cntL xs n
  | [], n, _ => by simp only [cntL]; omega
  | x :: r, n, h => by
    rw [cntL]
    split
    · have h2 := cnt_ge x n h
      have h3 := cntL_ge r (cnt x n) (by omega)
      omega
    · omega
theorem cntL_wt : ∀ (xs : List Ty) (n : Int), (∀ t ∈ xs, ∀ n : Int, 0 ≤ n → cnt t n ≤ 2000 → cnt t n = n + wt t) → 0 ≤ n → cntL xs n ≤ 2000 → cntL xs n = n + wtL xs
  | [], n, _, _, _ => by simp only [cntL, wtL]; omega
  | x :: r, n, hx, h, h2 => by
    rw [cntL] at h2 ⊢
    split at h2
    · rename_i h3
      rw [if_pos h3]
      have h4 := cnt_ge x n h
      have h5 := cntL_ge r (cnt x n) (by omega)
      have h6 := hx x (by simp) n h (by omega)
      have h7 := cntL_wt r (cnt x n) (fun t ht => hx t (by simp [ht])) (by omega) h2
      rw [wtL, h7, h6]
      omega
    · omega
theorem cnt_wt : ∀ (t : Ty) (n : Int), 0 ≤ n → cnt t n ≤ 2000 → cnt t n = n + wt t := by
  refine ind fun s xs o ih n h0 h => ?_
  rw [cnt] at h ⊢
  have h1 : 0 ≤ (s.size : Int) / 50 := by omega
  rw [cntL_wt xs _ ih (by omega) h, wt]
  omega

/-- Nothing about the type is large. -/
structure Small (t : Ty) : Prop where
  list : t.list.length ≤ 1000
  names : ∀ s ∈ t.list, s.size ≤ 100000
  text : t.text.length ≤ 1000000
  depth : t.depth ≤ 1000

theorem list_wt : ∀ t : Ty, t.list.length ≤ wt t := by
  refine ind fun s xs o ih => ?_
  have hL : ∀ ys : List Ty, (∀ y ∈ ys, y ∈ xs) → (listL ys).length ≤ wtL ys := by
    intro ys
    induction ys with
    | nil => intro _; simp only [listL, wtL, List.length_nil]; omega
    | cons y r ih2 =>
      intro hy
      have h1 := ih y (hy y (by simp))
      have h2 := ih2 (fun z hz => hy z (by simp [hz]))
      simp only [listL, wtL, List.length_append]
      omega
  have := hL xs (fun _ h => h)
  simp only [list, wt, List.length_cons]
  omega
theorem names_wt : ∀ t : Ty, ∀ s ∈ t.list, s.size / 50 ≤ wt t := by
  refine ind fun s xs o ih u hu => ?_
  have hL : ∀ ys : List Ty, (∀ y ∈ ys, y ∈ xs) → ∀ u ∈ listL ys, u.size / 50 ≤ wtL ys := by
    intro ys
    induction ys with
    | nil => intro _ u hu; simp only [listL] at hu; cases hu
    | cons y r ih2 =>
      intro hy u hu
      simp only [listL, List.mem_append] at hu
      simp only [wtL]
      rcases hu with hu | hu
      · have := ih y (hy y (by simp)) u hu; omega
      · have := ih2 (fun z hz => hy z (by simp [hz])) u hu; omega
  simp only [list, List.mem_cons] at hu
  simp only [wt]
  rcases hu with rfl | hu
  · omega
  · have := hL xs (fun _ h => h) u hu; omega
theorem depth_wt : ∀ t : Ty, t.depth ≤ wt t := by
  refine ind fun s xs o ih => ?_
  have hL : ∀ ys : List Ty, (∀ y ∈ ys, y ∈ xs) → depthL ys ≤ 1 + wtL ys := by
    intro ys
    induction ys with
    | nil => intro _; simp only [depthL]; omega
    | cons y r ih2 =>
      intro hy
      have h1 := ih y (hy y (by simp))
      have h2 := ih2 (fun z hz => hy z (by simp [hz]))
      simp only [depthL, wtL]
      omega
  have := hL xs (fun _ h => h)
  simp only [depth, wt]
  omega
theorem text_wt : ∀ t : Ty, t.text.length + 4 ≤ 60 * wt t := by
  refine ind fun s xs o ih => ?_
  have hL : ∀ ys : List Ty, (∀ y ∈ ys, y ∈ xs) → (textL ys).length ≤ 60 * wtL ys := by
    intro ys
    induction ys with
    | nil => intro _; simp [textL]
    | cons y r ih2 =>
      intro hy
      have h1 := ih y (hy y (by simp))
      have h2 := ih2 (fun z hz => hy z (by simp [hz]))
      simp only [textL, wtL, List.length_append, List.length_cons, List.length_nil]
      omega
  have hs := Lib.size_eq s
  cases xs with
  | nil =>
    simp only [text, wt, wtL]
    omega
  | cons a r =>
    have h1 := ih a (by simp)
    have h2 := hL r (fun y hy => by simp [hy])
    simp only [text, wt, wtL, List.length_append, List.length_cons, List.length_nil]
    omega

theorem small_of_wt {t : Ty} (h : wt t ≤ 1000) : t.Small where
  list := by have := list_wt t; omega
  names s hs := by have := names_wt t s hs; omega
  text := by have := text_wt t; omega
  depth := by have := depth_wt t; omega
theorem wt_of_cnt {t : Ty} (h : t.cnt 0 ≤ 200) : wt t ≤ 200 := by
  have := cnt_wt t 0 (by omega) (by omega)
  omega
theorem wtL_of_cnt {xs : List Ty} (h : cntL xs 0 ≤ 200) : wtL xs ≤ 200 := by
  have := cntL_wt xs 0 (fun t _ n h1 h2 => cnt_wt t n h1 h2) (by omega) (by omega)
  omega
theorem wtL_mem : ∀ {xs : List Ty} {x : Ty}, x ∈ xs → wt x ≤ wtL xs
  | y :: r, x, h => by
    simp only [wtL]
    rcases List.mem_cons.1 h with rfl | h
    · omega
    · have := wtL_mem h; omega
theorem wtL_len : ∀ xs : List Ty, xs.length ≤ wtL xs
  | [] => Nat.zero_le _
  | .mk s ys o :: r => by
    have := wtL_len r
    simp only [List.length_cons, wtL, wt]
    omega

/-! ### equality with offsets -/
theorem eqv_refl : ∀ t : Ty, eqv t t = true := by
  refine ind fun s xs o ih => ?_
  have hL : ∀ ys : List Ty, (∀ y ∈ ys, y ∈ xs) → eqvL ys ys = true := by
    intro ys
    induction ys with
    | nil => intro _; simp only [eqvL]
    | cons y r ih2 =>
      intro hy
      rw [eqvL, ih y (hy y (by simp)), ih2 (fun z hz => hy z (by simp [hz]))]
      rfl
  rw [eqv, hL xs (fun _ h => h)]
  simp

/-! ### the text of a right type -/
/-- No byte of a name begins the rest. -/
def Stop (r : List UInt8) : Prop := ∀ c, r.head? = some c → Nm.goodB c.toNat = false ∧ c ≠ 91
def gd (c : UInt8) : Bool := Nm.goodB c.toNat
theorem takeWhile_name {s r : List UInt8} (hs : s.all gd = true) (hr : ∀ c, r.head? = some c → gd c = false) : (s ++ r).takeWhile gd = s := by
  induction s with
  | nil =>
    cases r with
    | nil => rfl
    | cons c r => simp [hr c rfl]
  | cons c s ih =>
    simp only [List.all_cons, Bool.and_eq_true] at hs
    simp only [List.cons_append, List.takeWhile_cons, hs.1, if_true, ih hs.2]
theorem name_split {s t r q : List UInt8} (hs : s.all gd = true) (ht : t.all gd = true) (hr : ∀ c, r.head? = some c → gd c = false) (hq : ∀ c, q.head? = some c → gd c = false) (h : s ++ r = t ++ q) : s = t ∧ r = q := by
  have h1 := takeWhile_name hs hr
  have h2 := takeWhile_name ht hq
  rw [h, h2] at h1
  subst h1
  exact ⟨rfl, List.append_cancel_left h⟩
theorem isB_good {l : List UInt8} (h : Nm.isB l = true) : l.all gd = true := by
  cases l with
  | nil => cases h
  | cons c r =>
    simp only [Nm.isB, Bool.and_eq_true] at h
    exact h.1.2
theorem gd44 : gd 44 = false := by decide
theorem gd93 : gd 93 = false := by decide
theorem gd91 : gd 91 = false := by decide
theorem stop_gd {r : List UInt8} (h : Stop r) : ∀ c, r.head? = some c → gd c = false := fun c hc => (h c hc).1
theorem stop_textL (xs : List Ty) (r : List UInt8) : Stop (textL xs ++ 93 :: r) := by
  intro c hc
  cases xs with
  | nil =>
    simp only [textL, List.nil_append, List.head?_cons, Option.some.injEq] at hc
    subst hc; exact ⟨gd93, by decide⟩
  | cons x xs =>
    simp only [textL, List.cons_append, List.head?_cons, Option.some.injEq] at hc
    subst hc; exact ⟨gd44, by decide⟩

theorem right_mk (s : ByteArray) (xs : List Ty) (o : Int) : right (mk s xs o) = (Nm.isB s.data.toList && (listL xs).all fun s => Nm.isB s.data.toList) := by
  rw [right, list, List.all_cons]
theorem rightL_cons (x : Ty) (xs : List Ty) : ((listL (x :: xs)).all fun s => Nm.isB s.data.toList) = (right x && (listL xs).all fun s => Nm.isB s.data.toList) := by
  rw [listL, List.all_append, right]

/-- The same text: the same type. -/
theorem text_inj : ∀ (a b : Ty) (r q : List UInt8), a.right = true → b.right = true → Stop r → Stop q → a.text ++ r = b.text ++ q → cmp a b = 0 ∧ r = q := by
  refine ind fun s xs o ih b r q ha hb hr hq h => ?_
  obtain ⟨t, ys, p⟩ := b
  rw [right_mk, Bool.and_eq_true] at ha hb
  have gs := isB_good ha.1
  have gt := isB_good hb.1
  have hL : ∀ (us bs : List Ty) (r q : List UInt8), (∀ x ∈ us, x ∈ xs) → ((listL us).all fun s => Nm.isB s.data.toList) = true → ((listL bs).all fun s => Nm.isB s.data.toList) = true →
      textL us ++ 93 :: r = textL bs ++ 93 :: q → cmpL us bs = 0 ∧ r = q := by
    intro us
    induction us with
    | nil =>
      intro bs r q _ _ _ h
      cases bs with
      | nil =>
        simp only [textL, List.nil_append, List.cons.injEq, true_and] at h
        exact ⟨by simp only [cmpL], h⟩
      | cons y bs =>
        simp only [textL, List.nil_append, List.cons_append, List.cons.injEq] at h
        exact absurd h.1 (by decide)
    | cons x us ih2 =>
      intro bs r q hx hra hrb h
      rw [rightL_cons, Bool.and_eq_true] at hra
      cases bs with
      | nil =>
        simp only [textL, List.nil_append, List.cons_append, List.cons.injEq] at h
        exact absurd h.1 (by decide)
      | cons y bs =>
        rw [rightL_cons, Bool.and_eq_true] at hrb
        simp only [textL, List.cons_append, List.nil_append, List.append_assoc, List.cons.injEq, true_and] at h
        obtain ⟨h1, h2⟩ := ih x (hx x (by simp)) y _ _ hra.1 hrb.1 (stop_textL us r) (stop_textL bs q) h
        obtain ⟨h3, h4⟩ := ih2 bs r q (fun z hz => hx z (by simp [hz])) hra.2 hrb.2 h2
        exact ⟨by rw [cmpL, if_pos h1]; exact h3, h4⟩
  cases xs with
  | nil =>
    cases ys with
    | nil =>
      simp only [text] at h
      obtain ⟨h1, h2⟩ := name_split gs gt (stop_gd hr) (stop_gd hq) h
      exact ⟨by rw [cmp, if_pos h1]; simp only [cmpL], h2⟩
    | cons y ys =>
      simp only [text, List.append_assoc] at h
      obtain ⟨_, h2⟩ := name_split gs gt (stop_gd hr) (by intro c hc; simp at hc; rw [← hc]; exact gd91) h
      exact absurd rfl (hr 91 (by rw [h2]; rfl)).2
  | cons x xs =>
    cases ys with
    | nil =>
      simp only [text, List.append_assoc] at h
      obtain ⟨_, h2⟩ := name_split gs gt (by intro c hc; simp at hc; rw [← hc]; exact gd91) (stop_gd hq) h
      exact absurd rfl (hq 91 (by rw [← h2]; rfl)).2
    | cons y ys =>
      simp only [text, List.append_assoc] at h
      obtain ⟨h1, h2⟩ := name_split gs gt (by intro c hc; simp at hc; rw [← hc]; exact gd91) (by intro c hc; simp at hc; rw [← hc]; exact gd91) h
      simp only [List.cons_append, List.nil_append, List.cons.injEq, true_and] at h2
      rw [rightL_cons, Bool.and_eq_true] at ha hb
      obtain ⟨h3, h4⟩ := ih x (by simp) y _ _ ha.2.1 hb.2.1 (stop_textL xs r) (stop_textL ys q) h2
      obtain ⟨h5, h6⟩ := hL xs ys r q (fun z hz => by simp [hz]) ha.2.2 hb.2.2 h4
      exact ⟨by rw [cmp, if_pos h1, cmpL, if_pos h3]; exact h5, h6⟩

/-- The same type: the same text. -/
theorem cmp_text : ∀ a b : Ty, cmp a b = 0 → a.text = b.text := by
  refine ind fun s xs o ih b h => ?_
  obtain ⟨t, ys, p⟩ := b
  rw [cmp] at h
  by_cases hs : s.data.toList = t.data.toList
  · rw [if_pos hs] at h
    have hL : ∀ (us bs : List Ty), (∀ x ∈ us, x ∈ xs) → cmpL us bs = 0 → textL us = textL bs ∧ (us = [] ↔ bs = []) := by
      intro us
      induction us with
      | nil =>
        intro bs _ h
        cases bs with
        | nil => exact ⟨rfl, Iff.rfl⟩
        | cons y bs => simp [cmpL] at h
      | cons x us ih2 =>
        intro bs hx h
        cases bs with
        | nil => simp [cmpL] at h
        | cons y bs =>
          rw [cmpL] at h
          by_cases hxy : cmp x y = 0
          · rw [if_pos hxy] at h
            have h1 := ih x (hx x (by simp)) y hxy
            have h2 := (ih2 bs (fun z hz => hx z (by simp [hz])) h).1
            exact ⟨by simp only [textL, h1, h2], by simp⟩
          · rw [if_neg hxy] at h
            exact absurd h hxy
    cases xs with
    | nil =>
      obtain ⟨_, h2⟩ := hL [] ys (fun _ h => h) h
      obtain rfl := h2.1 rfl
      simp only [text, hs]
    | cons x xs =>
      cases ys with
      | nil => simp [cmpL] at h
      | cons y ys =>
        rw [cmpL] at h
        by_cases hxy : cmp x y = 0
        · rw [if_pos hxy] at h
          have h1 := ih x (by simp) y hxy
          have h2 := (hL xs ys (fun z hz => by simp [hz]) h).1
          simp only [text, hs, h1, h2]
        · rw [if_neg hxy] at h
          exact absurd h hxy
  · rw [if_neg hs] at h
    exact absurd ((Nm.cmp_zero _ _).1 h) hs

theorem text_iff {a b : Ty} (ha : a.right = true) (hb : b.right = true) : (a.text == b.text) = (cmp a b == 0) := by
  rw [Bool.eq_iff_iff, beq_iff_eq, beq_iff_eq]
  constructor
  · intro h
    exact (text_inj a b [] [] ha hb (fun c hc => by cases hc) (fun c hc => by cases hc) (by rw [h])).1
  · exact cmp_text a b

/-! ### each name for itself -/
theorem pick_self (s : ByteArray) : ∀ (ns : List ByteArray), (∃ n ∈ ns, n.data.toList = s.data.toList) → ∃ n, n.data.toList = s.data.toList ∧ pick s ns (ns.map fun n => mk n [] 77) = some (mk n [] 77)
  | [], h => by obtain ⟨n, hn, _⟩ := h; cases hn
  | n :: ns, h => by
    by_cases he : n.data.toList = s.data.toList
    · exact ⟨n, he, by simp only [List.map_cons, pick, if_pos he, List.head?_cons]⟩
    · obtain ⟨m, hm, hm2⟩ := h
      rcases List.mem_cons.1 hm with rfl | hm
      · exact absurd hm2 he
      · obtain ⟨q, h1, h2⟩ := pick_self s ns ⟨m, hm, hm2⟩
        exact ⟨q, h1, by simp only [List.map_cons, pick, if_neg he, List.tail_cons]; exact h2⟩
theorem subst_self (ns : List ByteArray) : ∀ t : Ty, (∀ s ∈ t.list, s ∈ ns) → eqv (subst ns (ns.map fun n => mk n [] 77) t) t = true := by
  refine ind fun s xs o ih h => ?_
  cases xs with
  | nil =>
    obtain ⟨n, h1, h2⟩ := pick_self s ns ⟨s, h s (by simp [list]), rfl⟩
    rw [subst, h2]
    simp only [eqv, eqvL, h1]
    simp
  | cons x xs =>
    have hL : ∀ ys : List Ty, (∀ y ∈ ys, y ∈ x :: xs) → eqvL (substL ns (ns.map fun n => mk n [] 77) ys) ys = true := by
      intro ys
      induction ys with
      | nil => intro _; simp only [substL, eqvL]
      | cons y r ih2 =>
        intro hy
        have hl : ∀ s ∈ y.list, s ∈ ns := fun u hu => by
          refine h u ?_
          have hm := hy y (by simp)
          have : ∀ zs : List Ty, y ∈ zs → u ∈ listL zs := by
            intro zs
            induction zs with
            | nil => intro h; cases h
            | cons z zs ih3 =>
              intro hz
              simp only [listL, List.mem_append]
              rcases List.mem_cons.1 hz with rfl | hz
              · exact .inl hu
              · exact .inr (ih3 hz)
          simp only [list, List.mem_cons]
          exact .inr (this _ hm)
        simp only [substL, eqvL]
        rw [ih y (hy y (by simp)) hl, ih2 (fun z hz => hy z (by simp [hz]))]
        rfl
    rw [substL_eq _ _ _ _ _ (by simp)]
    simp only [eqv, BEq.rfl, Bool.true_and]
    exact hL _ (fun _ h => h)
end Go.Proofs.YtaaemebghkobkaaDoor.Ty
