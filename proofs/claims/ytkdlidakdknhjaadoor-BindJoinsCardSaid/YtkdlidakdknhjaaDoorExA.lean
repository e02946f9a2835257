/- Expressions as trees: sameness, text, depth, substitution, replacing, in plain words. No program, no condition. -/
import Derived.Test.YtkdlidakdknhjaaDoorTyB
namespace Go.Proofs.YtkdlidakdknhjaaDoor

/-- An expression: its kind, name, type, type arguments, kids, offset. -/
inductive Ex where
  | mk (kind : Int) (name : ByteArray) (ty : Ty) (targs : List Ty) (kids : List Ex) (off : Int)

namespace Ex
def kind : Ex → Int | mk k _ _ _ _ _ => k
def name : Ex → ByteArray | mk _ s _ _ _ _ => s
def ty : Ex → Ty | mk _ _ t _ _ _ => t
def targs : Ex → List Ty | mk _ _ _ ts _ _ => ts
def kids : Ex → List Ex | mk _ _ _ _ xs _ => xs
def off : Ex → Int | mk _ _ _ _ _ o => o

theorem ind {P : Ex → Prop} (h : ∀ k s t ts xs o, (∀ e ∈ xs, P e) → P (mk k s t ts xs o)) : ∀ e, P e
  | mk k s t ts xs o => h k s t ts xs o fun e _ => ind h e
theorem indL {P : List Ex → Prop} (h0 : P []) (h1 : ∀ k s t ts xs o r, P xs → P r → P (mk k s t ts xs o :: r)) : ∀ l, P l
  | [] => h0
  | mk k s t ts xs o :: r => h1 k s t ts xs o r (indL h0 h1 xs) (indL h0 h1 r)

/-- Lists of types, compared without and with the offsets. -/
def sameT : List Ty → List Ty → Bool
  | [], [] => true
  | a :: xs, b :: ys => (Ty.cmp a b == 0) && sameT xs ys
  | _, _ => false
mutual
def same : Ex → Ex → Bool
  | mk k s t ts xs _, mk l r u us ys _ => (k == l) && (s.data.toList == r.data.toList) && (Ty.cmp t u == 0) && sameT ts us && sameL xs ys
def sameL : List Ex → List Ex → Bool
  | [], [] => true
  | a :: xs, b :: ys => same a b && sameL xs ys
  | _, _ => false
end
mutual
/-- The same, with the offsets. -/
def eqv : Ex → Ex → Bool
  | mk k s t ts xs o, mk l r u us ys p => (o == p) && (k == l) && (s.data.toList == r.data.toList) && Ty.eqv t u && Ty.eqvL ts us && eqvL xs ys
def eqvL : List Ex → List Ex → Bool
  | [], [] => true
  | a :: xs, b :: ys => eqv a b && eqvL xs ys
  | _, _ => false
end
/-- Does the kind bear a type. -/
def typed (k : Int) : Bool := k == 3 || k == 5
/-- What is asked of an expression besides its kids. -/
def fit (k : Int) (s : ByteArray) (t : Ty) (ts : List Ty) (n : Nat) : Bool :=
  (ts.all fun u => k == 2 && u.right) && (typed k == t.right) && (typed k || (t.name.size == 0 && t.args.length == 0)) && (if typed k then s.size == 0 else Nm.isB s.data.toList)
    && (if k = 1 then n == 0 else if k = 2 then decide (1 ≤ n) else if k = 3 then true else if k = 4 ∨ k = 5 then n == 1 else false)
mutual
def right : Ex → Bool
  | mk k s t ts xs _ => rightL xs && fit k s t ts xs.length
def rightL : List Ex → Bool
  | [] => true
  | a :: xs => right a && rightL xs
end
/-- The type arguments' text: nothing, or in brackets. -/
def targText (ts : List Ty) : List UInt8 := Ty.text (.mk ⟨#[]⟩ ts 0)
/-- What stands behind the first kid's text, ahead of the further kids. -/
def tailA (k : Int) (s : ByteArray) (t : Ty) (ts : List Ty) : List UInt8 :=
  if k = 5 then [46] ++ s.data.toList ++ [40] ++ t.text ++ [41] else if k = 4 then [46] ++ s.data.toList else [46] ++ s.data.toList ++ targText ts ++ [40]
mutual
def text : Ex → List UInt8
  | mk k s t _ [] _ => if k = 1 then s.data.toList else t.text ++ [123] ++ [125]
  | mk k s t ts (a :: r) _ => if k = 1 then s.data.toList else if k = 3 then t.text ++ [123] ++ text a ++ textM r ++ [125]
    else if k = 5 ∨ k = 4 then text a ++ tailA k s t ts else text a ++ tailA k s t ts ++ textC r ++ [41]
/-- Further ones, each behind a comma and a space. -/
def textM : List Ex → List UInt8
  | [] => []
  | a :: xs => [44, 32] ++ text a ++ textM xs
/-- A list with commas between. -/
def textC : List Ex → List UInt8
  | [] => []
  | a :: xs => text a ++ textM xs
end
mutual
def depth : Ex → Nat
  | mk k _ t ts xs _ => max (if typed k then 1 + t.depth else 1) (max (Ty.depthL ts) (depthL xs))
/-- One more than the greatest depth, 0 if there is none. -/
def depthL : List Ex → Nat
  | [] => 0
  | a :: xs => max (depth a + 1) (depthL xs)
end
mutual
def value : Ex → Bool
  | mk k _ _ _ xs _ => valueL xs && k == 3
def valueL : List Ex → Bool
  | [] => true
  | a :: xs => value a && valueL xs
end
mutual
def subst (ns : List ByteArray) (us : List Ty) : Ex → Ex
  | mk k s t ts xs o => mk k s (Ty.subst ns us t) (ts.map (Ty.subst ns us)) (substL ns us xs) o
def substL (ns : List ByteArray) (us : List Ty) : List Ex → List Ex
  | [] => []
  | a :: xs => subst ns us a :: substL ns us xs
end
theorem substL_map (ns : List ByteArray) (us : List Ty) : ∀ l, substL ns us l = l.map (subst ns us)
  | [] => by simp only [substL, List.map_nil]
  | a :: l => by simp only [substL, List.map_cons, substL_map ns us l]
/-- What stands for a name: the first such name counts. -/
def pick (s : ByteArray) : List ByteArray → List Ex → Option Ex
  | [], _ => none
  | n :: ns, xs => if n.data.toList = s.data.toList then xs.head? else pick s ns xs.tail
mutual
def repl (ns : List ByteArray) (es : List Ex) : Ex → Ex
  | mk k s t ts xs o => match (if k = 1 then pick s ns es else none) with
    | some e => e
    | none => mk k s t ts (replL ns es xs) o
def replL (ns : List ByteArray) (es : List Ex) : List Ex → List Ex
  | [] => []
  | a :: xs => repl ns es a :: replL ns es xs
end
theorem replL_map (ns : List ByteArray) (es : List Ex) : ∀ l, replL ns es l = l.map (repl ns es)
  | [] => by simp only [replL, List.map_nil]
  | a :: l => by simp only [replL, List.map_cons, replL_map ns es l]
mutual
/-- The expression and its kids, from left to right. -/
def list : Ex → List Ex
  | mk k s t ts xs o => mk k s t ts xs o :: listL xs
def listL : List Ex → List Ex
  | [] => []
  | a :: xs => list a ++ listL xs
end
mutual
/-- The number of parts, where long names count more; it stops soon behind 2000. -/
def cnt : Ex → Int → Int
  | mk _ s t ts xs _, n => cntL xs (Ty.cntL ts (Ty.cnt t (n + s.size / 50)))
def cntL : List Ex → Int → Int
  | [], n => n
  | a :: xs, n => if n ≤ 2000 then cntL xs (cnt a n) else n
end
mutual
/-- The number of parts, long names counted more; never stopped. -/
def wt : Ex → Nat
  | mk _ s t ts xs _ => s.size / 50 + Ty.wt t + Ty.wtL ts + wtL xs
def wtL : List Ex → Nat
  | [] => 0
  | a :: r => wt a + wtL r
end

/-! ### lists -/
theorem rightL_all : ∀ xs : List Ex, rightL xs = xs.all right
  | [] => by simp only [rightL, List.all_nil]
  | a :: xs => by rw [rightL, rightL_all xs, List.all_cons]
theorem valueL_all : ∀ xs : List Ex, valueL xs = xs.all value
  | [] => by simp only [valueL, List.all_nil]
  | a :: xs => by rw [valueL, valueL_all xs, List.all_cons]
theorem sameL_len : ∀ {xs ys : List Ex}, xs.length ≠ ys.length → sameL xs ys = false
  | [], [], h => absurd rfl h
  | [], _ :: _, _ => by simp only [sameL]
  | _ :: _, [], _ => by simp only [sameL]
  | a :: xs, b :: ys, h => by rw [sameL, sameL_len (fun e => h (by simp [e])), Bool.and_false]
theorem eqvL_len : ∀ {xs ys : List Ex}, xs.length ≠ ys.length → eqvL xs ys = false
  | [], [], h => absurd rfl h
  | [], _ :: _, _ => by simp only [eqvL]
  | _ :: _, [], _ => by simp only [eqvL]
  | a :: xs, b :: ys, h => by rw [eqvL, eqvL_len (fun e => h (by simp [e])), Bool.and_false]
theorem sameT_len : ∀ {xs ys : List Ty}, xs.length ≠ ys.length → sameT xs ys = false
  | [], [], h => absurd rfl h
  | [], _ :: _, _ => by simp only [sameT]
  | _ :: _, [], _ => by simp only [sameT]
  | a :: xs, b :: ys, h => by rw [sameT, sameT_len (fun e => h (by simp [e])), Bool.and_false]
theorem drop_at {α : Type} {xs : List α} {k : Nat} {x : α} (hx : xs[k]? = some x) : xs.drop k = x :: xs.drop (k + 1) := by
  obtain ⟨h, e⟩ := List.getElem?_eq_some_iff.1 hx
  rw [List.drop_eq_getElem_cons h, e]
theorem sameL_on {xs ys : List Ex} {k : Nat} {x y : Ex} (hx : xs[k]? = some x) (hy : ys[k]? = some y) : sameL (xs.drop k) (ys.drop k) = (same x y && sameL (xs.drop (k + 1)) (ys.drop (k + 1))) := by
  rw [drop_at hx, drop_at hy, sameL]
theorem eqvL_on {xs ys : List Ex} {k : Nat} {x y : Ex} (hx : xs[k]? = some x) (hy : ys[k]? = some y) : eqvL (xs.drop k) (ys.drop k) = (eqv x y && eqvL (xs.drop (k + 1)) (ys.drop (k + 1))) := by
  rw [drop_at hx, drop_at hy, eqvL]
theorem sameT_on {xs ys : List Ty} {k : Nat} {x y : Ty} (hx : xs[k]? = some x) (hy : ys[k]? = some y) : sameT (xs.drop k) (ys.drop k) = ((Ty.cmp x y == 0) && sameT (xs.drop (k + 1)) (ys.drop (k + 1))) := by
  rw [drop_at hx, drop_at hy, sameT]
theorem all_on {α : Type} {p : α → Bool} {xs : List α} {k : Nat} {x : α} (hx : xs[k]? = some x) : (xs.drop k).all p = (p x && (xs.drop (k + 1)).all p) := by
  rw [drop_at hx, List.all_cons]
theorem take_at {α : Type} {xs : List α} {k : Nat} {x : α} (hx : xs[k]? = some x) : xs.take (k + 1) = xs.take k ++ [x] := by rw [List.take_add_one, hx]; rfl
theorem cntL_on {xs : List Ex} {k : Nat} {x : Ex} {n : Int} (hx : xs[k]? = some x) (hn : n ≤ 2000) : cntL (xs.drop k) n = cntL (xs.drop (k + 1)) (cnt x n) := by
  rw [drop_at hx, cntL, if_pos hn]
theorem cntL_off {xs : List Ex} {k : Nat} {n : Int} (hn : ¬ n ≤ 2000) : cntL (xs.drop k) n = n := by
  cases xs.drop k with
  | nil => simp only [cntL]
  | cons a r => rw [cntL, if_neg hn]
theorem cntL_end {xs : List Ex} {k : Nat} {n : Int} (hk : xs.length ≤ k) : cntL (xs.drop k) n = n := by rw [List.drop_eq_nil_of_le hk]; simp only [cntL]
theorem listL_snoc : ∀ (r : List Ex) (x : Ex), listL (r ++ [x]) = listL r ++ x.list
  | [], x => by simp only [listL, List.nil_append, List.append_nil]
  | a :: r, x => by rw [List.cons_append, listL, listL, listL_snoc r x, List.append_assoc]
theorem listL_step {xs : List Ex} {k : Nat} {x : Ex} (hx : xs[k]? = some x) : listL (xs.take (k + 1)) = listL (xs.take k) ++ x.list := by rw [take_at hx, listL_snoc]
theorem listL_le : ∀ (r q : List Ex), (listL r).length ≤ (listL (r ++ q)).length
  | [], q => by simp [listL]
  | a :: r, q => by
    have := listL_le r q
    rw [List.cons_append, listL, listL, List.length_append, List.length_append]
    omega
theorem listL_take (xs : List Ex) (k : Nat) : (listL (xs.take k)).length ≤ (listL xs).length := by
  have := listL_le (xs.take k) (xs.drop k)
  rwa [List.take_append_drop] at this
theorem depthL_snoc : ∀ (r : List Ex) (x : Ex), depthL (r ++ [x]) = max (depthL r) (x.depth + 1)
  | [], x => by simp only [depthL, List.nil_append]; omega
  | a :: r, x => by simp only [List.cons_append, depthL, depthL_snoc r x]; omega
theorem depthL_le : ∀ (r q : List Ex), depthL r ≤ depthL (r ++ q)
  | [], q => by simp [depthL]
  | a :: r, q => by
    have := depthL_le r q
    simp only [List.cons_append, depthL]
    omega
theorem depthL_take (xs : List Ex) (k : Nat) : depthL (xs.take k) ≤ depthL xs := by
  have := depthL_le (xs.take k) (xs.drop k)
  rwa [List.take_append_drop] at this
theorem textM_snoc : ∀ (r : List Ex) (x : Ex), textM (r ++ [x]) = textM r ++ [44, 32] ++ x.text
  | [], x => by simp [textM]
  | a :: r, x => by simp [textM, textM_snoc r x]
theorem textC_snoc (r : List Ex) (x : Ex) : textC (r ++ [x]) = textC r ++ (if r.length = 0 then [] else [44, 32]) ++ x.text := by
  cases r with
  | nil => simp [textC, textM]
  | cons a r => simp [textC, textM_snoc]
theorem textC_step {xs : List Ex} {k : Nat} {x : Ex} (hx : xs[k]? = some x) : textC (xs.take (k + 1)) = textC (xs.take k) ++ (if k = 0 then [] else [44, 32]) ++ x.text := by
  have hl := (List.getElem?_eq_some_iff.1 hx).1
  rw [take_at hx, textC_snoc, List.length_take, show min k xs.length = k by omega]

theorem right_kids {k : Int} {s : ByteArray} {t : Ty} {ts : List Ty} {xs : List Ex} {o : Int} (h : right (mk k s t ts xs o) = true) : ∀ x ∈ xs, x.right = true := by
  rw [right, Bool.and_eq_true, rightL_all] at h
  exact fun x hx => List.all_eq_true.1 h.1 x hx
theorem right_kind {k : Int} {s : ByteArray} {t : Ty} {ts : List Ty} {xs : List Ex} {o : Int} (h : right (mk k s t ts xs o) = true) :
    k = 1 ∨ (k = 2 ∧ 1 ≤ xs.length) ∨ k = 3 ∨ (k = 4 ∧ xs.length = 1) ∨ (k = 5 ∧ xs.length = 1) := by
  rw [right, Bool.and_eq_true, fit, Bool.and_eq_true] at h
  have h2 := h.2.2
  by_cases h1 : k = 1
  · exact .inl h1
  · rw [if_neg h1] at h2
    by_cases h3 : k = 2
    · rw [if_pos h3] at h2
      exact .inr (.inl ⟨h3, by simpa using h2⟩)
    · rw [if_neg h3] at h2
      by_cases h4 : k = 3
      · exact .inr (.inr (.inl h4))
      · rw [if_neg h4] at h2
        by_cases h5 : k = 4 ∨ k = 5
        · rw [if_pos h5] at h2
          rcases h5 with h5 | h5
          · exact .inr (.inr (.inr (.inl ⟨h5, by simpa using h2⟩)))
          · exact .inr (.inr (.inr (.inr ⟨h5, by simpa using h2⟩)))
        · rw [if_neg h5] at h2
          cases h2
theorem text_var (s : ByteArray) (t : Ty) (ts : List Ty) (xs : List Ex) (o : Int) : text (mk 1 s t ts xs o) = s.data.toList := by
  cases xs with
  | nil => rw [text, if_pos rfl]
  | cons x r => rw [text, if_pos rfl]
theorem text_lit (s : ByteArray) (t : Ty) (ts : List Ty) (xs : List Ex) (o : Int) : text (mk 3 s t ts xs o) = t.text ++ [123] ++ textC xs ++ [125] := by
  cases xs with
  | nil => rw [text, if_neg (by decide), textC, List.append_nil]
  | cons x r => rw [text, if_neg (by decide), if_pos rfl, textC]; simp only [List.append_assoc]
theorem text_field (s : ByteArray) (t : Ty) (ts : List Ty) (x : Ex) (r : List Ex) (o : Int) : text (mk 4 s t ts (x :: r) o) = x.text ++ [46] ++ s.data.toList := by
  rw [text, if_neg (by decide), if_neg (by decide), if_pos (.inr rfl), tailA, if_neg (by decide), if_pos rfl, List.append_assoc]
theorem text_assert (s : ByteArray) (t : Ty) (ts : List Ty) (x : Ex) (r : List Ex) (o : Int) : text (mk 5 s t ts (x :: r) o) = x.text ++ [46] ++ s.data.toList ++ [40] ++ t.text ++ [41] := by
  rw [text, if_neg (by decide), if_neg (by decide), if_pos (.inl rfl), tailA, if_pos rfl]; simp only [List.append_assoc]
theorem text_call (s : ByteArray) (t : Ty) (ts : List Ty) (x : Ex) (r : List Ex) (o : Int) : text (mk 2 s t ts (x :: r) o) = x.text ++ [46] ++ s.data.toList ++ targText ts ++ [40] ++ textC r ++ [41] := by
  rw [text, if_neg (by decide), if_neg (by decide), if_neg (by decide), tailA, if_neg (by decide), if_neg (by decide)]; simp only [List.append_assoc]
theorem textM_le : ∀ (r q : List Ex), (textM r).length ≤ (textM (r ++ q)).length
  | [], q => by simp [textM]
  | a :: r, q => by
    have := textM_le r q
    simp only [List.cons_append, textM, List.length_append, List.length_cons, List.nil_append]
    omega
theorem textC_take (xs : List Ex) (k : Nat) : (textC (xs.take k)).length ≤ (textC xs).length := by
  conv => rhs; rw [← List.take_append_drop k xs]
  cases xs.take k with
  | nil => simp [textC]
  | cons a r =>
    have := textM_le r (xs.drop k)
    simp only [List.cons_append, textC, List.length_append]
    omega

/-! ### sizes -/
theorem cnt_ge : ∀ (e : Ex) (n : Int), 0 ≤ n → n ≤ cnt e n := by
  refine ind fun k s t ts xs o ih n h0 => ?_
  rw [cnt]
  have h1 : 0 ≤ (s.size : Int) / 50 := by omega
  have hL : ∀ (ys : List Ex) (q : Int), (∀ y ∈ ys, y ∈ xs) → 0 ≤ q → q ≤ cntL ys q := by
    intro ys
    induction ys with
    | nil => intro q _ _; simp only [cntL]; omega
    | cons y r ih2 =>
      intro q hy hq
      rw [cntL]
      split
      · have h2 := ih y (hy y (by simp)) q hq
        have h3 := ih2 (cnt y q) (fun z hz => hy z (by simp [hz])) (by omega)
        omega
      · omega
  have h2 := Ty.cnt_ge t (n + s.size / 50) (by omega)
  have h3 := Ty.cntL_ge ts (Ty.cnt t (n + s.size / 50)) (by omega)
  have := hL xs (Ty.cntL ts (Ty.cnt t (n + s.size / 50))) (fun _ h => h) (by omega)
  omega
theorem cntL_ge : ∀ (xs : List Ex) (n : Int), 0 ≤ n → n ≤ cntL xs n
  | [], n, _ => by simp only [cntL]; omega
  | x :: r, n, h => by
    rw [cntL]
    split
    · have h2 := cnt_ge x n h
      have h3 := cntL_ge r (cnt x n) (by omega)
      omega
    · omega
theorem cntL_wt : ∀ (xs : List Ex) (n : Int), (∀ t ∈ xs, ∀ n : Int, 0 ≤ n → cnt t n ≤ 2000 → cnt t n = n + wt t) → 0 ≤ n → cntL xs n ≤ 2000 → cntL xs n = n + wtL xs
  | [], n, _, _, _ => by simp only [cntL, wtL]; omega
  | x :: r, n, hx, h, h2 => by
    rw [cntL] at h2 ⊢
    split at h2
    · rename_i h3
      rw [if_pos h3]
      have h4 := cnt_ge x n h
      have h5 := cntL_ge r (cnt x n) (by omega)
      have h6 := hx x (by simp) n h (by omega)
      have h7 := cntL_wt r (cnt x n) (fun t ht => hx t (by simp [ht])) (by omega) h2
      rw [wtL, h7, h6]
      omega
    · omega
theorem cnt_wt : ∀ (e : Ex) (n : Int), 0 ≤ n → cnt e n ≤ 2000 → cnt e n = n + wt e := by
  refine ind fun k s t ts xs o ih n h0 h => ?_
  rw [cnt] at h ⊢
  have h1 : 0 ≤ (s.size : Int) / 50 := by omega
  have h2 := Ty.cnt_ge t (n + s.size / 50) (by omega)
  have h3 := Ty.cntL_ge ts (Ty.cnt t (n + s.size / 50)) (by omega)
  have h4 := cntL_ge xs (Ty.cntL ts (Ty.cnt t (n + s.size / 50))) (by omega)
  rw [cntL_wt xs _ ih (by omega) h, Ty.cntL_wt ts _ (fun u _ q h1 h2 => Ty.cnt_wt u q h1 h2) (by omega) (by omega), Ty.cnt_wt t _ (by omega) (by omega), wt]
  omega
theorem wt_of_cnt {e : Ex} (h : e.cnt 0 ≤ 250) : wt e ≤ 250 := by
  have := cnt_wt e 0 (by omega) (by omega)
  omega
theorem wtL_mem : ∀ {xs : List Ex} {x : Ex}, x ∈ xs → wt x ≤ wtL xs
  | y :: r, x, h => by
    simp only [wtL]
    rcases List.mem_cons.1 h with rfl | h
    · omega
    · have := wtL_mem h; omega
theorem wt_pos (e : Ex) : 1 ≤ wt e := by
  obtain ⟨k, s, t, ts, xs, o⟩ := e
  obtain ⟨r, ys, p⟩ := t
  simp only [wt, Ty.wt]; omega
theorem wtL_len : ∀ xs : List Ex, xs.length ≤ wtL xs
  | [] => Nat.zero_le _
  | e :: r => by
    have := wtL_len r
    have := wt_pos e
    simp only [List.length_cons, wtL]
    omega

theorem wt_ty {e : Ex} : Ty.wt e.ty ≤ wt e := by obtain ⟨k, s, t, ts, xs, o⟩ := e; simp only [wt, ty]; omega
theorem wt_targ {e : Ex} {t : Ty} (h : t ∈ e.targs) : Ty.wt t ≤ wt e := by
  obtain ⟨k, s, u, ts, xs, o⟩ := e
  have := Ty.wtL_mem (show t ∈ ts from h)
  simp only [wt]; omega
theorem wt_kid {e x : Ex} (h : x ∈ e.kids) : wt x ≤ wt e := by
  obtain ⟨k, s, u, ts, xs, o⟩ := e
  have := wtL_mem (show x ∈ xs from h)
  simp only [wt]; omega
theorem depthT_wt : ∀ ts : List Ty, Ty.depthL ts ≤ 1 + Ty.wtL ts
  | [] => by simp [Ty.depthL]
  | t :: r => by
    have h1 := depthT_wt r
    have h2 := Ty.depth_wt t
    simp only [Ty.depthL, Ty.wtL]; omega
theorem depth_wt : ∀ e : Ex, e.depth ≤ 1 + wt e := by
  refine ind fun k s t ts xs o ih => ?_
  have hL : ∀ ys : List Ex, (∀ y ∈ ys, y ∈ xs) → depthL ys ≤ 2 + wtL ys := by
    intro ys
    induction ys with
    | nil => intro _; simp only [depthL]; omega
    | cons y r ih2 =>
      intro hy
      have h1 := ih y (hy y (by simp))
      have h2 := ih2 (fun z hz => hy z (by simp [hz]))
      simp only [depthL, wtL]
      omega
  have h0 := hL xs (fun _ h => h)
  have h1 := depthT_wt ts
  have h2 := Ty.depth_wt t
  have h3 : 1 ≤ Ty.wt t := by cases t; simp only [Ty.wt]; omega
  simp only [depth, wt]
  split <;> omega
theorem subst_none : ∀ e : Ex, e.subst [] [] = e := by
  refine ind fun k s t ts xs o ih => ?_
  have hT : ∀ u : Ty, Ty.subst [] [] u = u := by
    refine Ty.ind fun s xs o ih => ?_
    cases xs with
    | nil => simp [Ty.subst, Ty.pick]
    | cons a r => rw [Ty.substL_eq _ _ _ _ _ (by simp), Ty.substL_map, List.map_congr_left (g := id) (fun t ht => ih t ht), List.map_id]
  rw [subst, hT, substL_map, List.map_congr_left (g := id) (fun t ht => ih t ht), List.map_id, List.map_congr_left (g := id) (fun u _ => hT u), List.map_id]
theorem repl_none : ∀ e : Ex, e.repl [] [] = e := by
  refine ind fun k s t ts xs o ih => ?_
  rw [repl, replL_map, List.map_congr_left (g := id) (fun t ht => ih t ht), List.map_id]
  split
  · rename_i h; split at h <;> simp [pick] at h
  · rfl
end Ex
end Go.Proofs.YtkdlidakdknhjaaDoor
