/- The texts of types and expressions are read as themselves: their tokens, and what reading these gives. No program, no condition. -/
import Derived.Test.YtbeejmlmplgaeaaDoorRxP
namespace Go.Proofs.YtbeejmlmplgaeaaDoor.Rd

/-! ### the tokens of a text, piece by piece -/
def NoWord (r : List UInt8) : Prop := ∀ c, r.head? = some c → Lx.good c = false
/-- A text has these tokens whatever stands behind it (c: but a byte of a name). -/
def Lexes (c : Bool) (s : List UInt8) (ws : List (List UInt8)) : Prop := ∀ (r : List UInt8) (i : Nat), (c = true → NoWord r) → ∃ ts, Lx.lex (s ++ r) i = (Lx.lex r (i + s.length)).app ts ∧ ts.map Lx.Tok.text = ws ∧ ∀ t ∈ ts, t.right
/-- A text begins with a byte of no name. -/
def Cut (s : List UInt8) : Prop := ∃ x q, s = x :: q ∧ Lx.good x = false
theorem Cut.app {s : List UInt8} (h : Cut s) (r : List UInt8) : Cut (s ++ r) := by
  obtain ⟨x, q, rfl, hx⟩ := h
  exact ⟨x, q ++ r, rfl, hx⟩
theorem Lexes.cat {c1 c2 : Bool} {s1 s2 : List UInt8} {w1 w2 : List (List UInt8)} (h1 : Lexes c1 s1 w1) (h2 : Lexes c2 s2 w2) (hn : c1 = true → Cut s2) : Lexes c2 (s1 ++ s2) (w1 ++ w2) := by
  intro r i hr
  obtain ⟨t1, e1, m1, r1⟩ := h1 (s2 ++ r) i (fun hc => by
    obtain ⟨x, q, rfl, hx⟩ := hn hc
    intro c hc
    simp only [List.cons_append, List.head?_cons, Option.some.injEq] at hc
    rw [← hc]
    exact hx)
  obtain ⟨t2, e2, m2, r2⟩ := h2 r (i + s1.length) hr
  refine ⟨t1 ++ t2, ?_, by rw [List.map_append, m1, m2], fun t ht => ?_⟩
  · rw [List.append_assoc, e1, e2, Lx.Res.app_app, List.length_append, Nat.add_assoc]
  · rcases List.mem_append.1 ht with h | h
    · exact r1 t h
    · exact r2 t h
theorem Lexes.weak {c : Bool} {s : List UInt8} {w : List (List UInt8)} (h : Lexes false s w) : Lexes c s w := fun r i _ => h r i (fun h => by cases h)
theorem lexes_nil : Lexes false [] [] := fun r i _ => ⟨[], by rw [Lx.Res.app_nil]; rfl, rfl, fun t h => by cases h⟩
theorem lexes_word {c : UInt8} {r : List UInt8} (hc : Lx.cl c = 1) (hr : r.all Lx.good = true) : Lexes true (c :: r) [c :: r] := by
  intro q i hq
  have hw : (r ++ q).takeWhile Lx.good = r := Lx.takeWhile_all q hr (hq rfl)
  refine ⟨[⟨1, c :: r, i⟩], ?_, rfl, fun t ht => ?_⟩
  · rw [List.cons_append, Lx.lex_cons, if_neg (by rw [hc]; decide), if_neg (fun h => Lx.cl_word hc h.1), if_pos hc, hw, List.drop_left, List.length_cons, show i + (r.length + 1) = i + 1 + r.length by omega]
  · rw [List.mem_singleton.1 ht]
    exact .inl ⟨rfl, c, r, rfl, hc, hr⟩
theorem lexes_sign {c : UInt8} (hc : Lx.sgn c = true) : Lexes false [c] [[c]] := by
  intro q i _
  obtain ⟨h4, h1, h47⟩ := Lx.cl_sgn hc
  refine ⟨[⟨2, [c], i⟩], ?_, rfl, fun t ht => ?_⟩
  · rw [List.cons_append, Lx.lex_cons, if_neg h4, if_neg (fun h => h47 h.1), if_neg h1, if_pos hc]
    rfl
  · rw [List.mem_singleton.1 ht]
    exact .inr ⟨rfl, c, rfl, hc⟩
theorem lexes_blank {c : UInt8} (hc : Lx.cl c = 4) : Lexes false [c] [] := by
  intro q i _
  refine ⟨[], ?_, rfl, fun t ht => by cases ht⟩
  rw [List.cons_append, Lx.lex_cons, if_pos hc, Lx.Res.app_nil]
  rfl
theorem good_goodB (c : UInt8) : Lx.good c = Nm.goodB c.toNat := by
  have e : Lx.cl c = Nm.cls c.toNat := rfl
  unfold Lx.good Nm.goodB
  rw [e]
  rcases Nm.cls_cases c.toNat with h | h | h | h | h <;> rw [h] <;> decide
theorem isB_word {l : List UInt8} (h : Nm.isB l = true) : ∃ c r, l = c :: r ∧ Lx.cl c = 1 ∧ r.all Lx.good = true := by
  cases l with
  | nil => cases h
  | cons c r =>
    simp only [Nm.isB, Bool.and_eq_true, beq_iff_eq, List.all_cons] at h
    refine ⟨c, r, rfl, h.1.1, ?_⟩
    rw [← h.1.2.2]
    exact congrArg (r.all ·) (funext good_goodB)
theorem lexes_name {l : List UInt8} (h : Nm.isB l = true) : Lexes true l [l] := by
  obtain ⟨c, r, rfl, hc, hr⟩ := isB_word h
  exact lexes_word hc hr

/-! ### the tokens of a type -/
mutual
def tyW : Ty → List (List UInt8)
  | .mk s [] _ => [s.data.toList]
  | .mk s (a :: xs) _ => s.data.toList :: [91] :: (tyW a ++ tyWL xs)
def tyWL : List Ty → List (List UInt8)
  | [] => [[93]]
  | a :: xs => [44] :: (tyW a ++ tyWL xs)
end
def targW : List Ty → List (List UInt8)
  | [] => []
  | a :: xs => [91] :: (tyW a ++ tyWL xs)
theorem tyW_mk (s : ByteArray) (xs : List Ty) (o : Int) : tyW (.mk s xs o) = s.data.toList :: targW xs := by
  cases xs <;> rw [tyW, targW]
theorem text_mk (s : ByteArray) (xs : List Ty) (o : Int) : Ty.text (.mk s xs o) = s.data.toList ++ Ex.targText xs := by
  cases xs with
  | nil => rw [Ty.text, Ex.targText, Ty.text]; exact (List.append_nil _).symm
  | cons a r =>
    rw [Ty.text, Ex.targText, Ty.text]
    simp
theorem cut_textL (xs : List Ty) : Cut (Ty.textL xs ++ [93]) := by
  cases xs with
  | nil => exact ⟨93, [], by simp [Ty.textL], by decide⟩
  | cons a r => exact ⟨44, _, by rw [Ty.textL]; rfl, by decide⟩
theorem textL_lexes : ∀ xs : List Ty, (∀ x ∈ xs, Lexes true x.text (tyW x)) → Lexes false (Ty.textL xs ++ [93]) (tyWL xs)
  | [], _ => by
    have := lexes_sign (c := 93) (by decide)
    rw [tyWL]
    simpa [Ty.textL] using this
  | a :: r, h => by
    have h1 := (h a (by simp)).cat (textL_lexes r fun x hx => h x (by simp [hx])) (fun _ => cut_textL r)
    have h2 := (lexes_sign (c := 44) (by decide)).cat ((lexes_blank (c := 32) (by decide)).cat h1 (by simp)) (by simp)
    rw [Ty.textL, tyWL]
    simpa using h2
theorem targ_lexes {xs : List Ty} (h : ∀ x ∈ xs, Lexes true x.text (tyW x)) : Lexes false (Ex.targText xs) (targW xs) := by
  cases xs with
  | nil => exact lexes_nil
  | cons a r =>
    have h1 := (h a (by simp)).cat (textL_lexes r fun x hx => h x (by simp [hx])) (fun _ => cut_textL r)
    have h2 := (lexes_sign (c := 91) (by decide)).cat h1 (by simp)
    rw [Ex.targText, Ty.text, targW]
    simpa using h2
theorem cut_targ {xs : List Ty} {r : List UInt8} (h : Cut r) : Cut (Ex.targText xs ++ r) := by
  cases xs with
  | nil => exact h
  | cons a q => exact ⟨91, _, by rw [Ex.targText, Ty.text]; rfl, by decide⟩
theorem ty_lexes : ∀ t : Ty, t.right = true → Lexes true t.text (tyW t) := by
  refine Ty.ind fun s xs o ih h => ?_
  rw [Ty.right_mk, Bool.and_eq_true] at h
  have hx := (rightL_iff xs).1 h.2
  rw [text_mk, tyW_mk]
  by_cases hxs : xs = []
  · subst hxs
    have := lexes_name h.1
    simpa [targW, Ex.targText, Ty.text] using this
  · have h2 := (lexes_name h.1).cat (targ_lexes fun x hm => ih x hm (hx x hm)) (fun _ => by
      cases xs with
      | nil => exact absurd rfl hxs
      | cons a q => exact ⟨91, _, by rw [Ex.targText, Ty.text]; rfl, by decide⟩)
    exact Lexes.weak h2

/-! ### the tokens of an expression -/
mutual
def exW : Ex → List (List UInt8)
  | .mk k s t _ [] _ => if k = 1 then [s.data.toList] else tyW t ++ [[123], [125]]
  | .mk k s t ts (a :: r) _ => if k = 1 then [s.data.toList] else if k = 3 then tyW t ++ ([123] :: ((exW a ++ exWM r) ++ [[125]]))
    else if k = 5 then exW a ++ ([46] :: [40] :: (tyW t ++ [[41]])) else if k = 4 then exW a ++ [[46], s.data.toList]
    else exW a ++ ([46] :: s.data.toList :: (targW ts ++ ([40] :: (exWC r ++ [[41]]))))
def exWM : List Ex → List (List UInt8)
  | [] => []
  | a :: xs => [44] :: (exW a ++ exWM xs)
def exWC : List Ex → List (List UInt8)
  | [] => []
  | a :: xs => exW a ++ exWM xs
end
theorem cut_textM (xs : List Ex) {c : UInt8} (hc : Lx.good c = false) (r : List UInt8) : Cut (Ex.textM xs ++ c :: r) := by
  cases xs with
  | nil => exact ⟨c, r, by simp [Ex.textM], hc⟩
  | cons a q => exact ⟨44, _, by rw [Ex.textM]; rfl, by decide⟩
theorem textM_lexes {c : UInt8} (hc : Lx.good c = false) (hs : Lx.sgn c = true) : ∀ xs : List Ex, (∀ x ∈ xs, Lexes true x.text (exW x)) → Lexes false (Ex.textM xs ++ [c]) (exWM xs ++ [[c]])
  | [], _ => by
    have := lexes_sign hs
    simpa [Ex.textM, exWM] using this
  | a :: r, h => by
    have h1 := (h a (by simp)).cat (textM_lexes hc hs r fun x hx => h x (by simp [hx])) (fun _ => cut_textM r hc [])
    have h2 := (lexes_sign (c := 44) (by decide)).cat ((lexes_blank (c := 32) (by decide)).cat h1 (by simp)) (by simp)
    rw [Ex.textM, exWM]
    simpa using h2
theorem textC_lexes {c : UInt8} (hc : Lx.good c = false) (hs : Lx.sgn c = true) (xs : List Ex) (h : ∀ x ∈ xs, Lexes true x.text (exW x)) : Lexes false (Ex.textC xs ++ [c]) (exWC xs ++ [[c]]) := by
  cases xs with
  | nil =>
    have := lexes_sign hs
    simpa [Ex.textC, exWC] using this
  | cons a r =>
    have h1 := (h a (by simp)).cat (textM_lexes hc hs r fun x hx => h x (by simp [hx])) (fun _ => cut_textM r hc [])
    rw [Ex.textC, exWC]
    simpa using h1
/-- What a right expression is, kind by kind. -/
theorem fit_cases {k : Int} {s : ByteArray} {t : Ty} {ts : List Ty} {n : Nat} (h : Ex.fit k s t ts n = true) :
    (k = 1 ∧ n = 0 ∧ ts = [] ∧ Nm.isB s.data.toList = true ∧ t.name.size = 0 ∧ t.args = []) ∨ (k = 2 ∧ 1 ≤ n ∧ (∀ u ∈ ts, u.right = true) ∧ Nm.isB s.data.toList = true ∧ t.name.size = 0 ∧ t.args = [])
    ∨ (k = 3 ∧ ts = [] ∧ s.data.toList = [] ∧ t.right = true) ∨ (k = 4 ∧ n = 1 ∧ ts = [] ∧ Nm.isB s.data.toList = true ∧ t.name.size = 0 ∧ t.args = []) ∨ (k = 5 ∧ n = 1 ∧ ts = [] ∧ s.data.toList = [] ∧ t.right = true) := by
  have hts : k ≠ 2 → ts.all (fun u => k == 2 && u.right) = true → ts = [] := fun hk h => by
    cases ts with
    | nil => rfl
    | cons u r =>
      rw [List.all_cons, show (k == 2) = false by simpa using hk] at h
      simp at h
  have hz : s.size = 0 → s.data.toList = [] := fun h => List.eq_nil_of_length_eq_zero (by rw [← Lib.size_eq]; exact h)
  simp only [Ex.fit, Bool.and_eq_true] at h
  obtain ⟨⟨⟨⟨h1, h2⟩, h3⟩, h4⟩, h5⟩ := h
  by_cases k1 : k = 1
  · subst k1
    have hn : n = 0 := by simpa using h5
    have h3' : t.name.size = 0 ∧ t.args.length = 0 := by simpa [Ex.typed] using h3
    exact .inl ⟨rfl, hn, hts (by decide) h1, by simpa [Ex.typed] using h4, h3'.1, List.eq_nil_of_length_eq_zero h3'.2⟩
  by_cases k2 : k = 2
  · subst k2
    have h3' : t.name.size = 0 ∧ t.args.length = 0 := by simpa [Ex.typed] using h3
    exact .inr (.inl ⟨rfl, by simpa using h5, fun u hu => by have := List.all_eq_true.1 h1 u hu; simpa using this, by simpa [Ex.typed] using h4, h3'.1, List.eq_nil_of_length_eq_zero h3'.2⟩)
  by_cases k3 : k = 3
  · subst k3
    exact .inr (.inr (.inl ⟨rfl, hts (by decide) h1, hz (by simpa [Ex.typed] using h4), by simpa [Ex.typed] using h2⟩))
  by_cases k4 : k = 4
  · subst k4
    have h3' : t.name.size = 0 ∧ t.args.length = 0 := by simpa [Ex.typed] using h3
    exact .inr (.inr (.inr (.inl ⟨rfl, by simpa using h5, hts (by decide) h1, by simpa [Ex.typed] using h4, h3'.1, List.eq_nil_of_length_eq_zero h3'.2⟩)))
  by_cases k5 : k = 5
  · subst k5
    exact .inr (.inr (.inr (.inr ⟨rfl, by simpa using h5, hts (by decide) h1, hz (by simpa [Ex.typed] using h4), by simpa [Ex.typed] using h2⟩)))
  · exfalso
    simp [k1, k2, k3, k4, k5] at h5
theorem ex_lexes : ∀ e : Ex, e.right = true → Lexes true e.text (exW e) := by
  refine Ex.ind fun k s t ts xs o ih h => ?_
  rw [Ex.right, Bool.and_eq_true, Ex.rightL_all] at h
  have hk : ∀ x ∈ xs, Lexes true x.text (exW x) := fun x hx => ih x hx (List.all_eq_true.1 h.1 x hx)
  have dot := lexes_sign (c := 46) (by decide)
  rcases fit_cases h.2 with ⟨rfl, hn, rfl, hs, -⟩ | ⟨rfl, hn, hts, hs, -⟩ | ⟨rfl, rfl, hs, ht⟩ | ⟨rfl, hn, rfl, hs, -⟩ | ⟨rfl, hn, rfl, hs, ht⟩
  · obtain rfl := List.eq_nil_of_length_eq_zero hn
    simpa [Ex.text, exW] using lexes_name hs
  · cases xs with
    | nil => exact absurd hn (by decide)
    | cons a r =>
      have h1 := textC_lexes (c := 41) (by decide) (by decide) r fun x hx => hk x (by simp [hx])
      have h2 := (targ_lexes fun u hu => ty_lexes u (hts u hu)).cat ((lexes_sign (c := 40) (by decide)).cat h1 (by simp)) (by simp)
      have h3 := (hk a (by simp)).cat (dot.cat ((lexes_name hs).cat h2 fun _ => cut_targ ⟨40, _, rfl, by decide⟩) (by simp)) (fun _ => ⟨46, _, rfl, by decide⟩)
      have h4 := Lexes.weak (c := true) h3
      simp only [Ex.text, exW, Ex.tailA]
      simpa using h4
  · have ht2 := ty_lexes t ht
    cases xs with
    | nil =>
      have h4 := Lexes.weak (c := true) (ht2.cat ((lexes_sign (c := 123) (by decide)).cat (lexes_sign (c := 125) (by decide)) (by simp)) (fun _ => ⟨123, _, rfl, by decide⟩))
      simp only [Ex.text, exW]
      simpa using h4
    | cons a r =>
      have h1 := (hk a (by simp)).cat (textM_lexes (c := 125) (by decide) (by decide) r fun x hx => hk x (by simp [hx])) (fun _ => cut_textM r (by decide) [])
      have h4 := Lexes.weak (c := true) (ht2.cat ((lexes_sign (c := 123) (by decide)).cat h1 (by simp)) (fun _ => ⟨123, _, rfl, by decide⟩))
      simp only [Ex.text, exW]
      simpa using h4
  · cases xs with
    | nil => cases hn
    | cons a r =>
      obtain rfl : r = [] := List.eq_nil_of_length_eq_zero (by simpa using hn)
      have h4 := (hk a (by simp)).cat (dot.cat (lexes_name hs) (by simp)) (fun _ => ⟨46, _, rfl, by decide⟩)
      simp only [Ex.text, exW, Ex.tailA]
      simpa using h4
  · cases xs with
    | nil => cases hn
    | cons a r =>
      obtain rfl : r = [] := List.eq_nil_of_length_eq_zero (by simpa using hn)
      have h1 := (ty_lexes t ht).cat (lexes_sign (c := 41) (by decide)) (fun _ => ⟨41, _, rfl, by decide⟩)
      have h4 := Lexes.weak (c := true) ((hk a (by simp)).cat (dot.cat ((lexes_sign (c := 40) (by decide)).cat h1 (by simp)) (by simp)) (fun _ => ⟨46, _, rfl, by decide⟩))
      simp only [Ex.text, exW, Ex.tailA, hs]
      simpa using h4
end Go.Proofs.YtbeejmlmplgaeaaDoor.Rd
