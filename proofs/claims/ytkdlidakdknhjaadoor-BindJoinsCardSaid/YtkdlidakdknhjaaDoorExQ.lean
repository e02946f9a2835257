/- Texts of right expressions: how long they are, and that they tell them apart. No program, no condition. -/
import Derived.Test.YtkdlidakdknhjaaDoorExA
namespace Go.Proofs.YtkdlidakdknhjaaDoor
namespace Ex

theorem text_wt : ∀ e : Ex, e.text.length + 4 ≤ 120 * wt e := by
  refine ind fun k s t ts xs o ih => ?_
  have hT := Ty.text_wt t
  have hA := Ty.text_wt (.mk ⟨#[]⟩ ts 0)
  have hs : s.data.toList.length = s.size := rfl
  have hM : ∀ l : List Ex, (∀ x ∈ l, x ∈ xs) → (textM l).length ≤ 120 * wtL l := by
    intro l
    induction l with
    | nil => intro _; simp [textM]
    | cons a r ih2 =>
      intro h
      have h1 := ih a (h a (by simp))
      have h2 := ih2 (fun x hx => h x (by simp [hx]))
      simp only [textM, wtL, List.length_append, List.length_cons, List.length_nil]
      omega
  have h5 : s.size < 50 * (s.size / 50) + 50 := by omega
  have hA2 : (targText ts).length + 4 ≤ 60 + 60 * Ty.wtL ts := by
    rw [targText]
    have h0 : Ty.wt (.mk ⟨#[]⟩ ts 0) = 1 + 0 / 50 + Ty.wtL ts := by rw [Ty.wt]; rfl
    omega
  cases xs with
  | nil =>
    simp only [text, wt, wtL]
    split
    · omega
    · simp only [List.length_append, List.length_cons, List.length_nil]; omega
  | cons a r =>
    have h1 := ih a (by simp)
    have h2 := hM r (fun x hx => by simp [hx])
    have h3 : (textC r).length ≤ 120 * wtL r := by
      cases r with
      | nil => simp [textC]
      | cons b q =>
        simp only [textM, textC, List.length_append, List.length_cons, List.length_nil] at h2 ⊢
        omega
    simp only [text, wt, wtL, tailA]
    have h6 : 1 ≤ Ty.wt t := by cases t; simp only [Ty.wt]; omega
    repeat' split
    all_goals (first | omega | (simp only [List.length_append, List.length_cons, List.length_nil]; omega))

/-! ### the same expression: the same text -/
theorem sameT_cmp : ∀ ts us : List Ty, sameT ts us = true ↔ Ty.cmpL ts us = 0
  | [], [] => by simp [sameT, Ty.cmpL]
  | [], _ :: _ => by simp [sameT, Ty.cmpL]
  | _ :: _, [] => by simp [sameT, Ty.cmpL]
  | a :: ts, b :: us => by
    rw [sameT, Ty.cmpL, Bool.and_eq_true, sameT_cmp ts us, beq_iff_eq]
    by_cases h : Ty.cmp a b = 0
    · simp [h]
    · simp [h]
theorem targ_same {ts us : List Ty} (h : sameT ts us = true) : targText ts = targText us :=
  Ty.cmp_text _ _ (by rw [Ty.cmp, if_pos rfl]; exact (sameT_cmp ts us).1 h)
theorem same_mk {k l : Int} {s r : ByteArray} {t u : Ty} {ts us : List Ty} {xs ys : List Ex} {o p : Int} :
    same (mk k s t ts xs o) (mk l r u us ys p) = true ↔ k = l ∧ s.data.toList = r.data.toList ∧ Ty.cmp t u = 0 ∧ sameT ts us = true ∧ sameL xs ys = true := by
  rw [same]
  simp only [Bool.and_eq_true, beq_iff_eq, and_assoc]
theorem same_text : ∀ e f : Ex, same e f = true → e.text = f.text := by
  refine ind fun k s t ts xs o ih f h => ?_
  obtain ⟨l, r, u, us, ys, p⟩ := f
  obtain ⟨rfl, hs, ht, hts, hxs⟩ := same_mk.1 h
  have hM : ∀ us bs : List Ex, (∀ x ∈ us, x ∈ xs) → sameL us bs = true → textM us = textM bs := by
    intro us
    induction us with
    | nil =>
      intro bs _ h
      cases bs with
      | nil => rfl
      | cons b bs => simp [sameL] at h
    | cons a us ih2 =>
      intro bs hx h
      cases bs with
      | nil => simp [sameL] at h
      | cons b bs =>
        rw [sameL, Bool.and_eq_true] at h
        rw [textM, textM, ih a (hx a (by simp)) b h.1, ih2 bs (fun x hx2 => hx x (by simp [hx2])) h.2]
  have h1 := Ty.cmp_text _ _ ht
  have h2 := targ_same hts
  cases xs with
  | nil =>
    cases ys with
    | nil => simp only [text, hs, h1]
    | cons y ys => simp [sameL] at hxs
  | cons x xs =>
    cases ys with
    | nil => simp [sameL] at hxs
    | cons y ys =>
      rw [sameL, Bool.and_eq_true] at hxs
      have h3 := ih x (by simp) y hxs.1
      have h4 := hM xs ys (fun z hz => by simp [hz]) hxs.2
      have h5 : textC xs = textC ys := by
        cases xs with
        | nil =>
          cases ys with
          | nil => rfl
          | cons z zs => simp [sameL] at hxs
        | cons z zs =>
          cases ys with
          | nil => simp [sameL] at hxs
          | cons z2 zs2 =>
            have h6 := h4
            rw [sameL, Bool.and_eq_true] at hxs
            simp only [textM, List.cons_append, List.nil_append, List.cons.injEq, true_and] at h6
            rw [textC, textC]
            exact h6
      simp only [text, tailA, hs, h1, h2, h3, h4, h5]

/-! ### what a text begins with, and how it goes on -/
/-- Nothing that goes on within a name or makes what stands ahead of it another thing. -/
def Suf (r : List UInt8) : Prop := ∀ c, r.head? = some c → Ty.gd c = false ∧ c ≠ 91 ∧ c ≠ 123 ∧ c ≠ 40
theorem Suf.stop {r : List UInt8} (h : Suf r) : Ty.Stop r := fun c hc => ⟨(h c hc).1, (h c hc).2.1⟩
theorem Suf.gd {r : List UInt8} (h : Suf r) : ∀ c, r.head? = some c → Ty.gd c = false := fun c hc => (h c hc).1
theorem suf_cons {c : UInt8} {r : List UInt8} (h1 : Ty.gd c = false) (h2 : c ≠ 91) (h3 : c ≠ 123) (h4 : c ≠ 40) : Suf (c :: r) := by
  intro d hd
  simp only [List.head?_cons, Option.some.injEq] at hd
  subst hd
  exact ⟨h1, h2, h3, h4⟩
theorem suf46 (r : List UInt8) : Suf (46 :: r) := suf_cons (by decide) (by decide) (by decide) (by decide)
theorem suf44 (r : List UInt8) : Suf (44 :: r) := suf_cons (by decide) (by decide) (by decide) (by decide)

/-- What stands behind the first kid's text. -/
def sfx (k : Int) (s : ByteArray) (t : Ty) (ts : List Ty) (r : List Ex) : List UInt8 := if k = 5 ∨ k = 4 then tailA k s t ts else tailA k s t ts ++ textC r ++ [41]
theorem sfx_head (k : Int) (s : ByteArray) (t : Ty) (ts : List Ty) (r : List Ex) : ∃ y, sfx k s t ts r = 46 :: y := by
  unfold sfx tailA
  repeat' split
  all_goals exact ⟨_, rfl⟩
theorem text_sfx {k : Int} {s : ByteArray} {t : Ty} {ts : List Ty} {a : Ex} {r : List Ex} {o : Int} (hk : k = 2 ∨ k = 4 ∨ k = 5) : text (mk k s t ts (a :: r) o) = text a ++ sfx k s t ts r := by
  rw [text, if_neg (by omega), if_neg (by omega), sfx]
  split
  · rfl
  · simp only [List.append_assoc]

/-- An expression and the ones that it begins with, and what stands behind these. -/
inductive Pre : Ex → Ex → List UInt8 → Prop where
  | refl (e : Ex) : Pre e e []
  | step {c a : Ex} {x : List UInt8} {k : Int} {s : ByteArray} {t : Ty} {ts : List Ty} {r : List Ex} {o : Int} (hk : k = 2 ∨ k = 4 ∨ k = 5) (h : Pre c a x) : Pre c (mk k s t ts (a :: r) o) (x ++ sfx k s t ts r)
theorem Pre.text {c f : Ex} {x : List UInt8} (h : Pre c f x) : f.text = c.text ++ x := by
  induction h with
  | refl => simp
  | step hk h ih => rw [text_sfx hk, ih, List.append_assoc]
theorem Pre.head {c f : Ex} {x : List UInt8} (h : Pre c f x) : x = [] ∨ ∃ y, x = 46 :: y := by
  induction h with
  | refl => exact .inl rfl
  | @step a x k s t ts r o hk h ih =>
    obtain ⟨y, hy⟩ := sfx_head k s t ts r
    rcases ih with rfl | ⟨z, rfl⟩
    · exact .inr ⟨y, hy⟩
    · exact .inr ⟨_, List.cons_append ..⟩
theorem Pre.same {c f : Ex} {x : List UInt8} (h : Pre c f x) (hx : x = []) : c = f := by
  cases h with
  | refl => rfl
  | @step a x k s t ts r o hk h =>
    obtain ⟨y, hy⟩ := sfx_head k s t ts r
    rw [hy] at hx
    simp at hx
theorem Pre.next {c f : Ex} {x : List UInt8} (h : Pre c f x) : (x = [] ∧ c = f) ∨ ∃ k s t ts r o x', (k = 2 ∨ k = 4 ∨ k = 5) ∧ Pre (mk k s t ts (c :: r) o) f x' ∧ x = sfx k s t ts r ++ x' := by
  induction h with
  | refl => exact .inl ⟨rfl, rfl⟩
  | @step a x k s t ts r o hk h ih =>
    rcases ih with ⟨rfl, rfl⟩ | ⟨k2, s2, t2, ts2, r2, o2, x2, hk2, h2, rfl⟩
    · exact .inr ⟨k, s, t, ts, r, o, [], hk, .refl _, by simp⟩
    · exact .inr ⟨k2, s2, t2, ts2, r2, o2, x2 ++ sfx k s t ts r, hk2, .step hk h2, by rw [List.append_assoc]⟩
theorem Pre.right {c f : Ex} {x : List UInt8} (h : Pre c f x) (hf : f.right = true) : c.right = true := by
  induction h with
  | refl => exact hf
  | step hk h ih => exact ih (right_kids hf _ (by simp))
theorem pre_base : ∀ f : Ex, f.right = true → ∃ h x, Pre h f x ∧ h.right = true ∧ (h.kind = 1 ∨ h.kind = 3) := by
  refine ind fun k s t ts xs o ih hf => ?_
  have h := right_kind hf
  have step : (k = 2 ∨ k = 4 ∨ k = 5) → 1 ≤ xs.length → ∃ h x, Pre h (mk k s t ts xs o) x ∧ h.right = true ∧ (h.kind = 1 ∨ h.kind = 3) := by
    intro hk hl
    cases xs with
    | nil => simp at hl
    | cons a r =>
      obtain ⟨h, x, h1, h2, h3⟩ := ih a (by simp) (right_kids hf a (by simp))
      exact ⟨h, _, .step hk h1, h2, h3⟩
  rcases h with h | h | h | h | h
  · exact ⟨_, [], .refl _, hf, .inl h⟩
  · exact step (.inl h.1) h.2
  · exact ⟨_, [], .refl _, hf, .inr h⟩
  · exact step (.inr (.inl h.1)) (by omega)
  · exact step (.inr (.inr h.1)) (by omega)

/-! ### what is asked, read -/
theorem isB_first {l : List UInt8} (h : Nm.isB l = true) : ∃ c y, l = c :: y ∧ Ty.gd c = true := by
  have h1 := Ty.isB_good h
  cases l with
  | nil => cases h
  | cons c r => exact ⟨c, r, rfl, by simp only [List.all_cons, Bool.and_eq_true] at h1; exact h1.1⟩
theorem right_fit {k : Int} {s : ByteArray} {t : Ty} {ts : List Ty} {xs : List Ex} {o : Int} (h : right (mk k s t ts xs o) = true) :
    ((k ≠ 2 → ts = []) ∧ (Ty.listL ts).all (fun s => Nm.isB s.data.toList) = true) ∧ (typed k = true → t.right = true ∧ s.data.toList = []) ∧ (typed k = false → t.name.data.toList = [] ∧ t.args = [] ∧ Nm.isB s.data.toList = true) ∧ (k = 1 → xs = []) := by
  rw [right, Bool.and_eq_true, fit] at h
  have h2 := h.2
  simp only [Bool.and_eq_true] at h2
  obtain ⟨⟨⟨⟨h3, h4⟩, h5⟩, h6⟩, h7⟩ := h2
  refine ⟨⟨fun hk => ?_, ?_⟩, fun hk => ?_, fun hk => ?_, fun hk => ?_⟩
  · cases ts with
    | nil => rfl
    | cons u us =>
      simp [hk] at h3
  · rw [List.all_eq_true] at h3
    clear h4 h5 h6 h7 h
    induction ts with
    | nil => simp [Ty.listL]
    | cons u us ih =>
      rw [Ty.rightL_cons, Bool.and_eq_true]
      have := h3 u (by simp)
      rw [Bool.and_eq_true] at this
      exact ⟨this.2, ih fun x hx => h3 x (by simp [hx])⟩
  · rw [hk] at h4 h6
    have h8 : s.size = 0 := by simpa using h6
    exact ⟨by simpa using h4.symm, List.eq_nil_of_length_eq_zero h8⟩
  · rw [hk] at h5 h6
    simp only [Bool.false_or, Bool.and_eq_true, beq_iff_eq] at h5
    exact ⟨List.eq_nil_of_length_eq_zero h5.1, List.eq_nil_of_length_eq_zero h5.2, by simpa using h6⟩
  · rw [if_pos hk] at h7
    exact List.eq_nil_of_length_eq_zero (by simpa using h7)
theorem cmp_empty {t u : Ty} (h1 : t.name.data.toList = []) (h2 : t.args = []) (h3 : u.name.data.toList = []) (h4 : u.args = []) : Ty.cmp t u = 0 := by
  obtain ⟨s, xs, o⟩ := t
  obtain ⟨r, ys, p⟩ := u
  simp only [Ty.name, Ty.args] at h1 h2 h3 h4
  subst h2 h4
  rw [Ty.cmp, if_pos (by rw [h1, h3])]
  simp only [Ty.cmpL]
theorem name_targ (s : ByteArray) (ts : List Ty) : Ty.text (.mk s ts 0) = s.data.toList ++ targText ts := by
  cases ts with
  | nil => simp only [targText, Ty.text]; simp
  | cons a r => simp only [targText, Ty.text, List.append_assoc]; simp
theorem targ_head (ts : List Ty) (r : List UInt8) : ∃ c y, targText ts ++ 40 :: r = c :: y ∧ (c = 91 ∨ c = 40) := by
  cases ts with
  | nil => exact ⟨40, r, by simp [targText, Ty.text], .inr rfl⟩
  | cons a q => exact ⟨91, _, by simp only [targText, Ty.text, List.append_assoc]; rfl, .inl rfl⟩
theorem text_first {f : Ex} (hf : f.right = true) : ∃ c y, f.text = c :: y ∧ Ty.gd c = true := by
  obtain ⟨h, x, h1, h2, h3⟩ := pre_base f hf
  have key : ∃ c y, h.text = c :: y ∧ Ty.gd c = true := by
    obtain ⟨k, s, t, ts, xs, o⟩ := h
    obtain ⟨_, f2, f3, _⟩ := right_fit h2
    simp only [kind] at h3
    rcases h3 with rfl | rfl
    · obtain ⟨c, y, h4, h5⟩ := isB_first (f3 rfl).2.2
      exact ⟨c, y, (text_var s t ts xs o).trans h4, h5⟩
    · obtain ⟨r, ys, p⟩ := t
      have h4 := (f2 rfl).1
      rw [Ty.right_mk, Bool.and_eq_true] at h4
      obtain ⟨c, y, h5, h6⟩ := isB_first h4.1
      refine ⟨c, ?_⟩
      rw [text_lit]
      cases ys with
      | nil => exact ⟨_, by rw [Ty.text, h5, List.cons_append, List.cons_append, List.cons_append], h6⟩
      | cons u us => exact ⟨y ++ [91] ++ u.text ++ Ty.textL us ++ [93] ++ [123] ++ textC xs ++ [125], by rw [Ty.text, h5]; simp only [List.cons_append], h6⟩
  obtain ⟨c, y, h4, h5⟩ := key
  exact ⟨c, y ++ x, by rw [h1.text, h4, List.cons_append], h5⟩

/-- The text of an expression, with what stands behind it, tells it: or one of the two begins the other. -/
def Tells (e : Ex) : Prop := ∀ (f : Ex) (r q : List UInt8), e.right = true → f.right = true → Suf r → Suf q → e.text ++ r = f.text ++ q →
  (∃ c x, Pre c f x ∧ same e c = true ∧ r = x ++ q) ∨ (∃ c x, Pre c e x ∧ same c f = true ∧ q = x ++ r)
/-- The same, where neither goes on. -/
theorem Tells.whole {e : Ex} (h : Tells e) {f : Ex} {r q : List UInt8} (he : e.right = true) (hf : f.right = true) (hr : Suf r) (hq : Suf q) (h1 : ∀ y, r ≠ 46 :: y) (h2 : ∀ y, q ≠ 46 :: y) (ht : e.text ++ r = f.text ++ q) : same e f = true ∧ r = q := by
  rcases h f r q he hf hr hq ht with ⟨c, x, h3, h4, h5⟩ | ⟨c, x, h3, h4, h5⟩
  · rcases h3.head with hx | ⟨y, rfl⟩
    · obtain rfl := h3.same hx
      subst hx
      exact ⟨h4, h5⟩
    · exact absurd h5 (h1 _)
  · rcases h3.head with hx | ⟨y, rfl⟩
    · obtain rfl := h3.same hx
      subst hx
      exact ⟨h4, h5.symm⟩
    · exact absurd h5 (h2 _)
/-- A list of kids up to the bracket that ends it. -/
def Shut (z : UInt8) : Prop := Ty.gd z = false ∧ z ≠ 91 ∧ z ≠ 123 ∧ z ≠ 40 ∧ z ≠ 44 ∧ z ≠ 46
theorem textM_end {z : UInt8} (hz : Shut z) (us : List Ex) (r : List UInt8) : Suf (textM us ++ z :: r) ∧ ∀ y, textM us ++ z :: r ≠ 46 :: y := by
  cases us with
  | nil =>
    refine ⟨suf_cons hz.1 hz.2.1 hz.2.2.1 hz.2.2.2.1, fun y h => ?_⟩
    simp only [textM, List.nil_append, List.cons.injEq] at h
    exact hz.2.2.2.2.2 h.1
  | cons a us =>
    refine ⟨suf44 _, fun y h => ?_⟩
    simp only [textM, List.cons_append, List.cons.injEq] at h
    exact absurd h.1 (by decide)
theorem textM_inj {z : UInt8} (hz : Shut z) : ∀ (us bs : List Ex) (r q : List UInt8), (∀ x ∈ us, Tells x) → (∀ x ∈ us, x.right = true) → (∀ x ∈ bs, x.right = true) → textM us ++ z :: r = textM bs ++ z :: q → sameL us bs = true ∧ r = q := by
  intro us
  induction us with
  | nil =>
    intro bs r q _ _ _ h
    cases bs with
    | nil =>
      simp only [textM, List.nil_append, List.cons.injEq, true_and] at h
      exact ⟨by rw [sameL], h⟩
    | cons b bs =>
      simp only [textM, List.nil_append, List.cons_append, List.cons.injEq] at h
      exact absurd h.1 hz.2.2.2.2.1
  | cons a us ih =>
    intro bs r q ht h1 h2 h
    cases bs with
    | nil =>
      simp only [textM, List.nil_append, List.cons_append, List.cons.injEq] at h
      exact absurd h.1.symm hz.2.2.2.2.1
    | cons b bs =>
      simp only [textM, List.cons_append, List.nil_append, List.append_assoc, List.cons.injEq, true_and] at h
      obtain ⟨h3, h4⟩ := (ht a (by simp)).whole (h1 a (by simp)) (h2 b (by simp)) (textM_end hz us r).1 (textM_end hz bs q).1 (textM_end hz us r).2 (textM_end hz bs q).2 h
      obtain ⟨h5, h6⟩ := ih bs r q (fun x hx => ht x (by simp [hx])) (fun x hx => h1 x (by simp [hx])) (fun x hx => h2 x (by simp [hx])) h4
      exact ⟨by rw [sameL, h3, h5]; rfl, h6⟩
theorem textC_inj {z : UInt8} (hz : Shut z) (us bs : List Ex) (r q : List UInt8) (ht : ∀ x ∈ us, Tells x) (h1 : ∀ x ∈ us, x.right = true) (h2 : ∀ x ∈ bs, x.right = true) (h : textC us ++ z :: r = textC bs ++ z :: q) : sameL us bs = true ∧ r = q := by
  cases us with
  | nil =>
    cases bs with
    | nil =>
      simp only [textC, List.nil_append, List.cons.injEq, true_and] at h
      exact ⟨by rw [sameL], h⟩
    | cons b bs =>
      obtain ⟨c, y, h3, h4⟩ := text_first (h2 b (by simp))
      simp only [textC, h3, List.nil_append, List.cons_append, List.cons.injEq] at h
      rw [← h.1, hz.1] at h4
      cases h4
  | cons a us =>
    cases bs with
    | nil =>
      obtain ⟨c, y, h3, h4⟩ := text_first (h1 a (by simp))
      simp only [textC, h3, List.nil_append, List.cons_append, List.cons.injEq] at h
      rw [h.1, hz.1] at h4
      cases h4
    | cons b bs =>
      have h0 : textM (a :: us) ++ z :: r = textM (b :: bs) ++ z :: q := by
        simp only [textC] at h
        simp only [textM, List.append_assoc, List.cons_append, List.nil_append, List.cons.injEq, true_and]
        simpa only [List.append_assoc] using h
      exact textM_inj hz (a :: us) (b :: bs) r q ht h1 h2 h0
theorem shut125 : Shut 125 := ⟨by decide, by decide, by decide, by decide, by decide, by decide⟩
theorem shut41 : Shut 41 := ⟨by decide, by decide, by decide, by decide, by decide, by decide⟩
theorem stop_cons {c : UInt8} {r : List UInt8} (h1 : Ty.gd c = false) (h2 : c ≠ 91) : Ty.Stop (c :: r) := by
  intro d hd
  simp only [List.head?_cons, Option.some.injEq] at hd
  subst hd
  exact ⟨h1, h2⟩

theorem lit_first (t : Ty) (ht : t.right = true) (y : List UInt8) : ∃ s c z, t.text ++ 123 :: y = s ++ c :: z ∧ s.all Ty.gd = true ∧ (c = 91 ∨ c = 123) := by
  obtain ⟨s, xs, o⟩ := t
  rw [Ty.right_mk, Bool.and_eq_true] at ht
  cases xs with
  | nil => exact ⟨s.data.toList, 123, y, by rw [Ty.text], Ty.isB_good ht.1, .inr rfl⟩
  | cons u us => exact ⟨s.data.toList, 91, _, by simp only [Ty.text, List.append_assoc]; rfl, Ty.isB_good ht.1, .inl rfl⟩
/-- A name does not begin as a literal does. -/
theorem var_lit {l : List UInt8} {t : Ty} {r y : List UInt8} (hl : Nm.isB l = true) (ht : t.right = true) (hr : Suf r) (h : l ++ r = t.text ++ 123 :: y) : False := by
  obtain ⟨s, c, z, h1, h2, h3⟩ := lit_first t ht y
  rw [h1] at h
  obtain ⟨_, h4⟩ := Ty.name_split (Ty.isB_good hl) h2 hr.gd (by intro d hd; simp only [List.head?_cons, Option.some.injEq] at hd; subst hd; rcases h3 with rfl | rfl <;> decide) h
  have h5 := hr c (by rw [h4]; rfl)
  rcases h3 with rfl | rfl
  · exact h5.2.1 rfl
  · exact h5.2.2.1 rfl
/-- The two that begin. -/
theorem base_inj {e h : Ex} (hk : ∀ x ∈ e.kids, Tells x) {r q : List UInt8} (he : e.right = true) (hh : h.right = true) (ke : e.kind = 1 ∨ e.kind = 3) (kh : h.kind = 1 ∨ h.kind = 3) (hr : Suf r) (hq : Suf q) (ht : e.text ++ r = h.text ++ q) : same e h = true ∧ r = q := by
  obtain ⟨k, s, t, ts, xs, o⟩ := e
  obtain ⟨l, s2, t2, us, ys, p⟩ := h
  obtain ⟨⟨e1, _⟩, e2, e3, e4⟩ := right_fit he
  obtain ⟨⟨g1, _⟩, g2, g3, g4⟩ := right_fit hh
  simp only [kind, kids] at hk ke kh
  rcases ke with rfl | rfl <;> rcases kh with rfl | rfl
  · rw [text_var, text_var] at ht
    obtain ⟨h1, h2⟩ := Ty.name_split (Ty.isB_good (e3 rfl).2.2) (Ty.isB_good (g3 rfl).2.2) hr.gd hq.gd ht
    obtain rfl := e1 (by decide)
    obtain rfl := g1 (by decide)
    obtain rfl := e4 rfl
    obtain rfl := g4 rfl
    exact ⟨same_mk.2 ⟨rfl, h1, cmp_empty (e3 rfl).1 (e3 rfl).2.1 (g3 rfl).1 (g3 rfl).2.1, by rw [sameT], by rw [sameL]⟩, h2⟩
  · rw [text_var, text_lit] at ht
    simp only [List.append_assoc, List.cons_append, List.nil_append] at ht
    exact (var_lit (e3 rfl).2.2 (g2 rfl).1 hr ht).elim
  · rw [text_var, text_lit] at ht
    simp only [List.append_assoc, List.cons_append, List.nil_append] at ht
    exact (var_lit (g3 rfl).2.2 (e2 rfl).1 hq ht.symm).elim
  · rw [text_lit, text_lit] at ht
    simp only [List.append_assoc, List.cons_append, List.nil_append] at ht
    obtain ⟨h1, h2⟩ := Ty.text_inj _ _ _ _ (e2 rfl).1 (g2 rfl).1 (stop_cons (by decide) (by decide)) (stop_cons (by decide) (by decide)) ht
    simp only [List.cons.injEq, true_and] at h2
    obtain ⟨h3, h4⟩ := textC_inj shut125 xs ys r q hk (right_kids he) (right_kids hh) h2
    obtain rfl := e1 (by decide)
    obtain rfl := g1 (by decide)
    exact ⟨same_mk.2 ⟨rfl, by rw [(e2 rfl).2, (g2 rfl).2], h1, by rw [sameT], h3⟩, h4⟩
theorem sfx2 (s : ByteArray) (t : Ty) (ts : List Ty) (r : List Ex) (q : List UInt8) : sfx 2 s t ts r ++ q = 46 :: (s.data.toList ++ (targText ts ++ 40 :: (textC r ++ 41 :: q))) := by
  rw [sfx, if_neg (by decide), tailA, if_neg (by decide), if_neg (by decide)]
  simp only [List.append_assoc, List.cons_append, List.nil_append]
theorem sfx4 (s : ByteArray) (t : Ty) (ts : List Ty) (r : List Ex) (q : List UInt8) : sfx 4 s t ts r ++ q = 46 :: (s.data.toList ++ q) := by
  rw [sfx, if_pos (by decide), tailA, if_neg (by decide), if_pos (by decide)]
  simp only [List.cons_append, List.nil_append]
theorem sfx5 (s : ByteArray) (t : Ty) (ts : List Ty) (r : List Ex) (q : List UInt8) : sfx 5 s t ts r ++ q = 46 :: (s.data.toList ++ 40 :: (t.text ++ 41 :: q)) := by
  rw [sfx, if_pos (by decide), tailA, if_pos (by decide)]
  simp only [List.append_assoc, List.cons_append, List.nil_append]
/-- What stands behind the first kid. -/
theorem sfx_inj {k l : Int} {s s2 : ByteArray} {t t2 : Ty} {ts us : List Ty} {a b : Ex} {xs ys : List Ex} {o p : Int} (hk : ∀ x ∈ xs, Tells x) {r q : List UInt8} (he : right (mk k s t ts (a :: xs) o) = true) (hh : right (mk l s2 t2 us (b :: ys) p) = true)
    (ke : k = 2 ∨ k = 4 ∨ k = 5) (kh : l = 2 ∨ l = 4 ∨ l = 5) (hr : Suf r) (hq : Suf q) (ht : sfx k s t ts xs ++ r = sfx l s2 t2 us ys ++ q) :
    (k = l ∧ s.data.toList = s2.data.toList ∧ Ty.cmp t t2 = 0 ∧ sameT ts us = true ∧ sameL xs ys = true) ∧ r = q := by
  obtain ⟨⟨e1, e1b⟩, e2, e3, _⟩ := right_fit he
  obtain ⟨⟨g1, g1b⟩, g2, g3, _⟩ := right_fit hh
  have ek := right_kind he
  have gk := right_kind hh
  have c1 : ∀ {n : List UInt8} {x y : List UInt8}, Nm.isB n = true → n ++ x = 40 :: y → False := by
    intro n x y hn h
    obtain ⟨c, z, rfl, h2⟩ := isB_first hn
    simp only [List.cons_append, List.cons.injEq] at h
    rw [h.1] at h2
    exact absurd h2 (by decide)
  have c2 : ∀ {n m : List UInt8} {vs : List Ty} {x y : List UInt8}, Nm.isB n = true → Nm.isB m = true → Suf x → n ++ x = m ++ (targText vs ++ 40 :: y) → False := by
    intro n m vs x y hn hm hx h
    obtain ⟨c, z, h1, h2⟩ := targ_head vs y
    rw [h1] at h
    obtain ⟨_, h4⟩ := Ty.name_split (Ty.isB_good hn) (Ty.isB_good hm) hx.gd (by intro d hd; simp only [List.head?_cons, Option.some.injEq] at hd; subst hd; rcases h2 with rfl | rfl <;> decide) h
    have h5 := hx c (by rw [h4]; rfl)
    rcases h2 with rfl | rfl
    · exact h5.2.1 rfl
    · exact h5.2.2.2 rfl
  rcases ke with rfl | rfl | rfl <;> rcases kh with rfl | rfl | rfl
  · rw [sfx2, sfx2, List.cons.injEq] at ht
    have ht := ht.2
    rw [← List.append_assoc, ← List.append_assoc s2.data.toList, ← name_targ, ← name_targ] at ht
    obtain ⟨h1, h2⟩ := Ty.text_inj _ _ _ _ (by rw [Ty.right_mk, (e3 rfl).2.2, e1b]; rfl) (by rw [Ty.right_mk, (g3 rfl).2.2, g1b]; rfl) (stop_cons (by decide) (by decide)) (stop_cons (by decide) (by decide)) ht
    simp only [List.cons.injEq, true_and] at h2
    obtain ⟨h3, h4⟩ := textC_inj shut41 xs ys r q hk (fun x hx => right_kids he x (by simp [hx])) (fun x hx => right_kids hh x (by simp [hx])) h2
    rw [Ty.cmp] at h1
    by_cases hs : s.data.toList = s2.data.toList
    · rw [if_pos hs] at h1
      exact ⟨⟨rfl, hs, cmp_empty (e3 rfl).1 (e3 rfl).2.1 (g3 rfl).1 (g3 rfl).2.1, (sameT_cmp _ _).2 h1, h3⟩, h4⟩
    · rw [if_neg hs] at h1
      exact absurd ((Nm.cmp_zero _ _).1 h1) hs
  · rw [sfx2, sfx4, List.cons.injEq] at ht
    exact (c2 (g3 rfl).2.2 (e3 rfl).2.2 hq ht.2.symm).elim
  · rw [sfx2, sfx5, List.cons.injEq, (g2 rfl).2] at ht
    exact (c1 (e3 rfl).2.2 ht.2).elim
  · rw [sfx4, sfx2, List.cons.injEq] at ht
    exact (c2 (e3 rfl).2.2 (g3 rfl).2.2 hr ht.2).elim
  · rw [sfx4, sfx4, List.cons.injEq] at ht
    obtain ⟨h1, h2⟩ := Ty.name_split (Ty.isB_good (e3 rfl).2.2) (Ty.isB_good (g3 rfl).2.2) hr.gd hq.gd ht.2
    obtain rfl := e1 (by decide)
    obtain rfl := g1 (by decide)
    obtain rfl : xs = [] := List.eq_nil_of_length_eq_zero (by simp at ek; simp [ek])
    obtain rfl : ys = [] := List.eq_nil_of_length_eq_zero (by simp at gk; simp [gk])
    exact ⟨⟨rfl, h1, cmp_empty (e3 rfl).1 (e3 rfl).2.1 (g3 rfl).1 (g3 rfl).2.1, by rw [sameT], by rw [sameL]⟩, h2⟩
  · rw [sfx4, sfx5, List.cons.injEq, (g2 rfl).2] at ht
    exact (c1 (e3 rfl).2.2 ht.2).elim
  · rw [sfx5, sfx2, List.cons.injEq, (e2 rfl).2] at ht
    exact (c1 (g3 rfl).2.2 ht.2.symm).elim
  · rw [sfx5, sfx4, List.cons.injEq, (e2 rfl).2] at ht
    exact (c1 (g3 rfl).2.2 ht.2.symm).elim
  · rw [sfx5, sfx5, List.cons.injEq, (e2 rfl).2, (g2 rfl).2] at ht
    have ht := ht.2
    simp only [List.nil_append, List.cons.injEq, true_and] at ht
    obtain ⟨h1, h2⟩ := Ty.text_inj _ _ _ _ (e2 rfl).1 (g2 rfl).1 (stop_cons (by decide) (by decide)) (stop_cons (by decide) (by decide)) ht
    simp only [List.cons.injEq, true_and] at h2
    obtain rfl := e1 (by decide)
    obtain rfl := g1 (by decide)
    obtain rfl : xs = [] := List.eq_nil_of_length_eq_zero (by simp at ek; simp [ek])
    obtain rfl : ys = [] := List.eq_nil_of_length_eq_zero (by simp at gk; simp [gk])
    exact ⟨⟨rfl, by rw [(e2 rfl).2, (g2 rfl).2], h1, by rw [sameT], by rw [sameL]⟩, h2⟩

theorem suf_app {x q : List UInt8} (hx : x = [] ∨ ∃ y, x = 46 :: y) (hq : Suf q) : Suf (x ++ q) := by
  rcases hx with rfl | ⟨y, rfl⟩
  · exact hq
  · exact suf46 _
theorem tells_any : ∀ e : Ex, Tells e := by
  refine ind fun k s t ts xs o ih f r q he hf hr hq ht => ?_
  have base : k = 1 ∨ k = 3 → (∃ c x, Pre c f x ∧ same (mk k s t ts xs o) c = true ∧ r = x ++ q) := by
    intro hk
    obtain ⟨h, x, h1, h2, h3⟩ := pre_base f hf
    rw [h1.text, List.append_assoc] at ht
    obtain ⟨h4, h5⟩ := base_inj (e := mk k s t ts xs o) ih he h2 hk h3 hr (suf_app h1.head hq) ht
    exact ⟨h, x, h1, h4, h5⟩
  have step : (k = 2 ∨ k = 4 ∨ k = 5) → 1 ≤ xs.length → (∃ c x, Pre c f x ∧ same (mk k s t ts xs o) c = true ∧ r = x ++ q) ∨ (∃ c x, Pre c (mk k s t ts xs o) x ∧ same c f = true ∧ q = x ++ r) := by
    intro hk hl
    cases xs with
    | nil => simp at hl
    | cons a rs =>
      rw [text_sfx hk, List.append_assoc] at ht
      have ha := right_kids he a (by simp)
      obtain ⟨y, hy⟩ := sfx_head k s t ts rs
      have hsuf : Suf (sfx k s t ts rs ++ r) := by rw [hy]; exact suf46 _
      rcases ih a (by simp) f _ _ ha hf hsuf hq ht with ⟨c, x, h1, h2, h3⟩ | ⟨c, x, h1, h2, h3⟩
      · rcases h1.next with ⟨rfl, rfl⟩ | ⟨k2, s2, t2, ts2, r2, o2, x2, hk2, h4, rfl⟩
        · exact .inr ⟨a, _, .step hk (.refl _), h2, by rw [List.nil_append]; simpa using h3.symm⟩
        · rw [List.append_assoc] at h3
          obtain ⟨⟨g1, g2, g3, g4, g5⟩, g6⟩ := sfx_inj (a := a) (b := c) (o := o) (p := o2) (fun x hx => ih x (by simp [hx])) he (h4.right hf) hk hk2 hr (suf_app h4.head hq) h3
          exact .inl ⟨_, x2, h4, same_mk.2 ⟨g1, g2, g3, g4, by rw [sameL, h2, g5]; rfl⟩, g6⟩
      · exact .inr ⟨c, _, .step hk h1, h2, by rw [h3, List.append_assoc]⟩
  rcases right_kind he with h | h | h | h | h
  · exact .inl (base (.inl h))
  · exact step (.inl h.1) h.2
  · exact .inl (base (.inr h))
  · exact step (.inr (.inl h.1)) (by omega)
  · exact step (.inr (.inr h.1)) (by omega)
/-- The texts of right expressions are equal exactly if these are the same. -/
theorem text_iff {a b : Ex} (ha : a.right = true) (hb : b.right = true) : (a.text == b.text) = same a b := by
  rw [Bool.eq_iff_iff, beq_iff_eq]
  constructor
  · intro h
    have hn : Suf [] := fun c hc => by cases hc
    exact ((tells_any a).whole ha hb hn hn (fun y h => by cases h) (fun y h => by cases h) (by rw [h])).1
  · exact same_text a b
end Ex
end Go.Proofs.YtkdlidakdknhjaaDoor
