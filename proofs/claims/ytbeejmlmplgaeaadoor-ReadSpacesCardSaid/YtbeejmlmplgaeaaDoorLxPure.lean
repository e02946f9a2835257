/- The plain words of layer 3 on lists of bytes: the tokens of a text; they do not hang on what stands in front; those of a joined text are the same. No condition. -/
namespace Go.Proofs.YtbeejmlmplgaeaaDoor.Lx

def cls (c : Int) : Int :=
  if (65 ≤ c ∧ c ≤ 90) ∨ (97 ≤ c ∧ c ≤ 122) then 1
  else if 48 ≤ c ∧ c ≤ 57 then 2
  else if c = 95 then 3
  else if c = 9 ∨ c = 10 ∨ c = 13 ∨ c = 32 then 4 else 0
def cl (c : UInt8) : Int := cls c.toNat
def good (c : UInt8) : Bool := decide (0 < cl c) && decide (cl c < 4)
def signs : List UInt8 := [40, 41, 91, 93, 123, 125, 46, 44, 59, 61, 95]
def sgn (c : UInt8) : Bool := signs.any (· == c)
def inLine (c : UInt8) : Bool := !(c == 10)

structure Tok where
  kind : Int
  text : List UInt8
  off : Nat

inductive Res where
  | bad (n : Nat)
  | ok (l : List Tok)

/-- Tokens in front of a result. -/
def Res.app (out : List Tok) : Res → Res
  | .bad n => .bad n
  | .ok l => .ok (out ++ l)
theorem Res.app_nil (r : Res) : r.app [] = r := by cases r <;> rfl
theorem Res.app_app (a b : List Tok) (r : Res) : (r.app b).app a = r.app (a ++ b) := by cases r <;> simp [Res.app]

/-- The tokens of a text but End, from an offset on. The first number bounds the steps. -/
def lexL : Nat → List UInt8 → Nat → Res
  | 0, _, _ => .ok []
  | _ + 1, [], _ => .ok []
  | n + 1, c :: r, i =>
    if cl c = 4 then lexL n r (i + 1)
    else if c = 47 ∧ r.head? = some 47 then lexL n (r.drop (r.takeWhile inLine).length) (i + 1 + (r.takeWhile inLine).length)
    else if cl c = 1 then (lexL n (r.drop (r.takeWhile good).length) (i + 1 + (r.takeWhile good).length)).app [⟨1, c :: r.takeWhile good, i⟩]
    else if sgn c = true then (lexL n r (i + 1)).app [⟨2, [c], i⟩]
    else .bad i

theorem lexL_fuel : ∀ (n m : Nat) (l : List UInt8) (i : Nat), l.length ≤ n → l.length ≤ m → lexL n l i = lexL m l i
  | 0, 0, _, _, _, _ => rfl
  | 0, m + 1, l, i, h, _ => by
    obtain rfl : l = [] := List.eq_nil_of_length_eq_zero (by omega)
    rfl
  | n + 1, 0, l, i, _, h => by
    obtain rfl : l = [] := List.eq_nil_of_length_eq_zero (by omega)
    rfl
  | n + 1, m + 1, [], i, _, _ => rfl
  | n + 1, m + 1, c :: r, i, h1, h2 => by
    have h1' : r.length ≤ n := by simp at h1; omega
    have h2' : r.length ≤ m := by simp at h2; omega
    unfold lexL
    rw [lexL_fuel n m r (i + 1) h1' h2', lexL_fuel n m _ (i + 1 + (r.takeWhile inLine).length) (by rw [List.length_drop]; omega) (by rw [List.length_drop]; omega),
      lexL_fuel n m _ (i + 1 + (r.takeWhile good).length) (by rw [List.length_drop]; omega) (by rw [List.length_drop]; omega)]

/-- The tokens of a text but End, or the offset of the error. -/
def lex (l : List UInt8) (i : Nat) : Res := lexL l.length l i
theorem lex_eq {n : Nat} {l : List UInt8} (i : Nat) (h : l.length ≤ n) : lexL n l i = lex l i := lexL_fuel _ _ _ _ h (Nat.le_refl _)

theorem lex_nil (i : Nat) : lex [] i = .ok [] := rfl
theorem lex_cons (c : UInt8) (r : List UInt8) (i : Nat) : lex (c :: r) i =
    if cl c = 4 then lex r (i + 1)
    else if c = 47 ∧ r.head? = some 47 then lex (r.drop (r.takeWhile inLine).length) (i + 1 + (r.takeWhile inLine).length)
    else if cl c = 1 then (lex (r.drop (r.takeWhile good).length) (i + 1 + (r.takeWhile good).length)).app [⟨1, c :: r.takeWhile good, i⟩]
    else if sgn c = true then (lex r (i + 1)).app [⟨2, [c], i⟩]
    else .bad i := by
  show lexL (r.length + 1) (c :: r) i = _
  unfold lexL
  rw [lex_eq (n := r.length) (i + 1) (Nat.le_refl _), lex_eq (n := r.length) _ (by rw [List.length_drop]; omega), lex_eq (n := r.length) _ (by rw [List.length_drop]; omega)]

/-! ### what stands in front does not matter but for the offsets -/
def Tok.same (a b : Tok) : Prop := a.kind = b.kind ∧ a.text = b.text
def alike : List Tok → List Tok → Prop
  | [], [] => True
  | a :: l, b :: m => a.same b ∧ alike l m
  | _, _ => False
theorem alike_one {a b : Tok} (h1 : a.kind = b.kind) (h2 : a.text = b.text) : alike [a] [b] := ⟨⟨h1, h2⟩, trivial⟩
theorem alike_refl : ∀ (l : List Tok), alike l l
  | [] => trivial
  | _ :: l => ⟨⟨rfl, rfl⟩, alike_refl l⟩
theorem alike_append : ∀ {a b c d : List Tok}, alike a b → alike c d → alike (a ++ c) (b ++ d)
  | [], [], _, _, _, h => h
  | _ :: _, _ :: _, _, _, ⟨h1, h2⟩, h => ⟨h1, alike_append h2 h⟩
  | [], _ :: _, _, _, h, _ => h.elim
  | _ :: _, [], _, _, h, _ => h.elim
theorem alike_symm : ∀ {a b : List Tok}, alike a b → alike b a
  | [], [], _ => trivial
  | _ :: _, _ :: _, ⟨h1, h2⟩ => ⟨⟨h1.1.symm, h1.2.symm⟩, alike_symm h2⟩
  | [], _ :: _, h => h.elim
  | _ :: _, [], h => h.elim
theorem alike_trans : ∀ {a b c : List Tok}, alike a b → alike b c → alike a c
  | [], [], [], _, _ => trivial
  | _ :: _, _ :: _, _ :: _, ⟨h1, h2⟩, ⟨h3, h4⟩ => ⟨⟨h1.1.trans h3.1, h1.2.trans h3.2⟩, alike_trans h2 h4⟩
  | [], [], _ :: _, _, h => h.elim
  | [], _ :: _, _, h, _ => h.elim
  | _ :: _, [], _, h, _ => h.elim
  | _ :: _, _ :: _, [], _, h => h.elim

/-- Both have an error, or both have tokens that are alike. -/
def Res.near : Res → Res → Prop
  | .bad _, .bad _ => True
  | .ok a, .ok b => alike a b
  | _, _ => False
theorem Res.near_app {a b : List Tok} (h : alike a b) : ∀ {r s : Res}, r.near s → (r.app a).near (s.app b)
  | .bad _, .bad _, _ => trivial
  | .ok _, .ok _, h2 => alike_append h h2
  | .bad _, .ok _, h2 => h2.elim
  | .ok _, .bad _, h2 => h2.elim

theorem lexL_near : ∀ (n : Nat) (l : List UInt8) (i j : Nat), (lexL n l i).near (lexL n l j)
  | 0, _, _, _ => trivial
  | _ + 1, [], _, _ => trivial
  | n + 1, c :: r, i, j => by
    unfold lexL
    split
    · exact lexL_near n _ _ _
    · split
      · exact lexL_near n _ _ _
      · split
        · exact Res.near_app (alike_one (by rfl) (by rfl)) (lexL_near n _ _ _)
        · split
          · exact Res.near_app (alike_one (by rfl) (by rfl)) (lexL_near n _ _ _)
          · trivial
theorem lex_near (l : List UInt8) (i j : Nat) : (lex l i).near (lex l j) := lexL_near _ _ _ _

theorem takeWhile_all {p : UInt8 → Bool} : ∀ {a : List UInt8} (b : List UInt8), a.all p = true → (∀ c, b.head? = some c → p c = false) → (a ++ b).takeWhile p = a
  | [], [], _, _ => rfl
  | [], c :: b, _, h => by simp [h c rfl]
  | x :: a, b, h1, h2 => by
    simp only [List.all_cons, Bool.and_eq_true] at h1
    simp only [List.cons_append, List.takeWhile_cons, h1.1, if_true]
    rw [takeWhile_all b h1.2 h2]

/-- A comment, its line feed and blanks in front change no token. -/
theorem lex_comment (b s : List UInt8) (i : Nat) (hb : b.all inLine = true) : (lex (47 :: 47 :: (b ++ 10 :: 9 :: 32 :: s)) i).near (lex s 0) := by
  have h47 : inLine 47 = true := by decide
  have ht : (47 :: (b ++ 10 :: 9 :: 32 :: s)).takeWhile inLine = 47 :: b := by
    have := takeWhile_all (p := inLine) (a := 47 :: b) (10 :: 9 :: 32 :: s) (by simp only [List.all_cons, h47, hb, Bool.and_self]) (by intro c hc; simp at hc; subst hc; decide)
    simpa using this
  rw [lex_cons, if_neg (by decide), if_pos ⟨rfl, rfl⟩, ht]
  have hd : (47 :: (b ++ 10 :: 9 :: 32 :: s)).drop (47 :: b).length = 10 :: 9 :: 32 :: s := by
    simp
  rw [hd, lex_cons, if_pos (by decide), lex_cons, if_pos (by decide), lex_cons, if_pos (by decide)]
  exact lex_near _ _ _

/-! ### every token is a word or a sign -/
def Tok.right (t : Tok) : Prop := (t.kind = 1 ∧ ∃ c r, t.text = c :: r ∧ cl c = 1 ∧ r.all good = true) ∨ (t.kind = 2 ∧ ∃ c, t.text = [c] ∧ sgn c = true)

theorem all_takeWhile (p : UInt8 → Bool) : ∀ l : List UInt8, (l.takeWhile p).all p = true
  | [] => rfl
  | c :: l => by
    simp only [List.takeWhile_cons]
    split
    · rename_i h
      simp only [List.all_cons, h, all_takeWhile p l, Bool.and_self]
    · rfl

/-- How long the tokens' texts are, each with a space. -/
def wide : List Tok → Nat
  | [] => 0
  | t :: l => t.text.length + 1 + wide l

theorem takeWhile_le (p : UInt8 → Bool) : ∀ l : List UInt8, (l.takeWhile p).length ≤ l.length
  | [] => Nat.le_refl _
  | c :: l => by
    have := takeWhile_le p l
    simp only [List.takeWhile_cons]
    split <;> simp <;> omega

theorem lexL_right : ∀ (n : Nat) (l : List UInt8) (i : Nat) (ts : List Tok), lexL n l i = .ok ts → (∀ t ∈ ts, t.right) ∧ wide ts ≤ 2 * l.length
  | 0, _, _, ts, h => by
    have : ts = [] := by simpa [lexL] using h.symm
    subst this
    exact ⟨by simp, by simp [wide]⟩
  | _ + 1, [], _, ts, h => by
    have : ts = [] := by simpa [lexL] using h.symm
    subst this
    exact ⟨by simp, by simp [wide]⟩
  | n + 1, c :: r, i, ts, h => by
    have hg := takeWhile_le good r
    unfold lexL at h
    split at h
    · obtain ⟨h1, h2⟩ := lexL_right n _ _ _ h
      exact ⟨h1, by simp; omega⟩
    · split at h
      · obtain ⟨h1, h2⟩ := lexL_right n _ _ _ h
        exact ⟨h1, by rw [List.length_drop] at h2; simp; omega⟩
      · split at h
        · rename_i hc
          cases hr : lexL n (r.drop (r.takeWhile good).length) (i + 1 + (r.takeWhile good).length) with
          | bad k => rw [hr] at h; cases h
          | ok us =>
            rw [hr] at h
            simp only [Res.app, Res.ok.injEq] at h
            obtain ⟨h1, h2⟩ := lexL_right n _ _ _ hr
            subst h
            refine ⟨fun t ht => ?_, ?_⟩
            · simp only [List.cons_append, List.nil_append, List.mem_cons] at ht
              rcases ht with rfl | ht
              · exact .inl ⟨rfl, c, _, rfl, hc, all_takeWhile _ _⟩
              · exact h1 t ht
            · rw [List.length_drop] at h2
              simp only [List.cons_append, List.nil_append, wide, List.length_cons]
              omega
        · split at h
          · rename_i hc
            cases hr : lexL n r (i + 1) with
            | bad k => rw [hr] at h; cases h
            | ok us =>
              rw [hr] at h
              simp only [Res.app, Res.ok.injEq] at h
              obtain ⟨h1, h2⟩ := lexL_right n _ _ _ hr
              subst h
              refine ⟨fun t ht => ?_, ?_⟩
              · simp only [List.cons_append, List.nil_append, List.mem_cons] at ht
                rcases ht with rfl | ht
                · exact .inr ⟨rfl, c, rfl, hc⟩
                · exact h1 t ht
              · simp only [List.cons_append, List.nil_append, wide, List.length_cons, List.length_nil]
                omega
          · cases h
theorem lex_right {l : List UInt8} {i : Nat} {ts : List Tok} (h : lex l i = .ok ts) : (∀ t ∈ ts, t.right) ∧ wide ts ≤ 2 * l.length := lexL_right _ _ _ _ h

/-! ### the joined text -/
def joinL : List Tok → List UInt8
  | [] => []
  | [t] => t.text
  | t :: u :: l => t.text ++ 32 :: joinL (u :: l)

theorem joinL_wide : ∀ ts : List Tok, (joinL ts).length ≤ wide ts
  | [] => by simp [joinL, wide]
  | [t] => by simp [joinL, wide]
  | t :: u :: l => by
    have := joinL_wide (u :: l)
    simp only [joinL, List.length_append, List.length_cons, wide] at *
    omega

theorem cl_sgn {c : UInt8} (h : sgn c = true) : cl c ≠ 4 ∧ cl c ≠ 1 ∧ c ≠ 47 := by
  simp only [sgn, signs, List.any_cons, List.any_nil, Bool.or_eq_true, beq_iff_eq, Bool.or_false] at h
  rcases h with h | h | h | h | h | h | h | h | h | h | h
  all_goals (subst h; refine ⟨?_, ?_, ?_⟩ <;> decide)
theorem cl_word {c : UInt8} (h : cl c = 1) : c ≠ 47 := by
  rintro rfl
  exact absurd h (by decide)

theorem lex_join : ∀ (ts : List Tok) (i : Nat), (∀ t ∈ ts, t.right) → ∃ us, lex (joinL ts) i = .ok us ∧ alike us ts
  | [], i, _ => ⟨[], rfl, trivial⟩
  | [t], i, h => by
    rcases h t (by simp) with ⟨hk, c, r, ht, hc, hr⟩ | ⟨hk, c, ht, hc⟩
    · have hw : r.takeWhile good = r := by simpa using takeWhile_all (p := good) (a := r) [] hr (by simp)
      refine ⟨[⟨1, c :: r, i⟩], ?_, ⟨by simp [Tok.same, hk, ht], trivial⟩⟩
      rw [joinL, ht, lex_cons, if_neg (by rw [hc]; decide), if_neg (fun h => cl_word hc h.1), if_pos hc, hw, List.drop_length, lex_nil]
      rfl
    · obtain ⟨h4, h1, h47⟩ := cl_sgn hc
      refine ⟨[⟨2, [c], i⟩], ?_, ⟨by simp [Tok.same, hk, ht], trivial⟩⟩
      rw [joinL, ht, lex_cons, if_neg h4, if_neg (fun h => h47 h.1), if_neg h1, if_pos hc, lex_nil]
      rfl
  | t :: u :: l, i, h => by
    have hrest : ∀ t ∈ u :: l, t.right := fun x hx => h x (by simp only [List.mem_cons] at hx ⊢; exact .inr hx)
    have h32 : good 32 = false := by decide
    have c32 : cl 32 = 4 := by decide
    rcases h t (by simp) with ⟨hk, c, r, ht, hc, hr⟩ | ⟨hk, c, ht, hc⟩
    · have hw : (r ++ 32 :: joinL (u :: l)).takeWhile good = r := takeWhile_all _ hr (by intro x hx; simp at hx; subst hx; exact h32)
      obtain ⟨us, h1, h2⟩ := lex_join (u :: l) (i + 1 + r.length + 1) hrest
      refine ⟨⟨1, c :: r, i⟩ :: us, ?_, ⟨by simp [Tok.same, hk, ht], h2⟩⟩
      rw [joinL, ht, List.cons_append, lex_cons, if_neg (by rw [hc]; decide), if_neg (fun h => cl_word hc h.1), if_pos hc, hw, List.drop_left, lex_cons, if_pos c32, h1]
      rfl
    · obtain ⟨h4, h1, h47⟩ := cl_sgn hc
      obtain ⟨us, h2, h3⟩ := lex_join (u :: l) (i + 1 + 1) hrest
      refine ⟨⟨2, [c], i⟩ :: us, ?_, ⟨by simp [Tok.same, hk, ht], h3⟩⟩
      rw [joinL, ht, List.cons_append, lex_cons, if_neg h4, if_neg (fun h => h47 h.1), if_neg h1, if_pos hc, List.nil_append, lex_cons, if_pos c32, h2]
      rfl
end Go.Proofs.YtbeejmlmplgaeaaDoor.Lx
