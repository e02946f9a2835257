/- Reading types and expressions from tokens, in plain words: what is read, or where it stops. No program, no condition. -/
import Derived.Test.YtbeejmlmplgaeaaDoorExA
import Derived.Test.YtbeejmlmplgaeaaDoorLxB
namespace Go.Proofs.YtbeejmlmplgaeaaDoor

/-- What reading leaves: what is read and the tokens behind it, or the tokens where it stops. -/
inductive Got (α : Type) where
  | ok (v : α) (l : List Tk)
  | bad (l : List Tk)
namespace Rd
def Got.bind {α β : Type} (g : Got α) (f : α → List Tk → Got β) : Got β := match g with
  | .ok v l => f v l
  | .bad l => .bad l
theorem bind_ok {α β : Type} (v : α) (l : List Tk) (f : α → List Tk → Got β) : Got.bind (.ok v l) f = f v l := rfl
theorem bind_bad {α β : Type} (l : List Tk) (f : α → List Tk → Got β) : Got.bind (.bad l) f = .bad l := rfl
theorem bind_bind {α β γ : Type} (g : Got α) (f : α → List Tk → Got β) (h : β → List Tk → Got γ) : Got.bind (Got.bind g f) h = Got.bind g fun v l => Got.bind (f v l) h := by cases g <;> rfl

/-- Does the next token have this text, and is it not End. -/
def isT (s : List UInt8) : List Tk → Bool
  | [] => false
  | t :: _ => !(t.k == 3) && (t.s.data.toList == s)
/-- The offset of the next token. -/
def off : List Tk → Int
  | [] => 0
  | t :: _ => t.o
def must (s : List UInt8) (l : List Tk) : Got Unit := if isT s l then .ok () l.tail else .bad l
def nameB (t : Tk) : Bool := Nm.isB t.s.data.toList
def name : List Tk → Got Tk
  | [] => .bad []
  | t :: r => if nameB t then .ok t r else .bad (t :: r)
/-- Type arguments in brackets, if there are brackets. -/
def targsG (many : List Tk → Got (List Ty)) (l : List Tk) : Got (List Ty) :=
  if isT [91] l then Got.bind (many l.tail) fun ts q => Got.bind (must [93] q) fun _ q => .ok ts q else .ok [] l
/-- Arguments up to a sign. -/
def argsG (many : List Tk → Got (List Ex)) (e : List UInt8) (l : List Tk) : Got (List Ex) :=
  if isT e l then .ok [] l.tail else Got.bind (many l) fun xs q => Got.bind (must e q) fun _ q => .ok xs q
mutual
def tyF : Nat → List Tk → Got Ty
  | 0, l => .bad l
  | n + 1, l => Got.bind (name l) fun t r => Got.bind (targsG (fun l => Got.bind (tyF n l) fun u q => moreF n [u] q) r) fun ts q => .ok (.mk t.s ts t.o) q
def moreF : Nat → List Ty → List Tk → Got (List Ty)
  | 0, _, l => .bad l
  | n + 1, acc, l => if isT [44] l then Got.bind (tyF n l.tail) fun u q => moreF n (acc ++ [u]) q else .ok acc l
end
def manyF (n : Nat) (l : List Tk) : Got (List Ty) := Got.bind (tyF n l) fun u q => moreF n [u] q
def targsF (n : Nat) (l : List Tk) : Got (List Ty) := targsG (manyF n) l
theorem tyF_succ (n : Nat) (l : List Tk) : tyF (n + 1) l = Got.bind (name l) fun t r => Got.bind (targsF n r) fun ts q => .ok (.mk t.s ts t.o) q := by rw [tyF]; rfl
theorem moreF_succ (n : Nat) (acc : List Ty) (l : List Tk) : moreF (n + 1) acc l = if isT [44] l then Got.bind (tyF n l.tail) fun u q => moreF n (acc ++ [u]) q else .ok acc l := by rw [moreF]

def tyNone : Ty := .mk ⟨#[]⟩ [] 0
def exVar (s : ByteArray) (o : Int) : Ex := .mk 1 s tyNone [] [] o
def exLit (t : Ty) (xs : List Ex) : Ex := .mk 3 ⟨#[]⟩ t [] xs t.off
def exField (s : ByteArray) (e : Ex) (o : Int) : Ex := .mk 4 s tyNone [] [e] o
def exCall (s : ByteArray) (ts : List Ty) (xs : List Ex) (o : Int) : Ex := .mk 2 s tyNone ts xs o
def exAssert (t : Ty) (e : Ex) (o : Int) : Ex := .mk 5 ⟨#[]⟩ t [] [e] o
/-- What an expression begins with. -/
def firstG (n : Nat) (many : List Tk → Got (List Ex)) (l : List Tk) : Got Ex :=
  Got.bind (tyF n l) fun t q => if t.args.isEmpty && !isT [123] q then .ok (exVar t.name t.off) q else Got.bind (must [123] q) fun _ q => Got.bind (argsG many [125] q) fun xs q => .ok (exLit t xs) q
/-- What stands behind an expression and a dot. -/
def restG (n : Nat) (many : List Tk → Got (List Ex)) (e : Ex) (l : List Tk) : Got Ex :=
  if isT [40] l then Got.bind (tyF n l.tail) fun t q => Got.bind (must [41] q) fun _ q => .ok (exAssert t e (off l)) q
  else Got.bind (name l) fun s q => Got.bind (targsF n q) fun ts q => if ts.isEmpty && !isT [40] q then .ok (exField s.s e s.o) q
    else Got.bind (must [40] q) fun _ q => Got.bind (argsG many [41] q) fun xs q => .ok (exCall s.s ts (e :: xs) s.o) q
mutual
def exF : Nat → List Tk → Got Ex
  | 0, l => .bad l
  | n + 1, l => Got.bind (firstG n (fun l => Got.bind (exF n l) fun u q => moreX n [u] q) l) fun e q => restsF n e q
def moreX : Nat → List Ex → List Tk → Got (List Ex)
  | 0, _, l => .bad l
  | n + 1, acc, l => if isT [44] l then Got.bind (exF n l.tail) fun u q => moreX n (acc ++ [u]) q else .ok acc l
def restsF : Nat → Ex → List Tk → Got Ex
  | 0, _, l => .bad l
  | n + 1, e, l => if isT [46] l then Got.bind (restG n (fun l => Got.bind (exF n l) fun u q => moreX n [u] q) e l.tail) fun e q => restsF n e q else .ok e l
end
def manyX (n : Nat) (l : List Tk) : Got (List Ex) := Got.bind (exF n l) fun u q => moreX n [u] q
def argsF (n : Nat) (e : List UInt8) (l : List Tk) : Got (List Ex) := argsG (manyX n) e l
def firstF (n : Nat) (l : List Tk) : Got Ex := firstG n (manyX n) l
def restF (n : Nat) (e : Ex) (l : List Tk) : Got Ex := restG n (manyX n) e l
theorem exF_succ (n : Nat) (l : List Tk) : exF (n + 1) l = Got.bind (firstF n l) fun e q => restsF n e q := by rw [exF]; rfl
theorem moreX_succ (n : Nat) (acc : List Ex) (l : List Tk) : moreX (n + 1) acc l = if isT [44] l then Got.bind (exF n l.tail) fun u q => moreX n (acc ++ [u]) q else .ok acc l := by rw [moreX]
theorem restsF_succ (n : Nat) (e : Ex) (l : List Tk) : restsF (n + 1) e l = if isT [46] l then Got.bind (restF n e l.tail) fun e q => restsF n e q else .ok e l := by rw [restsF]; rfl

/-! ### where reading comes to -/
/-- What is left is an end of what there was. -/
def Got.Ends {α : Type} (l : List Tk) : Got α → Prop
  | .ok _ q => q <:+ l
  | .bad q => q <:+ l
/-- The same, and what is read is shorter by one at least. -/
def Got.Less {α : Type} (l : List Tk) : Got α → Prop
  | .ok _ q => q <:+ l ∧ q.length < l.length
  | .bad q => q <:+ l
theorem Less.ends {α : Type} {l : List Tk} {g : Got α} (h : Got.Less l g) : Got.Ends l g := by cases g <;> first | exact h.1 | exact h
theorem ends_bind {α β : Type} {l : List Tk} {g : Got α} {f : α → List Tk → Got β} (h : Got.Ends l g) (hf : ∀ v q, g = .ok v q → Got.Ends q (f v q)) : Got.Ends l (Got.bind g f) := by
  cases g with
  | ok v q =>
    have h1 := hf v q rfl
    rw [bind_ok]
    cases hh : f v q <;> rw [hh] at h1
    · exact List.IsSuffix.trans h1 h
    · exact List.IsSuffix.trans h1 h
  | bad q => exact h
theorem less_bind {α β : Type} {l : List Tk} {g : Got α} {f : α → List Tk → Got β} (h : Got.Less l g) (hf : ∀ v q, g = .ok v q → Got.Ends q (f v q)) : Got.Less l (Got.bind g f) := by
  cases g with
  | ok v q =>
    have h1 := hf v q rfl
    rw [bind_ok]
    cases hh : f v q <;> rw [hh] at h1
    · exact ⟨List.IsSuffix.trans h1 h.1, Nat.lt_of_le_of_lt h1.length_le h.2⟩
    · exact List.IsSuffix.trans h1 h.1
  | bad q => exact h
theorem isT_cons {s : List UInt8} {l : List Tk} (h : isT s l = true) : ∃ t r, l = t :: r ∧ t.k ≠ 3 ∧ t.s.data.toList = s := by
  cases l with
  | nil => cases h
  | cons t r =>
    rw [isT, Bool.and_eq_true] at h
    exact ⟨t, r, rfl, by simpa using h.1, by simpa using h.2⟩
theorem ends_self {α : Type} (v : α) (l : List Tk) : Got.Ends l (.ok v l) := List.suffix_refl l
theorem ends_bad {α : Type} (l : List Tk) : Got.Ends (α := α) l (.bad l) := List.suffix_refl l
theorem less_bad {α : Type} (l : List Tk) : Got.Less (α := α) l (.bad l) := List.suffix_refl l
theorem less_tail {α : Type} {l : List Tk} {g : Got α} (hl : l ≠ []) (h : Got.Ends l.tail g) : Got.Less l g := by
  cases l with
  | nil => exact absurd rfl hl
  | cons t r =>
    cases g
    · exact ⟨List.IsSuffix.trans h (List.suffix_cons t r), Nat.lt_succ_of_le h.length_le⟩
    · exact List.IsSuffix.trans h (List.suffix_cons t r)
theorem less_isT {α : Type} {s : List UInt8} {l : List Tk} {g : Got α} (hl : isT s l = true) (h : Got.Ends l.tail g) : Got.Less l g := less_tail (by obtain ⟨t, r, rfl, _⟩ := isT_cons hl; simp) h
theorem must_less (s : List UInt8) (l : List Tk) : Got.Less l (must s l) := by
  unfold must
  split
  · rename_i h
    exact less_isT h (ends_self _ _)
  · exact less_bad l
theorem name_less (l : List Tk) : Got.Less l (name l) := by
  cases l with
  | nil => exact less_bad []
  | cons t r =>
    rw [name]
    split
    · exact ⟨List.suffix_cons t r, Nat.lt_succ_self _⟩
    · exact less_bad _
theorem targsG_ends {many : List Tk → Got (List Ty)} (hm : ∀ l, Got.Ends l (many l)) (l : List Tk) : Got.Ends l (targsG many l) := by
  unfold targsG
  split
  · rename_i h
    exact Less.ends (less_isT h (ends_bind (hm _) fun v q _ => ends_bind (Less.ends (must_less _ _)) fun _ _ _ => ends_self _ _))
  · exact ends_self _ _
theorem tyF_both (n : Nat) : (∀ l, Got.Less l (tyF n l)) ∧ ∀ acc l, Got.Ends l (moreF n acc l) := by
  induction n with
  | zero => exact ⟨fun l => by rw [tyF]; exact less_bad l, fun acc l => by rw [moreF]; exact ends_bad l⟩
  | succ n ih =>
    refine ⟨fun l => ?_, fun acc l => ?_⟩
    · rw [tyF_succ]
      exact less_bind (name_less l) fun t r _ => ends_bind (targsG_ends (fun l => ends_bind (Less.ends (ih.1 l)) fun _ _ _ => ih.2 _ _) r) fun _ _ _ => ends_self _ _
    · rw [moreF_succ]
      split
      · rename_i h
        exact Less.ends (less_isT h (ends_bind (Less.ends (ih.1 _)) fun _ _ _ => ih.2 _ _))
      · exact ends_self _ _
theorem tyF_less (n : Nat) (l : List Tk) : Got.Less l (tyF n l) := (tyF_both n).1 l
theorem moreF_ends (n : Nat) (acc : List Ty) (l : List Tk) : Got.Ends l (moreF n acc l) := (tyF_both n).2 acc l
theorem targsF_ends (n : Nat) (l : List Tk) : Got.Ends l (targsF n l) := targsG_ends (fun l => ends_bind (Less.ends (tyF_less n l)) fun _ _ _ => moreF_ends n _ _) l
theorem argsG_less {many : List Tk → Got (List Ex)} (hm : ∀ l, Got.Ends l (many l)) (e : List UInt8) (l : List Tk) : Got.Ends l (argsG many e l) := by
  unfold argsG
  split
  · rename_i h
    exact Less.ends (less_isT h (ends_self _ _))
  · exact ends_bind (hm _) fun v q _ => ends_bind (Less.ends (must_less _ _)) fun _ _ _ => ends_self _ _
theorem firstG_less {many : List Tk → Got (List Ex)} (hm : ∀ l, Got.Ends l (many l)) (n : Nat) (l : List Tk) : Got.Less l (firstG n many l) := by
  unfold firstG
  refine less_bind (tyF_less n l) fun t q _ => ?_
  split
  · exact ends_self _ _
  · exact ends_bind (Less.ends (must_less _ _)) fun _ _ _ => ends_bind (argsG_less hm _ _) fun _ _ _ => ends_self _ _
theorem restG_less {many : List Tk → Got (List Ex)} (hm : ∀ l, Got.Ends l (many l)) (n : Nat) (e : Ex) (l : List Tk) : Got.Less l (restG n many e l) := by
  unfold restG
  split
  · rename_i h
    exact less_isT h (ends_bind (Less.ends (tyF_less n _)) fun _ _ _ => ends_bind (Less.ends (must_less _ _)) fun _ _ _ => ends_self _ _)
  · refine less_bind (name_less l) fun s q _ => ends_bind (targsF_ends n _) fun ts q _ => ?_
    split
    · exact ends_self _ _
    · exact ends_bind (Less.ends (must_less _ _)) fun _ _ _ => ends_bind (argsG_less hm _ _) fun _ _ _ => ends_self _ _
theorem exF_all (n : Nat) : (∀ l, Got.Less l (exF n l)) ∧ (∀ acc l, Got.Ends l (moreX n acc l)) ∧ ∀ e l, Got.Ends l (restsF n e l) := by
  induction n with
  | zero => exact ⟨fun l => by rw [exF]; exact less_bad l, fun acc l => by rw [moreX]; exact ends_bad l, fun acc l => by rw [restsF]; exact ends_bad l⟩
  | succ n ih =>
    have hm : ∀ l, Got.Ends l (manyX n l) := fun l => ends_bind (Less.ends (ih.1 l)) fun _ _ _ => ih.2.1 _ _
    refine ⟨fun l => ?_, fun acc l => ?_, fun e l => ?_⟩
    · rw [exF_succ]
      exact less_bind (firstG_less hm n l) fun _ _ _ => ih.2.2 _ _
    · rw [moreX_succ]
      split
      · rename_i h
        exact Less.ends (less_isT h (ends_bind (Less.ends (ih.1 _)) fun _ _ _ => ih.2.1 _ _))
      · exact ends_self _ _
    · rw [restsF_succ]
      split
      · rename_i h
        exact Less.ends (less_isT h (ends_bind (Less.ends (restG_less hm n e _)) fun _ _ _ => ih.2.2 _ _))
      · exact ends_self _ _
theorem exF_less (n : Nat) (l : List Tk) : Got.Less l (exF n l) := (exF_all n).1 l
theorem moreX_ends (n : Nat) (acc : List Ex) (l : List Tk) : Got.Ends l (moreX n acc l) := (exF_all n).2.1 acc l
theorem restsF_ends (n : Nat) (e : Ex) (l : List Tk) : Got.Ends l (restsF n e l) := (exF_all n).2.2 e l
theorem manyX_ends (n : Nat) (l : List Tk) : Got.Ends l (manyX n l) := ends_bind (Less.ends (exF_less n l)) fun _ _ _ => moreX_ends n _ _
theorem argsF_ends (n : Nat) (e : List UInt8) (l : List Tk) : Got.Ends l (argsF n e l) := argsG_less (manyX_ends n) e l
theorem firstF_less (n : Nat) (l : List Tk) : Got.Less l (firstF n l) := firstG_less (manyX_ends n) n l
theorem restF_less (n : Nat) (e : Ex) (l : List Tk) : Got.Less l (restF n e l) := restG_less (manyX_ends n) n e l
end Rd
end Go.Proofs.YtbeejmlmplgaeaaDoor
