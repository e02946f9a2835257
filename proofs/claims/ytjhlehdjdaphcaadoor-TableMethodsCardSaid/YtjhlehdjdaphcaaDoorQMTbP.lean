/- Tables of declarations, in plain words: what is found by a key, fields, specifications, methods. No program, no condition. -/
import Derived.Test.YtjhlehdjdaphcaaDoorQMBdP
namespace Go.Proofs.YtjhlehdjdaphcaaDoor
open Go.RowKit

/-- What a declaration is found by: is it a method, its name, the method's name. -/
abbrev Ky := Bool × List UInt8 × List UInt8
def Dc.ky (d : Dc) : Option Ky :=
  if d.kind = 1 ∨ d.kind = 2 then some (false, d.name.data.toList, []) else if d.kind = 3 then some (true, d.name.data.toList, d.sig.name.data.toList) else none
/-- The first declaration with a key. -/
def idxK (ds : List Dc) (k : Ky) : Option Nat := ds.findIdx? fun d => d.ky == some k
theorem idx_nil (k : Ky) : idxK [] k = none := rfl
theorem idx_step {ds : List Dc} {n : Nat} {d : Dc} (h : ds[n]? = some d) (k : Ky) : idxK (ds.take (n + 1)) k = (idxK (ds.take n) k).or (if d.ky = some k then some n else none) := by
  have hn := (List.getElem?_eq_some_iff.1 h).1
  rw [Ex.take_at h, idxK, List.findIdx?_append]
  have e : (ds.take n).length = n := by rw [List.length_take]; omega
  rw [e]
  show (idxK (ds.take n) k).or _ = _
  congr 1
  by_cases hd : d.ky = some k
  · simp [hd, List.findIdx?_cons]
  · simp [hd, List.findIdx?_cons]
theorem idx_some {ds : List Dc} {k : Ky} {i : Nat} (h : idxK ds k = some i) : ∃ d, ds[i]? = some d ∧ d.ky = some k ∧ ∀ j e, j < i → ds[j]? = some e → e.ky ≠ some k := by
  rw [idxK, List.findIdx?_eq_some_iff_getElem] at h
  obtain ⟨h1, h2, h3⟩ := h
  refine ⟨ds[i], List.getElem?_eq_getElem h1, by simpa using h2, fun j e hj he hk => ?_⟩
  have hjl := (List.getElem?_eq_some_iff.1 he).1
  have h4 := h3 j hj
  rw [List.getElem?_eq_getElem hjl] at he
  obtain rfl := Option.some.inj he
  exact h4 (by simp [hk])
theorem idx_at {ds : List Dc} {k : Ky} {i : Nat} {d : Dc} (h : ∀ j e, j < i → ds[j]? = some e → e.ky ≠ some k) (hd : ds[i]? = some d) (he : d.ky = some k) : idxK ds k = some i := by
  rw [idxK, List.findIdx?_eq_some_iff_getElem]
  have hl := (List.getElem?_eq_some_iff.1 hd).1
  rw [List.getElem?_eq_getElem hl] at hd
  obtain rfl := Option.some.inj hd
  exact ⟨hl, by simp [he], fun j hj hp => h j _ hj (List.getElem?_eq_getElem (by omega)) (by simpa using hp)⟩
theorem idx_none {ds : List Dc} {k : Ky} (h : ∀ j e, j < ds.length → ds[j]? = some e → e.ky ≠ some k) : idxK ds k = none := by
  rw [idxK, List.findIdx?_eq_none_iff]
  intro d hd
  obtain ⟨j, hj, rfl⟩ := List.getElem_of_mem hd
  have := h j _ hj (List.getElem?_eq_getElem hj)
  simpa using this
theorem idx_lt {ds : List Dc} {k : Ky} {i : Nat} (h : idxK ds k = some i) : i < ds.length := by
  obtain ⟨d, h1, _⟩ := idx_some h
  exact (List.getElem?_eq_some_iff.1 h1).1
/-- It is first exactly if none before it has its key. -/
theorem idx_first {ds : List Dc} {k : Ky} {n : Nat} {d : Dc} (h : ds[n]? = some d) (hk : d.ky = some k) : (idxK ds k = some n) ↔ (idxK (ds.take n) k = none) := by
  constructor
  · intro h1
    obtain ⟨_, _, _, h2⟩ := idx_some h1
    refine idx_none fun j e hj he => ?_
    rw [List.length_take] at hj
    rw [List.getElem?_take_of_lt (by omega)] at he
    exact h2 j e (by omega) he
  · intro h1
    refine idx_at (fun j e hj he hk2 => ?_) h hk
    have : idxK (ds.take n) k ≠ none := by
      rw [idxK, Ne, List.findIdx?_eq_none_iff]
      intro h3
      have h4 := h3 e (List.mem_of_getElem? (i := j) (by rw [List.getElem?_take_of_lt hj]; exact he))
      simp [hk2] at h4
    exact this h1
def atK (ds : List Dc) (k : Ky) : Dc := ((idxK ds k).bind (ds[·]?)).getD Dc.none?
theorem atK_some {ds : List Dc} {k : Ky} {i : Nat} {d : Dc} (h : idxK ds k = some i) (hd : ds[i]? = some d) : atK ds k = d := by
  rw [atK, h]
  simp [hd]
theorem atK_none {ds : List Dc} {k : Ky} (h : idxK ds k = none) : atK ds k = Dc.none? := by
  rw [atK, h]; rfl
theorem none_mem {ds : List Dc} {k : Ky} : atK ds k = Dc.none? ∨ atK ds k ∈ ds := by
  cases h : idxK ds k with
  | none => exact .inl (atK_none h)
  | some i =>
    obtain ⟨d, hd, _⟩ := idx_some h
    exact .inr (by rw [atK_some h hd]; exact List.mem_of_getElem? hd)

/-- The declaration of a type, of a method. -/
abbrev tyK (s : ByteArray) : Ky := (false, s.data.toList, [])
abbrev mtK (s m : ByteArray) : Ky := (true, s.data.toList, m.data.toList)
def tyD (ds : List Dc) (s : ByteArray) : Dc := atK ds (tyK s)
def instT (ds : List Dc) (x : Ty) (kind : Int) : Bool := ((tyD ds x.name).kind == kind) && ((tyD ds x.name).fs.length == x.args.length)
def fieldsT (ds : List Dc) (x : Ty) : List Fo := (tyD ds x.name).ms.map (Fo.subst ((tyD ds x.name).fs.map Fo.name) x.args)
/-- Is the i-th declaration the method of a struct of this name? -/
def isMt (ds : List Dc) (s : List UInt8) (i : Nat) : Bool :=
  match ds[i]? with
  | some d => (d.kind == 3) && (d.name.data.toList == s) && (idxK ds (true, s, d.sig.name.data.toList) == some i)
  | none => false
def mlist (ds : List Dc) (s : List UInt8) (n : Nat) : List Nat := (List.range n).filter (isMt ds s)
theorem mlist_step (ds : List Dc) (s : List UInt8) (n : Nat) : mlist ds s (n + 1) = mlist ds s n ++ if isMt ds s n then [n] else [] := by
  rw [mlist, mlist, List.range_succ, List.filter_append]
  congr 1
  by_cases h : isMt ds s n = true <;> simp [h]
theorem mlist_lt {ds : List Dc} {s : List UInt8} {n i : Nat} (h : i ∈ mlist ds s n) : i < n := by
  rw [mlist, List.mem_filter, List.mem_range] at h
  exact h.1
theorem mlist_len (ds : List Dc) (s : List UInt8) (n : Nat) : (mlist ds s n).length ≤ n := by
  have := List.length_filter_le (isMt ds s) (List.range n)
  rw [List.length_range] at this
  exact this
/-- The signature that the i-th declaration gives, if it has as many variables. -/
def mSig (ds : List Dc) (x : Ty) (i : Nat) : List Sg :=
  match ds[i]? with
  | some d => if d.vs.length = x.args.length then [d.sig.canon.subst d.vs x.args] else []
  | none => []
def methodsL (ds : List Dc) (x : Ty) : List Sg := (mlist ds x.name.data.toList ds.length).flatMap (mSig ds x)
def methodsT (ds : List Dc) (x : Ty) : List Sg := if instT ds x 1 then methodsL ds x else []
def methodT (ds : List Dc) (x : Ty) (m : ByteArray) : Option Nat :=
  (idxK ds (mtK x.name m)).bind fun i => if instT ds x 1 && ((ds[i]?.getD Dc.none?).vs.length == x.args.length) then some i else none
/-- As the reference asks. -/
def mRef (ds : List Dc) (x : Ty) (i : Nat) : List Sg :=
  match ds[i]? with
  | some d => if d.kind = 3 ∧ d.name.data.toList = x.name.data.toList ∧ methodT ds x d.sig.name = some i then [d.sig.canon.subst d.vs x.args] else []
  | none => []
def methodsR (ds : List Dc) (x : Ty) (n : Nat) : List Sg := (List.range n).flatMap (mRef ds x)
theorem methodsR_step (ds : List Dc) (x : Ty) (n : Nat) : methodsR ds x (n + 1) = methodsR ds x n ++ mRef ds x n := by
  simp [methodsR, List.range_succ]
theorem flatMap_filter' {α β : Type} (p : α → Bool) (f : α → List β) : ∀ l : List α, (l.filter p).flatMap f = l.flatMap fun a => if p a then f a else []
  | [] => rfl
  | a :: r => by
    rw [List.filter_cons, List.flatMap_cons, ← flatMap_filter' p f r]
    by_cases h : p a = true
    · rw [if_pos h, if_pos h, List.flatMap_cons]
    · rw [if_neg h, if_neg h, List.nil_append]
theorem methodsR_eq (ds : List Dc) (x : Ty) : methodsR ds x ds.length = methodsT ds x := by
  unfold methodsR methodsT methodsL mlist
  rw [flatMap_filter']
  have key : ∀ i, mRef ds x i = if instT ds x 1 then (if isMt ds x.name.data.toList i then mSig ds x i else []) else [] := fun i => by
    unfold mRef isMt mSig
    cases hd : ds[i]? with
    | none => simp
    | some d =>
      simp only
      have hm : methodT ds x d.sig.name = some i ↔ idxK ds (mtK x.name d.sig.name) = some i ∧ instT ds x 1 = true ∧ d.vs.length = x.args.length := by
        unfold methodT
        cases hi : idxK ds (mtK x.name d.sig.name) with
        | none => simp
        | some j =>
          simp only [Option.bind_some]
          by_cases hj : j = i
          · subst hj
            rw [hd]
            simp
          · constructor
            · intro h
              split at h
              · exact absurd (Option.some.inj h) hj
              · cases h
            · rintro ⟨h, _⟩
              exact absurd (Option.some.inj h) hj
      cases hI : instT ds x 1
      · rw [if_neg (fun h => by have := (hm.1 h.2.2).2.1; rw [hI] at this; cases this)]
        simp
      · by_cases h1 : d.kind = 3
        · by_cases h2 : d.name.data.toList = x.name.data.toList
          · by_cases h3 : idxK ds (mtK x.name d.sig.name) = some i
            · by_cases h4 : d.vs.length = x.args.length
              · rw [if_pos ⟨h1, h2, hm.2 ⟨h3, hI, h4⟩⟩]
                simp [h1, h2, h3, h4]
              · rw [if_neg (fun h => h4 (hm.1 h.2.2).2.2)]
                simp [h1, h2, h3, h4]
            · rw [if_neg (fun h => h3 (hm.1 h.2.2).1)]
              simp [h1, h2, h3]
          · rw [if_neg (fun h => h2 h.2.1), beq_eq_false_iff_ne.2 h2]
            simp
        · rw [if_neg (fun h => h1 h.1)]
          simp [h1]
  cases hI : instT ds x 1
  · rw [if_neg (by simp)]
    rw [List.flatMap_eq_nil_iff]
    intro i _
    rw [key, hI]
    rfl
  · rw [if_pos rfl]
    congr 1
    funext i
    rw [key, hI]
    rfl
end Go.Proofs.YtjhlehdjdaphcaaDoor
