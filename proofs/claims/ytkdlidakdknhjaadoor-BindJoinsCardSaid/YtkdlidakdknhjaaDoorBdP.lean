/- Signatures with types put in, and without the names of what they bind, in plain words. No program, no condition. -/
import Derived.Test.YtkdlidakdknhjaaDoorDcW
import Derived.Test.YtkdlidakdknhjaaDoorDcF
import Derived.Lib.ItoaNum
import Derived.Lib.ItoaLen
namespace Go.Proofs.YtkdlidakdknhjaaDoor.Nm
/-- P1.3 -/
def localL (i : Int) : List UInt8 := if i < 0 then [] else 36 :: Lib.decDigits i.toNat
end Go.Proofs.YtkdlidakdknhjaaDoor.Nm
namespace Go.Proofs.YtkdlidakdknhjaaDoor
open Go.RowKit

def loc (i : Nat) : ByteArray := ⟨(Nm.localL i).toArray⟩
/-- The first n local names, and they as types. -/
def locNames (n : Nat) : List ByteArray := (List.range n).map loc
def locs (n : Nat) : List Ty := (List.range n).map fun i => .mk (loc i) [] 0
theorem locs_len (n : Nat) : (locs n).length = n := by simp [locs]
theorem locNames_len (n : Nat) : (locNames n).length = n := by simp [locNames]
theorem locs_at {n i : Nat} (h : i < n) : (locs n)[i]? = some (.mk (loc i) [] 0) := by simp [locs, h]
theorem locNames_at {n i : Nat} (h : i < n) : (locNames n)[i]? = some (loc i) := by simp [locNames, h]
theorem loc_size (i : Nat) (h : i ≤ 9223372036854775807) : (loc i).size ≤ 22 := by
  have h1 : (loc i).size = (Nm.localL i).length := rfl
  have h2 := Lib.itoa_length_le (i : Int) (by omega) (by omega)
  rw [Lib.itoa, if_neg (by omega)] at h2
  rw [h1, Nm.localL, if_neg (by omega), List.length_cons]
  omega

namespace Fo
def subst (ns : List ByteArray) (us : List Ty) (f : Fo) : Fo := ⟨f.name, f.ty.subst ns us, f.off⟩
end Fo
namespace Sg
def names (s : Sg) : List ByteArray := s.fs.map Fo.name
def subst (ns : List ByteArray) (us : List Ty) (s : Sg) : Sg := ⟨s.name, s.fs.map (Fo.subst ns us), s.ps.map (Fo.subst ns us), s.res.subst ns us, s.off⟩
/-- Formals named by their places, parameters by nothing. -/
def bare (s : Sg) : Sg := ⟨s.name, s.fs.mapIdx fun i f => ⟨loc i, f.ty, f.off⟩, s.ps.map fun p => ⟨⟨#[]⟩, p.ty, p.off⟩, s.res, s.off⟩
def canon (s : Sg) : Sg := (s.subst s.names (locs s.fs.length)).bare
def alike (a b : Sg) : Bool := Sg.sameX false a.canon b.canon
end Sg

theorem pick_at {s : ByteArray} {u : Ty} : ∀ {ns : List ByteArray} {us : List Ty}, Ty.pick s ns us = some u → ∃ (k : Nat) (n : ByteArray), ns[k]? = some n ∧ us[k]? = some u ∧ n.data.toList = s.data.toList
  | [], us, h => by rw [Ty.pick] at h; cases h
  | n :: ns, us, h => by
    rw [Ty.pick] at h
    by_cases he : n.data.toList = s.data.toList
    · rw [if_pos he] at h
      cases us with
      | nil => cases h
      | cons v r => exact ⟨0, n, rfl, by simpa using h, he⟩
    · rw [if_neg he] at h
      obtain ⟨k, m, h1, h2, h3⟩ := pick_at h
      refine ⟨k + 1, m, by simpa using h1, ?_, h3⟩
      cases us with
      | nil => simp at h2
      | cons v r => simpa using h2
/-- Each name stands for itself: nothing changes. -/
theorem subst_same {ns : List ByteArray} {us : List Ty} (h : ∀ (k : Nat) (n : ByteArray) (u : Ty), ns[k]? = some n → us[k]? = some u → ∃ o : Int, u = .mk n [] o) : ∀ t : Ty, t.subst ns us = t := by
  refine Ty.ind fun s xs o ih => ?_
  cases xs with
  | nil =>
    rw [Ty.subst]
    cases hp : Ty.pick s ns us with
    | none => rfl
    | some u =>
      obtain ⟨k, n, h1, h2, h3⟩ := pick_at hp
      obtain ⟨p, rfl⟩ := h k n u h1 h2
      rw [bytes_eq h3]
  | cons a r =>
    rw [Ty.subst, ih a (by simp), Ty.substL_map]
    rw [List.map_congr_left (g := id) (fun t ht => ih t (by simp [ht])), List.map_id]
namespace Sg
theorem subst_id {ns : List ByteArray} {us : List Ty} (h : ∀ t : Ty, t.subst ns us = t) (s : Sg) : s.subst ns us = s := by
  have hf : ∀ l : List Fo, l.map (Fo.subst ns us) = l := fun l => by
    rw [List.map_congr_left (g := id) (fun f _ => by show Fo.subst ns us f = f; rw [Fo.subst, h]), List.map_id]
  rw [subst, hf, hf, h]
theorem bare_bare (s : Sg) : s.bare.bare = s.bare := by
  simp only [bare, List.map_map, List.mapIdx_mapIdx]
  rfl
theorem bare_names (s : Sg) : s.bare.names = locNames s.fs.length := by
  refine List.ext_getElem? fun i => ?_
  simp only [names, bare, List.getElem?_map, List.getElem?_mapIdx, locNames]
  by_cases h : i < s.fs.length
  · simp [h]
  · simp [h]
theorem bare_len (s : Sg) : s.bare.fs.length = s.fs.length := by simp [bare]
theorem canon_canon (s : Sg) : s.canon.canon = s.canon := by
  have h : s.canon.subst s.canon.names (locs s.canon.fs.length) = s.canon := by
    refine subst_id (subst_same fun k n u h1 h2 => ?_) _
    rw [show s.canon.names = locNames (s.subst s.names (locs s.fs.length)).fs.length from bare_names _] at h1
    have hk := (List.getElem?_eq_some_iff.1 h1).1
    rw [locNames_len] at hk
    rw [show s.canon.fs.length = (s.subst s.names (locs s.fs.length)).fs.length from bare_len _, locs_at hk] at h2
    rw [locNames_at hk] at h1
    injection h1 with h1
    injection h2 with h2
    exact ⟨0, by rw [← h1, ← h2]⟩
  show (s.canon.subst s.canon.names (locs s.canon.fs.length)).bare = s.canon
  rw [h]
  exact bare_bare _
end Sg

/-! ### being the same is an equivalence -/
theorem sameBy_symm {α : Type} {p : α → α → Bool} (h : ∀ a b, p a b = p b a) : ∀ xs ys : List α, sameBy p xs ys = sameBy p ys xs
  | [], [] => rfl
  | [], _ :: _ => rfl
  | _ :: _, [] => rfl
  | a :: r, b :: q => by rw [sameBy, sameBy, h a b, sameBy_symm h r q]
theorem sameBy_trans {α : Type} {p : α → α → Bool} (h : ∀ a b c, p a b = true → p a c = p b c) : ∀ xs ys zs : List α, sameBy p xs ys = true → sameBy p xs zs = sameBy p ys zs
  | [], [], _, _ => rfl
  | [], _ :: _, _, e => by cases e
  | _ :: _, [], _, e => by cases e
  | a :: r, b :: q, [], _ => rfl
  | a :: r, b :: q, c :: t, e => by
    rw [sameBy, Bool.and_eq_true] at e
    rw [sameBy, sameBy, h a b c e.1, sameBy_trans h r q t e.2]
theorem bytesEq_symm (a b : ByteArray) : bytesEq a b = bytesEq b a := by
  unfold bytesEq
  by_cases h : a.data.toList = b.data.toList
  · simp [h]
  · rw [beq_eq_false_iff_ne.2 h, beq_eq_false_iff_ne.2 (Ne.symm h)]
theorem bytesEq_trans (a b c : ByteArray) (h : bytesEq a b = true) : bytesEq a c = bytesEq b c := by
  unfold bytesEq at *
  rw [eq_of_beq h]
theorem cmp0_symm (t u : Ty) : (Ty.cmp t u == 0) = (Ty.cmp u t == 0) := by
  have := Ty.cmp_neg t u
  by_cases h : Ty.cmp t u = 0
  · rw [this, h]; rfl
  · rw [beq_eq_false_iff_ne.2 h, beq_eq_false_iff_ne.2 (by omega)]
theorem cmp0_trans (t u v : Ty) (h : (Ty.cmp t u == 0) = true) : (Ty.cmp t v == 0) = (Ty.cmp u v == 0) := by rw [Ty.cmp_zero t u (eq_of_beq h) v]
namespace Fo
theorem same_symm (f g : Fo) : sameX false f g = sameX false g f := by
  simp only [sameX, Bool.not_false, Bool.true_or, Bool.and_true]
  rw [bytesEq_symm, cmp0_symm]
theorem same_trans (f g h : Fo) (e : sameX false f g = true) : sameX false f h = sameX false g h := by
  simp only [sameX, Bool.not_false, Bool.true_or, Bool.and_true, Bool.and_eq_true] at *
  rw [bytesEq_trans _ _ h.name e.1, cmp0_trans _ _ h.ty e.2]
theorem exact (f : Fo) : sameX true f f = true := by simp [sameX, bytesEq, cmp_refl, Ty.eqv_refl]
theorem same (f : Fo) : sameX false f f = true := by simp [sameX, bytesEq, cmp_refl]
end Fo
namespace Sg
theorem same_symm (a b : Sg) : sameX false a b = sameX false b a := by
  simp only [sameX, Bool.not_false, Bool.true_or, Bool.and_true]
  rw [bytesEq_symm, cmp0_symm, sameBy_symm Fo.same_symm, sameBy_symm Fo.same_symm a.ps]
theorem same_trans (a b c : Sg) (e : sameX false a b = true) : sameX false a c = sameX false b c := by
  simp only [sameX, Bool.not_false, Bool.true_or, Bool.and_true, Bool.and_eq_true] at *
  obtain ⟨⟨⟨e1, e2⟩, e3⟩, e4⟩ := e
  rw [bytesEq_trans _ _ c.name e1, cmp0_trans _ _ c.res e4, sameBy_trans Fo.same_trans _ _ c.fs e2, sameBy_trans Fo.same_trans _ _ c.ps e3]
theorem exact (a : Sg) : sameX true a a = true := by
  rw [sameX, sameBy_refl Fo.exact, sameBy_refl Fo.exact, cmp_refl, Ty.eqv_refl, bytesEq_refl]
  simp
theorem same (a : Sg) : sameX false a a = true := by
  rw [sameX, sameBy_refl Fo.same, sameBy_refl Fo.same, cmp_refl, bytesEq_refl]
  simp
theorem alike_refl (a : Sg) : alike a a = true := same _
theorem alike_symm (a b : Sg) : alike a b = alike b a := same_symm _ _
theorem alike_trans (a b c : Sg) (h : alike a b = true) : alike a c = alike b c := same_trans _ _ _ h
theorem alike_canon (a : Sg) : alike a a.canon = true := by unfold alike; rw [canon_canon]; exact same _
end Sg

/-! ### how large they are -/
theorem Sg.wt_bare_le {s : Sg} (hn : s.fs.length ≤ 9223372036854775807) : s.bare.wt ≤ s.wt := by
  have h1 : ∀ (l : List Fo) (k : Nat), k + l.length ≤ 9223372036854775807 → sumBy Fo.wt (l.mapIdx fun i f => ⟨loc (k + i), f.ty, f.off⟩) ≤ sumBy Fo.wt l := by
    intro l
    induction l with
    | nil => intro k _; exact Nat.le_refl _
    | cons f r ih =>
      intro k hk
      rw [List.length_cons] at hk
      rw [List.mapIdx_cons, sumBy, sumBy]
      have h2 := ih (k + 1) (by omega)
      have h3 : (fun i (f : Fo) => (⟨loc (k + (i + 1)), f.ty, f.off⟩ : Fo)) = fun i f => ⟨loc (k + 1 + i), f.ty, f.off⟩ := by
        funext i f; rw [show k + (i + 1) = k + 1 + i by omega]
      rw [h3]
      have h4 := loc_size (k + 0) (by omega)
      have h5 : Fo.wt ⟨loc (k + 0), f.ty, f.off⟩ ≤ Fo.wt f := by unfold Fo.wt; simp only; omega
      omega
  have h2 : ∀ l : List Fo, sumBy Fo.wt (l.map fun p => ⟨⟨#[]⟩, p.ty, p.off⟩) ≤ sumBy Fo.wt l := by
    intro l
    induction l with
    | nil => exact Nat.le_refl _
    | cons f r ih =>
      rw [List.map_cons, sumBy, sumBy]
      have h5 : Fo.wt ⟨⟨#[]⟩, f.ty, f.off⟩ ≤ Fo.wt f := by unfold Fo.wt; simp only; have : (⟨#[]⟩ : ByteArray).size = 0 := rfl; omega
      omega
  have h3 := h1 s.fs 0 (by omega)
  simp only [Nat.zero_add] at h3
  have h4 := h2 s.ps
  unfold Sg.wt
  simp only [Sg.bare]
  omega
theorem subst_wt {ns : List ByteArray} {us : List Ty} (h : ∀ u ∈ us, u.wt = 1) : ∀ t : Ty, (t.subst ns us).wt ≤ t.wt := by
  refine Ty.ind fun s xs o ih => ?_
  cases xs with
  | nil =>
    rw [Ty.subst]
    cases hp : Ty.pick s ns us with
    | none => exact Nat.le_refl _
    | some u =>
      obtain ⟨k, n, h1, h2, h3⟩ := pick_at hp
      have h4 := h u (List.mem_of_getElem? h2)
      obtain ⟨a, b, p⟩ := u
      have h5 := Ty.wt_pos (.mk s [] o)
      simp only [Ty.wt] at h4 h5 ⊢
      omega
  | cons a r =>
    have hL : ∀ l : List Ty, (∀ t ∈ l, (t.subst ns us).wt ≤ t.wt) → Ty.wtL (Ty.substL ns us l) ≤ Ty.wtL l := by
      intro l
      induction l with
      | nil => intro _; simp only [Ty.substL]; exact Nat.le_refl _
      | cons x q ih2 =>
        intro hx
        have h1 := hx x (by simp)
        have h2 := ih2 fun t ht => hx t (by simp [ht])
        simp only [Ty.substL, Ty.wtL]
        omega
    have h1 := hL (a :: r) ih
    rw [Ty.substL_eq _ _ _ _ _ (by simp)]
    simp only [Ty.wt]
    omega
theorem Sg.wt_subst {ns : List ByteArray} {us : List Ty} (h : ∀ u ∈ us, u.wt = 1) (s : Sg) : (s.subst ns us).wt ≤ s.wt := by
  have h1 : ∀ l : List Fo, sumBy Fo.wt (l.map (Fo.subst ns us)) ≤ sumBy Fo.wt l := by
    intro l
    induction l with
    | nil => exact Nat.le_refl _
    | cons f r ih =>
      have h2 := subst_wt (ns := ns) h f.ty
      rw [List.map_cons, sumBy, sumBy]
      have h5 : Fo.wt (Fo.subst ns us f) ≤ Fo.wt f := by unfold Fo.wt Fo.subst; simp only; omega
      omega
  have h3 := h1 s.fs
  have h4 := h1 s.ps
  have h5 := subst_wt (ns := ns) h s.res
  unfold Sg.wt
  simp only [Sg.subst]
  omega
theorem locs_wt {n : Nat} (hn : n ≤ 1000000) : ∀ u ∈ locs n, u.wt = 1 := by
  intro u hu
  simp only [locs, List.mem_map, List.mem_range] at hu
  obtain ⟨i, hi, rfl⟩ := hu
  have := loc_size i (by omega)
  simp only [Ty.wt, Ty.wtL]
  omega
theorem Sg.wt_canon {s : Sg} (h : s.wt ≤ 1990) : s.canon.wt ≤ s.wt := by
  have h1 := Sg.len_f s
  refine Nat.le_trans (Sg.wt_bare_le ?_) (Sg.wt_subst (locs_wt (by omega)) s)
  simp only [Sg.subst, List.length_map]
  omega
end Go.Proofs.YtkdlidakdknhjaaDoor
