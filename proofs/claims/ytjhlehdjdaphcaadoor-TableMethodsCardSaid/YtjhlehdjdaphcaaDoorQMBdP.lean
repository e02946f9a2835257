/- Signatures with types put in, and without the names of what they bind, in plain words. No program, no condition. -/
import Derived.Test.YtjhlehdjdaphcaaDoorQMDcF
import Derived.Lib.ItoaNum
import Derived.Lib.ItoaLen
namespace Go.Proofs.YtjhlehdjdaphcaaDoor.Nm
/-- P1.3 -/
def localL (i : Int) : List UInt8 := if i < 0 then [] else 36 :: Lib.decDigits i.toNat
end Go.Proofs.YtjhlehdjdaphcaaDoor.Nm
namespace Go.Proofs.YtjhlehdjdaphcaaDoor
open Go.RowKit

def loc (i : Nat) : ByteArray := ⟨(Nm.localL i).toArray⟩
def locs (n : Nat) : List Ty := (List.range n).map fun i => .mk (loc i) [] 0
theorem locs_len (n : Nat) : (locs n).length = n := by simp [locs]
theorem locs_at {n i : Nat} (h : i < n) : (locs n)[i]? = some (.mk (loc i) [] 0) := by simp [locs, h]
theorem loc_size (i : Nat) (h : i ≤ 9223372036854775807) : (loc i).size ≤ 22 := by
  have h1 : (loc i).size = (Nm.localL i).length := rfl
  have h2 := Lib.itoa_length_le (i : Int) (by omega) (by omega)
  rw [Lib.itoa, if_neg (by omega)] at h2
  rw [h1, Nm.localL, if_neg (by omega), List.length_cons]
  omega

namespace Fo
def subst (ns : List ByteArray) (us : List Ty) (f : Fo) : Fo := ⟨f.name, f.ty.subst ns us, f.off⟩
end Fo
namespace Sg
def names (s : Sg) : List ByteArray := s.fs.map Fo.name
def subst (ns : List ByteArray) (us : List Ty) (s : Sg) : Sg := ⟨s.name, s.fs.map (Fo.subst ns us), s.ps.map (Fo.subst ns us), s.res.subst ns us, s.off⟩
/-- Formals named by their places, parameters by nothing. -/
def bare (s : Sg) : Sg := ⟨s.name, s.fs.mapIdx fun i f => ⟨loc i, f.ty, f.off⟩, s.ps.map fun p => ⟨⟨#[]⟩, p.ty, p.off⟩, s.res, s.off⟩
def canon (s : Sg) : Sg := (s.subst s.names (locs s.fs.length)).bare
end Sg

theorem pick_at {s : ByteArray} {u : Ty} : ∀ {ns : List ByteArray} {us : List Ty}, Ty.pick s ns us = some u → ∃ (k : Nat) (n : ByteArray), ns[k]? = some n ∧ us[k]? = some u ∧ n.data.toList = s.data.toList
  | [], us, h => by rw [Ty.pick] at h; cases h
  | n :: ns, us, h => by
    rw [Ty.pick] at h
    by_cases he : n.data.toList = s.data.toList
    · rw [if_pos he] at h
      cases us with
      | nil => cases h
      | cons v r => exact ⟨0, n, rfl, by simpa using h, he⟩
    · rw [if_neg he] at h
      obtain ⟨k, m, h1, h2, h3⟩ := pick_at h
      refine ⟨k + 1, m, by simpa using h1, ?_, h3⟩
      cases us with
      | nil => simp at h2
      | cons v r => simpa using h2
namespace Sg
end Sg

/-! ### being the same is an equivalence -/
namespace Fo
theorem exact (f : Fo) : sameX true f f = true := by simp [sameX, bytesEq, cmp_refl, Ty.eqv_refl]
end Fo
namespace Sg
theorem exact (a : Sg) : sameX true a a = true := by
  rw [sameX, sameBy_refl Fo.exact, sameBy_refl Fo.exact, cmp_refl, Ty.eqv_refl, bytesEq_refl]
  simp
end Sg

/-! ### how large they are -/
theorem Sg.wt_bare_le {s : Sg} (hn : s.fs.length ≤ 9223372036854775807) : s.bare.wt ≤ s.wt := by
  have h1 : ∀ (l : List Fo) (k : Nat), k + l.length ≤ 9223372036854775807 → sumBy Fo.wt (l.mapIdx fun i f => ⟨loc (k + i), f.ty, f.off⟩) ≤ sumBy Fo.wt l := by
    intro l
    induction l with
    | nil => intro k _; exact Nat.le_refl _
    | cons f r ih =>
      intro k hk
      rw [List.length_cons] at hk
      rw [List.mapIdx_cons, sumBy, sumBy]
      have h2 := ih (k + 1) (by omega)
      have h3 : (fun i (f : Fo) => (⟨loc (k + (i + 1)), f.ty, f.off⟩ : Fo)) = fun i f => ⟨loc (k + 1 + i), f.ty, f.off⟩ := by
        funext i f; rw [show k + (i + 1) = k + 1 + i by omega]
      rw [h3]
      have h4 := loc_size (k + 0) (by omega)
      have h5 : Fo.wt ⟨loc (k + 0), f.ty, f.off⟩ ≤ Fo.wt f := by unfold Fo.wt; simp only; omega
      omega
  have h2 : ∀ l : List Fo, sumBy Fo.wt (l.map fun p => ⟨⟨#[]⟩, p.ty, p.off⟩) ≤ sumBy Fo.wt l := by
    intro l
    induction l with
    | nil => exact Nat.le_refl _
    | cons f r ih =>
      rw [List.map_cons, sumBy, sumBy]
      have h5 : Fo.wt ⟨⟨#[]⟩, f.ty, f.off⟩ ≤ Fo.wt f := by unfold Fo.wt; simp only; have : (⟨#[]⟩ : ByteArray).size = 0 := rfl; omega
      omega
  have h3 := h1 s.fs 0 (by omega)
  simp only [Nat.zero_add] at h3
  have h4 := h2 s.ps
  unfold Sg.wt
  simp only [Sg.bare]
  omega
theorem subst_wt {ns : List ByteArray} {us : List Ty} (h : ∀ u ∈ us, u.wt = 1) : ∀ t : Ty, (t.subst ns us).wt ≤ t.wt := by
  refine Ty.ind fun s xs o ih => ?_
  cases xs with
  | nil =>
    rw [Ty.subst]
    cases hp : Ty.pick s ns us with
    | none => exact Nat.le_refl _
    | some u =>
      obtain ⟨k, n, h1, h2, h3⟩ := pick_at hp
      have h4 := h u (List.mem_of_getElem? h2)
      obtain ⟨a, b, p⟩ := u
      have h5 := Ty.wt_pos (.mk s [] o)
      simp only [Ty.wt] at h4 h5 ⊢
      omega
  | cons a r =>
    have hL : ∀ l : List Ty, (∀ t ∈ l, (t.subst ns us).wt ≤ t.wt) → Ty.wtL (Ty.substL ns us l) ≤ Ty.wtL l := by
      intro l
      induction l with
      | nil => intro _; simp only [Ty.substL]; exact Nat.le_refl _
      | cons x q ih2 =>
        intro hx
        have h1 := hx x (by simp)
        have h2 := ih2 fun t ht => hx t (by simp [ht])
        simp only [Ty.substL, Ty.wtL]
        omega
    have h1 := hL (a :: r) ih
    rw [Ty.substL_eq _ _ _ _ _ (by simp)]
    simp only [Ty.wt]
    omega
theorem Sg.wt_subst {ns : List ByteArray} {us : List Ty} (h : ∀ u ∈ us, u.wt = 1) (s : Sg) : (s.subst ns us).wt ≤ s.wt := by
  have h1 : ∀ l : List Fo, sumBy Fo.wt (l.map (Fo.subst ns us)) ≤ sumBy Fo.wt l := by
    intro l
    induction l with
    | nil => exact Nat.le_refl _
    | cons f r ih =>
      have h2 := subst_wt (ns := ns) h f.ty
      rw [List.map_cons, sumBy, sumBy]
      have h5 : Fo.wt (Fo.subst ns us f) ≤ Fo.wt f := by unfold Fo.wt Fo.subst; simp only; omega
      omega
  have h3 := h1 s.fs
  have h4 := h1 s.ps
  have h5 := subst_wt (ns := ns) h s.res
  unfold Sg.wt
  simp only [Sg.subst]
  omega
theorem locs_wt {n : Nat} (hn : n ≤ 1000000) : ∀ u ∈ locs n, u.wt = 1 := by
  intro u hu
  simp only [locs, List.mem_map, List.mem_range] at hu
  obtain ⟨i, hi, rfl⟩ := hu
  have := loc_size i (by omega)
  simp only [Ty.wt, Ty.wtL]
  omega
theorem Sg.wt_canon {s : Sg} (h : s.wt ≤ 1990) : s.canon.wt ≤ s.wt := by
  have h1 := Sg.len_f s
  refine Nat.le_trans (Sg.wt_bare_le ?_) (Sg.wt_subst (locs_wt (by omega)) s)
  simp only [Sg.subst, List.length_map]
  omega
end Go.Proofs.YtjhlehdjdaphcaaDoor
