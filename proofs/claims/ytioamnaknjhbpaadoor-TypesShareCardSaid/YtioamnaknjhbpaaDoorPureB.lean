/- More plain words of layer 1: names by their bytes one after the other. No condition. -/
import Derived.Test.YtioamnaknjhbpaaDoorPure
namespace Go.Proofs.YtioamnaknjhbpaaDoor.Nm
open Go.Lib

/-- The first k bytes may all stand in a name. -/
def AllYet (l : List UInt8) (k : Nat) : Prop := ((l.take k).all fun c => goodB c.toNat) = true

theorem allYet_zero (l : List UInt8) : AllYet l 0 := by simp [AllYet]
theorem allYet_succ {s : ByteArray} {k : Nat} (hk : k < s.size) (h : AllYet s.data.toList k) (hg : goodB (s[k].toNat : Int) = true) : AllYet s.data.toList (k + 1) := by
  unfold AllYet at *
  have hl : k < s.data.toList.length := by rw [← size_eq]; exact hk
  rw [List.take_succ_eq_append_getElem hl, List.all_append, h]
  have e : s.data.toList[k] = s[k] := rfl
  simp only [List.all_cons, List.all_nil, Bool.and_true, Bool.true_and, e]
  exact hg
theorem allYet_all {s : ByteArray} (h : AllYet s.data.toList s.size) : (s.data.toList.all fun c => goodB c.toNat) = true := by
  unfold AllYet at h
  rwa [List.take_of_length_le (by rw [← size_eq]; omega)] at h
theorem not_all {s : ByteArray} {k : Nat} (hk : k < s.size) (hg : goodB (s[k].toNat : Int) = false) : (s.data.toList.all fun c => goodB c.toNat) = false := by
  have hl : k < s.data.toList.length := by rw [← size_eq]; exact hk
  rw [List.all_eq_false]
  refine ⟨s.data.toList[k], List.getElem_mem hl, ?_⟩
  have e : s.data.toList[k] = s[k] := rfl
  rw [e, hg]; simp
end Go.Proofs.YtioamnaknjhbpaaDoor.Nm
