/- The walks of name.Is and of its closure. -/
import Derived.Test.YtioamnaknjhbpaaDoorNmB
import Derived.Test.YtioamnaknjhbpaaDoorShelf
namespace Go.Proofs.YtioamnaknjhbpaaDoor
open Go.RowKit Go.Lib


set_option maxHeartbeats 400000 in
theorem wrong_pred (w : World) : PredAt Tryd.prog 50 #[] encR Nm.wrongR w := fun W r _ => by
  unfold FnGives
  by_cases h : 128 ≤ r
  · have e : Nm.wrongR r = true := by simp [Nm.wrongR, h]
    have E := Lib.hid e
    have z : (128 : Int) ≤ (r : Int) := by omega
    clear e h
    go_enter Tryd.func50, Tryd.ntmps50
    go_wp2
    go_ret
    exact ⟨ret_bool E.out.symm, 0, rfl⟩
  · have hr : (0 : Int) ≤ (r : Int) ∧ (r : Int) ≤ 255 := by omega
    have e : Nm.wrongR r = !Nm.goodB r := by simp [Nm.wrongR, h]
    have E := Lib.hid e
    have z : (r : Int) < 128 := by omega
    have zd : decide ((128 : Int) ≤ (r : Int)) = false := by simpa using z
    clear e h
    obtain ⟨h0, h1⟩ := hr
    go_enter Tryd.func50, Tryd.ntmps50
    go_wp2_with (go_at_call 51; refine (nm_within_any (r : Int) h0 h1 _).mono ?_; rintro e w' ⟨rfl, rfl⟩)
    go_ret
    exact ⟨ret_bool E.out.symm, 0, rfl⟩

set_option maxHeartbeats 400000 in
theorem nm_is_any (s : ByteArray) (w : World) (hE : ResVar w) :
    Calls Tryd.prog 39 #[.string s] w fun e w' => e = .returned (.bool (Nm.isB s.data.toList)) ∧ Below w.heap.size w w' := by
  by_cases h0 : s.size = 0
  · have e1 : s.toList = [] := by rw [Lib.toList_data]; have := Lib.size_eq s; exact List.length_eq_zero_iff.1 (by omega)
    have e2 : (!s.toList.isEmpty) = false := by rw [e1]; rfl
    have e3 : s.data.toList = [] := by rw [← Lib.toList_data]; exact e1
    have E := Lib.hid e3
    clear e3 h0
    go_enter Tryd.func39, Tryd.ntmps39
    go_wp2_with fail
    go_ret
    refine ⟨ret_bool ?_, Below.refl _ _⟩
    rw [E.out]; rfl
  · have hpos : 0 < s.size := by omega
    clear h0
    have e2 : s.toList.isEmpty = false := by
      rw [Lib.toList_data]; have := Lib.size_eq s; cases hh : s.data.toList with
      | nil => rw [hh, List.length_nil] at this; omega
      | cons => rfl
    go_enter Tryd.func39, Tryd.ntmps39
    go_wp2_with fail
    have b0 : (0 : Int) ≤ (s[0].toNat : Int) := by omega
    have b1 : (s[0].toNat : Int) ≤ 255 := by have := s[0].toNat_lt; omega
    refine (nm_class_any _ b0 b1 _).mono ?_
    rintro e w' ⟨rfl, rfl⟩
    clear b0 b1
    by_cases h1 : Nm.cls (s[0].toNat : Int) = 1
    · have c1 : (Nm.cls (s[0].toNat : Int) != 1) = false := by rw [h1]; rfl
      have H1 := Lib.hid h1
      clear h1
      go_wp2_with fail
      refine (nm_reserved_any s _ hE).mono ?_
      rintro e w' ⟨rfl, rfl⟩
      cases hr : Nm.resB s.data.toList
      · have HR := Lib.hid hr
        clear hr
        go_wp2_with fail
        refine (Tryd.strings_IndexFunc 50 #[] (enters_of Tryd.func50 (by kernel_rfl) rfl) Nm.wrongR s _ (wrong_pred _)).mono ?_
        rintro e w' ⟨rfl, hb⟩
        go_wp2
        go_ret
        refine ⟨ret_bool ?_, hb⟩
        exact Nm.isB_idx s hpos H1.out HR.out
      · have HR := Lib.hid hr
        clear hr
        go_wp2_with fail
        go_ret
        refine ⟨ret_bool ?_, Below.refl _ _⟩
        rw [Nm.isB_eq s hpos, HR.out]; simp
    · have c1 : (Nm.cls (s[0].toNat : Int) != 1) = true := by simpa using h1
      have H1 := Lib.hid h1
      clear h1
      go_wp2_with fail
      go_ret
      refine ⟨ret_bool ?_, Below.refl _ _⟩
      rw [Nm.isB_eq s hpos]; simp [H1.out]
end Go.Proofs.YtioamnaknjhbpaaDoor
