/- The walk of the reference's Is. -/
import Derived.Test.YtioamnaknjhbpaaDoorNmA
import Derived.Test.YtioamnaknjhbpaaDoorPureB
namespace Go.Proofs.YtioamnaknjhbpaaDoor
open Go.RowKit Go.Lib

set_option maxHeartbeats 400000 in
theorem nm_ref_is_any (s : ByteArray) (hs : s.size ≤ 9223372036854775807) (w : World) :
    Calls Tryd.prog 40 #[.string s] w fun e w' => e = .returned (.bool (Nm.isB s.data.toList)) ∧ w = w' := by
  by_cases h0 : s.size = 0
  · have e3 : s.data.toList = [] := by have := Lib.size_eq s; exact List.length_eq_zero_iff.1 (by omega)
    have E := Lib.hid e3
    have c0 : ((s.size : Int) == 0) = true := by simpa using h0
    clear e3 h0
    go_enter Tryd.func40, Tryd.ntmps40
    go_wp2_with fail
    go_ret
    refine ⟨ret_bool ?_, rfl⟩
    rw [E.out]; rfl
  · have hpos : 0 < s.size := by omega
    have c0 : ((s.size : Int) == 0) = false := beq_eq_false_iff_ne.2 (by omega)
    clear h0
    have b0 : (0 : Int) ≤ (s[0].toNat : Int) := by omega
    have b1 : (s[0].toNat : Int) ≤ 255 := by have := s[0].toNat_lt; omega
    go_enter Tryd.func40, Tryd.ntmps40
    go_wp2_with fail
    refine (nm_ref_class_any _ b0 b1 _).mono ?_
    rintro e w' ⟨rfl, rfl⟩
    clear b0 b1
    by_cases h1 : Nm.cls (s[0].toNat : Int) = 1
    · have c1 : (Nm.cls (s[0].toNat : Int) != 1) = false := by rw [h1]; rfl
      have H1 := Lib.hid h1
      clear h1
      go_wp2_with fail
      go_loop [3] (fun i => ∃ k : Nat, k ≤ s.size ∧ i = .int .i64 k ∧ Nm.AllYet s.data.toList k) (fun i => s.size - (intOf i).toNat)
      case atStart => exact ⟨0, by omega, rfl, Nm.allYet_zero _⟩
      case round =>
        obtain ⟨k, hk, rfl, hn⟩ := hrel
        have HN := Lib.hid hn
        clear hn
        by_cases hlt : k < s.size
        · have b0 : (0 : Int) ≤ (s[k].toNat : Int) := by omega
          have b1 : (s[k].toNat : Int) ≤ 255 := by have := s[k].toNat_lt; omega
          go_wp2_with fail
          refine (nm_ref_class_any _ b0 b1 _).mono ?_
          rintro e w' ⟨rfl, rfl⟩
          clear b0 b1
          have hge := Nm.goodB_eq (s[k].toNat : Int)
          cases d0 : (Nm.cls (s[k].toNat : Int) == 0)
          · cases d4 : (Nm.cls (s[k].toNat : Int) == 4)
            · rw [d0, d4] at hge
              have HG := Lib.hid hge
              clear hge
              go_wp2_with fail
              go_round
              case rel => exact ⟨k + 1, by omega, by go_num, Nm.allYet_succ hlt HN.out HG.out⟩
              case measure => simp [intOf]; omega
            · rw [d0, d4] at hge
              have HG := Lib.hid hge
              clear hge
              go_wp2_with fail
              go_ret
              refine ⟨ret_bool ?_, rfl⟩
              rw [Nm.isB_eq s hpos, Nm.not_all hlt HG.out]; simp
          · rw [d0] at hge
            have HG := Lib.hid hge
            clear hge
            go_wp2_with fail
            go_ret
            refine ⟨ret_bool ?_, rfl⟩
            rw [Nm.isB_eq s hpos, Nm.not_all hlt HG.out]; simp
        · have hks : k = s.size := by omega
          subst hks
          go_wp2_with fail
          refine (nm_ref_reserved_any _ _).mono ?_
          rintro e w' ⟨rfl, rfl⟩
          go_wp2_with fail
          go_ret
          refine ⟨ret_bool ?_, rfl⟩
          rw [Nm.isB_eq s hpos, Nm.allYet_all HN.out, H1.out]; simp
    · have c1 : (Nm.cls (s[0].toNat : Int) != 1) = true := by simpa using h1
      have H1 := Lib.hid h1
      clear h1
      go_wp2_with fail
      go_ret
      refine ⟨ret_bool ?_, rfl⟩
      rw [Nm.isB_eq s hpos]; simp [H1.out]
end Go.Proofs.YtioamnaknjhbpaaDoor
