/- The walk of the law LexLines over the contracts of package lex: true, at every input. -/
import Derived.Test.YtfbahblhcmgbiaaDoorLxM
namespace Go.Proofs.YtfbahblhcmgbiaaDoor
open Go.RowKit

set_option maxHeartbeats 2000000 in
theorem lines_any (L : LexOk) (s : ByteArray) (_hs : s.size ≤ 9223372036854775807) (i : Int) (h0 : -9223372036854775808 ≤ i) (h1 : i ≤ 9223372036854775807) (w : World) (hE : ErrVar w) :
    Calls Tryd.prog 5 #[.string s, .int .i64 i] w fun e w' => e = .returned (.bool true) ∧ Below w.heap.size w w' := by
  by_cases hl : 3000 < s.size
  · have z : (3000 : Int) < s.size := by omega
    go_enter Tryd.func5, Tryd.ntmps5
    go_wp2_with fail
    refine (awake_any L _ hE).mono ?_
    rintro e w1 ⟨rfl, hb1⟩
    have hE1 := hE.later hb1
    go_wp2_with fail
    refine (awake_any L _ hE1).mono ?_
    rintro e w2 ⟨rfl, hb2⟩
    have hB2 := hb1.trans (hb2.mono hb1.size)
    go_wp2_with fail
    go_ret
    exact ⟨rfl, hB2⟩
  · have z : (s.size : Int) ≤ 3000 := by omega
    have C1 := Lib.hid (fun w => L.line s i w (by omega) h0 h1)
    have C2 := Lib.hid (fun n w hn => ref_line_any s n hn (by omega) w)
    have hv : (i < 0 ∧ clip s i = 0) ∨ (0 ≤ i ∧ i ≤ s.size ∧ ∃ n : Nat, n ≤ s.size ∧ i = n ∧ clip s i = n) ∨ (0 ≤ i ∧ (s.size : Int) < i ∧ clip s i = s.size) := by
      by_cases a : i < 0
      · exact .inl ⟨a, by unfold clip; omega⟩
      · by_cases b : i ≤ s.size
        · exact .inr (.inl ⟨by omega, b, i.toNat, by omega, by omega, by unfold clip; omega⟩)
        · exact .inr (.inr ⟨by omega, by omega, by unfold clip; omega⟩)
    rcases hv with ⟨a, hc⟩ | ⟨a, b, n, hn, rfl, hc⟩ | ⟨a, b, hc⟩
    · have e0 : lineL 1 1 (s.data.toList.take 0) = (1, 1) := by simp [lineL]
      have c2 := fun w => ref_line_any s 0 (by omega) (by omega) w
      rw [hc, e0] at C1
      rw [e0] at c2
      have C3 := Lib.hid c2
      clear hc e0 c2
      go_enter Tryd.func5, Tryd.ntmps5
      go_wp2_with fail
      refine (awake_any L _ hE).mono ?_
      rintro e w1 ⟨rfl, hb1⟩
      go_wp2_with fail
      refine (C1.out _).mono ?_
      rintro e w2 ⟨rfl, hb2⟩
      have hB2 := hb1.trans (hb2.mono hb1.size)
      clear hb1 hb2
      go_wp2_with fail
      refine (C3.out _).mono ?_
      rintro e w3 ⟨rfl, rfl⟩
      go_wp2_with fail
      go_ret
      exact ⟨rfl, hB2⟩
    · rw [hc] at C1
      clear hc
      go_enter Tryd.func5, Tryd.ntmps5
      go_wp2_with fail
      refine (awake_any L _ hE).mono ?_
      rintro e w1 ⟨rfl, hb1⟩
      go_wp2_with fail
      refine (C1.out _).mono ?_
      rintro e w2 ⟨rfl, hb2⟩
      have hB2 := hb1.trans (hb2.mono hb1.size)
      clear hb1 hb2
      go_wp2_with fail
      refine (C2.out n _ hn).mono ?_
      rintro e w3 ⟨rfl, rfl⟩
      generalize lineL 1 1 (s.data.toList.take n) = p at *
      go_wp2_with fail
      go_ret
      exact ⟨ret_bool (by simp), hB2⟩
    · have e0 : s.data.toList.take s.size = s.data.toList := List.take_of_length_le (by rw [← Lib.size_eq]; omega)
      have c2 := fun w => ref_line_any s s.size (by omega) (by omega) w
      rw [hc, e0] at C1
      rw [e0] at c2
      have C3 := Lib.hid c2
      clear hc e0 c2
      go_enter Tryd.func5, Tryd.ntmps5
      go_wp2_with fail
      refine (awake_any L _ hE).mono ?_
      rintro e w1 ⟨rfl, hb1⟩
      go_wp2_with fail
      refine (C1.out _).mono ?_
      rintro e w2 ⟨rfl, hb2⟩
      have hB2 := hb1.trans (hb2.mono hb1.size)
      clear hb1 hb2
      go_wp2_with fail
      refine (C3.out _).mono ?_
      rintro e w3 ⟨rfl, rfl⟩
      generalize lineL 1 1 s.data.toList = p at *
      go_wp2_with fail
      go_ret
      exact ⟨ret_bool (by simp), hB2⟩
end Go.Proofs.YtfbahblhcmgbiaaDoor
