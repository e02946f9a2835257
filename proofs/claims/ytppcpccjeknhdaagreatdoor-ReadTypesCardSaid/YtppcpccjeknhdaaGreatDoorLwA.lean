/- The walks of package lex's small functions: the size of a comment and of a word, and what a text begins with. No condition beyond the sizes that each names. -/
import Derived.Test.YtppcpccjeknhdaaGreatDoorLxF
import Derived.Test.YtppcpccjeknhdaaGreatDoorShelf
import Derived.Lib.IndexAny
namespace Go.Proofs.YtppcpccjeknhdaaGreatDoor
open Go.RowKit

set_option maxHeartbeats 400000 in
theorem name_class_any (c : Int) (h0 : 0 ≤ c) (h1 : c ≤ 255) (w : World) :
    Calls Tryz.prog 154 #[.int .u8 c] w fun e w' => e = .returned (.int .i64 (Lx.cls c)) ∧ w = w' := by
  go_enter Tryz.func154, Tryz.ntmps154
  go_wp2
  all_goals
    go_ret
    refine ⟨ret_int ?_, rfl⟩
    try simp only [beq_iff_eq, beq_eq_false_iff_ne, ne_eq] at *
    unfold Lx.cls
    first | (exfalso; omega) | rfl | (repeat (first | rw [if_pos (by omega)] | rw [if_neg (by omega)]))

theorem cls_five (c : Int) : Lx.cls c = 0 ∨ Lx.cls c = 1 ∨ Lx.cls c = 2 ∨ Lx.cls c = 3 ∨ Lx.cls c = 4 := by
  unfold Lx.cls
  repeat' split
  all_goals simp
def goodI (c : Int) : Bool := decide (0 < Lx.cls c) && decide (Lx.cls c < 4)
theorem good_int (c : UInt8) : Lx.good c = goodI c.toNat := rfl

set_option maxHeartbeats 1000000 in
theorem lex_within_any (c : Int) (h0 : 0 ≤ c) (h1 : c ≤ 255) (w : World) :
    Calls Tryz.prog 211 #[.int .u8 c] w fun e w' => e = .returned (.bool (goodI c)) ∧ w = w' := by
  have E : goodI c = (decide (0 < Lx.cls c) && decide (Lx.cls c < 4)) := rfl
  have EE := Lib.hid E
  clear E
  rcases cls_five c with h | h | h | h | h
  all_goals
    have H := Lib.hid h
    clear h
    go_enter Tryz.func211, Tryz.ntmps211
    go_wp2_with fail
    refine (name_class_any c h0 h1 _).mono ?_
    rintro e w' ⟨rfl, rfl⟩
    rw [H.out]
    go_wp2_with fail
    go_ret
    exact ⟨ret_bool (by rw [EE.out, H.out]; rfl), rfl⟩

set_option maxHeartbeats 2000000 in
theorem word_size_any (s : ByteArray) (h1 : 1 ≤ s.size) (hs : s.size ≤ 65536) (w : World) :
    Calls Tryz.prog 181 #[.string s] w fun e w' => e = .returned (.int .i64 (runEnd Lx.good s.data.toList 1 : Nat)) ∧ w = w' := by
  go_enter Tryz.func181, Tryz.ntmps181
  go_wp2_with fail
  go_loop [3] (fun v => ∃ m : Nat, 1 ≤ m ∧ m ≤ s.size ∧ v = .int .i64 m ∧ runEnd Lx.good s.data.toList m = runEnd Lx.good s.data.toList 1) (fun v => s.size - (intOf v).toNat)
  case atStart => exact ⟨1, by omega, by omega, rfl, rfl⟩
  case round =>
    obtain ⟨m, hm1, hm2, rfl, hm⟩ := hrel
    by_cases hml : m < s.size
    · have y1 : (m : Int) < s.size := by omega
      have c1 : (s[m].toNat : Int) ≤ 255 := by have := s[m].toNat_lt; omega
      have c0 : (0 : Int) ≤ (s[m].toNat : Int) := by omega
      cases hg : goodI s[m].toNat
      · have HM := Lib.hid (hm.symm.trans (run_off (p := Lx.good) hml (by rw [good_int, hg])))
        clear hm
        go_wp2_with (go_at_call 211; refine (lex_within_any _ (by omega) (by omega) _).mono ?_; rintro e w' ⟨rfl, rfl⟩)
        go_ret
        exact ⟨ret_int (by rw [HM.out]), rfl⟩
      · have HM := Lib.hid ((run_on (p := Lx.good) hml (by rw [good_int, hg])).symm.trans hm)
        clear hm
        go_wp2_with (go_at_call 211; refine (lex_within_any _ (by omega) (by omega) _).mono ?_; rintro e w' ⟨rfl, rfl⟩)
        go_round
        case rel => exact ⟨m + 1, by omega, by omega, by go_num, HM.out⟩
        case measure => simp [intOf]; omega
    · have y1 : (s.size : Int) ≤ m := by omega
      have HM := Lib.hid (hm.symm.trans (run_end (p := Lx.good) (s := s) (k := m) (by omega)))
      clear hm
      go_wp2_with fail
      go_ret
      exact ⟨ret_int (by rw [HM.out]), rfl⟩

theorem idx10 : ∀ l : List UInt8, Lib.indexByte l 10 = if (l.takeWhile Lx.inLine).length = l.length then -1 else ((l.takeWhile Lx.inLine).length : Int)
  | [] => rfl
  | c :: l => by
    have ih := idx10 l
    have hle := Lx.takeWhile_le Lx.inLine l
    unfold Lib.indexByte
    by_cases hc : c = 10
    · subst hc
      have e : Lx.inLine 10 = false := by decide
      simp [e]
    · have e : Lx.inLine c = true := by simp [Lx.inLine, hc]
      have e2 : (c == 10) = false := by simpa using hc
      simp only [e2, List.takeWhile_cons, e, if_true, List.length_cons, Bool.false_eq_true, if_false]
      by_cases h : (l.takeWhile Lx.inLine).length = l.length
      · rw [ih, if_pos h]
        simp [h]
      · rw [ih, if_neg h]
        have h2 : (((l.takeWhile Lx.inLine).length : Int) == -1) = false := beq_eq_false_iff_ne.2 (by omega)
        rw [h2]
        simp only [Bool.false_eq_true, if_false]
        rw [if_neg (by omega)]
        omega

set_option maxHeartbeats 400000 in
theorem comment_size_any (s : ByteArray) (w : World) :
    Calls Tryz.prog 180 #[.string s] w fun e w' => e = .returned (.int .i64 ((s.data.toList.takeWhile Lx.inLine).length : Nat)) ∧ w = w' := by
  have hi := idx10 s.data.toList
  have hle := Lx.takeWhile_le Lx.inLine s.data.toList
  rw [← Lib.size_eq] at hi hle
  generalize (s.data.toList.takeWhile Lx.inLine).length = n at hi hle ⊢
  by_cases h : n = s.size
  · rw [if_pos h] at hi
    have HI := Lib.hid hi
    have H := Lib.hid h
    clear hi hle h
    go_enter Tryz.func180, Tryz.ntmps180
    go_wp2_with fail
    refine (Tryz.strings_Index_one s 10 _).mono ?_
    rintro e w' ⟨rfl, hw⟩
    rw [HI.out]
    subst hw
    go_wp2_with fail
    go_ret
    exact ⟨ret_int (by rw [H.out]), rfl⟩
  · rw [if_neg h] at hi
    have HI := Lib.hid hi
    have z : (0 : Int) ≤ n := by omega
    clear hi h
    go_enter Tryz.func180, Tryz.ntmps180
    go_wp2_with fail
    refine (Tryz.strings_Index_one s 10 _).mono ?_
    rintro e w' ⟨rfl, hw⟩
    rw [HI.out]
    subst hw
    go_wp2_with fail
    go_ret
    exact ⟨rfl, rfl⟩
end Go.Proofs.YtppcpccjeknhdaaGreatDoor
