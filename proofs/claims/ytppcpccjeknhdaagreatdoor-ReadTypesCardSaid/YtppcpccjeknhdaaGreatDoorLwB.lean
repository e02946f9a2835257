/- The walk of package lex's first: what a text begins with at each offset, in the plain words of LxPure. -/
import Derived.Test.YtppcpccjeknhdaaGreatDoorLwA
namespace Go.Proofs.YtppcpccjeknhdaaGreatDoor
open Go.RowKit

def comB (l : List UInt8) : Bool := Lib.hasPrefix l [47, 47]
theorem comB_cons (c : UInt8) (r : List UInt8) : comB (c :: r) = true ↔ c = 47 ∧ r.head? = some 47 := by
  cases r with
  | nil => simp [comB, Lib.hasPrefix, List.isPrefixOf]
  | cons d r => 
    simp only [comB, Lib.hasPrefix, List.isPrefixOf, Bool.and_true, Bool.and_eq_true, beq_iff_eq, List.head?_cons, Option.some.injEq]
    constructor
    · rintro ⟨h1, h2⟩; exact ⟨h1.symm, h2.symm⟩
    · rintro ⟨h1, h2⟩; exact ⟨h1.symm, h2.symm⟩
theorem pre_comment (s : ByteArray) (w : World) :
    Calls Tryz.prog 179 #[.string s, .string ⟨#[47, 47]⟩] w fun e w' => e = .returned (.bool (comB s.data.toList)) ∧ w = w' :=
  (Tryz.strings_HasPrefix s ⟨#[47, 47]⟩ w).mono fun _ _ ⟨he, hw⟩ => ⟨he, hw.symm⟩
/-- What strings.IndexByte returns among the signs. -/
def SgnPost (c : Int) (w : World) (e : Ending) (w' : World) : Prop := ∃ i : Int, e = .returned (.int .i64 i) ∧ (sgnI c = true → 0 ≤ i) ∧ (sgnI c = false → i < 0) ∧ w = w'
theorem index_sign (c : UInt8) (w : World) :
    Calls Tryz.prog 182 #[.string ⟨#[40, 41, 91, 93, 123, 125, 46, 44, 59, 61, 95]⟩, .int .u8 c.toNat] w (SgnPost c.toNat w) := by
  refine (Tryz.strings_IndexByte ⟨#[40, 41, 91, 93, 123, 125, 46, 44, 59, 61, 95]⟩ c.toNat w).mono fun e w' ⟨he, hw⟩ => ?_
  have hc : ((c.toNat : Int)).toNat.toUInt8 = c := by simp
  rw [hc] at he
  have h1 : sgnI c.toNat = decide (0 ≤ Lib.indexByte Lx.signs c) := by
    rw [← Lib.contains_iff_indexByte, sgnI_sgn, Lx.sgn, List.contains_eq_any_beq]
    congr 1
    funext x
    rw [Bool.eq_iff_iff]
    simp only [beq_iff_eq]
    exact ⟨fun h => h.symm, fun h => h.symm⟩
  refine ⟨_, he, fun h => ?_, fun h => ?_, hw.symm⟩
  · rw [h1] at h
    exact of_decide_eq_true h
  · rw [h1] at h
    have := of_decide_eq_false h
    show Lib.indexByte Lx.signs c < 0
    omega

/-- What first says of a text that is not empty: a kind and a size. -/
def fstP (s : ByteArray) (c : UInt8) : Int × Nat :=
  if Lx.cls c.toNat = 4 then (4, 1)
  else if comB s.data.toList = true then (4, (s.data.toList.takeWhile Lx.inLine).length)
  else if Lx.cls c.toNat = 1 then (1, runEnd Lx.good s.data.toList 1)
  else if sgnI c.toNat = true then (2, 1) else (0, 0)

set_option maxHeartbeats 2000000 in
theorem first_any (s : ByteArray) (h1 : 0 < s.size) (hs : s.size ≤ 65536) (w : World) :
    Calls Tryz.prog 133 #[.string s] w fun e w' => e = .returned (.tuple #[.int .i64 (fstP s s[0]).1, .int .i64 (fstP s s[0]).2]) ∧ w = w' := by
  have b0 : (0 : Int) ≤ (s[0].toNat : Int) := by omega
  have b1 : (s[0].toNat : Int) ≤ 255 := by have := s[0].toNat_lt; omega
  by_cases h4 : Lx.cls s[0].toNat = 4
  · have E := Lib.hid (show fstP s s[0] = (4, 1) by unfold fstP; rw [if_pos h4])
    have e4 : (Lx.cls s[0].toNat == 4) = true := by simp [h4]
    clear h4
    go_enter Tryz.func133, Tryz.ntmps133
    go_wp2_with (go_at_call 154; refine (name_class_any _ (by omega) (by omega) _).mono ?_; rintro e w' ⟨rfl, rfl⟩)
    go_ret2
    exact ⟨by rw [E.out]; rfl, rfl⟩
  · have e4 : (Lx.cls s[0].toNat == 4) = false := by simp [h4]
    cases hc : comB s.data.toList
    · by_cases h5 : Lx.cls s[0].toNat = 1
      · have E := Lib.hid (show fstP s s[0] = (1, runEnd Lx.good s.data.toList 1) by unfold fstP; rw [if_neg h4, hc, if_neg (by decide), if_pos h5])
        have e1 : (Lx.cls s[0].toNat == 1) = true := by simp [h5]
        clear h4 h5
        go_enter Tryz.func133, Tryz.ntmps133
        go_wp2_with (first
          | (go_at_call 154; refine (name_class_any _ (by omega) (by omega) _).mono ?_; rintro e w' ⟨rfl, rfl⟩)
          | (go_at_call 179; refine (pre_comment _ _).mono ?_; rintro e w' ⟨rfl, rfl⟩)
          | (go_at_call 181; refine (word_size_any _ (by omega) (by omega) _).mono ?_; rintro e w' ⟨rfl, rfl⟩))
        go_ret2
        exact ⟨by rw [E.out]; rfl, rfl⟩
      · have e1 : (Lx.cls s[0].toNat == 1) = false := by simp [h5]
        cases hsg : sgnI s[0].toNat
        · have E := Lib.hid (show fstP s s[0] = (0, 0) by unfold fstP; rw [if_neg h4, hc, if_neg (by decide), if_neg h5, hsg, if_neg (by decide)])
          have HS := Lib.hid hsg
          clear h4 h5 hsg
          go_enter Tryz.func133, Tryz.ntmps133
          go_wp2_with (first
            | (go_at_call 154; refine (name_class_any _ (by omega) (by omega) _).mono ?_; rintro e w' ⟨rfl, rfl⟩)
            | (go_at_call 179; refine (pre_comment _ _).mono ?_; rintro e w' ⟨rfl, rfl⟩)
            | (go_at_call 182; refine (index_sign _ _).mono ?_; rintro e w' ⟨i, rfl, hi1, hi2, rfl⟩; have zi := hi2 HS.out; clear hi1 hi2))
          go_ret2
          exact ⟨by rw [E.out]; rfl, rfl⟩
        · have E := Lib.hid (show fstP s s[0] = (2, 1) by unfold fstP; rw [if_neg h4, hc, if_neg (by decide), if_neg h5, hsg, if_pos rfl])
          have HS := Lib.hid hsg
          clear h4 h5 hsg
          go_enter Tryz.func133, Tryz.ntmps133
          go_wp2_with (first
            | (go_at_call 154; refine (name_class_any _ (by omega) (by omega) _).mono ?_; rintro e w' ⟨rfl, rfl⟩)
            | (go_at_call 179; refine (pre_comment _ _).mono ?_; rintro e w' ⟨rfl, rfl⟩)
            | (go_at_call 182; refine (index_sign _ _).mono ?_; rintro e w' ⟨i, rfl, hi1, hi2, rfl⟩; have zi := hi1 HS.out; clear hi1 hi2))
          go_ret2
          exact ⟨by rw [E.out]; rfl, rfl⟩
    · have E := Lib.hid (show fstP s s[0] = (4, (s.data.toList.takeWhile Lx.inLine).length) by unfold fstP; rw [if_neg h4, hc, if_pos rfl])
      clear h4
      go_enter Tryz.func133, Tryz.ntmps133
      go_wp2_with (first
        | (go_at_call 154; refine (name_class_any _ (by omega) (by omega) _).mono ?_; rintro e w' ⟨rfl, rfl⟩)
        | (go_at_call 179; refine (pre_comment _ _).mono ?_; rintro e w' ⟨rfl, rfl⟩)
        | (go_at_call 180; refine (comment_size_any _ _).mono ?_; rintro e w' ⟨rfl, rfl⟩))
      go_ret2
      exact ⟨by rw [E.out]; rfl, rfl⟩
end Go.Proofs.YtppcpccjeknhdaaGreatDoor
