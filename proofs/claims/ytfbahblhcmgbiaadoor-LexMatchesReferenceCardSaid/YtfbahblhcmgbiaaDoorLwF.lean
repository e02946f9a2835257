/- The walk of lex.Line; all that the laws ask of package lex holds. -/
import Derived.Test.YtfbahblhcmgbiaaDoorLwE
namespace Go.Proofs.YtfbahblhcmgbiaaDoor
open Go.RowKit

theorem line_eq (u : ByteArray) : ∀ k : Nat, k ≤ u.size → lineL 1 1 (u.data.toList.take k) = ((((u.data.toList.take k).count 10 : Nat) : Int) + 1, (k : Int) - Lib.lastIdx u 10 k)
  | 0, _ => by simp [lineL, Lib.lastIdx]
  | k + 1, h => by
    have ih := line_eq u k (by omega)
    have hb : (u.data[k]!) = u[k] := by
      have hk : k < u.data.size := h
      rw [getElem!_pos u.data k hk]
      rfl
    rw [take_snoc u k (by omega), lineL_snoc, ih, List.count_append]
    by_cases hc : u[k] = 10
    · rw [if_pos hc, Lib.lastIdx_hit u 10 k (by rw [hb, hc]; rfl), hc]
      simp only [List.count_cons, List.count_nil, Prod.mk.injEq]
      refine ⟨?_, by omega⟩
      simp
    · rw [if_neg hc, Lib.lastIdx_miss u 10 k (by rw [hb]; rw [eq10] at hc; exact hc)]
      have e : (u[k] == 10) = false := by simpa using hc
      simp only [List.count_cons, List.count_nil, e, Prod.mk.injEq]
      refine ⟨by simp, by omega⟩
theorem line_all (u : ByteArray) : lineL 1 1 u.data.toList = (((Lib.countByte u.data.toList 10 : Nat) : Int) + 1, (u.size : Int) - Lib.lastIndexByte u 10) ∧ Lib.countByte u.data.toList 10 ≤ u.size ∧ -1 ≤ Lib.lastIndexByte u 10 ∧ Lib.lastIndexByte u 10 < u.size + 1 := by
  have h := line_eq u u.size (Nat.le_refl _)
  rw [List.take_of_length_le (by rw [← Lib.size_eq]; omega)] at h
  refine ⟨h, ?_, ?_, ?_⟩
  · rw [Lib.size_eq]
    exact List.count_le_length
  · rcases Lib.lastIndexByte_spec u 10 with ⟨e, _⟩ | ⟨i, hi, e, _⟩ <;> omega
  · rcases Lib.lastIndexByte_spec u 10 with ⟨e, _⟩ | ⟨i, hi, e, _⟩ <;> omega

theorem count10 (u : ByteArray) (w : World) : Calls Tryd.prog 29 #[.string u, .string ⟨#[10]⟩] w fun e w' => e = .returned (.int .i64 (Lib.countByte u.data.toList 10 : Nat)) ∧ w = w' :=
  (Tryd.strings_Count_one u 10 w).mono fun _ _ ⟨he, hw⟩ => ⟨he, hw.symm⟩
theorem last10 (u : ByteArray) (hu : u.size ≤ 3000) (w : World) : Calls Tryd.prog 30 #[.string u, .string ⟨#[10]⟩] w fun e w' => e = .returned (.int .i64 (Lib.lastIndexByte u 10)) ∧ w = w' :=
  (Tryd.strings_LastIndex_one u ⟨#[10]⟩ rfl (by omega) w).mono fun _ _ ⟨he, hw⟩ => ⟨he, hw.symm⟩

theorem extract_front (s : ByteArray) (n : Nat) (h : n ≤ s.size) : (s.extract 0 n).data.toList = s.data.toList.take n ∧ (s.extract 0 n).size = n := by
  have h1 : (s.extract 0 n).data.toList = s.data.toList.take n := by
    rw [Lib.extract_data]
    simp
  refine ⟨h1, ?_⟩
  rw [Lib.size_eq, h1, List.length_take, ← Lib.size_eq]
  omega

set_option maxHeartbeats 2000000 in
theorem lex_line_any (s : ByteArray) (i : Int) (w : World) (hs : s.size ≤ 3000) (h0 : -9223372036854775808 ≤ i) (h1 : i ≤ 9223372036854775807) :
    Calls Tryd.prog 18 #[.string s, .int .i64 i] w fun e w' => e = .returned (.tuple #[.int .i64 (lineL 1 1 (s.data.toList.take (clip s i))).1, .int .i64 (lineL 1 1 (s.data.toList.take (clip s i))).2]) ∧ Below w.heap.size w w' := by
  have hcl : clip s i ≤ s.size := by unfold clip; omega
  have hce : (min (max i 0) (s.size : Int)).toNat = clip s i := by unfold clip; omega
  obtain ⟨e1, e2⟩ := extract_front s (clip s i) hcl
  obtain ⟨l1, l2, l3, l4⟩ := line_all (s.extract 0 (clip s i))
  rw [← e1]
  have hz : (s.extract 0 (clip s i)).size ≤ 3000 := by omega
  rw [← hce] at *
  have z : (s.size : Int) ≤ 3000 := by omega
  have HL := Lib.hid l1
  clear e1 e2 l1 hce hcl
  have C1 := Lib.hid (fun w => count10 (s.extract 0 (min (max i 0) (s.size : Int)).toNat) w)
  have C2 := Lib.hid (fun w => last10 (s.extract 0 (min (max i 0) (s.size : Int)).toNat) hz w)
  go_enter Tryd.func18, Tryd.ntmps18
  go_wp2_with fail
  generalize hu : s.extract 0 (min (max i 0) (s.size : Int)).toNat = u at *
  have HU := Lib.hid hu
  clear hu
  refine (C1.out _).mono ?_
  rintro e w' ⟨rfl, rfl⟩
  have b1 : ((Lib.countByte u.data.toList 10 : Nat) : Int) ≤ 3000 := by omega
  have b3 : Lib.lastIndexByte u 10 ≤ 3000 := by omega
  clear l2 l4
  go_wp2_with fail
  refine (C2.out _).mono ?_
  rintro e w' ⟨rfl, rfl⟩
  go_wp2_with fail
  go_ret2
  exact ⟨by rw [HU.out, HL.out]; rfl, Below.refl _ _⟩

/-- All that the laws of layer 3 ask of package lex. -/
theorem lexOk : LexOk where
  tokens s w h := lex_tokens_any s w h
  same A B n m ca cb a b w hn hm ha hb := lex_same_any A B n m ca cb a b w hn hm ha hb
  join A n ca a w hn hw hne ha := lex_join_any A n ca a w hn hw hne ha
  line s i w hs h0 h1 := lex_line_any s i w hs h0 h1
end Go.Proofs.YtfbahblhcmgbiaaDoor
