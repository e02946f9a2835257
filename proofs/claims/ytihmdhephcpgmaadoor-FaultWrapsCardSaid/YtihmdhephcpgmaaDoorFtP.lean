/- The walk of the laws' own look at fixed examples: it answers true. -/
import Derived.Test.YtihmdhephcpgmaaDoorFtN
namespace Go.Proofs.YtihmdhephcpgmaaDoor
open Go.RowKit Go.Lib

theorem itoa4 : Lib.itoa 4 = [52] := by
  rw [Lib.itoa, if_neg (by omega), Lib.decDigits_one (by decide)]; rfl
theorem itoa8 : Lib.itoa 8 = [56] := by
  rw [Lib.itoa, if_neg (by omega), Lib.decDigits_one (by decide)]; rfl
theorem text4 : errText 4 [⟨#[99, 104, 101, 99, 107]⟩] = [99, 104, 101, 99, 107, 58, 32, 101, 114, 114, 111, 114, 32, 52] := by
  simp only [errText, itoa4]; rfl
theorem tell48 : tell 4 8 false true = [116, 121, 112, 101, 32, 56] := by
  unfold tell; rw [itoa8]; rfl

theorem awake_err {w : World} {v : Value} (hv : IsErr w ⟨4, some 8⟩ [⟨#[99, 104, 101, 99, 107]⟩] v) : ∃ g, v = .iface 54 (.pointer (some ⟨g, 0, none⟩)) := by
  obtain ⟨g, u, rfl, _⟩ := hv
  exact ⟨g, rfl⟩
theorem awake_error {w : World} {g : Nat} (hv : IsErr w ⟨4, some 8⟩ [⟨#[99, 104, 101, 99, 107]⟩] (.iface 54 (.pointer (some ⟨g, 0, none⟩)))) (hE : Env w) :
    Calls Tryd.prog 69 #[.pointer (some ⟨g, 0, none⟩)] w fun e w' => e = .returned (.string ⟨#[99, 104, 101, 99, 107, 58, 32, 101, 114, 114, 111, 114, 32, 52]⟩) ∧ Below w.heap.size w w' := by
  have := errorP 4 (by omega) (by omega) [] ⟨#[99, 104, 101, 99, 107]⟩ g (some 8) w hE hv (by intro p hp; simp at hp; subst hp; decide) (by simp)
  rw [text4] at this
  exact this
theorem awake_text {w : World} {v : Value} (hv : IsErr w ⟨4, some 8⟩ [⟨#[99, 104, 101, 99, 107]⟩] v) (hE : Env w) :
    Calls Tryd.prog 19 #[v] w fun e w' => e = .returned (.string ⟨#[116, 121, 112, 101, 32, 56]⟩) ∧ Below w.heap.size w w' := by
  have := text_fault hv (by omega) (by omega) hE
  rw [tell48] at this
  exact this
theorem awake_name (w : World) (hE : Env w) :
    Calls Tryd.prog 17 #[.int .i64 5] w fun e w' => e = .returned (.string ⟨#[110, 111, 109, 111, 110, 111]⟩) ∧ w = w' := name_any 5 w hE

set_option maxHeartbeats 2000000 in
theorem awake_any (w : World) (hE : Env w) :
    Calls Tryd.prog 7 #[] w fun e w' => e = .returned (.bool true) ∧ Below w.heap.size w w' := by
  have mE := mErP
  go_enter Tryd.func7, Tryd.ntmps7
  go_wp2_with fail
  refine (new_any 4 8 _).mono ?_
  rintro e w1 ⟨rfl, rfl⟩
  go_wp2_with fail
  refine (in_err (ps := []) (b := ⟨4, some 8⟩) rfl ⟨#[99, 104, 101, 99, 107]⟩).mono ?_
  rintro e w1 ⟨v, rfl, hv, hb1⟩
  obtain ⟨g, rfl⟩ := awake_err hv
  have HV1 := Lib.hid hv
  have hE1 := hE.later hb1
  clear hv
  go_wp2_with fail
  refine (code_nil _).mono ?_
  rintro e w2 ⟨rfl, hb2⟩
  have HV2 := Lib.hid (HV1.out.later hb2)
  have hE2 := hE1.later hb2
  have hB2 := hb1.trans (hb2.mono hb1.size)
  clear hb1 hb2 hE1 HV1
  go_wp2_with fail
  refine (awake_error HV2.out hE2).mono ?_
  rintro e w3 ⟨rfl, hb3⟩
  have HV3 := Lib.hid (HV2.out.later hb3)
  have hE3 := hE2.later hb3
  have hB3 := hB2.trans (hb3.mono hB2.size)
  clear hB2 hb3 hE2 HV2
  go_wp2_with fail
  refine (awake_text HV3.out hE3).mono ?_
  rintro e w4 ⟨rfl, hb4⟩
  have hE4 := hE3.later hb4
  have hB4 := hB3.trans (hb4.mono hB3.size)
  clear hB3 hb4 hE3 HV3
  go_wp2_with fail
  refine (in_nil _ _).mono ?_
  rintro e w5 ⟨rfl, rfl⟩
  go_wp2_with fail
  refine (shift_nil _ _).mono ?_
  rintro e w5 ⟨rfl, hb5⟩
  have hE5 := hE4.later hb5
  have hB5 := hB4.trans (hb5.mono hB4.size)
  clear hB4 hb5 hE4
  go_wp2_with fail
  refine (awake_name _ hE5).mono ?_
  rintro e w6 ⟨rfl, rfl⟩
  go_wp2_with fail
  refine (text_nil _).mono ?_
  rintro e w6 ⟨rfl, rfl⟩
  go_wp2_with fail
  go_ret
  exact ⟨rfl, hB5⟩
end Go.Proofs.YtihmdhephcpgmaaDoor
