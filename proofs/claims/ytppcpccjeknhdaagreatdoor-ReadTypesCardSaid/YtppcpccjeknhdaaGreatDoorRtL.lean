/- The walk of the law ReadTypes: true, at every input. The conditions: the table of words, the variable of package errors. -/
import Derived.Test.YtppcpccjeknhdaaGreatDoorRfD
import Derived.Test.YtppcpccjeknhdaaGreatDoorRtP
import Derived.Test.YtppcpccjeknhdaaGreatDoorTyC
import Derived.Test.YtppcpccjeknhdaaGreatDoorTyF
import Derived.Test.YtppcpccjeknhdaaGreatDoorTwD
namespace Go.Proofs.YtppcpccjeknhdaaGreatDoor.Rd
open Go.RowKit

/-- What is read from a short text is right and small. -/
theorem tyO_good {s : ByteArray} (hs : s.size ≤ 2000) {t : Ty} (h : tyO s = .good t) : t.right = true ∧ Ty.wt t ≤ 1000 := by
  unfold tyO wholeO at h
  cases hl : left s 0 with
  | bad i => rw [hl] at h; cases h
  | ok ts =>
    rw [hl] at h
    simp only at h
    cases hg : tyF (2 * (full ts s.size).length + 2) (full ts s.size) with
    | bad q => rw [hg] at h; cases h
    | ok u q =>
      rw [hg] at h
      unfold endO at h
      simp only at h
      split at h
      · injection h with h
        subst h
        obtain ⟨h1, h2⟩ := (tyF_good _).1 _ _ _ hg
        have h3 := wd_full hl
        exact ⟨h1, by omega⟩
      · cases h
theorem wt_none : Ty.wt tyNone = 1 := by decide
theorem tyO_small {s : ByteArray} (hs : s.size ≤ 2000) : Ty.wt ((tyO s).val tyNone) ≤ 1000 := by
  cases h : tyO s with
  | good t => exact (tyO_good hs h).2
  | err c a => show Ty.wt tyNone ≤ 1000; rw [wt_none]; decide
theorem in_here {w : World} {lo : Nat} {t : Ty} {us : List Value} (h : t.dat.In w False (Fr lo w) us) : ∃ B m c, us = [.string t.name, .slice B m c, .int .i64 t.off] ∧ t.name.size ≤ 9223372036854775807 ∧ Here w B m t.args := by
  obtain ⟨B, m, c, h1, h2, h3⟩ := ty_open h
  exact ⟨B, m, c, h1, h2, LiesN.wide h3 fun _ hb => hb.2⟩
set_option maxRecDepth 100000 in
set_option maxHeartbeats 4000000 in
theorem readTypes_law (s : ByteArray) (w : World) (hs : s.size ≤ 9223372036854775807) (hR : ResVar w) (hE : ErrVar w) :
    Calls Tryz.prog 5 #[.string s] w (BoolPost true w) := by
  have HR := Lib.hid hR
  have HE := Lib.hid hE
  have CA := Lib.hid (awake_any w hR hE)
  clear hR hE
  go_enter Tryz.func5, Tryz.ntmps5
  go_wp2_with fail
  refine CA.out.mono ?_
  rintro e w1 ⟨rfl, hb⟩
  have HR1 := Lib.hid (HR.out.later hb)
  have HE1 := Lib.hid (HE.out.later hb)
  have HB1 := Lib.hid hb
  clear hb CA
  by_cases hlen : 2000 < s.size
  · have y0 : (2000 : Int) < s.size := by omega
    have CA := Lib.hid (awake_any w1 HR1.out HE1.out)
    clear hlen
    go_wp2_with fail
    refine CA.out.mono ?_
    rintro e w2 ⟨rfl, hb⟩
    have HB2 := Lib.hid (HB1.out.trans (hb.mono HB1.out.size))
    clear hb CA
    go_wp2_with fail
    go_ret
    exact ⟨rfl, HB2.out⟩
  have y0 : (s.size : Int) ≤ 2000 := by omega
  have HL := Lib.hid (show s.size ≤ 2000 by omega)
  clear hlen hs
  have C2 := Lib.hid (readTy_any s w1 (by have := HL.out; omega) HR1.out)
  go_wp2_with fail
  refine C2.out.mono ?_
  rintro e w2 ⟨us, rfl, hin, hb⟩
  obtain ⟨B, m, c, rfl, hz, hh⟩ := in_here hin
  obtain ⟨W2, hW2⟩ : ∃ W, w2.alloc (.cells #[.string ((tyO s).val tyNone).name, .slice B m c, .int .i64 ((tyO s).val tyNone).off] 25) = W := ⟨_, rfl⟩
  have hb2 : Below w2.heap.size w2 W2 := hW2 ▸ (Below.refl _ _).alloc (Nat.le_refl _) _
  have hall := hb.trans (hb2.mono hb.size)
  have HR2 := Lib.hid (HR1.out.later hall)
  have HE2 := Lib.hid (HE1.out.later hall)
  have HB2 := Lib.hid (HB1.out.trans (hall.mono HB1.out.size))
  have hx2 : Boxd W2 w2.heap.size [.string ((tyO s).val tyNone).name, .slice B m c, .int .i64 ((tyO s).val tyNone).off] := hW2 ▸ Boxd.new w2 #[.string ((tyO s).val tyNone).name, .slice B m c, .int .i64 ((tyO s).val tyNone).off] 25
  have HX2 := Lib.hid hx2
  have HH2 := Lib.hid (hh.later hb2)
  have HZ := Lib.hid hz
  have HW2 := Lib.hid hW2
  have hl2 : w2.heap.size < W2.heap.size := by rw [← hW2]; simp
  have C3 := Lib.hid (rwhole_any s W2 (by have := HL.out; omega))
  clear hin hb hh hz hb2 hall hx2 hW2 C2
  go_wp2_with fail
  rw [HW2.out]
  refine C3.out.mono ?_
  rintro e w3 ⟨us, rfl, hin, hb⟩
  obtain ⟨B3, m3, c3, rfl, -, hh⟩ := in_here hin
  obtain ⟨W3, hW3⟩ : ∃ W, w3.alloc (.cells #[.string ((tyO s).val tyNone).name, .slice B3 m3 c3, .int .i64 ((tyO s).val tyNone).off] 25) = W := ⟨_, rfl⟩
  have hb3 : Below w3.heap.size w3 W3 := hW3 ▸ (Below.refl _ _).alloc (Nat.le_refl _) _
  have hall := hb.trans (hb3.mono hb.size)
  have HR3 := Lib.hid (HR2.out.later hall)
  have HE3 := Lib.hid (HE2.out.later hall)
  have HB3 := Lib.hid (HB2.out.trans (hall.mono HB2.out.size))
  have hx3 : Boxd W3 w3.heap.size [.string ((tyO s).val tyNone).name, .slice B3 m3 c3, .int .i64 ((tyO s).val tyNone).off] := hW3 ▸ Boxd.new w3 #[.string ((tyO s).val tyNone).name, .slice B3 m3 c3, .int .i64 ((tyO s).val tyNone).off] 25
  have HX3 := Lib.hid hx3
  have HX23 := Lib.hid (HX2.out.later hall)
  have HH3 := Lib.hid (hh.later hb3)
  have HH23 := Lib.hid (HH2.out.later hall)
  have HW3 := Lib.hid hW3
  have hl3 : w3.heap.size < W3.heap.size := by rw [← hW3]; simp
  have C4 := Lib.hid (ref_equal_any ((tyO s).val tyNone) ((tyO s).val tyNone) B B3 m m3 c c3 W3 HZ.out HZ.out HH23.out HH3.out)
  have HSM := Lib.hid (Ty.small_of_wt (tyO_small HL.out))
  have hgd : ∀ t, tyO s = .good t → t.right = true := fun t h => (tyO_good HL.out h).1
  have hcd : ∀ c a, tyO s = .err c a → c = 1 ∨ c = 2 := fun c a h => wholeO_code _ s c a h
  clear hin hb hh hb3 hall hx3 hW3 C3 HX2 HH2
  generalize tyO s = o at *
  go_upto_region 5 with fail
  rw [HW3.out]
  have x0 := HX23.out 0 _ rfl
  have x1 := HX23.out 1 _ rfl
  have x2 := HX23.out 2 _ rfl
  have z0 := HX3.out 0 _ rfl
  have z1 := HX3.out 1 _ rfl
  have z2 := HX3.out 2 _ rfl
  go_wp2_with fail
  refine C4.out.mono ?_
  rintro e w4 ⟨rfl, hb⟩
  rw [Ty.eqv_refl]
  have HR4 := Lib.hid (HR3.out.later hb)
  have HB4 := Lib.hid (HB3.out.trans (hb.mono HB3.out.size))
  have HX24 := Lib.hid (HX23.out.later hb)
  have HX34 := Lib.hid (HX3.out.later hb)
  have HH24 := Lib.hid (HH23.out.later hb)
  have HH34 := Lib.hid (HH3.out.later hb)
  have C5 := Lib.hid (told_out o w4 hcd (HE3.out.later hb))
  clear hb C4 x0 x1 x2 z0 z1 z2
  go_wp2_with fail
  refine C5.out.mono ?_
  rintro e w5 ⟨rfl, hb⟩
  have HR5 := Lib.hid (HR4.out.later hb)
  have HB5 := Lib.hid (HB4.out.trans (hb.mono HB4.out.size))
  have HX25 := Lib.hid (HX24.out.later hb)
  have HX35 := Lib.hid (HX34.out.later hb)
  have HH25 := Lib.hid (HH24.out.later hb)
  have HH35 := Lib.hid (HH34.out.later hb)
  clear hb C5
  cases o with
  | err k a =>
    simp only [Out.code, Out.at, Out.errV, Out.val] at *
    have e0 : (k != 0) = true := by rcases hcd k a rfl with rfl | rfl <;> rfl
    have e1 : (k == 0) = false := by rcases hcd k a rfl with rfl | rfl <;> rfl
    go_wp2_with fail
    go_ret
    exact ⟨rfl, HB5.out⟩
  | good t =>
    simp only [Out.code, Out.at, Out.errV, Out.val] at *
    have HRT := Lib.hid (hgd t rfl)
    have x0 := HX35.out 0 _ rfl
    have x1 := HX35.out 1 _ rfl
    have x2 := HX35.out 2 _ rfl
    have C6 := Lib.hid (ref_right_any t B3 m3 c3 w5 (by have := HSM.out.list; omega) (fun s hs => by have := HSM.out.names s hs; omega) HH35.out)
    go_wp2_with fail
    refine C6.out.mono ?_
    rintro e w6 ⟨rfl, hb⟩
    rw [HRT.out]
    have HB6 := Lib.hid (HB5.out.trans (hb.mono HB5.out.size))
    have HX26 := Lib.hid (HX25.out.later hb)
    have C7 := Lib.hid (right_any t B m c w6 (HR5.out.later hb) HSM.out (HH25.out.later hb))
    clear hb C6 x0 x1 x2
    have x0 := HX26.out 0 _ rfl
    have x1 := HX26.out 1 _ rfl
    have x2 := HX26.out 2 _ rfl
    go_wp2_with fail
    refine C7.out.mono ?_
    rintro e w7 ⟨rfl, hb⟩
    rw [HRT.out]
    have HB7 := Lib.hid (HB6.out.trans (hb.mono HB6.out.size))
    clear hb C7 x0 x1 x2
    go_wp2_with fail
    go_ret
    exact ⟨rfl, HB7.out⟩
end Go.Proofs.YtppcpccjeknhdaaGreatDoor.Rd
