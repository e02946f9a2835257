/- The walk of lex.Same: slices.EqualFunc over its closure. -/
import Derived.Test.YtfbahblhcmgbiaaDoorLwC
namespace Go.Proofs.YtfbahblhcmgbiaaDoor
open Go.RowKit

set_option maxHeartbeats 1000000 in
theorem same_clo (x y : Tk) (w : World) :
    Calls Tryd.prog 28 #[.agg #[.int .i64 x.k, .string x.s, .int .i64 x.o], .agg #[.int .i64 y.k, .string y.s, .int .i64 y.o]] w fun e w' => e = .returned (.bool (sameT x y)) ∧ Below w.heap.size w w' := by
  have hb : Below w.heap.size w ((w.alloc (.cells #[.int .i64 x.k, .string x.s, .int .i64 x.o] 43)).alloc (.cells #[.int .i64 y.k, .string y.s, .int .i64 y.o] 43)) := ((Below.refl _ _).alloc (Nat.le_refl _) _).alloc (by simp) _
  have HB := Lib.hid hb
  clear hb
  by_cases h1 : x.k = y.k
  · by_cases h2 : x.s.toList = y.s.toList
    · have HS := Lib.hid (show sameT x y = true by simp [sameT, h1, h2])
      have e1 : (x.k == y.k) = true := by simp [h1]
      have e2 : (x.s.toList == y.s.toList) = true := by simp [h2]
      clear h1 h2
      go_enter Tryd.func28, Tryd.ntmps28
      go_wp2_with fail
      go_ret
      exact ⟨ret_bool HS.out.symm, HB.out⟩
    · have HS := Lib.hid (show sameT x y = false by simp [sameT, h2])
      have e1 : (x.k == y.k) = true := by simp [h1]
      have e2 : (x.s.toList == y.s.toList) = false := by simp [h2]
      clear h1 h2
      go_enter Tryd.func28, Tryd.ntmps28
      go_wp2_with fail
      go_ret
      exact ⟨ret_bool HS.out.symm, HB.out⟩
  · have HS := Lib.hid (show sameT x y = false by simp [sameT, h1])
    have e1 : (x.k == y.k) = false := by simp [h1]
    clear h1
    go_enter Tryd.func28, Tryd.ntmps28
    go_wp2_with fail
    go_ret
    exact ⟨ret_bool HS.out.symm, HB.out⟩

set_option maxHeartbeats 2000000 in
theorem equal_func_any (A B : Option Addr) (n m ca cb : Nat) (a b : List Tk) (w : World) (hn : n ≤ 9223372036854775807) (hm : m ≤ 9223372036854775807) (ha : TS w A n a) (hb : TS w B m b) :
    Calls Tryd.prog 27 #[.slice A n ca, .slice B m cb, .func (.func 28) #[] #[]] w fun e w' => e = .returned (.bool (alikeB a b)) ∧ Below w.heap.size w w' := by
  by_cases hnm : n = m
  · subst hnm
    have HA := Lib.hid ha
    have HB := Lib.hid hb
    clear ha hb
    have hnn : (!((n : Int) == (n : Int))) = false := by simp
    go_enter Tryd.func27, Tryd.ntmps27
    go_wp2_with fail
    go_loopw [17] (fun i wr => ∃ k : Nat, k ≤ n ∧ i = .int .i64 k ∧ alikeB a b = alikeB (a.drop k) (b.drop k) ∧ Below w.heap.size w wr) (fun i _ => n - (intOf i).toNat)
    case atStart => exact ⟨0, by omega, rfl, rfl, Below.refl _ _⟩
    case round =>
      obtain ⟨k, hk, rfl, hy, hbel⟩ := hrel
      by_cases hlt : k < n
      · obtain ⟨ad, x, rfl, hx, c0, c1, c2⟩ := (HA.out.later hbel).get hlt
        have hsz := hbel.size
        have hb1 := hbel.alloc hsz (.cells #[.int .i64 x.k, .string x.s, .int .i64 x.o] 43)
        obtain ⟨bd, y, rfl, hy2, d0, d1, d2⟩ := (HB.out.later hb1).get hlt
        have hb2 := hb1.alloc hb1.size (.cells #[.int .i64 y.k, .string y.s, .int .i64 y.o] 43)
        have z0 : (0 : Int) ≤ k := by omega
        have z1 : (k : Int) < n := by omega
        have hs := alikeB_step hx hy2
        rw [← hy] at hs
        have HB2 := Lib.hid hb2
        clear hbel hy hx hy2 hb1 hb2
        cases ht : sameT x y
        · have HS := Lib.hid (hs.trans (by rw [ht]; rfl : _ = false))
          clear hs
          go_wp2_with fail
          refine (same_clo x y _).mono ?_
          rintro e w' ⟨rfl, hb3⟩
          have HB3 := Lib.hid (HB2.out.trans (hb3.mono HB2.out.size))
          clear hb3
          go_wp2_with fail
          go_ret
          exact ⟨ret_bool HS.out.symm, HB3.out⟩
        · have HS := Lib.hid (hs.trans (by rw [ht]; rfl : _ = alikeB (a.drop (k + 1)) (b.drop (k + 1))))
          clear hs
          go_wp2_with fail
          refine (same_clo x y _).mono ?_
          rintro e w' ⟨rfl, hb3⟩
          have HB3 := Lib.hid (HB2.out.trans (hb3.mono HB2.out.size))
          clear hb3
          go_wp2_with fail
          go_roundw
          case rel => exact ⟨k + 1, by omega, by go_num, HS.out, HB3.out⟩
          case measure => simp [intOf]; omega
      · have hkn : k = n := by omega
        have z1 : (n : Int) ≤ k := by omega
        have ht1 : a.drop k = [] := List.drop_eq_nil_of_le (by rw [HA.out.len]; omega)
        have ht2 : b.drop k = [] := List.drop_eq_nil_of_le (by rw [HB.out.len]; omega)
        rw [ht1, ht2] at hy
        have HY := Lib.hid hy
        have HBL := Lib.hid hbel
        clear hbel hy ht1 ht2 hkn
        go_wp2_with fail
        go_ret
        exact ⟨ret_bool (by rw [HY.out]; rfl), HBL.out⟩
  · have HS := Lib.hid (alikeB_len (a := a) (b := b) (by rw [ha.len, hb.len]; exact hnm))
    have e1 : ((n : Int) != (m : Int)) = true := by simp; omega
    have e2 : ((n : Int) == (m : Int)) = false := by simp; omega
    clear hnm ha hb
    go_enter Tryd.func27, Tryd.ntmps27
    go_wp2_with fail
    go_ret
    exact ⟨ret_bool HS.out.symm, Below.refl _ _⟩

theorem lex_same_any (A B : Option Addr) (n m ca cb : Nat) (a b : List Tk) (w : World) (hn : n ≤ 9223372036854775807) (hm : m ≤ 9223372036854775807) (ha : TS w A n a) (hb : TS w B m b) :
    Calls Tryd.prog 16 #[.slice A n ca, .slice B m cb] w fun e w' => e = .returned (.bool (alikeB a b)) ∧ Below w.heap.size w w' := by
  have C := Lib.hid (equal_func_any A B n m ca cb a b w hn hm ha hb)
  clear ha hb
  go_enter Tryd.func16, Tryd.ntmps16
  go_wp2_with fail
  refine C.out.mono ?_
  rintro e w' ⟨rfl, hb⟩
  have HB := Lib.hid hb
  clear hb
  go_wp2_with fail
  go_ret
  exact ⟨rfl, HB.out⟩
end Go.Proofs.YtfbahblhcmgbiaaDoor
