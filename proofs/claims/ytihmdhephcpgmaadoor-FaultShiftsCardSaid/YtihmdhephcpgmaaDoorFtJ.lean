/- The walks of fault.Name, and of the reference's Name and Decimal. -/
import Derived.Test.YtihmdhephcpgmaaDoorFtErr
import Derived.Lib.ItoaLen
import Derived.Lib.AppendIntMem
import Derived.Lib.SmallJoins
import Derived.Lib.Hide
import Derived.Deep.RegionWith
namespace Go.Proofs.YtihmdhephcpgmaaDoor
open Go.RowKit Go.Lib

namespace Ft
def nameOf (c : Int) : List UInt8 := if c < 0 ∨ 7 ≤ c then [] else names.getD c.toNat []
end Ft

theorem nam_cell {w : World} (hE : Env w) (i : Nat) : w.cell? ⟨0, i, none⟩ = namCells[i]? := World.var?_cell gNam hE.nam i

set_option maxHeartbeats 400000 in
theorem name_any (c : Int) (w : World) (hE : Env w) :
    Calls Tryd.prog 17 #[.int .i64 c] w fun e w' => e = .returned (.string ⟨(Ft.nameOf c).toArray⟩) ∧ w = w' := by
  by_cases hc : c < 0 ∨ 7 ≤ c
  · have e : Ft.nameOf c = [] := by simp [Ft.nameOf, hc]
    have E := Lib.hid e
    clear e
    have hc' : c < 0 ∨ (0 ≤ c ∧ 7 ≤ c) := by omega
    clear hc
    rcases hc' with hc | ⟨hc, hc2⟩
    all_goals
      go_enter Tryd.func17, Tryd.ntmps17
      go_wp2_with fail
      go_ret
      exact ⟨ret_str (by simp [E.out]), rfl⟩
  · have h7 : c = 0 ∨ c = 1 ∨ c = 2 ∨ c = 3 ∨ c = 4 ∨ c = 5 ∨ c = 6 := by omega
    have k0 := nam_cell hE 0
    have k1 := nam_cell hE 1
    have k2 := nam_cell hE 2
    have k3 := nam_cell hE 3
    have k4 := nam_cell hE 4
    have k5 := nam_cell hE 5
    have k6 := nam_cell hE 6
    clear hc hE
    simp [namCells, Ft.names] at k0 k1 k2 k3 k4 k5 k6
    rcases h7 with rfl | rfl | rfl | rfl | rfl | rfl | rfl
    all_goals
      go_enter Tryd.func17, Tryd.ntmps17
      go_wp2_with fail
      go_ret
      exact ⟨rfl, rfl⟩

set_option maxHeartbeats 400000 in
theorem ref_name_any (c : Int) (w : World) :
    Calls Tryd.prog 18 #[.int .i64 c] w fun e w' => e = .returned (.string ⟨(Ft.nameOf c).toArray⟩) ∧ Below w.heap.size w w' := by
  by_cases hc : c < 1 ∨ 6 < c
  · have e : Ft.nameOf c = [] := by
      unfold Ft.nameOf
      by_cases h0 : c = 0
      · subst h0; rfl
      · rw [if_pos (by omega)]
    have E := Lib.hid e
    clear e
    have hc' : c < 1 ∨ (1 ≤ c ∧ 6 < c) := by omega
    clear hc
    rcases hc' with hc | ⟨hc, hc2⟩
    all_goals
      go_enter Tryd.func18, Tryd.ntmps18
      go_wp2_with fail
      go_ret
      exact ⟨ret_str (by simp [E.out]), Below.refl _ _⟩
  · have h7 : c = 1 ∨ c = 2 ∨ c = 3 ∨ c = 4 ∨ c = 5 ∨ c = 6 := by omega
    clear hc
    rcases h7 with rfl | rfl | rfl | rfl | rfl | rfl
    all_goals
      go_enter Tryd.func18, Tryd.ntmps18
      go_wp2_with fail
      go_ret
      exact ⟨rfl, (Below.refl _ _).alloc (Nat.le_refl _) _⟩

def digC (n : Int) : UInt8 := UInt8.ofNat (48 + n.toNat)
theorem dsl0 (w : World) : (Instr.slice 9 (.string ⟨#[48, 49, 50, 51, 52, 53, 54, 55, 56, 57]⟩) (some (.int .i64 0)) (some (.int .i64 1)) none).run Tryd.prog w = .ok (.string ⟨#[48]⟩) w := by kernel_rfl
theorem dsl1 (w : World) : (Instr.slice 9 (.string ⟨#[48, 49, 50, 51, 52, 53, 54, 55, 56, 57]⟩) (some (.int .i64 1)) (some (.int .i64 2)) none).run Tryd.prog w = .ok (.string ⟨#[49]⟩) w := by kernel_rfl
theorem dsl2 (w : World) : (Instr.slice 9 (.string ⟨#[48, 49, 50, 51, 52, 53, 54, 55, 56, 57]⟩) (some (.int .i64 2)) (some (.int .i64 3)) none).run Tryd.prog w = .ok (.string ⟨#[50]⟩) w := by kernel_rfl
theorem dsl3 (w : World) : (Instr.slice 9 (.string ⟨#[48, 49, 50, 51, 52, 53, 54, 55, 56, 57]⟩) (some (.int .i64 3)) (some (.int .i64 4)) none).run Tryd.prog w = .ok (.string ⟨#[51]⟩) w := by kernel_rfl
theorem dsl4 (w : World) : (Instr.slice 9 (.string ⟨#[48, 49, 50, 51, 52, 53, 54, 55, 56, 57]⟩) (some (.int .i64 4)) (some (.int .i64 5)) none).run Tryd.prog w = .ok (.string ⟨#[52]⟩) w := by kernel_rfl
theorem dsl5 (w : World) : (Instr.slice 9 (.string ⟨#[48, 49, 50, 51, 52, 53, 54, 55, 56, 57]⟩) (some (.int .i64 5)) (some (.int .i64 6)) none).run Tryd.prog w = .ok (.string ⟨#[53]⟩) w := by kernel_rfl
theorem dsl6 (w : World) : (Instr.slice 9 (.string ⟨#[48, 49, 50, 51, 52, 53, 54, 55, 56, 57]⟩) (some (.int .i64 6)) (some (.int .i64 7)) none).run Tryd.prog w = .ok (.string ⟨#[54]⟩) w := by kernel_rfl
theorem dsl7 (w : World) : (Instr.slice 9 (.string ⟨#[48, 49, 50, 51, 52, 53, 54, 55, 56, 57]⟩) (some (.int .i64 7)) (some (.int .i64 8)) none).run Tryd.prog w = .ok (.string ⟨#[55]⟩) w := by kernel_rfl
theorem dsl8 (w : World) : (Instr.slice 9 (.string ⟨#[48, 49, 50, 51, 52, 53, 54, 55, 56, 57]⟩) (some (.int .i64 8)) (some (.int .i64 9)) none).run Tryd.prog w = .ok (.string ⟨#[56]⟩) w := by kernel_rfl
theorem dsl9 (w : World) : (Instr.slice 9 (.string ⟨#[48, 49, 50, 51, 52, 53, 54, 55, 56, 57]⟩) (some (.int .i64 9)) (some (.int .i64 10)) none).run Tryd.prog w = .ok (.string ⟨#[57]⟩) w := by kernel_rfl
theorem dsl (n : Int) (h0 : 0 ≤ n) (h1 : n < 10) (w : World) :
    (Instr.slice 9 (.string ⟨#[48, 49, 50, 51, 52, 53, 54, 55, 56, 57]⟩) (some (.int .i64 n)) (some (.int .i64 (n + 1))) none).run Tryd.prog w = .ok (.string ⟨#[digC n]⟩) w := by
  have h : n = 0 ∨ n = 1 ∨ n = 2 ∨ n = 3 ∨ n = 4 ∨ n = 5 ∨ n = 6 ∨ n = 7 ∨ n = 8 ∨ n = 9 := by omega
  clear h0 h1
  rcases h with rfl | rfl | rfl | rfl | rfl | rfl | rfl | rfl | rfl | rfl
  · exact dsl0 w
  · exact dsl1 w
  · exact dsl2 w
  · exact dsl3 w
  · exact dsl4 w
  · exact dsl5 w
  · exact dsl6 w
  · exact dsl7 w
  · exact dsl8 w
  · exact dsl9 w

set_option maxHeartbeats 400000 in
theorem decimal_small (n : Int) (h0 : 0 ≤ n) (h1 : n < 10) (w : World) :
    Calls Tryd.prog 26 #[.int .i64 n] w fun e w' => e = .returned (.string ⟨(Lib.itoa n).toArray⟩) ∧ Below w.heap.size w w' := by
  have e : Lib.itoa n = [digC n] := by
    rw [Lib.itoa, if_neg (by omega), Lib.decDigits_one (by omega)]; rfl
  have E := Lib.hid e
  have hs := dsl n h0 h1
  clear e
  go_enter Tryd.func26, Tryd.ntmps26
  go_wp2_with fail
  go_ret
  exact ⟨ret_str (by rw [E.out]), Below.refl _ _⟩

/-- The decimal form of a number of two digits or more is that of its tenth, and a digit. -/
theorem itoa_big (n : Int) (h : 10 ≤ n) : Lib.itoa n = Lib.itoa (n / 10) ++ [digC (n % 10)] := by
  rw [Lib.itoa, if_neg (by omega), Lib.itoa, if_neg (by omega), Lib.decDigits, dif_neg (by omega)]
  unfold digC
  rw [show n.toNat / 10 = (n / 10).toNat by omega, show n.toNat % 10 = (n % 10).toNat by omega]

set_option maxHeartbeats 400000 in
theorem decimal_big (n : Int) (h0 : 10 ≤ n) (h1 : n ≤ 9223372036854775807) (w : World)
    (ih : ∀ (m : Int) (w : World), 0 ≤ m → m < n → Calls Tryd.prog 26 #[.int .i64 m] w fun e w' => e = .returned (.string ⟨(Lib.itoa m).toArray⟩) ∧ Below w.heap.size w w') :
    Calls Tryd.prog 26 #[.int .i64 n] w fun e w' => e = .returned (.string ⟨(Lib.itoa n).toArray⟩) ∧ Below w.heap.size w w' := by
  have e := itoa_big n h0
  obtain ⟨q, hq⟩ : ∃ q, q = n / 10 := ⟨_, rfl⟩
  obtain ⟨r, hr⟩ : ∃ r, r = n % 10 := ⟨_, rfl⟩
  rw [← hq, ← hr] at e
  have H := Lib.hid (fun w => ih q w (by omega) (by omega))
  have b1 : 0 ≤ q := by omega
  have b3 : 0 ≤ r := by omega
  have b4 : r ≤ 9 := by omega
  have e1 : IntKind.i64.wrap (n.tdiv 10) = q := by rw [Int.tdiv_eq_ediv_of_nonneg (by omega), ← hq]; exact IntWalk.i64_in _ (by omega)
  have e2 : n.tmod 10 = r := by rw [Int.tmod_eq_emod_of_nonneg (by omega), ← hr]
  have e3 : IntKind.i64.wrap (r + 1) = r + 1 := IntWalk.i64_in _ (by omega)
  have hs := dsl r b3 (by omega)
  have E := Lib.hid e
  have hl := Lib.itoa_length_le q (by omega) (by omega)
  clear e hq hr ih
  generalize Lib.itoa n = L at *
  generalize Lib.itoa q = l at *
  go_enter Tryd.func26, Tryd.ntmps26
  go_wp2_with fail
  go_region_with (go_at_call 26; refine (H.out _).mono ?_; rintro e w1 ⟨rfl, hb1⟩)
  all_goals
    go_wp2
    go_ret
    refine ⟨ret_str (by rw [E.out, Go.Joins.data_append]), ?_⟩
    exact (Below.refl _ w).drew.trans (hb1.mono (Nat.le_refl _))

theorem itoa_neg1 (n : Int) (h0 : -9 ≤ n) (h1 : n < 0) : Lib.itoa n = 45 :: Lib.itoa (-n) := by
  rw [Lib.itoa, if_pos h1, Lib.itoa, if_neg (by omega), show n.natAbs = (-n).toNat by omega]
theorem itoa_neg2 (n : Int) (h : n < -9) : Lib.itoa n = Lib.itoa (-((-n) / 10)) ++ Lib.itoa ((-n) % 10) := by
  rw [Lib.itoa, if_pos (by omega), Lib.itoa, if_pos (by omega), Lib.itoa, if_neg (by omega), Lib.decDigits, dif_neg (by omega), Lib.decDigits_one (i := ((-n) % 10).toNat) (by omega)]
  rw [show n.natAbs / 10 = (-(-n / 10)).natAbs by omega, show n.natAbs % 10 = (-n % 10).toNat by omega]
  rfl

set_option maxHeartbeats 400000 in
theorem decimal_neg1 (n : Int) (h0 : -9 ≤ n) (h1 : n < 0) (w : World) :
    Calls Tryd.prog 26 #[.int .i64 n] w fun e w' => e = .returned (.string ⟨(Lib.itoa n).toArray⟩) ∧ Below w.heap.size w w' := by
  have e := itoa_neg1 n h0 h1
  obtain ⟨m, hm⟩ : ∃ m, m = -n := ⟨_, rfl⟩
  rw [← hm] at e
  have H := Lib.hid (fun w => decimal_small m (by omega) (by omega) w)
  have hl := Lib.itoa_length_le m (by omega) (by omega)
  have hw : IntKind.i64.wrap (-n) = m := by rw [← hm]; exact IntWalk.i64_in _ (by omega)
  have E := Lib.hid e
  clear hm e
  generalize Lib.itoa n = L at *
  generalize Lib.itoa m = l at *
  go_enter Tryd.func26, Tryd.ntmps26
  go_wp2_with fail
  refine (H.out _).mono ?_
  rintro e w1 ⟨rfl, hb1⟩
  go_wp2_with fail
  go_ret
  refine ⟨ret_str ?_, hb1⟩
  rw [E.out, Go.Joins.data_append]
  simp

set_option maxHeartbeats 400000 in
theorem decimal_neg2 (n : Int) (h0 : -9223372036854775808 ≤ n) (h1 : n < -9) (w : World)
    (ih : ∀ (m : Int) (w : World), n < m → m < 0 → Calls Tryd.prog 26 #[.int .i64 m] w fun e w' => e = .returned (.string ⟨(Lib.itoa m).toArray⟩) ∧ Below w.heap.size w w') :
    Calls Tryd.prog 26 #[.int .i64 n] w fun e w' => e = .returned (.string ⟨(Lib.itoa n).toArray⟩) ∧ Below w.heap.size w w' := by
  have e := itoa_neg2 n h1
  obtain ⟨q, hq⟩ : ∃ q, q = -((-n) / 10) := ⟨_, rfl⟩
  obtain ⟨r, hr⟩ : ∃ r, r = (-n) % 10 := ⟨_, rfl⟩
  rw [← hq, ← hr] at e
  have H := Lib.hid (fun w => ih q w (by omega) (by omega))
  have K := Lib.hid (fun w => decimal_small r (by omega) (by omega) w)
  have e1 : IntKind.i64.wrap (n.tdiv 10) = q := by
    rw [show n = -(-n) by omega, Int.neg_tdiv, Int.tdiv_eq_ediv_of_nonneg (by omega), ← hq]
    exact IntWalk.i64_in _ (by omega)
  have e2 : n.tmod 10 = -r := by rw [show n = -(-n) by omega, Int.neg_tmod, Int.tmod_eq_emod_of_nonneg (by omega), ← hr]
  have e3 : IntKind.i64.wrap r = r := IntWalk.i64_in _ (by omega)
  have hl := Lib.itoa_length_le q (by omega) (by omega)
  have hk := Lib.itoa_length_le r (by omega) (by omega)
  have E := Lib.hid e
  clear hq hr e ih
  generalize Lib.itoa n = L at *
  generalize Lib.itoa q = l at *
  generalize Lib.itoa r = k at *
  go_enter Tryd.func26, Tryd.ntmps26
  go_wp2_with fail
  refine (H.out _).mono ?_
  rintro e w1 ⟨rfl, hb1⟩
  go_wp2_with fail
  refine (K.out _).mono ?_
  rintro e w2 ⟨rfl, hb2⟩
  go_wp2_with fail
  go_ret
  refine ⟨ret_str ?_, hb1.trans (hb2.mono hb1.size)⟩
  rw [E.out, Go.Joins.data_append]

theorem decimal_any : ∀ (k : Nat) (n : Int) (w : World), n.natAbs < k → -9223372036854775808 ≤ n → n ≤ 9223372036854775807 →
    Calls Tryd.prog 26 #[.int .i64 n] w fun e w' => e = .returned (.string ⟨(Lib.itoa n).toArray⟩) ∧ Below w.heap.size w w'
  | 0, n, w, hk, _, _ => absurd hk (Nat.not_lt_zero _)
  | k + 1, n, w, hk, h0, h1 => by
    by_cases a : n < -9
    · exact decimal_neg2 n h0 a w fun m w' hm hmn => decimal_any k m w' (by omega) (by omega) (by omega)
    · by_cases b : n < 0
      · exact decimal_neg1 n (by omega) b w
      · by_cases c : n < 10
        · exact decimal_small n (by omega) c w
        · exact decimal_big n (by omega) h1 w fun m w' hm hmn => decimal_any k m w' (by omega) (by omega) (by omega)
end Go.Proofs.YtihmdhephcpgmaaDoor
