/- The walks of name.Local and of the reference's Decimal and Local. No condition but the table of powers. -/
import Derived.Test.YtkdlidakdknhjaaDoorBdP
import Derived.Test.YtkdlidakdknhjaaDoorShelf
import Derived.WalkKit
import Derived.WalkSmall
import Derived.Lib.LaidTab
import Derived.Lib.ItoaNum
import Derived.Lib.ItoaLen
import Derived.Lib.AppendIntMem
import Derived.Lib.SmallJoins
import Derived.Deep.RegionWith
namespace Go.Proofs.YtkdlidakdknhjaaDoor
open Go.RowKit Go.Lib

theorem gPow : Tryd.prog.globalNamed "internal/strconv.uint64pow10" = some 0 := by kernel_rfl
/-- The table of powers of ten. -/
def PowVar (w : World) : Prop := Lib.TabIs Tryd.prog w "internal/strconv.uint64pow10" .u64 Lib.pow10Tab
theorem pow_lt {w : World} {n : String} {g : Nat} {cs : Array Value} (hg : Tryd.prog.globalNamed n = some g) (h : w.var? Tryd.prog n = some cs) : g < w.heap.size := by
  unfold World.var? at h
  rw [hg] at h
  simp only [Option.bind_some] at h
  rcases Nat.lt_or_ge g w.heap.size with h1 | h1
  · exact h1
  · rw [Array.getElem?_eq_none h1] at h
    cases h
theorem PowVar.later {w w' : World} (h : PowVar w) (hb : Below w.heap.size w w') : PowVar w' := var?_below hb gPow (pow_lt gPow h) h
set_option maxHeartbeats 400000 in
theorem local_any (i : Int) (h0 : -9223372036854775808 ≤ i) (h1 : i ≤ 9223372036854775807) (w : World) (hE : PowVar w) :
    Calls Tryd.prog 54 #[.int .i64 i] w fun e w' => e = .returned (.string ⟨(Nm.localL i).toArray⟩) ∧ Below w.heap.size w w' := by
  by_cases hn : i < 0
  · have e : Nm.localL i = [] := by simp [Nm.localL, hn]
    have E := Lib.hid e
    clear e
    go_enter Tryd.func54, Tryd.ntmps54
    go_wp2_with fail
    go_ret
    exact ⟨ret_str (by rw [E.out]), Below.refl _ _⟩
  · have e : Nm.localL i = 36 :: Lib.itoa i := by simp [Nm.localL, hn, Lib.itoa]
    have E := Lib.hid e
    have hl := Lib.itoa_length_le i h0 h1
    clear e
    go_enter Tryd.func54, Tryd.ntmps54
    go_wp2_with fail
    refine (Tryd.strconv_Itoa i h0 h1 _ hE).mono ?_
    rintro e w' ⟨rfl, k, os, rfl⟩
    generalize Lib.itoa i = l at *
    go_wp2_with fail
    go_ret
    refine ⟨ret_str ?_, Lib.below_grow _ _ (Nat.le_refl _) _ _⟩
    rw [E.out, Go.Joins.data_append]
    simp

/-- 'string([]byte{c})', wherever the one byte lies. -/
theorem conv_one (w : World) (g : Nat) (c : Int) (h0 : 0 ≤ c) (h1 : c ≤ 255) (h : w.cell? ⟨g, 0, none⟩ = some (.int .u8 c)) :
    (convert 140 9 (.slice (some ⟨g, 0, none⟩) 1 1)).run Tryd.prog w = .ok (.string ⟨#[UInt8.ofNat c.toNat]⟩) w := by
  have := run_convert_bytes_back (P := Tryd.prog) w 140 9 5 ⟨g, 0, none⟩ 1 [UInt8.ofNat c.toNat] Tryd.underlying140 Tryd.underlying5 Tryd.underlying9 (fun j hj => by
    have hj0 : j = 0 := by simpa using hj
    subst hj0
    have e : ((UInt8.ofNat c.toNat).toNat : Int) = c := by
      rw [UInt8.toNat_ofNat']
      omega
    simp only [List.getElem_cons_zero, e]
    exact h)
  exact this

theorem conv_new (w : World) (c : Int) (h0 : 0 ≤ c) (h1 : c ≤ 255) :
    (convert 140 9 (.slice (some ⟨w.heap.size, 0, none⟩) 1 1)).run Tryd.prog (w.alloc (.cells #[.int .u8 c] 5)) = .ok (.string ⟨#[UInt8.ofNat c.toNat]⟩) (w.alloc (.cells #[.int .u8 c] 5)) :=
  conv_one _ _ c h0 h1 (by go_simp)

set_option maxHeartbeats 400000 in
theorem decimal_small (n : Int) (h0 : 0 ≤ n) (h1 : n < 10) (w : World) :
    Calls Tryd.prog 81 #[.int .i64 n] w fun e w' => e = .returned (.string ⟨(Lib.decDigits n.toNat).toArray⟩) ∧ Below w.heap.size w w' := by
  have hc := conv_new w (48 + n) (by omega) (by omega)
  have e : Lib.decDigits n.toNat = [UInt8.ofNat (48 + n).toNat] := by
    rw [Lib.decDigits_one (by omega)]
    rw [show (48 + n).toNat = 48 + n.toNat by omega]
  have E := Lib.hid e
  clear e
  go_enter Tryd.func81, Tryd.ntmps81
  go_wp2_with fail
  go_ret
  exact ⟨ret_str (by rw [E.out]), (Below.refl _ _).alloc (Nat.le_refl _) _⟩

set_option maxHeartbeats 400000 in
theorem decimal_big (n : Int) (h0 : 10 ≤ n) (h1 : n ≤ 9223372036854775807) (w : World)
    (ih : ∀ (m : Int) (w : World), 0 ≤ m → m < n → Calls Tryd.prog 81 #[.int .i64 m] w fun e w' => e = .returned (.string ⟨(Lib.decDigits m.toNat).toArray⟩) ∧ Below w.heap.size w w') :
    Calls Tryd.prog 81 #[.int .i64 n] w fun e w' => e = .returned (.string ⟨(Lib.decDigits n.toNat).toArray⟩) ∧ Below w.heap.size w w' := by
  obtain ⟨q, hq⟩ : ∃ q, q = n / 10 := ⟨_, rfl⟩
  obtain ⟨r, hr⟩ : ∃ r, r = n % 10 := ⟨_, rfl⟩
  have H := Lib.hid (fun w => ih q w (by omega) (by omega))
  have b1 : 0 ≤ q := by omega
  have b3 : 0 ≤ r := by omega
  have b4 : r ≤ 9 := by omega
  have e1 : IntKind.i64.wrap (n.tdiv 10) = q := by rw [Int.tdiv_eq_ediv_of_nonneg (by omega), ← hq]; exact IntWalk.i64_in _ (by omega)
  have e2 : n.tmod 10 = r := by rw [Int.tmod_eq_emod_of_nonneg (by omega), ← hr]
  have e3 : IntKind.i64.wrap (48 + r) = 48 + r := IntWalk.i64_in _ (by omega)
  have e4 : IntKind.u8.wrap (48 + r) = 48 + r := by unfold IntKind.wrap; simp [IntKind.bits, IntKind.signed]; omega
  have cv := fun (W : World) (g : Nat) (h : W.cell? ⟨g, 0, none⟩ = some (.int .u8 (48 + r))) => conv_one W g (48 + r) (by omega) (by omega) h
  have e : Lib.decDigits n.toNat = Lib.decDigits q.toNat ++ [UInt8.ofNat (48 + r).toNat] := by
    rw [Lib.decDigits, dif_neg (by omega)]
    rw [show n.toNat / 10 = q.toNat by omega, show (48 + r).toNat = 48 + n.toNat % 10 by omega]
  have E := Lib.hid e
  have hl : (Lib.decDigits q.toNat).length ≤ 21 := by
    have := Lib.itoa_length_le q (by omega) (by omega)
    rwa [Lib.itoa, if_neg (by omega)] at this
  clear e hq hr ih
  generalize Lib.decDigits q.toNat = l at *
  go_enter Tryd.func81, Tryd.ntmps81
  go_wp2_with fail
  go_region_with (go_at_call 81; refine (H.out _).mono ?_; rintro e w1 ⟨rfl, hb1⟩; have hc1 := bcell hb1)
  all_goals
    go_wp2
    go_ret
    refine ⟨ret_str (by rw [E.out, Go.Joins.data_append]), ?_⟩
    clear H E cv e1 e2 e3 e4 hc1
    first
    | exact ((Below.refl _ w).drew.trans (hb1.mono (Nat.le_refl _))).alloc (by simpa using hb1.size) _
    | exact ((Below.refl _ w).alloc (Nat.le_refl _) _).drew.trans (hb1.mono (by simp))

theorem decimal_any : ∀ (k : Nat) (n : Int) (w : World), n.toNat < k → 0 ≤ n → n ≤ 9223372036854775807 →
    Calls Tryd.prog 81 #[.int .i64 n] w fun e w' => e = .returned (.string ⟨(Lib.decDigits n.toNat).toArray⟩) ∧ Below w.heap.size w w'
  | 0, n, w, hk, _, _ => absurd hk (Nat.not_lt_zero _)
  | k + 1, n, w, hk, h0, h1 => by
    rcases Int.lt_or_le n 10 with hs | hs
    · exact decimal_small n h0 hs w
    · exact decimal_big n hs h1 w fun m w' hm hmn => decimal_any k m w' (by omega) hm (by omega)

set_option maxHeartbeats 400000 in
theorem ref_local_any (i : Int) (h0 : -9223372036854775808 ≤ i) (h1 : i ≤ 9223372036854775807) (w : World) :
    Calls Tryd.prog 58 #[.int .i64 i] w fun e w' => e = .returned (.string ⟨(Nm.localL i).toArray⟩) ∧ Below w.heap.size w w' := by
  by_cases hn : i < 0
  · have e : Nm.localL i = [] := by simp [Nm.localL, hn]
    have E := Lib.hid e
    clear e
    go_enter Tryd.func58, Tryd.ntmps58
    go_wp2_with fail
    go_ret
    exact ⟨ret_str (by rw [E.out]), Below.refl _ _⟩
  · have e : Nm.localL i = 36 :: Lib.decDigits i.toNat := by simp [Nm.localL, hn]
    have E := Lib.hid e
    have hl : (Lib.decDigits i.toNat).length ≤ 21 := by
      have := Lib.itoa_length_le i h0 h1
      rwa [Lib.itoa, if_neg hn] at this
    clear e
    go_enter Tryd.func58, Tryd.ntmps58
    go_wp2_with fail
    refine (decimal_any (i.toNat + 1) i _ (by omega) (by omega) h1).mono ?_
    rintro e w' ⟨rfl, hb⟩
    generalize Lib.decDigits i.toNat = l at *
    go_wp2_with fail
    go_ret
    refine ⟨ret_str ?_, hb⟩
    rw [E.out, Go.Joins.data_append]
    simp
end Go.Proofs.YtkdlidakdknhjaaDoor
