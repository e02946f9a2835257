/- The walks of the laws NameMatchesReference and NameOrders: true, at every input. -/
import Derived.Test.YtekkecpdnlbkjaaDoorAwake
import Derived.Test.YtekkecpdnlbkjaaDoorWalkD
import Derived.Test.YtekkecpdnlbkjaaDoorPureD
namespace Go.Proofs.YtekkecpdnlbkjaaDoor
open Go.RowKit Go.Lib

set_option maxHeartbeats 1000000 in
theorem matches_any (s : ByteArray) (hs : s.size ≤ 9223372036854775807) (c : Int) (h0 : 0 ≤ c) (h1 : c ≤ 255) (w : World) (hE : Env w) :
    Calls Tryd.prog 3 #[.string s, .int .u8 c] w fun e w' => e = .returned (.bool true) ∧ Below w.heap.size w w' := by
  by_cases hl : 1000 < s.size
  · have z : (1000 : Int) < s.size := by omega
    go_enter Tryd.func3, Tryd.ntmps3
    go_wp2_with fail
    refine (awake_any _ hE).mono ?_
    rintro e w1 ⟨rfl, hb1⟩
    have hE1 := hE.later hb1
    go_wp2_with fail
    refine (awake_any _ hE1).mono ?_
    rintro e w2 ⟨rfl, hb2⟩
    have hB2 := hb1.trans (hb2.mono hb1.size)
    go_wp2_with fail
    go_ret
    exact ⟨rfl, hB2⟩
  · have z : (s.size : Int) ≤ 1000 := by omega
    go_enter Tryd.func3, Tryd.ntmps3
    go_wp2_with fail
    refine (awake_any _ hE).mono ?_
    rintro e w1 ⟨rfl, hb1⟩
    have hE1 := hE.later hb1
    go_wp2_with fail
    refine (is_any s _ hE1).mono ?_
    rintro e w2 ⟨rfl, hb2⟩
    have hE2 := hE1.later hb2
    have hB2 := hb1.trans (hb2.mono hb1.size)
    clear hb1 hb2 hE1
    go_wp2_with fail
    refine (ref_is_any s hs _).mono ?_
    rintro e w3 ⟨rfl, rfl⟩
    go_wp2_with fail
    refine (reserved_any s _ hE2).mono ?_
    rintro e w3 ⟨rfl, rfl⟩
    go_wp2_with fail
    refine (ref_reserved_any s _).mono ?_
    rintro e w3 ⟨rfl, rfl⟩
    go_wp2_with fail
    refine (class_any c h0 h1 _).mono ?_
    rintro e w3 ⟨rfl, rfl⟩
    go_wp2_with fail
    refine (ref_class_any c h0 h1 _).mono ?_
    rintro e w3 ⟨rfl, rfl⟩
    go_wp2_with fail
    go_ret
    exact ⟨ret_bool (by simp), hB2⟩

set_option maxHeartbeats 1000000 in
theorem orders_any (a b c : ByteArray) (ha : a.size ≤ 9223372036854775807) (hb : b.size ≤ 9223372036854775807) (_hc : c.size ≤ 9223372036854775807) (w : World) (hE : Env w) :
    Calls Tryd.prog 6 #[.string a, .string b, .string c] w fun e w' => e = .returned (.bool true) ∧ Below w.heap.size w w' := by
  by_cases hl : 300 < a.size ∨ 300 < b.size ∨ 300 < c.size
  · have hl1 : 300 < a.size ∨ (a.size ≤ 300 ∧ 300 < b.size) ∨ (a.size ≤ 300 ∧ b.size ≤ 300 ∧ 300 < c.size) := by omega
    clear hl
    rcases hl1 with z1 | ⟨z0, z1⟩ | ⟨z0, z2, z1⟩
    all_goals
      go_enter Tryd.func6, Tryd.ntmps6
      go_wp2_with fail
      refine (awake_any _ hE).mono ?_
      rintro e w1 ⟨rfl, hb1⟩
      have hE1 := hE.later hb1
      go_wp2_with fail
      refine (awake_any _ hE1).mono ?_
      rintro e w2 ⟨rfl, hb2⟩
      have hB2 := hb1.trans (hb2.mono hb1.size)
      go_wp2_with fail
      go_ret
      exact ⟨rfl, hB2⟩
  · have z1 : a.size ≤ 300 := by omega
    have z2 : b.size ≤ 300 := by omega
    have z3 : c.size ≤ 300 := by omega
    have hneg := Nm.cmp_neg a.data.toList b.data.toList
    have hz := Nm.cmp_zero a.data.toList b.data.toList
    have htr := Nm.cmp_trans a.data.toList b.data.toList c.data.toList
    have hcs := Nm.cmp_cases a.data.toList b.data.toList
    have ca := compare_any a b
    have cb := compare_any b a
    have cc := compare_any b c
    have cd := compare_any a c
    have ce := ref_compare_any a b ha hb
    rw [hneg] at cb
    generalize compareBytes a.data.toList b.data.toList = n at *
    generalize compareBytes b.data.toList c.data.toList = m at *
    generalize compareBytes a.data.toList c.data.toList = k at *
    have CA := Lib.hid ca
    have CB := Lib.hid cb
    have CC := Lib.hid cc
    have CD := Lib.hid cd
    have CE := Lib.hid ce
    have heq : (n == 0) = (a.toList == b.toList) := by
      rw [Lib.toList_data, Lib.toList_data, Bool.eq_iff_iff]
      simpa using hz
    have HT := Lib.hid htr
    have HQ := Lib.hid heq
    clear ca cb cc cd ce hneg hz htr hl heq
    go_enter Tryd.func6, Tryd.ntmps6
    go_wp2_with fail
    refine (awake_any _ hE).mono ?_
    rintro e w1 ⟨rfl, hb1⟩
    go_wp2_with fail
    refine (CA.out _).mono ?_
    rintro e w2 ⟨rfl, rfl⟩
    go_wp2_with fail
    refine (CE.out _).mono ?_
    rintro e w2 ⟨rfl, hb2⟩
    have hB2 := hb1.trans (hb2.mono hb1.size)
    clear hb1 hb2
    go_wp2_with fail
    refine (CB.out _).mono ?_
    rintro e w3 ⟨rfl, rfl⟩
    have hq : (!((n == 0) == (a.toList == b.toList))) = false := by rw [HQ.out]; simp
    by_cases hn : 0 < n
    · go_wp2_with fail
      go_ret
      exact ⟨rfl, hB2⟩
    · have hn' : n ≤ 0 := by omega
      clear hn
      go_wp2_with fail
      refine (CC.out _).mono ?_
      rintro e w3 ⟨rfl, rfl⟩
      by_cases hm : 0 < m
      · go_wp2_with fail
        go_ret
        exact ⟨rfl, hB2⟩
      · have hm' : m ≤ 0 := by omega
        have hk := HT.out hn' hm'
        clear hm
        go_wp2_with fail
        refine (CD.out _).mono ?_
        rintro e w3 ⟨rfl, rfl⟩
        go_wp2_with fail
        go_ret
        exact ⟨ret_bool (by simp), hB2⟩
end Go.Proofs.YtekkecpdnlbkjaaDoor
