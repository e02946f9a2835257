/- The walks of the laws NameLocals and NameIndexes: true, at every input. -/
import Derived.Test.YtekkecpdnlbkjaaDoorAwake
import Derived.Test.YtekkecpdnlbkjaaDoorWalkG
import Derived.Test.YtekkecpdnlbkjaaDoorPureD
namespace Go.Proofs.YtekkecpdnlbkjaaDoor
open Go.RowKit Go.Lib

theorem str_size (l : List UInt8) : (⟨l.toArray⟩ : ByteArray).size = l.length := by rw [Lib.size_eq]

set_option maxHeartbeats 1000000 in
theorem locals_any (i : Int) (h0 : -9223372036854775808 ≤ i) (h1 : i ≤ 9223372036854775807) (w : World) (hE : Env w) :
    Calls Tryd.prog 4 #[.int .i64 i] w fun e w' => e = .returned (.bool true) ∧ Below w.heap.size w w' := by
  have hs : (⟨(Nm.localL i).toArray⟩ : ByteArray).size ≤ 281474976710656 := by
    have := Nm.local_length i h1
    rw [str_size]
    omega
  have hni := Nm.local_not_is i
  have cl := fun w hE => local_any i h0 h1 w hE
  have ci := fun w hE => index_any ⟨(Nm.localL i).toArray⟩ hs w hE
  have cr := fun w => ref_local_any i h0 h1 w
  have cs := fun w hE => is_at ⟨(Nm.localL i).toArray⟩ false hni w hE
  have CL := Lib.hid cl
  have CR := Lib.hid cr
  have CS := Lib.hid cs
  by_cases hn : i < 0
  · have e : Nm.localL i = [] := by simp [Nm.localL, hn]
    have e2 : Nm.idxI [] = (0, false) := by decide +kernel
    rw [e] at CL CS CR ci
    rw [show (⟨([] : List UInt8).toArray⟩ : ByteArray).data.toList = [] from rfl, e2] at ci
    have CI := Lib.hid ci
    clear hs hni cl ci cr cs e
    go_enter Tryd.func4, Tryd.ntmps4
    go_wp2_with fail
    refine (awake_any _ hE).mono ?_
    rintro e w1 ⟨rfl, hb1⟩
    have hE1 := hE.later hb1
    go_wp2_with fail
    refine (CL.out _ hE1).mono ?_
    rintro e w2 ⟨rfl, hb2⟩
    have hE2 := hE1.later hb2
    have hB2 := hb1.trans (hb2.mono hb1.size)
    clear hb1 hb2 hE1
    go_wp2_with fail
    refine (CI.out _ hE2).mono ?_
    rintro e w3 ⟨rfl, hb3⟩
    have hB3 := hB2.trans (hb3.mono hB2.size)
    go_wp2_with fail
    go_ret
    exact ⟨rfl, hB3⟩
  · have hn' : 0 ≤ i := by omega
    have hr : (⟨(Nm.localL i).toArray⟩ : ByteArray).data.toList = Nm.localL i := rfl
    rw [hr] at ci
    by_cases hm : i ≤ 2147483647
    · have e2 : Nm.idxI (Nm.localL i) = (i, true) := by
        have := Nm.idxI_local i.toNat (by omega)
        rwa [Int.toNat_of_nonneg hn'] at this
      rw [e2] at ci
      have CI := Lib.hid ci
      clear hs hni cl ci cr cs e2 hr hn
      generalize Nm.localL i = l at *
      go_enter Tryd.func4, Tryd.ntmps4
      go_wp2_with fail
      refine (awake_any _ hE).mono ?_
      rintro e w1 ⟨rfl, hb1⟩
      have hE1 := hE.later hb1
      go_wp2_with fail
      refine (CL.out _ hE1).mono ?_
      rintro e w2 ⟨rfl, hb2⟩
      have hE2 := hE1.later hb2
      have hB2 := hb1.trans (hb2.mono hb1.size)
      clear hb1 hb2 hE1
      go_wp2_with fail
      refine (CI.out _ hE2).mono ?_
      rintro e w3 ⟨rfl, hb3⟩
      have hE3 := hE2.later hb3
      have hB3 := hB2.trans (hb3.mono hB2.size)
      clear hb3 hB2 hE2
      go_wp2_with fail
      refine (CR.out _).mono ?_
      rintro e w4 ⟨rfl, hb4⟩
      have hE4 := hE3.later hb4
      have hB4 := hB3.trans (hb4.mono hB3.size)
      clear hb4 hB3 hE3
      go_wp2_with fail
      refine (CS.out _ hE4).mono ?_
      rintro e w5 ⟨rfl, hb5⟩
      have hB5 := hB4.trans (hb5.mono hB4.size)
      go_wp2_with fail
      go_ret
      exact ⟨ret_bool (by simp), hB5⟩
    · have e2 : Nm.idxI (Nm.localL i) = (0, false) := by
        have := Nm.idxI_great i.toNat (by omega)
        rwa [Int.toNat_of_nonneg hn'] at this
      rw [e2] at ci
      have CI := Lib.hid ci
      have hm' : decide (i ≤ 2147483647) = false := by simpa using hm
      clear hs hni cl ci cr cs e2 hr hn
      generalize Nm.localL i = l at *
      go_enter Tryd.func4, Tryd.ntmps4
      go_wp2_with fail
      refine (awake_any _ hE).mono ?_
      rintro e w1 ⟨rfl, hb1⟩
      have hE1 := hE.later hb1
      go_wp2_with fail
      refine (CL.out _ hE1).mono ?_
      rintro e w2 ⟨rfl, hb2⟩
      have hE2 := hE1.later hb2
      have hB2 := hb1.trans (hb2.mono hb1.size)
      clear hb1 hb2 hE1
      go_wp2_with fail
      refine (CI.out _ hE2).mono ?_
      rintro e w3 ⟨rfl, hb3⟩
      have hE3 := hE2.later hb3
      have hB3 := hB2.trans (hb3.mono hB2.size)
      clear hb3 hB2 hE2
      go_wp2_with fail
      refine (CR.out _).mono ?_
      rintro e w4 ⟨rfl, hb4⟩
      have hE4 := hE3.later hb4
      have hB4 := hB3.trans (hb4.mono hB3.size)
      clear hb4 hB3 hE3
      go_wp2_with fail
      refine (CS.out _ hE4).mono ?_
      rintro e w5 ⟨rfl, hb5⟩
      have hB5 := hB4.trans (hb5.mono hB4.size)
      go_wp2_with fail
      go_ret
      exact ⟨ret_bool (by simp), hB5⟩

set_option maxHeartbeats 1000000 in
theorem indexes_any (s : ByteArray) (hs : s.size ≤ 9223372036854775807) (w : World) (hE : Env w) :
    Calls Tryd.prog 5 #[.string s] w fun e w' => e = .returned (.bool true) ∧ Below w.heap.size w w' := by
  by_cases hl : 1000 < s.size
  · have z : (1000 : Int) < s.size := by omega
    go_enter Tryd.func5, Tryd.ntmps5
    go_wp2_with fail
    refine (awake_any _ hE).mono ?_
    rintro e w1 ⟨rfl, hb1⟩
    have hE1 := hE.later hb1
    go_wp2_with fail
    refine (awake_any _ hE1).mono ?_
    rintro e w2 ⟨rfl, hb2⟩
    have hB2 := hb1.trans (hb2.mono hb1.size)
    go_wp2_with fail
    go_ret
    exact ⟨rfl, hB2⟩
  · have z : (s.size : Int) ≤ 1000 := by omega
    have ci := fun w hE => index_any s (by omega) w hE
    have cr := fun w => ref_index_any s hs w
    rcases Nm.idxI_cases s.data.toList with ⟨n, n1, n2, n3⟩ | ⟨n1, n2⟩
    · have m3 : Nm.refIdx s.data.toList = n := by rw [n2]; exact Nm.refIdx_local n n1
      rw [n3] at ci
      rw [m3] at cr
      have CI := Lib.hid ci
      have CR := Lib.hid cr
      have cl := fun w hE => local_any n (by omega) (by omega) w hE
      rw [← n2] at cl
      have CL := Lib.hid cl
      clear n2 n3 m3 ci cr cl hl
      go_enter Tryd.func5, Tryd.ntmps5
      go_wp2_with fail
      refine (awake_any _ hE).mono ?_
      rintro e w1 ⟨rfl, hb1⟩
      have hE1 := hE.later hb1
      go_wp2_with fail
      refine (CI.out _ hE1).mono ?_
      rintro e w2 ⟨rfl, hb2⟩
      have hE2 := hE1.later hb2
      have hB2 := hb1.trans (hb2.mono hb1.size)
      clear hb1 hb2 hE1
      go_wp2_with fail
      refine (CR.out _).mono ?_
      rintro e w3 ⟨rfl, hb3⟩
      have hE3 := hE2.later hb3
      have hB3 := hB2.trans (hb3.mono hB2.size)
      clear hb3 hB2 hE2
      go_wp2_with fail
      refine (CL.out _ hE3).mono ?_
      rintro e w4 ⟨rfl, hb4⟩
      have hB4 := hB3.trans (hb4.mono hB3.size)
      go_wp2_with fail
      go_ret
      exact ⟨ret_bool (by simp), hB4⟩
    · have m3 : Nm.refIdx s.data.toList = -1 := by
        rcases Nm.refIdx_cases s.data.toList with ⟨m, m1, m2, _⟩ | ⟨m1, _⟩
        · exact absurd m2 (n2 m m1)
        · exact m1
      rw [n1] at ci
      rw [m3] at cr
      have CI := Lib.hid ci
      have CR := Lib.hid cr
      clear n1 n2 m3 ci cr hl
      go_enter Tryd.func5, Tryd.ntmps5
      go_wp2_with fail
      refine (awake_any _ hE).mono ?_
      rintro e w1 ⟨rfl, hb1⟩
      have hE1 := hE.later hb1
      go_wp2_with fail
      refine (CI.out _ hE1).mono ?_
      rintro e w2 ⟨rfl, hb2⟩
      have hB2 := hb1.trans (hb2.mono hb1.size)
      clear hb1 hb2 hE1
      go_wp2_with fail
      refine (CR.out _).mono ?_
      rintro e w3 ⟨rfl, hb3⟩
      have hB3 := hB2.trans (hb3.mono hB2.size)
      go_wp2_with fail
      go_ret
      exact ⟨rfl, hB3⟩
end Go.Proofs.YtekkecpdnlbkjaaDoor
