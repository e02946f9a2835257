/- The walk of name.Index. -/
import Derived.Test.YtekkecpdnlbkjaaDoorWalkE
import Derived.Test.YtekkecpdnlbkjaaDoorPureC
import Derived.Lib.AtoiErrMem
namespace Go.Proofs.YtekkecpdnlbkjaaDoor
open Go.RowKit Go.Lib

theorem ret_ib {a c : Int} {b d : Bool} (h : (a, b) = (c, d)) : Ending.returned (.tuple #[.int .i64 a, .bool b]) = .returned (.tuple #[.int .i64 c, .bool d]) := by
  obtain ⟨rfl, rfl⟩ := Prod.mk.inj h
  rfl

/-- How strconv.Atoi ends, at every string. -/
theorem atoi_ok (s : ByteArray) (hs : s.size ≤ 281474976710656) (v : Int) (h : atoiAll s.data.toList = .ok v) (w : World) :
    Calls Tryd.prog 25 #[.string s] w fun e w' => e = .returned (.tuple #[.int .i64 v, .nilIface]) ∧ Below w.heap.size w w' := by
  refine (Tryd.strconv_Atoi_ok s (by omega) v h w).mono ?_
  rintro e w' ⟨he, hw⟩
  refine ⟨he, ?_⟩
  rcases hw with rfl | ⟨t, rfl⟩
  · exact Below.refl _ _
  · exact Lib.bytesWorld_below _ _ _

theorem atoi_bad (s : ByteArray) (hs : s.size ≤ 281474976710656) (h : ∀ v, atoiAll s.data.toList ≠ .ok v) (w : World) (hE : Env w) :
    Calls Tryd.prog 25 #[.string s] w fun e w' => ∃ (n : Int) (N : Nat), e = .returned (.tuple #[.int .i64 n, .iface 51 (.pointer (some ⟨N, 0, none⟩))]) ∧ Below w.heap.size w w' := by
  obtain ⟨t1, p1, h1⟩ := hE.syn
  obtain ⟨t2, p2, h2⟩ := hE.rng
  cases ha : atoiAll s.data.toList
  · exact absurd ha (h _)
  · refine (Tryd.strconv_Atoi_syntax_var s hs ha t1 p1 w h1).mono ?_
    rintro e w' ⟨N, he, _, _, hb⟩
    exact ⟨_, N, he, hb⟩
  · refine (Tryd.strconv_Atoi_range_var s hs ha t2 p2 w h2).mono ?_
    rintro e w' ⟨N, he, _, _, hb⟩
    exact ⟨_, N, he, hb⟩

set_option maxHeartbeats 400000 in
theorem index_any (s : ByteArray) (hs : s.size ≤ 281474976710656) (w : World) (hE : Env w) :
    Calls Tryd.prog 15 #[.string s] w fun e w' => e = .returned (.tuple #[.int .i64 (Nm.idxI s.data.toList).1, .bool (Nm.idxI s.data.toList).2]) ∧ Below w.heap.size w w' := by
  cases hp : hasPrefix s.data.toList [36] with
  | false =>
    have e : Nm.idxI s.data.toList = (0, false) := by unfold Nm.idxI; rw [hp]; rfl
    have E := Lib.hid e
    have hc := Tryd.strings_CutPrefix s ⟨#[36]⟩ w
    rw [show (⟨#[36]⟩ : ByteArray).data.toList = [36] from rfl, hp] at hc
    have HC := Lib.hid hc
    clear e hc hp
    go_enter Tryd.func15, Tryd.ntmps15
    go_wp2_with fail
    refine HC.out.mono ?_
    rintro e w' ⟨rfl, rfl⟩
    go_wp2_with fail
    go_ret2
    exact ⟨ret_ib (by rw [E.out]), Below.refl _ _⟩
  | true =>
    obtain ⟨d, hd⟩ : ∃ d : ByteArray, d = ⟨(trimPrefix s.data.toList [36]).toArray⟩ := ⟨_, rfl⟩
    have hdl : d.data.toList = trimPrefix s.data.toList [36] := by rw [hd]
    have hds : d.size ≤ 281474976710656 := by
      have := Nm.trim_le s.data.toList
      rw [Lib.size_eq, hdl]
      rw [← Lib.size_eq] at this
      omega
    have hc := Tryd.strings_CutPrefix s ⟨#[36]⟩ w
    rw [show (⟨#[36]⟩ : ByteArray).data.toList = [36] from rfl, hp, ← hd] at hc
    have HC := Lib.hid hc
    have HP := Lib.hid hp
    have HD := Lib.hid hdl
    clear hc hp hd hdl
    by_cases hok : ∃ v, atoiAll d.data.toList = .ok v
    · obtain ⟨v, hv⟩ := hok
      obtain ⟨r0, r1⟩ := Nm.atoi_range hv
      have HV := Lib.hid hv
      clear hv
      by_cases hm : v ≤ 2147483647
      · have hm' : decide (2147483647 < v) = false := by simpa using hm
        by_cases hl : Nm.localL v = s.data.toList
        · have e : Nm.idxI s.data.toList = (v, true) := by
            unfold Nm.idxI
            rw [if_pos HP.out, ← HD.out, HV.out]
            exact if_pos ⟨hm, hl⟩
          have E := Lib.hid e
          have hb : ((Nm.localL v) == s.toList) = true := by rw [Lib.toList_data]; simpa using hl
          clear e hl
          go_enter Tryd.func15, Tryd.ntmps15
          go_wp2_with fail
          refine HC.out.mono ?_
          rintro e w' ⟨rfl, rfl⟩
          go_wp2_with fail
          refine (atoi_ok d hds v HV.out _).mono ?_
          rintro e w1 ⟨rfl, hb1⟩
          go_wp2_with fail
          refine (local_any v r0 r1 _ (hE.later hb1)).mono ?_
          rintro e w2 ⟨rfl, hb2⟩
          go_wp2_with fail
          go_ret2
          exact ⟨ret_ib (by rw [E.out]), hb1.trans (hb2.mono hb1.size)⟩
        · have e : Nm.idxI s.data.toList = (0, false) := by
            unfold Nm.idxI
            rw [if_pos HP.out, ← HD.out, HV.out]
            exact if_neg fun h => hl h.2
          have E := Lib.hid e
          have hb : ((Nm.localL v) == s.toList) = false := by rw [Lib.toList_data]; simpa using hl
          have hb' : ((Nm.localL v) != s.toList) = true := by rw [Lib.toList_data]; simpa using hl
          clear e hl
          go_enter Tryd.func15, Tryd.ntmps15
          go_wp2_with fail
          refine HC.out.mono ?_
          rintro e w' ⟨rfl, rfl⟩
          go_wp2_with fail
          refine (atoi_ok d hds v HV.out _).mono ?_
          rintro e w1 ⟨rfl, hb1⟩
          go_wp2_with fail
          refine (local_any v r0 r1 _ (hE.later hb1)).mono ?_
          rintro e w2 ⟨rfl, hb2⟩
          go_wp2_with fail
          go_ret2
          exact ⟨ret_ib (by rw [E.out]), hb1.trans (hb2.mono hb1.size)⟩
      · have hm' : decide (2147483647 < v) = true := by simp; omega
        have e : Nm.idxI s.data.toList = (0, false) := by
          unfold Nm.idxI
          rw [if_pos HP.out, ← HD.out, HV.out]
          exact if_neg fun h => hm h.1
        have E := Lib.hid e
        clear e
        go_enter Tryd.func15, Tryd.ntmps15
        go_wp2_with fail
        refine HC.out.mono ?_
        rintro e w' ⟨rfl, rfl⟩
        go_wp2_with fail
        refine (atoi_ok d hds v HV.out _).mono ?_
        rintro e w1 ⟨rfl, hb1⟩
        go_wp2_with fail
        go_ret2
        exact ⟨ret_ib (by rw [E.out]), hb1⟩
    · have hno : ∀ v, atoiAll d.data.toList ≠ .ok v := fun v hv => hok ⟨v, hv⟩
      have e : Nm.idxI s.data.toList = (0, false) := by
        unfold Nm.idxI
        rw [if_pos HP.out, ← HD.out]
        cases ha : atoiAll d.data.toList
        · exact absurd ha (hno _)
        · rfl
        · rfl
      have E := Lib.hid e
      have HN := Lib.hid hno
      clear e hno hok
      go_enter Tryd.func15, Tryd.ntmps15
      go_wp2_with fail
      refine HC.out.mono ?_
      rintro e w' ⟨rfl, rfl⟩
      go_wp2_with fail
      refine (atoi_bad d hds HN.out _ hE).mono ?_
      rintro e w1 ⟨n, N, rfl, hb1⟩
      go_wp2_with fail
      go_ret2
      exact ⟨ret_ib (by rw [E.out]), hb1⟩
end Go.Proofs.YtekkecpdnlbkjaaDoor
